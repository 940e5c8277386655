/- TopLinksPartners: the law behind its start: four calls; two matches of sides and a loop. -/
import Derived.Test.YtbckfkopdojggaaGreatDoorParA
import Derived.Test.YtbckfkopdojggaaGreatDoorMgPx
import Derived.Test.YtbckfkopdojggaaGreatDoorMgEx
import Derived.Test.YtbckfkopdojggaaGreatDoorMgIx
import Derived.Test.YtbckfkopdojggaaGreatDoorMgF
import Derived.Test.YtbckfkopdojggaaGreatDoorMgD
import Derived.Deep.RegionHeld3
import Derived.Deep.DeepCutAuto
import Derived.Deep.CutBlock
import Derived.BigQuiet
import Derived.Deep.QuietTactic
import Derived.Outline
set_option linter.unusedVariables false
set_option linter.unusedSimpArgs false
namespace Go.Proofs.YtbckfkopdojggaaGreatDoor
open Go.RowKit

set_option maxRecDepth 100000 in
set_option maxHeartbeats 16000000 in
theorem part4 (x y z : Nat) (X : Option Addr) (a0 : Addr) (ch c0 nh np : Nat) (pa pb pc : Pl) (A B C : Option Addr) (c d e : Nat) (w W : World) (tw sm ow ot : List Ent) {u2 u6 u7 u8 u9 u10 u11 u12 u13 u14 u15 u16 u17 u18 u19 u20 u21 u22 u23 u24 u25 u26 u27 u28 u29 u30 u31 u32 u33 u34 u35 u36 u37 u38 u39 u40 u41 u42 u43 u44 u45 u46 u47 u48 u49 u50 u51 u52 u53 u54 u55 u56 u57 u58 u59 u60 u61 u62 u63 u64 u65 u66 u67 u68 u69 u70 u71 u72 u73 u74 u75 u76 u77 u78 u79 u80 u81 u82 u83 u84 u85 u86 u87 u88 u89 u90 u91 u92 u93 u94 u95 u96 u97 u98 u99 u100 u101 u102 u103 u104 u105 u106 u107 u108 u109 u110 u111 u112 u113 u114 u115 u116 u117 u118 u119 u120 u121 u122 u123 u124 u125 u126 u127 u128 u129 u130 u131 u132 u133 u134 u135 u136 u137 u138 u139 u140 u141 u142 u143 u144 u145 u146 u147 u148 u149 u150 u151 u152 u153 u154 u155 u156 u157 u158 u159 u160 u161 u162 u163 u164 u165 u166 u167 u168 u169 u170 u171 u172 u173 u174 u175 u176 u177 u178 u179 u180 u181 u182 u183 u184 u185 u186 u187 u188 u189 u190 u191 u192 u193 u194 u195 u196 u197 u198 u199 u200 u201 u202 u203 u204 u205 u206 u207 u208 u209 u210 u211 u212 u213 u214 u215 u216 u217 u218 u219 u220 u221 u222 u223 u224 u225 u226 u227 u228 u229 u230 u231 u232 u233 u234 u235 u236 u237 u238 u239 u240 u241 u242 u243 u244 u245 u246 u247 u248 u249 u250 u251 u252 u253 u254 u255 u256 u257 u258 u259 u260 u261 u262 u263 u264 u265 u266 u267 : Value} (ltw : tw.length = nh) (lsm : sm.length = nh) (low : ow.length = nh) (lot : ot.length = nh) (hX : HeldPl x y z X (some a0) ch c0 nh np pa pb pc A B C c d e w W)
    (kFB : ∀ W g, Below w.heap.size w W → BlkV W g 55 #[.string pa.nm, .slice A pa.l.length c, .int .i64 pa.h, .string pb.nm, .slice B pb.l.length d, .int .i64 pb.h] → Calls Tryz.prog 29 #[.slice X nh ch, .slice (some ⟨g, 0, none⟩) 2 2] W (HolesOut tw W))
    (kAG : ∀ W, Below w.heap.size w W → Calls Tryz.prog 30 #[.slice X nh ch, .agg #[.string pa.nm, .slice A pa.l.length c, .int .i64 pa.h], .agg #[.string pb.nm, .slice B pb.l.length d, .int .i64 pb.h]] W (HolesOut sm W))
    (kNA : ∀ W, Below w.heap.size w W → Calls Tryz.prog 31 #[.slice X nh ch, .agg #[.string pa.nm, .slice A pa.l.length c, .int .i64 pa.h]] W (NetsOut ow W))
    (kNC : ∀ W, Below w.heap.size w W → Calls Tryz.prog 31 #[.slice X nh ch, .agg #[.string pc.nm, .slice C pc.l.length e, .int .i64 pc.h]] W (NetsOut ot W))
    (kT : ∀ (u2 u14 u15 u16 u17 u18 u19 u20 u21 u22 u23 u24 u25 u26 u27 u28 u29 u30 u31 u32 u33 u34 u35 u36 u37 u38 u39 u40 u41 u42 u43 u44 u45 u46 u47 u48 u49 u50 u51 u52 u53 u54 u55 u56 u57 u58 u59 u60 u61 u62 u63 u64 u65 u66 u67 u68 u69 u70 u71 u72 u73 u74 u75 u76 u77 u78 u79 u80 u81 u82 u83 u84 u85 u86 u87 u88 u89 u90 u91 u92 u93 u94 u95 u96 u97 u98 u99 u100 u101 u102 u103 u104 u105 u106 u107 u108 u109 u110 u111 u112 u113 u114 u115 u116 u117 u118 u119 u120 u121 u122 u123 u124 u125 u126 u127 u128 u129 u130 u131 u132 u133 u134 u135 u136 u137 u138 u139 u140 u141 u142 u143 u144 u145 u146 u147 u148 u149 u150 u151 u152 u153 u154 u155 u156 u157 u158 u159 u160 u161 u162 u163 u164 u165 u166 u167 u168 u169 u170 u171 u172 u173 u174 u175 u176 u177 u178 u179 u180 u181 u182 u183 u184 u185 u186 u187 u188 u189 u190 u191 u192 u193 u194 u195 u196 u197 u198 u199 u200 u201 u202 u203 u204 u205 u206 u207 u208 u209 u210 u211 u212 u213 u214 u215 u216 u217 u218 u219 u220 u221 u222 u223 u224 u225 u226 u227 u228 u229 u230 u231 u232 u233 u234 u235 u236 u237 u238 u239 u240 u241 u242 u243 u244 u245 u246 u247 u248 u249 u250 u251 u252 u253 u254 u255 u256 u257 u258 u259 u260 u261 u262 u263 u264 u265 u266 u267 : Value) g6 g8 A10 c10 A12 c12 W, HeldPl x y z X (some a0) ch c0 nh np pa pb pc A B C c d e w W → NetBlk W g6 tw → NetBlk W g8 sm → EntriesR W A10 ow → EntriesR W A12 ot → Code.wp Tryz.prog (partT 8) (bodyPost Tryz.prog Tryz.f6 (fun e w' => e = .returned (.bool true) ∧ Below w.heap.size w w')) { tmps := #[.agg #[.slice X nh ch, .slice (some a0) np c0], .pointer (some ⟨w.heap.size, 0, none⟩), u2, .pointer (some ⟨x, 0, none⟩), .pointer (some ⟨y, 0, none⟩), .pointer (some ⟨z, 0, none⟩), .slice (some ⟨g6, 0, none⟩) nh nh, .int .i64 0, .slice (some ⟨g8, 0, none⟩) nh nh, .int .i64 0, .slice A10 nh c10, .int .i64 0, .slice A12 nh c12, .int .i64 0, u14, u15, u16, u17, u18, u19, u20, u21, u22, u23, u24, u25, u26, u27, u28, u29, u30, u31, u32, u33, u34, u35, u36, u37, u38, u39, u40, u41, u42, u43, u44, u45, u46, u47, u48, u49, u50, u51, u52, u53, u54, u55, u56, u57, u58, u59, u60, u61, u62, u63, u64, u65, u66, u67, u68, u69, u70, u71, u72, u73, u74, u75, u76, u77, u78, u79, u80, u81, u82, u83, u84, u85, u86, u87, u88, u89, u90, u91, u92, u93, u94, u95, u96, u97, u98, u99, u100, u101, u102, u103, u104, u105, u106, u107, u108, u109, u110, u111, u112, u113, u114, u115, u116, u117, u118, u119, u120, u121, u122, u123, u124, u125, u126, u127, u128, u129, u130, u131, u132, u133, u134, u135, u136, u137, u138, u139, u140, u141, u142, u143, u144, u145, u146, u147, u148, u149, u150, u151, u152, u153, u154, u155, u156, u157, u158, u159, u160, u161, u162, u163, u164, u165, u166, u167, u168, u169, u170, u171, u172, u173, u174, u175, u176, u177, u178, u179, u180, u181, u182, u183, u184, u185, u186, u187, u188, u189, u190, u191, u192, u193, u194, u195, u196, u197, u198, u199, u200, u201, u202, u203, u204, u205, u206, u207, u208, u209, u210, u211, u212, u213, u214, u215, u216, u217, u218, u219, u220, u221, u222, u223, u224, u225, u226, u227, u228, u229, u230, u231, u232, u233, u234, u235, u236, u237, u238, u239, u240, u241, u242, u243, u244, u245, u246, u247, u248, u249, u250, u251, u252, u253, u254, u255, u256, u257, u258, u259, u260, u261, u262, u263, u264, u265, u266, u267], defers := [] } W) :
    Code.wp Tryz.prog (partT 4) (bodyPost Tryz.prog Tryz.f6 (fun e w' => e = .returned (.bool true) ∧ Below w.heap.size w w')) { tmps := #[.agg #[.slice X nh ch, .slice (some a0) np c0], .pointer (some ⟨w.heap.size, 0, none⟩), u2, .pointer (some ⟨x, 0, none⟩), .pointer (some ⟨y, 0, none⟩), .pointer (some ⟨z, 0, none⟩), u6, u7, u8, u9, u10, u11, u12, u13, u14, u15, u16, u17, u18, u19, u20, u21, u22, u23, u24, u25, u26, u27, u28, u29, u30, u31, u32, u33, u34, u35, u36, u37, u38, u39, u40, u41, u42, u43, u44, u45, u46, u47, u48, u49, u50, u51, u52, u53, u54, u55, u56, u57, u58, u59, u60, u61, u62, u63, u64, u65, u66, u67, u68, u69, u70, u71, u72, u73, u74, u75, u76, u77, u78, u79, u80, u81, u82, u83, u84, u85, u86, u87, u88, u89, u90, u91, u92, u93, u94, u95, u96, u97, u98, u99, u100, u101, u102, u103, u104, u105, u106, u107, u108, u109, u110, u111, u112, u113, u114, u115, u116, u117, u118, u119, u120, u121, u122, u123, u124, u125, u126, u127, u128, u129, u130, u131, u132, u133, u134, u135, u136, u137, u138, u139, u140, u141, u142, u143, u144, u145, u146, u147, u148, u149, u150, u151, u152, u153, u154, u155, u156, u157, u158, u159, u160, u161, u162, u163, u164, u165, u166, u167, u168, u169, u170, u171, u172, u173, u174, u175, u176, u177, u178, u179, u180, u181, u182, u183, u184, u185, u186, u187, u188, u189, u190, u191, u192, u193, u194, u195, u196, u197, u198, u199, u200, u201, u202, u203, u204, u205, u206, u207, u208, u209, u210, u211, u212, u213, u214, u215, u216, u217, u218, u219, u220, u221, u222, u223, u224, u225, u226, u227, u228, u229, u230, u231, u232, u233, u234, u235, u236, u237, u238, u239, u240, u241, u242, u243, u244, u245, u246, u247, u248, u249, u250, u251, u252, u253, u254, u255, u256, u257, u258, u259, u260, u261, u262, u263, u264, u265, u266, u267], defers := [] } W := by
  have HX0 := Lib.hid hX
  have HFB := Lib.hid kFB
  have HAG := Lib.hid kAG
  have HNA := Lib.hid kNA
  have HNC := Lib.hid kNC
  have HKT := Lib.hid kT
  clear hX kFB kAG kNA kNC kT
  obtain ⟨s0, s1, s2, s3, s4, s5, s6, s7, s8, s9, s10⟩ := HX0.out.s11
  conv => arg 2; whnf
  go_wp2_with fail
  obtain ⟨W1, hW1⟩ : ∃ W1, W.alloc (.cells #[.string pa.nm, .slice A pa.l.length c, .int .i64 pa.h, .string pb.nm, .slice B pb.l.length d, .int .i64 pb.h] 55) = W1 := ⟨_, rfl⟩
  rw [hW1]
  obtain ⟨a1, a2, a3⟩ := one_alloc W _ _ hW1
  have HX1 := Lib.hid (HX0.out.below a2)
  have HP1 := Lib.hid a1
  clear hW1 a1 a2 a3 HX0 s0 s1 s2 s3 s4 s5 s6 s7 s8 s9 s10
  refine (HFB.out W1 _ HX1.out.low HP1.out).mono ?_
  rintro ee w1 ⟨g6, rfl, hn6, _, hb6⟩
  rw [ltw]
  have HX2 := Lib.hid (HX1.out.below hb6)
  have HN6 := Lib.hid hn6
  clear hn6 hb6 HX1 HP1 HFB
  obtain ⟨s0, s1, s2, s3, s4, s5, s6, s7, s8, s9, s10⟩ := HX2.out.s11
  dsimp only
  go_wp2_with fail
  refine (HAG.out _ HX2.out.low).mono ?_
  rintro ee w2 ⟨g8, rfl, hn8, _, hb8⟩
  rw [lsm]
  have HX3 := Lib.hid (HX2.out.below hb8)
  have HN63 := Lib.hid (BlkV.below HN6.out hb8 (BlkV.lt HN6.out))
  have HN8 := Lib.hid hn8
  clear hn8 hb8 HX2 HN6 HAG s0 s1 s2 s3 s4 s5 s6 s7 s8 s9 s10
  obtain ⟨s0, s1, s2, s3, s4, s5, s6, s7, s8, s9, s10⟩ := HX3.out.s11
  dsimp only
  go_wp2_with fail
  refine (HNA.out _ HX3.out.low).mono ?_
  rintro ee w3 ⟨A10, c10, rfl, he10, _, hb10⟩
  rw [low]
  have HX4 := Lib.hid (HX3.out.below hb10)
  have HN64 := Lib.hid (BlkV.below HN63.out hb10 (BlkV.lt HN63.out))
  have HN84 := Lib.hid (BlkV.below HN8.out hb10 (BlkV.lt HN8.out))
  have HE10 := Lib.hid he10
  clear he10 hb10 HX3 HN63 HN8 HNA s0 s1 s2 s3 s4 s5 s6 s7 s8 s9 s10
  obtain ⟨s0, s1, s2, s3, s4, s5, s6, s7, s8, s9, s10⟩ := HX4.out.s11
  dsimp only
  go_upto_region 7 with fail
  go_cut [12, 13] (fun v12 v13 wx => ∃ A12 c12, v12 = .slice A12 nh c12 ∧ v13 = .int .i64 0 ∧ EntriesR wx A12 ot ∧ Below w3.heap.size w3 wx)
  case first =>
    go_wp2_with fail
    refine (HNC.out _ HX4.out.low).mono ?_
    rintro ee w4 ⟨A12, c12, rfl, he12, _, hb12⟩
    rw [lot]
    have HE12 := Lib.hid he12
    have HB12 := Lib.hid hb12
    clear he12 hb12
    dsimp only
    go_wp2_with fail
    go_meet
    exact ⟨A12, c12, rfl, rfl, HE12.out, HB12.out⟩
  case rest =>
    obtain ⟨A12, c12, rfl, rfl, he12, hb12⟩ := hcut
    apply_assumption
    exact HKT.out _ _ _ _ _ _ _ _ _ _ _ _ _ _ _ _ _ _ _ _ _ _ _ _ _ _ _ _ _ _ _ _ _ _ _ _ _ _ _ _ _ _ _ _ _ _ _ _ _ _ _ _ _ _ _ _ _ _ _ _ _ _ _ _ _ _ _ _ _ _ _ _ _ _ _ _ _ _ _ _ _ _ _ _ _ _ _ _ _ _ _ _ _ _ _ _ _ _ _ _ _ _ _ _ _ _ _ _ _ _ _ _ _ _ _ _ _ _ _ _ _ _ _ _ _ _ _ _ _ _ _ _ _ _ _ _ _ _ _ _ _ _ _ _ _ _ _ _ _ _ _ _ _ _ _ _ _ _ _ _ _ _ _ _ _ _ _ _ _ _ _ _ _ _ _ _ _ _ _ _ _ _ _ _ _ _ _ _ _ _ _ _ _ _ _ _ _ _ _ _ _ _ _ _ _ _ _ _ _ _ _ _ _ _ _ _ _ _ _ _ _ _ _ _ _ _ _ _ _ _ _ _ _ _ _ _ _ _ _ _ _ _ _ _ _ _ _ _ _ _ _ _ _ _ _ g6 g8 A10 c10 A12 c12 _ (HX4.out.below hb12) (BlkV.below HN64.out hb12 (BlkV.lt HN64.out)) (BlkV.below HN84.out hb12 (BlkV.lt HN84.out)) (HE10.out.keep hb12) he12

set_option maxRecDepth 100000 in
set_option maxHeartbeats 16000000 in
theorem part8 (x y z : Nat) (X : Option Addr) (a0 : Addr) (ch c0 nh np : Nat) (pa pb pc : Pl) (A B C : Option Addr) (c d e : Nat) (w W : World) (tw sm ow ot : List Ent) (ss ts : List St) (g6 g8 c10 c12 : Nat) (A10 A12 : Option Addr) {u2 u14 u15 u16 u17 u18 u19 u20 u21 u22 u23 u24 u25 u26 u27 u28 u29 u30 u31 u32 u33 u34 u35 u36 u37 u38 u39 u40 u41 u42 u43 u44 u45 u46 u47 u48 u49 u50 u51 u52 u53 u54 u55 u56 u57 u58 u59 u60 u61 u62 u63 u64 u65 u66 u67 u68 u69 u70 u71 u72 u73 u74 u75 u76 u77 u78 u79 u80 u81 u82 u83 u84 u85 u86 u87 u88 u89 u90 u91 u92 u93 u94 u95 u96 u97 u98 u99 u100 u101 u102 u103 u104 u105 u106 u107 u108 u109 u110 u111 u112 u113 u114 u115 u116 u117 u118 u119 u120 u121 u122 u123 u124 u125 u126 u127 u128 u129 u130 u131 u132 u133 u134 u135 u136 u137 u138 u139 u140 u141 u142 u143 u144 u145 u146 u147 u148 u149 u150 u151 u152 u153 u154 u155 u156 u157 u158 u159 u160 u161 u162 u163 u164 u165 u166 u167 u168 u169 u170 u171 u172 u173 u174 u175 u176 u177 u178 u179 u180 u181 u182 u183 u184 u185 u186 u187 u188 u189 u190 u191 u192 u193 u194 u195 u196 u197 u198 u199 u200 u201 u202 u203 u204 u205 u206 u207 u208 u209 u210 u211 u212 u213 u214 u215 u216 u217 u218 u219 u220 u221 u222 u223 u224 u225 u226 u227 u228 u229 u230 u231 u232 u233 u234 u235 u236 u237 u238 u239 u240 u241 u242 u243 u244 u245 u246 u247 u248 u249 u250 u251 u252 u253 u254 u255 u256 u257 u258 u259 u260 u261 u262 u263 u264 u265 u266 u267 : Value} (ltw : tw.length = nh) (hX : HeldPl x y z X (some a0) ch c0 nh np pa pb pc A B C c d e w W) (h6 : NetBlk W g6 tw) (h8 : NetBlk W g8 sm) (h10 : EntriesR W A10 ow) (h12 : EntriesR W A12 ot)
    (hls : ss.length ≤ 36) (hlt : ts.length ≤ 36) (hup : ∀ i, i < ts.length → i < ss.length → (ts.getD i (0, 0, false)).1 ≤ (ss.getD i (0, 0, false)).1)
    (kS1 : ∀ W, Below w.heap.size w W → EntriesR W (some ⟨g6, 0, none⟩) tw → EntriesR W A12 ot → Calls Tryz.prog 32 #[.slice (some ⟨g6, 0, none⟩) nh nh, .slice A12 nh c12] W (MatchOut ss W))
    (kS2 : ∀ W, Below w.heap.size w W → EntriesR W A10 ow → EntriesR W A12 ot → Calls Tryz.prog 32 #[.slice A10 nh c10, .slice A12 nh c12] W (MatchOut ts W))
    (kT : ∀ (u2 u3 u4 u5 u7 u9 u10 u11 u12 u13 u14 u15 u16 u17 u18 u19 u20 u21 u22 u23 u24 u25 u26 u27 u28 u29 u30 u31 u32 u33 u34 u35 u36 u37 u38 u39 u40 u41 u42 u43 u44 u45 u46 u47 u48 u49 u50 u51 u52 u53 u54 u55 u56 u57 u58 u59 u60 u61 u62 u63 u64 u65 u66 u67 u68 u69 u70 u71 u72 u73 u74 u75 u76 u77 u78 u79 u80 u81 u82 u83 u84 u85 u86 u87 u88 u89 u90 u91 u92 u93 u94 u95 u96 u97 u98 u99 u100 u101 u102 u103 u104 u105 u106 u107 u108 u109 u110 u111 u112 u113 u114 u115 u116 u117 u118 u119 u120 u121 u122 u123 u124 u125 u126 u127 u128 u129 u130 u131 u132 u133 u134 u135 u136 u137 u138 u139 u140 u141 u142 u143 u144 u145 u146 u147 u148 u149 u150 u151 u152 u153 u154 u155 u156 u157 u158 u159 u160 u161 u162 u163 u164 u165 u166 u167 u168 u169 u170 u171 u172 u173 u174 u175 u176 u177 u178 u179 u180 u181 u182 u183 u184 u185 u186 u187 u188 u189 u190 u191 u192 u193 u194 u195 u196 u197 u198 u199 u200 u201 u202 u203 u204 u205 u206 u207 u208 u209 u210 u211 u212 u213 u214 u215 u216 u217 u218 u219 u220 u221 u222 u223 u224 u225 u226 u227 u228 u229 u230 u231 u232 u233 u234 u235 u236 u237 u238 u239 u240 u241 u242 u243 u244 u245 u246 u247 u248 u249 u250 u251 u252 u253 u254 u255 u256 u257 u258 u259 u260 u261 u262 u263 u264 u265 u266 u267 : Value) W, HeldPl x y z X (some a0) ch c0 nh np pa pb pc A B C c d e w W → NetBlk W g6 tw → NetBlk W g8 sm → Code.wp Tryz.prog (partT 20) (bodyPost Tryz.prog Tryz.f6 (fun e w' => e = .returned (.bool true) ∧ Below w.heap.size w w')) { tmps := #[.agg #[.slice X nh ch, .slice (some a0) np c0], .pointer (some ⟨w.heap.size, 0, none⟩), u2, u3, u4, u5, .slice (some ⟨g6, 0, none⟩) nh nh, u7, .slice (some ⟨g8, 0, none⟩) nh nh, u9, u10, u11, u12, u13, u14, u15, u16, u17, u18, u19, u20, u21, u22, u23, u24, u25, u26, u27, u28, u29, u30, u31, u32, u33, u34, u35, u36, u37, u38, u39, u40, u41, u42, u43, u44, u45, u46, u47, u48, u49, u50, u51, u52, u53, u54, u55, u56, u57, u58, u59, u60, u61, u62, u63, u64, u65, u66, u67, u68, u69, u70, u71, u72, u73, u74, u75, u76, u77, u78, u79, u80, u81, u82, u83, u84, u85, u86, u87, u88, u89, u90, u91, u92, u93, u94, u95, u96, u97, u98, u99, u100, u101, u102, u103, u104, u105, u106, u107, u108, u109, u110, u111, u112, u113, u114, u115, u116, u117, u118, u119, u120, u121, u122, u123, u124, u125, u126, u127, u128, u129, u130, u131, u132, u133, u134, u135, u136, u137, u138, u139, u140, u141, u142, u143, u144, u145, u146, u147, u148, u149, u150, u151, u152, u153, u154, u155, u156, u157, u158, u159, u160, u161, u162, u163, u164, u165, u166, u167, u168, u169, u170, u171, u172, u173, u174, u175, u176, u177, u178, u179, u180, u181, u182, u183, u184, u185, u186, u187, u188, u189, u190, u191, u192, u193, u194, u195, u196, u197, u198, u199, u200, u201, u202, u203, u204, u205, u206, u207, u208, u209, u210, u211, u212, u213, u214, u215, u216, u217, u218, u219, u220, u221, u222, u223, u224, u225, u226, u227, u228, u229, u230, u231, u232, u233, u234, u235, u236, u237, u238, u239, u240, u241, u242, u243, u244, u245, u246, u247, u248, u249, u250, u251, u252, u253, u254, u255, u256, u257, u258, u259, u260, u261, u262, u263, u264, u265, u266, u267], defers := [] } W) :
    Code.wp Tryz.prog (partT 8) (bodyPost Tryz.prog Tryz.f6 (fun e w' => e = .returned (.bool true) ∧ Below w.heap.size w w')) { tmps := #[.agg #[.slice X nh ch, .slice (some a0) np c0], .pointer (some ⟨w.heap.size, 0, none⟩), u2, .pointer (some ⟨x, 0, none⟩), .pointer (some ⟨y, 0, none⟩), .pointer (some ⟨z, 0, none⟩), .slice (some ⟨g6, 0, none⟩) nh nh, .int .i64 0, .slice (some ⟨g8, 0, none⟩) nh nh, .int .i64 0, .slice A10 nh c10, .int .i64 0, .slice A12 nh c12, .int .i64 0, u14, u15, u16, u17, u18, u19, u20, u21, u22, u23, u24, u25, u26, u27, u28, u29, u30, u31, u32, u33, u34, u35, u36, u37, u38, u39, u40, u41, u42, u43, u44, u45, u46, u47, u48, u49, u50, u51, u52, u53, u54, u55, u56, u57, u58, u59, u60, u61, u62, u63, u64, u65, u66, u67, u68, u69, u70, u71, u72, u73, u74, u75, u76, u77, u78, u79, u80, u81, u82, u83, u84, u85, u86, u87, u88, u89, u90, u91, u92, u93, u94, u95, u96, u97, u98, u99, u100, u101, u102, u103, u104, u105, u106, u107, u108, u109, u110, u111, u112, u113, u114, u115, u116, u117, u118, u119, u120, u121, u122, u123, u124, u125, u126, u127, u128, u129, u130, u131, u132, u133, u134, u135, u136, u137, u138, u139, u140, u141, u142, u143, u144, u145, u146, u147, u148, u149, u150, u151, u152, u153, u154, u155, u156, u157, u158, u159, u160, u161, u162, u163, u164, u165, u166, u167, u168, u169, u170, u171, u172, u173, u174, u175, u176, u177, u178, u179, u180, u181, u182, u183, u184, u185, u186, u187, u188, u189, u190, u191, u192, u193, u194, u195, u196, u197, u198, u199, u200, u201, u202, u203, u204, u205, u206, u207, u208, u209, u210, u211, u212, u213, u214, u215, u216, u217, u218, u219, u220, u221, u222, u223, u224, u225, u226, u227, u228, u229, u230, u231, u232, u233, u234, u235, u236, u237, u238, u239, u240, u241, u242, u243, u244, u245, u246, u247, u248, u249, u250, u251, u252, u253, u254, u255, u256, u257, u258, u259, u260, u261, u262, u263, u264, u265, u266, u267], defers := [] } W := by
  have HX0 := Lib.hid hX
  have HN6 := Lib.hid h6
  have HN8 := Lib.hid h8
  have HE10 := Lib.hid h10
  have HE12 := Lib.hid h12
  have HUP := Lib.hid hup
  have HS1 := Lib.hid kS1
  have HS2 := Lib.hid kS2
  have HKT := Lib.hid kT
  have hnn := bne_self_eq_false' (nh : Int)
  clear hX h6 h8 h10 h12 hup kS1 kS2 kT
  obtain ⟨s0, s1, s2, s3, s4, s5, s6, s7, s8, s9, s10⟩ := HX0.out.s11
  conv => arg 2; whnf
  go_wp2_with fail
  refine (HS1.out _ HX0.out.low HN6.out.entries HE12.out).mono ?_
  rintro ee w1 ⟨A14, c14, rfl, hs14, _, hb1⟩
  have HX1 := Lib.hid (HX0.out.below hb1)
  have HN61 := Lib.hid (BlkV.below HN6.out hb1 (BlkV.lt HN6.out))
  have HN81 := Lib.hid (BlkV.below HN8.out hb1 (BlkV.lt HN8.out))
  have HE101 := Lib.hid (HE10.out.keep hb1)
  have HE121 := Lib.hid (HE12.out.keep hb1)
  have HS14 := Lib.hid hs14
  clear hs14 hb1 HX0 HN6 HN8 HE10 HE12 HS1 hnn s0 s1 s2 s3 s4 s5 s6 s7 s8 s9 s10
  dsimp only
  go_wp2_with fail
  refine (HS2.out _ HX1.out.low HE101.out HE121.out).mono ?_
  rintro ee w2 ⟨A16, c16, rfl, hs16, _, hb2⟩
  have HX2 := Lib.hid (HX1.out.below hb2)
  have HN62 := Lib.hid (BlkV.below HN61.out hb2 (BlkV.lt HN61.out))
  have HN82 := Lib.hid (BlkV.below HN81.out hb2 (BlkV.lt HN81.out))
  have HS142 := Lib.hid (HS14.out.keep hb2)
  have HS16 := Lib.hid hs16
  clear hs16 hb2 HX1 HN61 HN81 HE101 HE121 HS14 HS2
  dsimp only
  go_upto_region 14 with fail
  go_cut [146, 147] (fun v146 v147 wx => ∃ m : Nat, v146 = .int .i64 (m : Int) ∧ v147 = .int .i64 0 ∧ m ≤ ss.length ∧ m ≤ ts.length ∧ wx = w2)
  case first =>
    go_wp2_with fail
    go_meet
    exact ⟨min ss.length ts.length, by rw [show ((min ss.length ts.length : Nat) : Int) = min (ss.length : Int) (ts.length : Int) by omega], rfl, by omega, by omega, rfl⟩
  case rest =>
    obtain ⟨m, rfl, rfl, hm1, hm2, rfl⟩ := hcut
    go_upto_block 0 with fail
    go_cut [] (fun wx => ∃ n, wx = wc.drewN n)
    case first =>
      go_wp2_with fail
      go_loopw [147] (fun iv wr => ∃ k n : Nat, k ≤ m ∧ iv = .int .i64 k ∧ wr = wc.drewN n) (fun iv _ => m - (intOf iv).toNat)
      case atStart => exact ⟨0, 0, Nat.zero_le _, rfl, rfl⟩
      case round =>
        obtain ⟨k, n, hk, rfl, rfl⟩ := hrel
        have hk0 : (0 : Int) ≤ (k : Int) := Int.natCast_nonneg _
        by_cases hlt2 : k < m
        · have hk1 : (k : Int) < (m : Int) := by omega
          have hk2 : (k : Int) < (ss.length : Int) := by omega
          have hk3 : (k : Int) < (ts.length : Int) := by omega
          obtain ⟨a1, rfl, d0, _, _, _⟩ := HS142.out k (by omega)
          obtain ⟨b1, rfl, e0, _, _, _⟩ := HS16.out k (by omega)
          have hle := HUP.out k (by omega) (by omega)
          generalize (ss.getD k (0, 0, false)).1 = su at d0 hle
          generalize (ts.getD k (0, 0, false)).1 = tu at e0 hle
          have hdd : decide (su < tu) = false := decide_eq_false (by omega)
          go_wp2
          go_quiet (fail)
          go_wp2
          go_roundw
          case rel => exact ⟨k + 1, _, by omega, by go_num, rfl⟩
          case measure => simp [intOf]; omega
        · have hk1 : ¬ (k : Int) < (m : Int) := by omega
          go_wp2_with fail
          go_meet
          exact ⟨n, rfl⟩
    case rest =>
      obtain ⟨n, rfl⟩ := hcut
      have hb9 := below_drewN (Below.refl wc.heap.size wc) n
      apply_assumption
      exact HKT.out _ _ _ _ _ _ _ _ _ _ _ _ _ _ _ _ _ _ _ _ _ _ _ _ _ _ _ _ _ _ _ _ _ _ _ _ _ _ _ _ _ _ _ _ _ _ _ _ _ _ _ _ _ _ _ _ _ _ _ _ _ _ _ _ _ _ _ _ _ _ _ _ _ _ _ _ _ _ _ _ _ _ _ _ _ _ _ _ _ _ _ _ _ _ _ _ _ _ _ _ _ _ _ _ _ _ _ _ _ _ _ _ _ _ _ _ _ _ _ _ _ _ _ _ _ _ _ _ _ _ _ _ _ _ _ _ _ _ _ _ _ _ _ _ _ _ _ _ _ _ _ _ _ _ _ _ _ _ _ _ _ _ _ _ _ _ _ _ _ _ _ _ _ _ _ _ _ _ _ _ _ _ _ _ _ _ _ _ _ _ _ _ _ _ _ _ _ _ _ _ _ _ _ _ _ _ _ _ _ _ _ _ _ _ _ _ _ _ _ _ _ _ _ _ _ _ _ _ _ _ _ _ _ _ _ _ _ _ _ _ _ _ _ _ _ _ _ _ _ _ _ _ _ _ _ _ _ _ _ _ _ _ _ _ _ (HX2.out.below hb9) (BlkV.below HN62.out hb9 (BlkV.lt HN62.out)) (BlkV.below HN82.out hb9 (BlkV.lt HN82.out))

set_option maxRecDepth 100000 in
set_option maxHeartbeats 16000000 in
theorem part20 (x y z : Nat) (X : Option Addr) (a0 : Addr) (ch c0 nh np : Nat) (pa pb pc : Pl) (A B C : Option Addr) (c d e : Nat) (w W : World) (tw sm : List Ent) (g6 g8 : Nat) {u2 u3 u4 u5 u7 u9 u10 u11 u12 u13 u14 u15 u16 u17 u18 u19 u20 u21 u22 u23 u24 u25 u26 u27 u28 u29 u30 u31 u32 u33 u34 u35 u36 u37 u38 u39 u40 u41 u42 u43 u44 u45 u46 u47 u48 u49 u50 u51 u52 u53 u54 u55 u56 u57 u58 u59 u60 u61 u62 u63 u64 u65 u66 u67 u68 u69 u70 u71 u72 u73 u74 u75 u76 u77 u78 u79 u80 u81 u82 u83 u84 u85 u86 u87 u88 u89 u90 u91 u92 u93 u94 u95 u96 u97 u98 u99 u100 u101 u102 u103 u104 u105 u106 u107 u108 u109 u110 u111 u112 u113 u114 u115 u116 u117 u118 u119 u120 u121 u122 u123 u124 u125 u126 u127 u128 u129 u130 u131 u132 u133 u134 u135 u136 u137 u138 u139 u140 u141 u142 u143 u144 u145 u146 u147 u148 u149 u150 u151 u152 u153 u154 u155 u156 u157 u158 u159 u160 u161 u162 u163 u164 u165 u166 u167 u168 u169 u170 u171 u172 u173 u174 u175 u176 u177 u178 u179 u180 u181 u182 u183 u184 u185 u186 u187 u188 u189 u190 u191 u192 u193 u194 u195 u196 u197 u198 u199 u200 u201 u202 u203 u204 u205 u206 u207 u208 u209 u210 u211 u212 u213 u214 u215 u216 u217 u218 u219 u220 u221 u222 u223 u224 u225 u226 u227 u228 u229 u230 u231 u232 u233 u234 u235 u236 u237 u238 u239 u240 u241 u242 u243 u244 u245 u246 u247 u248 u249 u250 u251 u252 u253 u254 u255 u256 u257 u258 u259 u260 u261 u262 u263 u264 u265 u266 u267 : Value} (ltw : tw.length = nh) (lsm : sm.length = nh) (hnh : nh ≤ 36) (hX : HeldPl x y z X (some a0) ch c0 nh np pa pb pc A B C c d e w W) (h6 : NetBlk W g6 tw) (h8 : NetBlk W g8 sm)
    (hbd : ∀ i, i < nh → -20000 ≤ (tw.getD i (0, ByteArray.empty)).1 ∧ (tw.getD i (0, ByteArray.empty)).1 ≤ 20000)
    (hag : ∀ i, i < nh → (sm.getD i (0, ByteArray.empty)).2.toList.isEmpty = true → (tw.getD i (0, ByteArray.empty)).2.toList.isEmpty = true ∧ 2 * (tw.getD i (0, ByteArray.empty)).1 ≤ (sm.getD i (0, ByteArray.empty)).1)
    (kT : ∀ (u2 u3 u4 u5 u6 u7 u8 u9 u10 u11 u12 u13 u14 u15 u16 u17 u18 u19 u20 u21 u22 u23 u24 u25 u26 u27 u28 u29 u30 u31 u32 u33 u34 u35 u36 u37 u38 u39 u40 u41 u42 u43 u44 u45 u46 u47 u48 u49 u50 u51 u52 u53 u54 u55 u56 u57 u58 u59 u60 u61 u62 u63 u64 u65 u66 u67 u68 u69 u70 u71 u72 u73 u74 u75 u76 u77 u78 u79 u80 u81 u82 u83 u84 u85 u86 u87 u88 u89 u90 u91 u92 u93 u94 u95 u96 u97 u98 u99 u100 u101 u102 u103 u104 u105 u106 u107 u108 u109 u110 u111 u112 u113 u114 u115 u116 u117 u118 u119 u120 u121 u122 u123 u124 u125 u126 u127 u128 u129 u130 u131 u132 u133 u134 u135 u136 u137 u138 u139 u140 u141 u142 u143 u144 u145 u146 u147 u148 u149 u150 u151 u152 u153 u154 u155 u156 u157 u158 u159 u160 u161 u162 u163 u164 u165 u166 u167 u168 u169 u170 u171 u172 u173 u174 u175 u176 u177 u178 u179 u180 u181 u182 u183 u184 u185 u186 u187 u188 u189 u190 u191 u192 u193 u194 u195 u196 u197 u198 u199 u200 u201 u202 u203 u204 u205 u206 u207 u208 u209 u210 u211 u212 u213 u214 u215 u216 u217 u218 u219 u220 u221 u222 u223 u224 u225 u226 u227 u228 u229 u230 u231 u232 u233 u234 u235 u236 u237 u238 u239 u240 u241 u242 u243 u244 u245 u246 u247 u248 u249 u250 u251 u252 u253 u254 u255 u256 u257 u258 u259 u260 u261 u262 u263 u264 u265 u266 u267 : Value) W, HeldPl x y z X (some a0) ch c0 nh np pa pb pc A B C c d e w W → Code.wp Tryz.prog (partT 26) (bodyPost Tryz.prog Tryz.f6 (fun e w' => e = .returned (.bool true) ∧ Below w.heap.size w w')) { tmps := #[.agg #[.slice X nh ch, .slice (some a0) np c0], .pointer (some ⟨w.heap.size, 0, none⟩), u2, u3, u4, u5, u6, u7, u8, u9, u10, u11, u12, u13, u14, u15, u16, u17, u18, u19, u20, u21, u22, u23, u24, u25, u26, u27, u28, u29, u30, u31, u32, u33, u34, u35, u36, u37, u38, u39, u40, u41, u42, u43, u44, u45, u46, u47, u48, u49, u50, u51, u52, u53, u54, u55, u56, u57, u58, u59, u60, u61, u62, u63, u64, u65, u66, u67, u68, u69, u70, u71, u72, u73, u74, u75, u76, u77, u78, u79, u80, u81, u82, u83, u84, u85, u86, u87, u88, u89, u90, u91, u92, u93, u94, u95, u96, u97, u98, u99, u100, u101, u102, u103, u104, u105, u106, u107, u108, u109, u110, u111, u112, u113, u114, u115, u116, u117, u118, u119, u120, u121, u122, u123, u124, u125, u126, u127, u128, u129, u130, u131, u132, u133, u134, u135, u136, u137, u138, u139, u140, u141, u142, u143, u144, u145, u146, u147, u148, u149, u150, u151, u152, u153, u154, u155, u156, u157, u158, u159, u160, u161, u162, u163, u164, u165, u166, u167, u168, u169, u170, u171, u172, u173, u174, u175, u176, u177, u178, u179, u180, u181, u182, u183, u184, u185, u186, u187, u188, u189, u190, u191, u192, u193, u194, u195, u196, u197, u198, u199, u200, u201, u202, u203, u204, u205, u206, u207, u208, u209, u210, u211, u212, u213, u214, u215, u216, u217, u218, u219, u220, u221, u222, u223, u224, u225, u226, u227, u228, u229, u230, u231, u232, u233, u234, u235, u236, u237, u238, u239, u240, u241, u242, u243, u244, u245, u246, u247, u248, u249, u250, u251, u252, u253, u254, u255, u256, u257, u258, u259, u260, u261, u262, u263, u264, u265, u266, u267], defers := [] } W) :
    Code.wp Tryz.prog (partT 20) (bodyPost Tryz.prog Tryz.f6 (fun e w' => e = .returned (.bool true) ∧ Below w.heap.size w w')) { tmps := #[.agg #[.slice X nh ch, .slice (some a0) np c0], .pointer (some ⟨w.heap.size, 0, none⟩), u2, u3, u4, u5, .slice (some ⟨g6, 0, none⟩) nh nh, u7, .slice (some ⟨g8, 0, none⟩) nh nh, u9, u10, u11, u12, u13, u14, u15, u16, u17, u18, u19, u20, u21, u22, u23, u24, u25, u26, u27, u28, u29, u30, u31, u32, u33, u34, u35, u36, u37, u38, u39, u40, u41, u42, u43, u44, u45, u46, u47, u48, u49, u50, u51, u52, u53, u54, u55, u56, u57, u58, u59, u60, u61, u62, u63, u64, u65, u66, u67, u68, u69, u70, u71, u72, u73, u74, u75, u76, u77, u78, u79, u80, u81, u82, u83, u84, u85, u86, u87, u88, u89, u90, u91, u92, u93, u94, u95, u96, u97, u98, u99, u100, u101, u102, u103, u104, u105, u106, u107, u108, u109, u110, u111, u112, u113, u114, u115, u116, u117, u118, u119, u120, u121, u122, u123, u124, u125, u126, u127, u128, u129, u130, u131, u132, u133, u134, u135, u136, u137, u138, u139, u140, u141, u142, u143, u144, u145, u146, u147, u148, u149, u150, u151, u152, u153, u154, u155, u156, u157, u158, u159, u160, u161, u162, u163, u164, u165, u166, u167, u168, u169, u170, u171, u172, u173, u174, u175, u176, u177, u178, u179, u180, u181, u182, u183, u184, u185, u186, u187, u188, u189, u190, u191, u192, u193, u194, u195, u196, u197, u198, u199, u200, u201, u202, u203, u204, u205, u206, u207, u208, u209, u210, u211, u212, u213, u214, u215, u216, u217, u218, u219, u220, u221, u222, u223, u224, u225, u226, u227, u228, u229, u230, u231, u232, u233, u234, u235, u236, u237, u238, u239, u240, u241, u242, u243, u244, u245, u246, u247, u248, u249, u250, u251, u252, u253, u254, u255, u256, u257, u258, u259, u260, u261, u262, u263, u264, u265, u266, u267], defers := [] } W := by
  have HX0 := Lib.hid hX
  have HN6 := Lib.hid h6
  have HN8 := Lib.hid h8
  have HBD := Lib.hid hbd
  have HAG := Lib.hid hag
  have HKT := Lib.hid kT
  clear hX h6 h8 hbd hag kT
  conv => arg 2; whnf
  go_upto_block 2 with fail
  go_cut [] (fun wx => ∃ n, wx = W.drewN n)
  case first =>
    go_wp2_with fail
    go_loopw [164] (fun iv wr => ∃ k n : Nat, k ≤ nh ∧ iv = .int .i64 k ∧ wr = W.drewN n) (fun iv _ => nh - (intOf iv).toNat)
    case atStart => exact ⟨0, 0, Nat.zero_le _, rfl, rfl⟩
    case round =>
      obtain ⟨k, n, hk, rfl, rfl⟩ := hrel
      have hk0 : (0 : Int) ≤ (k : Int) := Int.natCast_nonneg _
      by_cases hlt : k < nh
      · have hk1 : (k : Int) < (nh : Int) := by omega
        obtain ⟨t0, t1⟩ := HN6.out.cells (j := k) (by omega)
        obtain ⟨v0, v1⟩ := HN8.out.cells (j := k) (by omega)
        have hb := HBD.out k hlt
        have ha := HAG.out k hlt
        generalize tw.getD k (0, ByteArray.empty) = te at t0 t1 hb ha
        generalize sm.getD k (0, ByteArray.empty) = se at v0 v1 ha
        obtain ⟨tn, tm⟩ := te
        obtain ⟨sn, sk⟩ := se
        simp only at t0 t1 v0 v1 hb ha
        have hw2 : IntKind.i64.wrap (2 * tn) = 2 * tn := IntWalk.i64_in _ (by omega)
        cases hs : sk.toList.isEmpty
        · clear ha
          go_wp2
          go_quiet (fail)
          go_wp2
          go_roundw
          case rel => exact ⟨k + 1, _, by omega, by go_num, rfl⟩
          case measure => simp [intOf]; omega
        · obtain ⟨h1, h2⟩ := ha hs
          have hdd : decide (sn < 2 * tn) = false := decide_eq_false (by omega)
          clear ha
          go_wp2
          go_quiet (fail)
          go_wp2
          go_roundw
          case rel => exact ⟨k + 1, _, by omega, by go_num, rfl⟩
          case measure => simp [intOf]; omega
      · have hk1 : ¬ (k : Int) < (nh : Int) := by omega
        go_wp2_with fail
        go_meet
        exact ⟨n, rfl⟩
  case rest =>
    obtain ⟨n, rfl⟩ := hcut
    have hb9 := below_drewN (Below.refl W.heap.size W) n
    apply_assumption
    exact HKT.out _ _ _ _ _ _ _ _ _ _ _ _ _ _ _ _ _ _ _ _ _ _ _ _ _ _ _ _ _ _ _ _ _ _ _ _ _ _ _ _ _ _ _ _ _ _ _ _ _ _ _ _ _ _ _ _ _ _ _ _ _ _ _ _ _ _ _ _ _ _ _ _ _ _ _ _ _ _ _ _ _ _ _ _ _ _ _ _ _ _ _ _ _ _ _ _ _ _ _ _ _ _ _ _ _ _ _ _ _ _ _ _ _ _ _ _ _ _ _ _ _ _ _ _ _ _ _ _ _ _ _ _ _ _ _ _ _ _ _ _ _ _ _ _ _ _ _ _ _ _ _ _ _ _ _ _ _ _ _ _ _ _ _ _ _ _ _ _ _ _ _ _ _ _ _ _ _ _ _ _ _ _ _ _ _ _ _ _ _ _ _ _ _ _ _ _ _ _ _ _ _ _ _ _ _ _ _ _ _ _ _ _ _ _ _ _ _ _ _ _ _ _ _ _ _ _ _ _ _ _ _ _ _ _ _ _ _ _ _ _ _ _ _ _ _ _ _ _ _ _ _ _ _ _ _ _ _ _ _ _ _ _ _ _ _ _ _ (HX0.out.below hb9)

end Go.Proofs.YtbckfkopdojggaaGreatDoor
