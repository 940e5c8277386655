/- TopLinksNotation: a field that is not valid; two empty maps. -/
import Derived.Test.YtbckfkopdojggaaGreatDoorNtnR
import Derived.Test.YtbckfkopdojggaaGreatDoorMgF
import Derived.Test.YtbckfkopdojggaaGreatDoorMgD
import Derived.Deep.RegionHeld3
import Derived.Deep.DeepCutAuto
import Derived.Deep.CutBlock
import Derived.BigQuiet
import Derived.Deep.QuietTactic
import Derived.Outline
import Derived.Maps.RangeWalk
import Derived.Maps.OwnOps
import Derived.Maps.OwnSet
set_option linter.unusedVariables false
set_option linter.unusedSimpArgs false
namespace Go.Proofs.YtbckfkopdojggaaGreatDoor
open Go Go.RowKit Go.Maps

set_option maxRecDepth 100000 in
set_option maxHeartbeats 16000000 in
theorem notation_few (X A0 : Option Addr) (ch c0 nh np : Nat) (w : World)
    (kF : ∀ W, Below w.heap.size w W → Calls Tryz.prog 19 #[.agg #[.slice X nh ch, .slice A0 np c0]] W fun e w' => e = .returned (.bool false) ∧ Below W.heap.size W w')
    (kL : ∀ W, Below w.heap.size w W → Calls Tryz.prog 20 #[] W fun e w' => e = .returned (.bool true) ∧ Below W.heap.size W w') :
    Calls Tryz.prog 4 #[.agg #[.slice X nh ch, .slice A0 np c0]] w (fun e w' => e = .returned (.bool true) ∧ Below w.heap.size w w') := by
  have HKF := Lib.hid kF
  have HKL := Lib.hid kL
  clear kF kL
  go_enter Tryz.func4, Tryz.ntmps4
  go_wp2_with fail
  generalize hW0 : w.alloc (.cells #[.slice X nh ch, .slice A0 np c0] 25) = W0
  obtain ⟨a1, a2, a3⟩ := one_alloc w _ _ hW0
  have HB0 := Lib.hid a2
  clear hW0 a1 a2 a3
  refine (HKF.out W0 HB0.out).mono ?_
  rintro e w1 ⟨rfl, hb1⟩
  dsimp only
  have HB1 := Lib.hid (HB0.out.trans (hb1.mono HB0.out.size))
  clear hb1
  go_wp2_with fail
  refine (HKL.out _ HB1.out).mono ?_
  rintro e w2 ⟨rfl, hb2⟩
  have HB2 := Lib.hid (HB1.out.trans (hb2.mono HB1.out.size))
  clear hb2
  go_wp2
  go_ret
  exact ⟨rfl, HB2.out⟩

set_option maxRecDepth 100000 in
set_option maxHeartbeats 16000000 in
theorem notation_start (X A0 : Option Addr) (ch c0 nh np : Nat) (w : World)
    (kF : ∀ W, Below w.heap.size w W → Calls Tryz.prog 19 #[.agg #[.slice X nh ch, .slice A0 np c0]] W fun e w' => e = .returned (.bool true) ∧ Below W.heap.size W w')
    (kT : ∀ (u2 u5 u6 u7 u8 u9 u10 u11 u12 u13 u14 u15 u16 u17 u18 u19 u20 u21 u22 u23 u24 u25 u26 u27 u28 u29 u30 u31 u32 u33 u34 u35 u36 u37 u38 u39 u40 u41 u42 u43 u44 u45 u46 u47 u48 u49 u50 u51 u52 u53 u54 u55 u56 u57 u58 u59 u60 u61 u62 u63 u64 u65 u66 u67 u68 u69 u70 u71 u72 u73 u74 u75 u76 u77 u78 u79 u80 u81 u82 u83 u84 u85 u86 u87 u88 u89 u90 u91 u92 u93 u94 u95 u96 u97 u98 u99 u100 u101 u102 u103 u104 u105 u106 u107 u108 u109 u110 u111 u112 u113 u114 u115 u116 u117 u118 u119 u120 u121 u122 u123 u124 u125 u126 u127 u128 u129 u130 u131 u132 u133 u134 u135 u136 u137 u138 u139 u140 u141 u142 u143 u144 u145 u146 u147 u148 u149 u150 u151 u152 u153 u154 u155 u156 u157 u158 u159 u160 u161 u162 u163 u164 u165 u166 u167 u168 u169 u170 u171 u172 u173 u174 u175 u176 u177 u178 u179 u180 u181 u182 u183 : Value) g3 g4 W, BlkV W w.heap.size 25 #[.slice X nh ch, .slice A0 np c0] → Below w.heap.size w W → W.ownsMap Tryz.prog 3 (plainElem Tryz.prog 3) g3 0 (.map [] : DataW Unit) → W.ownsMap Tryz.prog 3 (plainElem Tryz.prog 3) g4 0 (.map [] : DataW Unit) → w.heap.size < g3 → w.heap.size < g4 → g3 ≠ g4 → Code.wp Tryz.prog (ntT 4) (bodyPost Tryz.prog Tryz.f4 (fun e w' => e = .returned (.bool true) ∧ Below w.heap.size w w')) { tmps := #[.agg #[.slice X nh ch, .slice A0 np c0], .pointer (some ⟨w.heap.size, 0, none⟩), u2, .map (some g3), .map (some g4), u5, u6, u7, u8, u9, u10, u11, u12, u13, u14, u15, u16, u17, u18, u19, u20, u21, u22, u23, u24, u25, u26, u27, u28, u29, u30, u31, u32, u33, u34, u35, u36, u37, u38, u39, u40, u41, u42, u43, u44, u45, u46, u47, u48, u49, u50, u51, u52, u53, u54, u55, u56, u57, u58, u59, u60, u61, u62, u63, u64, u65, u66, u67, u68, u69, u70, u71, u72, u73, u74, u75, u76, u77, u78, u79, u80, u81, u82, u83, u84, u85, u86, u87, u88, u89, u90, u91, u92, u93, u94, u95, u96, u97, u98, u99, u100, u101, u102, u103, u104, u105, u106, u107, u108, u109, u110, u111, u112, u113, u114, u115, u116, u117, u118, u119, u120, u121, u122, u123, u124, u125, u126, u127, u128, u129, u130, u131, u132, u133, u134, u135, u136, u137, u138, u139, u140, u141, u142, u143, u144, u145, u146, u147, u148, u149, u150, u151, u152, u153, u154, u155, u156, u157, u158, u159, u160, u161, u162, u163, u164, u165, u166, u167, u168, u169, u170, u171, u172, u173, u174, u175, u176, u177, u178, u179, u180, u181, u182, u183], defers := [] } W) :
    Calls Tryz.prog 4 #[.agg #[.slice X nh ch, .slice A0 np c0]] w (fun e w' => e = .returned (.bool true) ∧ Below w.heap.size w w') := by
  have HKF := Lib.hid kF
  have HKT := Lib.hid kT
  have hmm := @run_makeMap Tryz.prog
  clear kF kT
  go_enter Tryz.func4, Tryz.ntmps4
  go_wp2_with fail
  generalize hW0 : w.alloc (.cells #[.slice X nh ch, .slice A0 np c0] 25) = W0
  obtain ⟨a1, a2, a3⟩ := one_alloc w _ _ hW0
  have HBX := Lib.hid a1
  have HB0 := Lib.hid a2
  clear hW0 a1 a2 a3
  refine (HKF.out W0 HB0.out).mono ?_
  rintro ee w1 ⟨rfl, hb1⟩
  dsimp only
  have HX1 := Lib.hid (HBX.out.below hb1 HBX.out.lt)
  have HB1 := Lib.hid (HB0.out.trans (hb1.mono HB0.out.size))
  clear hb1 HBX HB0
  go_upto_region 3 with fail
  go_cut [3, 4] (fun v3 v4 wx => ∃ g3 g4, v3 = .map (some g3) ∧ v4 = .map (some g4) ∧ BlkV wx w.heap.size 25 #[.slice X nh ch, .slice A0 np c0] ∧ Below w.heap.size w wx ∧ wx.ownsMap Tryz.prog 3 (plainElem Tryz.prog 3) g3 0 (.map [] : DataW Unit) ∧ wx.ownsMap Tryz.prog 3 (plainElem Tryz.prog 3) g4 0 (.map [] : DataW Unit) ∧ w.heap.size < g3 ∧ w.heap.size < g4 ∧ g3 ≠ g4)
  case first =>
    go_wp2_with fail
    go_meet
    have hlt : w.heap.size < w1.heap.size := HX1.out.lt
    have hl2 : (w1.alloc (.map #[] 0)).heap.size = w1.heap.size + 1 := by simp
    refine ⟨w1.heap.size, w1.heap.size + 1, rfl, rfl, (HX1.out.alloc _).alloc _, (HB1.out.alloc HB1.out.size _).alloc (by rw [hl2]; omega) _, (World.ownsMap_made w1 _ _ _).alloc _, ?_, hlt, by omega, by omega⟩
    have := World.ownsMap_made (H := Unit) (w1.alloc (.map #[] 0)) Tryz.prog 3 (plainElem Tryz.prog 3)
    rwa [hl2] at this
  case rest =>
    obtain ⟨g3, g4, rfl, rfl, h1, h2, h3, h4, h5, h6, h7⟩ := hcut
    apply_assumption
    exact HKT.out _ _ _ _ _ _ _ _ _ _ _ _ _ _ _ _ _ _ _ _ _ _ _ _ _ _ _ _ _ _ _ _ _ _ _ _ _ _ _ _ _ _ _ _ _ _ _ _ _ _ _ _ _ _ _ _ _ _ _ _ _ _ _ _ _ _ _ _ _ _ _ _ _ _ _ _ _ _ _ _ _ _ _ _ _ _ _ _ _ _ _ _ _ _ _ _ _ _ _ _ _ _ _ _ _ _ _ _ _ _ _ _ _ _ _ _ _ _ _ _ _ _ _ _ _ _ _ _ _ _ _ _ _ _ _ _ _ _ _ _ _ _ _ _ _ _ _ _ _ _ _ _ _ _ _ _ _ _ _ _ _ _ _ _ _ _ _ _ _ _ _ _ _ _ _ _ _ _ _ _ g3 g4 _ h1 h2 h3 h4 h5 h6 h7

end Go.Proofs.YtbckfkopdojggaaGreatDoor
