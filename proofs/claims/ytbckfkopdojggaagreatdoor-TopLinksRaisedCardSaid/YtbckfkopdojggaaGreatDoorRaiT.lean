/- TopLinksRaised: the law's walk from its tests on: two loops; both players raised, a match again, a loop. -/
import Derived.Test.YtbckfkopdojggaaGreatDoorRaiA
import Derived.Test.YtbckfkopdojggaaGreatDoorNotV
import Derived.Deep.RegionHeld3
import Derived.Deep.DeepCutAuto
import Derived.Deep.CutBlock
import Derived.Outline
set_option linter.unusedVariables false
set_option linter.unusedSimpArgs false
namespace Go.Proofs.YtbckfkopdojggaaGreatDoor
open Go.RowKit

def headIs (n : Nat) : Code → Bool
  | .region id _ _ => id == n
  | .seq a _ => headIs n a
  | _ => false
/-- The code from a region on. -/
def tailFrom (n : Nat) : Code → Option Code
  | .seq a b => if headIs n a then some (.seq a b) else tailFrom n b
  | c => if headIs n c then some c else none
noncomputable def raisedT (n : Nat) : Code := ((Tryz.f5.body.bind fun c => tailFrom n c)).getD .skip

/-- The field's box and two players' boxes; all below a world. -/
def HeldR (f x y : Nat) (X A0 : Option Addr) (ch c0 nh np : Nat) (a b : Pl) (A B : Option Addr) (c d : Nat) (w W : World) : Prop :=
  BlkV W f 25 #[.slice X nh ch, .slice A0 np c0] ∧ BlkV W x 55 #[.string a.nm, .slice A a.l.length c, .int .i64 a.h] ∧ BlkV W y 55 #[.string b.nm, .slice B b.l.length d, .int .i64 b.h] ∧ Below w.heap.size w W
section
variable {f x y : Nat} {X A0 : Option Addr} {ch c0 nh np : Nat} {a b : Pl} {A B : Option Addr} {c d : Nat} {w W W' : World}
theorem HeldR.below (h : HeldR f x y X A0 ch c0 nh np a b A B c d w W) (hb : Below W.heap.size W W') : HeldR f x y X A0 ch c0 nh np a b A B c d w W' :=
  ⟨h.1.below hb h.1.lt, h.2.1.below hb h.2.1.lt, h.2.2.1.below hb h.2.2.1.lt, h.2.2.2.trans (hb.mono h.2.2.2.size)⟩
theorem HeldR.low (h : HeldR f x y X A0 ch c0 nh np a b A B c d w W) : Below w.heap.size w W := h.2.2.2
theorem HeldR.s8 (h : HeldR f x y X A0 ch c0 nh np a b A B c d w W) :
    W.cell? ⟨f, 0, none⟩ = some (.slice X nh ch) ∧ W.cell? ⟨f, 1, none⟩ = some (.slice A0 np c0) ∧ W.cell? ⟨x, 0, none⟩ = some (.string a.nm) ∧ W.cell? ⟨x, 1, none⟩ = some (.slice A a.l.length c) ∧ W.cell? ⟨x, 2, none⟩ = some (.int .i64 a.h) ∧
    W.cell? ⟨y, 0, none⟩ = some (.string b.nm) ∧ W.cell? ⟨y, 1, none⟩ = some (.slice B b.l.length d) ∧ W.cell? ⟨y, 2, none⟩ = some (.int .i64 b.h) :=
  ⟨h.1.cell 0, h.1.cell 1, h.2.1.cell 0, h.2.1.cell 1, h.2.1.cell 2, h.2.2.1.cell 0, h.2.2.1.cell 1, h.2.2.1.cell 2⟩
end

set_option maxRecDepth 100000 in
set_option maxHeartbeats 16000000 in
theorem raised_tailB (f x y : Nat) (X A0 A4 : Option Addr) (ch c0 c4 nh np : Nat) (a b : Pl) (A B : Option Addr) (c d : Nat) (r : Int) (st : List St) (w W : World) {u3 u4 u7 u8 u9 u10 u11 u13 u14 u15 u16 u17 u18 u19 u21 u22 u23 u24 u25 u26 u27 u28 u29 u30 u31 u32 u33 u34 u35 u36 u37 u38 u39 u40 u41 u42 u43 u44 u45 u46 u47 u48 u49 u50 u51 u52 u53 u54 u55 u56 u57 u58 u59 u60 u61 u62 u63 u64 u65 u66 u67 u68 u69 u70 u71 u72 u73 u74 u75 u76 u77 u78 u79 u80 u81 u82 u83 u84 u85 u86 u87 u88 u89 u90 u91 u92 u93 u94 u95 u96 u97 u98 u99 u100 u101 u102 u103 u104 u105 u106 u107 u108 u109 u110 u111 u112 u113 u114 u115 u116 u117 u118 u119 u120 u121 u122 u123 u124 u125 u126 u127 u128 u129 u130 u131 u132 u133 u134 u135 u136 u137 u138 u139 u140 u141 u142 u143 u144 u145 u146 u147 u148 u149 u150 u151 u152 u153 u154 u155 u156 u157 u158 u159 u160 u161 u162 u163 u164 u165 u166 u167 u168 u169 u170 u171 u172 u173 u174 u175 u176 u177 u178 u179 u180 u181 u182 u183 u184 u185 u186 u187 u188 u189 u190 u191 u192 u193 u194 u195 u196 u197 u198 u199 u200 u201 u202 u203 u204 u205 u206 u207 u208 u209 u210 u211 u212 u213 u214 u215 u216 u217 u218 u219 u220 u221 u222 u223 u224 u225 u226 u227 u228 u229 u230 u231 u232 u233 u234 u235 u236 u237 u238 u239 u240 u241 u242 u243 u244 u245 : Value} (hsl : st.length ≤ 36)
    (hX : HeldR f x y X A0 ch c0 nh np a b A B c d w W) (hS : StatesR W A4 st)
    (kL : ∀ W, Below w.heap.size w W → Calls Tryz.prog 20 #[] W fun e w' => e = .returned (.bool true) ∧ Below W.heap.size W w')
    (kUA : ∀ W, Below w.heap.size w W → Calls Tryz.prog 28 #[.agg #[.string a.nm, .slice A a.l.length c, .int .i64 a.h]] W (RaisedOut a.nm a.l a.h A c W))
    (kUB : ∀ W, Below w.heap.size w W → Calls Tryz.prog 28 #[.agg #[.string b.nm, .slice B b.l.length d, .int .i64 b.h]] W (RaisedOut b.nm b.l b.h B d W))
    (kM3 : ∀ W g1 c1 g2 c2, Below w.heap.size w W → EntriesR W (some ⟨g1, 0, none⟩) (a.l.map upE) → EntriesR W (some ⟨g2, 0, none⟩) (b.l.map upE) → roomL a.l → roomL b.l → Calls Tryz.prog 27 #[.slice X nh ch, .agg #[.string a.nm, .slice (some ⟨g1, 0, none⟩) a.l.length c1, .int .i64 a.h], .agg #[.string b.nm, .slice (some ⟨g2, 0, none⟩) b.l.length c2, .int .i64 b.h]] W (MatchOut st W)) :
    Code.wp Tryz.prog (raisedT 29) (bodyPost Tryz.prog Tryz.f5 (fun e w' => e = .returned (.bool true) ∧ Below w.heap.size w w')) { tmps := #[.agg #[.slice X nh ch, .slice A0 np c0], .int .i8 r, .pointer (some ⟨f, 0, none⟩), u3, u4, .pointer (some ⟨x, 0, none⟩), .pointer (some ⟨y, 0, none⟩), u7, u8, u9, u10, u11, .slice A4 st.length c4, u13, u14, u15, u16, u17, u18, u19, .func (.func 28) #[] #[], u21, u22, u23, u24, u25, u26, u27, u28, u29, u30, u31, u32, u33, u34, u35, u36, u37, u38, u39, u40, u41, u42, u43, u44, u45, u46, u47, u48, u49, u50, u51, u52, u53, u54, u55, u56, u57, u58, u59, u60, u61, u62, u63, u64, u65, u66, u67, u68, u69, u70, u71, u72, u73, u74, u75, u76, u77, u78, u79, u80, u81, u82, u83, u84, u85, u86, u87, u88, u89, u90, u91, u92, u93, u94, u95, u96, u97, u98, u99, u100, u101, u102, u103, u104, u105, u106, u107, u108, u109, u110, u111, u112, u113, u114, u115, u116, u117, u118, u119, u120, u121, u122, u123, u124, u125, u126, u127, u128, u129, u130, u131, u132, u133, u134, u135, u136, u137, u138, u139, u140, u141, u142, u143, u144, u145, u146, u147, u148, u149, u150, u151, u152, u153, u154, u155, u156, u157, u158, u159, u160, u161, u162, u163, u164, u165, u166, u167, u168, u169, u170, u171, u172, u173, u174, u175, u176, u177, u178, u179, u180, u181, u182, u183, u184, u185, u186, u187, u188, u189, u190, u191, u192, u193, u194, u195, u196, u197, u198, u199, u200, u201, u202, u203, u204, u205, u206, u207, u208, u209, u210, u211, u212, u213, u214, u215, u216, u217, u218, u219, u220, u221, u222, u223, u224, u225, u226, u227, u228, u229, u230, u231, u232, u233, u234, u235, u236, u237, u238, u239, u240, u241, u242, u243, u244, u245], defers := [] } W := by
  have HX7 := Lib.hid hX
  have HS7 := Lib.hid hS
  have HKL := Lib.hid kL
  have HUA := Lib.hid kUA
  have HUB := Lib.hid kUB
  have HM3 := Lib.hid kM3
  clear hX hS kL kUA kUB kM3
  have hns := bne_self_eq_false' (st.length : Int)
  obtain ⟨s0, s1, s2, s3, s4, s5, s6, s7⟩ := HX7.out.s8
  conv => arg 2; whnf
  go_wp2_with fail
  refine (HUA.out _ HX7.out.low).mono ?_
  rintro e w8 (⟨hra, g8, c8, rfl, he8, hb8⟩ | ⟨hra, rfl, hb8⟩)
  · have hb9 := (Below.refl w8.heap.size w8).alloc (Nat.le_refl _) (.cells #[.string a.nm, .slice (some ⟨g8, 0, none⟩) a.l.length c8, .int .i64 a.h] 55)
    have hp9 := BlkV.new w8 55 #[.string a.nm, .slice (some ⟨g8, 0, none⟩) a.l.length c8, .int .i64 a.h]
    obtain ⟨W9, hW9⟩ : ∃ W9, w8.alloc (.cells #[.string a.nm, .slice (some ⟨g8, 0, none⟩) a.l.length c8, .int .i64 a.h] 55) = W9 := ⟨_, rfl⟩
    rw [hW9] at hb9 hp9
    have HX9 := Lib.hid ((HX7.out.below hb8).below hb9)
    have HS9 := Lib.hid ((HS7.out.keep hb8).keep hb9)
    have HP9 := Lib.hid hp9
    have HW9 := Lib.hid hW9
    have HE9 := Lib.hid (he8.keep hb9)
    have HRA := Lib.hid hra
    have hw8 : x < w8.heap.size := (HX7.out.below hb8).2.1.lt
    have hy8 : y < w8.heap.size := (HX7.out.below hb8).2.2.1.lt
    have hf8 : f < w8.heap.size := (HX7.out.below hb8).1.lt
    have HX8 := Lib.hid (HX7.out.below hb8)
    clear hra hb8 hb9 hp9 hW9 HX7 HS7 he8 s0 s1 s2 s3 s4 s5 s6 s7
    obtain ⟨s0, s1, s2, s3, s4, s5, s6, s7⟩ := HX8.out.s8
    go_wp2_with fail
    rw [HW9.out]
    clear s0 s1 s2 s3 s4 s5 s6 s7 HX8 hw8 hy8 hf8
    refine (HUB.out _ HX9.out.low).mono ?_
    rintro e w10 (⟨hrb, g10, c10, rfl, he10, hb10⟩ | ⟨hrb, rfl, hb10⟩)
    · have hb11 := (Below.refl w10.heap.size w10).alloc (Nat.le_refl _) (.cells #[.string b.nm, .slice (some ⟨g10, 0, none⟩) b.l.length c10, .int .i64 b.h] 55)
      have hp11 := BlkV.new w10 55 #[.string b.nm, .slice (some ⟨g10, 0, none⟩) b.l.length c10, .int .i64 b.h]
      have HX10 := Lib.hid (HX9.out.below hb10)
      obtain ⟨W11, hW11⟩ : ∃ W11, w10.alloc (.cells #[.string b.nm, .slice (some ⟨g10, 0, none⟩) b.l.length c10, .int .i64 b.h] 55) = W11 := ⟨_, rfl⟩
      rw [hW11] at hb11 hp11
      have HX11 := Lib.hid (HX10.out.below hb11)
      have HS11 := Lib.hid ((HS9.out.keep hb10).keep hb11)
      have HE11 := Lib.hid ((HE9.out.keep hb10).keep hb11)
      have HF11 := Lib.hid (he10.keep hb11)
      have HRB := Lib.hid hrb
      have HW11 := Lib.hid hW11
      have hq := (HP9.out.below hb10 HP9.out.lt)
      have hq11 := hq.below hb11 hq.lt
      have k0 : W11.cell? ⟨w8.heap.size, 0, none⟩ = some (.string a.nm) := hq11.cell 0
      have k1 : W11.cell? ⟨w8.heap.size, 1, none⟩ = some (.slice (some ⟨g8, 0, none⟩) a.l.length c8) := hq11.cell 1
      have k2 : W11.cell? ⟨w8.heap.size, 2, none⟩ = some (.int .i64 a.h) := hq11.cell 2
      have k3 : W11.cell? ⟨w10.heap.size, 0, none⟩ = some (.string b.nm) := hp11.cell 0
      have k4 : W11.cell? ⟨w10.heap.size, 1, none⟩ = some (.slice (some ⟨g10, 0, none⟩) b.l.length c10) := hp11.cell 1
      have k5 : W11.cell? ⟨w10.heap.size, 2, none⟩ = some (.int .i64 b.h) := hp11.cell 2
      clear hq hq11 hp11 hb11 hb10 he10 hrb hW11 HX9 HS9 HE9 HP9 HX10 HW9
      obtain ⟨s0, s1, s2, s3, s4, s5, s6, s7⟩ := HX11.out.s8
      go_upto_region 31 with fail
      rw [HW11.out]
      go_wp2_with fail
      refine (HM3.out _ g8 c8 g10 c10 HX11.out.low HE11.out HF11.out HRA.out HRB.out).mono ?_
      rintro e w12 ⟨A12, c12, rfl, hst12, _, hb12⟩
      have HS1212 := Lib.hid hst12
      have HS12 := Lib.hid (HS11.out.keep hb12)
      have HL12 := Lib.hid (HX11.out.low.trans (hb12.mono HX11.out.low.size))
      clear hst12 hb12 HX11 HS11 HE11 HF11 HRA HRB HM3 HW11 k0 k1 k2 k3 k4 k5 s0 s1 s2 s3 s4 s5 s6 s7
      go_wp2
      go_loopw [232] (fun iv wr => ∃ k n : Nat, k ≤ st.length ∧ iv = .int .i64 k ∧ wr = w12.drewN n) (fun iv _ => st.length - (intOf iv).toNat)
      case atStart => exact ⟨0, 0, Nat.zero_le _, rfl, rfl⟩
      case round =>
        obtain ⟨k, n, hk, rfl, rfl⟩ := hrel
        have hk0 : (0 : Int) ≤ (k : Int) := Int.natCast_nonneg _
        by_cases hlt : k < st.length
        · have hk1 : (k : Int) < (st.length : Int) := by omega
          obtain ⟨a1, rfl, d0, d1, d2, _⟩ := HS12.out k hlt
          obtain ⟨b1, rfl, e0, e1, e2, _⟩ := HS1212.out k hlt
          generalize st.getD k (0, 0, false) = sk at d0 d1 d2 e0 e1 e2
          obtain ⟨su, stt, so⟩ := sk
          simp only at d0 d1 d2 e0 e1 e2
          have hu : (su == su) = true := beq_self_eq_true su
          have ht : (stt == stt) = true := beq_self_eq_true stt
          cases so
          all_goals
            go_wp2
            go_quiet (fail)
            go_wp2
            go_roundw
            case rel => exact ⟨k + 1, _, by omega, by go_num, rfl⟩
            case measure => simp [intOf]; omega
        · have hk1 : ¬ (k : Int) < (st.length : Int) := by omega
          obtain ⟨W7, hW7⟩ : ∃ W7, w12.drewN n = W7 := ⟨_, rfl⟩
          have hb7 : Below w12.heap.size w12 W7 := by rw [← hW7]; exact below_drewN (Below.refl _ _) n
          rw [hW7]
          clear hW7
          have HL13 := Lib.hid (HL12.out.trans (hb7.mono HL12.out.size))
          clear hb7
          go_wp2_with fail
          refine (HKL.out _ HL13.out).mono ?_
          rintro e wz9 ⟨rfl, hbz9⟩
          have HBZ9 := Lib.hid ((HL13.out).trans (hbz9.mono (HL13.out).size))
          clear hbz9
          go_wp2
          go_ret
          exact ⟨rfl, HBZ9.out⟩
    · have hb11 := (Below.refl w10.heap.size w10).alloc (Nat.le_refl _) (.cells #[.string b.nm, .slice B b.l.length d, .int .i64 b.h] 55)
      have hp11 := BlkV.new w10 55 #[.string b.nm, .slice B b.l.length d, .int .i64 b.h]
      have HX10 := Lib.hid (HX9.out.below hb10)
      have HL11 := Lib.hid (HX10.out.low.trans (hb11.mono HX10.out.low.size))
      clear hb11 hp11 hb10 hrb HX10 HX9
      go_wp2_with fail
      refine (HKL.out _ HL11.out).mono ?_
      rintro e wz8 ⟨rfl, hbz8⟩
      have HBZ8 := Lib.hid ((HL11.out).trans (hbz8.mono (HL11.out).size))
      clear hbz8
      go_wp2
      go_ret
      exact ⟨rfl, HBZ8.out⟩
  · have hb9 := (Below.refl w8.heap.size w8).alloc (Nat.le_refl _) (.cells #[.string a.nm, .slice A a.l.length c, .int .i64 a.h] 55)
    have hp9 := BlkV.new w8 55 #[.string a.nm, .slice A a.l.length c, .int .i64 a.h]
    obtain ⟨W9, hW9⟩ : ∃ W9, w8.alloc (.cells #[.string a.nm, .slice A a.l.length c, .int .i64 a.h] 55) = W9 := ⟨_, rfl⟩
    rw [hW9] at hb9 hp9
    have HX9 := Lib.hid ((HX7.out.below hb8).below hb9)
    have HS9 := Lib.hid ((HS7.out.keep hb8).keep hb9)
    have HP9 := Lib.hid hp9
    have HW9 := Lib.hid hW9
    have hw8 : x < w8.heap.size := (HX7.out.below hb8).2.1.lt
    have hy8 : y < w8.heap.size := (HX7.out.below hb8).2.2.1.lt
    have hf8 : f < w8.heap.size := (HX7.out.below hb8).1.lt
    have HX8 := Lib.hid (HX7.out.below hb8)
    clear hra hb8 hb9 hp9 hW9 HX7 HS7 s0 s1 s2 s3 s4 s5 s6 s7
    obtain ⟨s0, s1, s2, s3, s4, s5, s6, s7⟩ := HX8.out.s8
    go_wp2_with fail
    rw [HW9.out]
    clear s0 s1 s2 s3 s4 s5 s6 s7 HX8 hw8 hy8 hf8
    refine (HUB.out _ HX9.out.low).mono ?_
    rintro e w10 (⟨hrb, g10, c10, rfl, he10, hb10⟩ | ⟨hrb, rfl, hb10⟩)
    · have hb11 := (Below.refl w10.heap.size w10).alloc (Nat.le_refl _) (.cells #[.string b.nm, .slice (some ⟨g10, 0, none⟩) b.l.length c10, .int .i64 b.h] 55)
      have hp11 := BlkV.new w10 55 #[.string b.nm, .slice (some ⟨g10, 0, none⟩) b.l.length c10, .int .i64 b.h]
      have HX10 := Lib.hid (HX9.out.below hb10)
      have HL11 := Lib.hid (HX10.out.low.trans (hb11.mono HX10.out.low.size))
      clear hb11 hp11 hb10 hrb HX10 HX9
      go_wp2_with fail
      refine (HKL.out _ HL11.out).mono ?_
      rintro e wz8 ⟨rfl, hbz8⟩
      have HBZ8 := Lib.hid ((HL11.out).trans (hbz8.mono (HL11.out).size))
      clear hbz8
      go_wp2
      go_ret
      exact ⟨rfl, HBZ8.out⟩
    · have hb11 := (Below.refl w10.heap.size w10).alloc (Nat.le_refl _) (.cells #[.string b.nm, .slice B b.l.length d, .int .i64 b.h] 55)
      have hp11 := BlkV.new w10 55 #[.string b.nm, .slice B b.l.length d, .int .i64 b.h]
      have HX10 := Lib.hid (HX9.out.below hb10)
      have HL11 := Lib.hid (HX10.out.low.trans (hb11.mono HX10.out.low.size))
      clear hb11 hp11 hb10 hrb HX10 HX9
      go_wp2_with fail
      refine (HKL.out _ HL11.out).mono ?_
      rintro e wz8 ⟨rfl, hbz8⟩
      have HBZ8 := Lib.hid ((HL11.out).trans (hbz8.mono (HL11.out).size))
      clear hbz8
      go_wp2
      go_ret
      exact ⟨rfl, HBZ8.out⟩
set_option maxRecDepth 100000 in
set_option maxHeartbeats 16000000 in
theorem raised_tailA (f x y : Nat) (X A0 A4 : Option Addr) (ch c0 c4 nh np : Nat) (a b : Pl) (A B : Option Addr) (c d : Nat) (r : Int) (gl : List Int) (st : List St) (g1 g2 c6 : Nat) (A6 : Option Addr) (w W : World) {u3 u4 u7 u14 u15 u18 u19 u20 u21 u22 u23 u24 u25 u26 u27 u28 u29 u30 u31 u32 u33 u34 u35 u36 u37 u38 u39 u40 u41 u42 u43 u44 u45 u46 u47 u48 u49 u50 u51 u52 u53 u54 u55 u56 u57 u58 u59 u60 u61 u62 u63 u64 u65 u66 u67 u68 u69 u70 u71 u72 u73 u74 u75 u76 u77 u78 u79 u80 u81 u82 u83 u84 u85 u86 u87 u88 u89 u90 u91 u92 u93 u94 u95 u96 u97 u98 u99 u100 u101 u102 u103 u104 u105 u106 u107 u108 u109 u110 u111 u112 u113 u114 u115 u116 u117 u118 u119 u120 u121 u122 u123 u124 u125 u126 u127 u128 u129 u130 u131 u132 u133 u134 u135 u136 u137 u138 u139 u140 u141 u142 u143 u144 u145 u146 u147 u148 u149 u150 u151 u152 u153 u154 u155 u156 u157 u158 u159 u160 u161 u162 u163 u164 u165 u166 u167 u168 u169 u170 u171 u172 u173 u174 u175 u176 u177 u178 u179 u180 u181 u182 u183 u184 u185 u186 u187 u188 u189 u190 u191 u192 u193 u194 u195 u196 u197 u198 u199 u200 u201 u202 u203 u204 u205 u206 u207 u208 u209 u210 u211 u212 u213 u214 u215 u216 u217 u218 u219 u220 u221 u222 u223 u224 u225 u226 u227 u228 u229 u230 u231 u232 u233 u234 u235 u236 u237 u238 u239 u240 u241 u242 u243 u244 u245 : Value} (hgl : gl.length = nh) (hnl : nh ≤ 36) (hgb : ∀ z ∈ gl, -1000 ≤ z ∧ z ≤ 1000) (hrb : -128 ≤ r ∧ r ≤ 127) (hsl : st.length ≤ 36)
    (hX : HeldR f x y X A0 ch c0 nh np a b A B c d w W) (hS : StatesR W A4 st) (hS6 : StatesR W A6 st) (hr1 : RowI W g1 gl) (hr2 : RowI W g2 (gl.map (· + r)))
    (kL : ∀ W, Below w.heap.size w W → Calls Tryz.prog 20 #[] W fun e w' => e = .returned (.bool true) ∧ Below W.heap.size W w')
    (kUA : ∀ W, Below w.heap.size w W → Calls Tryz.prog 28 #[.agg #[.string a.nm, .slice A a.l.length c, .int .i64 a.h]] W (RaisedOut a.nm a.l a.h A c W))
    (kUB : ∀ W, Below w.heap.size w W → Calls Tryz.prog 28 #[.agg #[.string b.nm, .slice B b.l.length d, .int .i64 b.h]] W (RaisedOut b.nm b.l b.h B d W))
    (kM3 : ∀ W g1 c1 g2 c2, Below w.heap.size w W → EntriesR W (some ⟨g1, 0, none⟩) (a.l.map upE) → EntriesR W (some ⟨g2, 0, none⟩) (b.l.map upE) → roomL a.l → roomL b.l → Calls Tryz.prog 27 #[.slice X nh ch, .agg #[.string a.nm, .slice (some ⟨g1, 0, none⟩) a.l.length c1, .int .i64 a.h], .agg #[.string b.nm, .slice (some ⟨g2, 0, none⟩) b.l.length c2, .int .i64 b.h]] W (MatchOut st W)) :
    Code.wp Tryz.prog (raisedT 14) (bodyPost Tryz.prog Tryz.f5 (fun e w' => e = .returned (.bool true) ∧ Below w.heap.size w w')) { tmps := #[.agg #[.slice X nh ch, .slice A0 np c0], .int .i8 r, .pointer (some ⟨f, 0, none⟩), u3, u4, .pointer (some ⟨x, 0, none⟩), .pointer (some ⟨y, 0, none⟩), u7, .slice (some ⟨g1, 0, none⟩) gl.length gl.length, .int .i64 0, .slice (some ⟨g2, 0, none⟩) gl.length gl.length, .int .i64 0, .slice A4 st.length c4, .int .i64 0, u14, u15, .slice A6 st.length c6, .int .i64 0, u18, u19, u20, u21, u22, u23, u24, u25, u26, u27, u28, u29, u30, u31, u32, u33, u34, u35, u36, u37, u38, u39, u40, u41, u42, u43, u44, u45, u46, u47, u48, u49, u50, u51, u52, u53, u54, u55, u56, u57, u58, u59, u60, u61, u62, u63, u64, u65, u66, u67, u68, u69, u70, u71, u72, u73, u74, u75, u76, u77, u78, u79, u80, u81, u82, u83, u84, u85, u86, u87, u88, u89, u90, u91, u92, u93, u94, u95, u96, u97, u98, u99, u100, u101, u102, u103, u104, u105, u106, u107, u108, u109, u110, u111, u112, u113, u114, u115, u116, u117, u118, u119, u120, u121, u122, u123, u124, u125, u126, u127, u128, u129, u130, u131, u132, u133, u134, u135, u136, u137, u138, u139, u140, u141, u142, u143, u144, u145, u146, u147, u148, u149, u150, u151, u152, u153, u154, u155, u156, u157, u158, u159, u160, u161, u162, u163, u164, u165, u166, u167, u168, u169, u170, u171, u172, u173, u174, u175, u176, u177, u178, u179, u180, u181, u182, u183, u184, u185, u186, u187, u188, u189, u190, u191, u192, u193, u194, u195, u196, u197, u198, u199, u200, u201, u202, u203, u204, u205, u206, u207, u208, u209, u210, u211, u212, u213, u214, u215, u216, u217, u218, u219, u220, u221, u222, u223, u224, u225, u226, u227, u228, u229, u230, u231, u232, u233, u234, u235, u236, u237, u238, u239, u240, u241, u242, u243, u244, u245], defers := [] } W := by
  have HX6 := Lib.hid hX
  have HS6 := Lib.hid hS
  have HS66 := Lib.hid hS6
  have HR16 := Lib.hid hr1
  have HR26 := Lib.hid hr2
  have HGB := Lib.hid hgb
  have HGL := Lib.hid hgl
  have HT := Lib.hid (fun (W' : World) (us : Unit) (hx : HeldR f x y X A0 ch c0 nh np a b A B c d w W') (hs : StatesR W' A4 st) => True.intro)
  have HKL := Lib.hid kL
  have HUA := Lib.hid kUA
  have HUB := Lib.hid kUB
  have HM3 := Lib.hid kM3
  subst hgl
  clear hX hS hS6 hr1 hr2 hgb kL kUA kUB kM3 HT
  have hw0 : IntKind.i64.wrap r = r := IntWalk.i64_in _ (by omega)
  have hng := bne_self_eq_false' (gl.length : Int)
  have hns := bne_self_eq_false' (st.length : Int)
  obtain ⟨s0, s1, s2, s3, s4, s5, s6, s7⟩ := HX6.out.s8
  conv => arg 2; whnf
  go_wp2
  go_loopw [163] (fun iv wr => ∃ k n : Nat, k ≤ gl.length ∧ iv = .int .i64 k ∧ wr = W.drewN n) (fun iv _ => gl.length - (intOf iv).toNat)
  case atStart => exact ⟨0, 0, Nat.zero_le _, rfl, rfl⟩
  case round =>
    obtain ⟨k, n, hk, rfl, rfl⟩ := hrel
    have hk0 : (0 : Int) ≤ (k : Int) := Int.natCast_nonneg _
    by_cases hlt : k < gl.length
    · have hk1 : (k : Int) < (gl.length : Int) := by omega
      have r1 := HR16.out.cell (j := k) hlt
      have r2 := HR26.out.cell (j := k) (by rw [List.length_map]; exact hlt)
      have hgm : (gl.map (· + r)).getD k 0 = gl.getD k 0 + r := by simp [List.getD, List.getElem?_eq_getElem hlt]
      rw [hgm] at r2
      have hzb := HGB.out (gl.getD k 0) (by simp [List.getD, List.getElem?_eq_getElem hlt])
      generalize gl.getD k 0 = z at r1 r2 hzb
      have hwz : IntKind.i64.wrap (z + r) = z + r := IntWalk.i64_in _ (by omega)
      have hbz := bne_self_eq_false' (z + r)
      clear hgm
      go_wp2
      go_quiet (fail)
      go_wp2
      go_roundw
      case rel => exact ⟨k + 1, _, by omega, by go_num, rfl⟩
      case measure => simp [intOf]; omega
    · have hk1 : ¬ (k : Int) < (gl.length : Int) := by omega
      obtain ⟨W6, hW6⟩ : ∃ W6, W.drewN n = W6 := ⟨_, rfl⟩
      have hb6 : Below W.heap.size W W6 := by rw [← hW6]; exact below_drewN (Below.refl _ _) n
      rw [hW6]
      have HX62 := Lib.hid (HX6.out.below hb6)
      have HS62 := Lib.hid (HS6.out.keep hb6)
      have HS662 := Lib.hid (HS66.out.keep hb6)
      clear hb6 hW6 HX6 HS6 HS66 s0 s1 s2 s3 s4 s5 s6 s7 hng HR16 HR26
      obtain ⟨s0, s1, s2, s3, s4, s5, s6, s7⟩ := HX62.out.s8
      go_wp2
      go_loopw [181] (fun iv wr => ∃ k n : Nat, k ≤ st.length ∧ iv = .int .i64 k ∧ wr = W6.drewN n) (fun iv _ => st.length - (intOf iv).toNat)
      case atStart => exact ⟨0, 0, Nat.zero_le _, rfl, rfl⟩
      case round =>
        obtain ⟨k, n, hk, rfl, rfl⟩ := hrel
        have hk0 : (0 : Int) ≤ (k : Int) := Int.natCast_nonneg _
        by_cases hlt : k < st.length
        · have hk1 : (k : Int) < (st.length : Int) := by omega
          obtain ⟨a1, rfl, d0, d1, d2, _⟩ := HS62.out k hlt
          obtain ⟨b1, rfl, e0, e1, e2, _⟩ := HS662.out k hlt
          generalize st.getD k (0, 0, false) = sk at d0 d1 d2 e0 e1 e2
          obtain ⟨su, stt, so⟩ := sk
          simp only at d0 d1 d2 e0 e1 e2
          have hu : (su == su) = true := beq_self_eq_true su
          have ht : (stt == stt) = true := beq_self_eq_true stt
          cases so
          all_goals
            go_wp2
            go_quiet (fail)
            go_wp2
            go_roundw
            case rel => exact ⟨k + 1, _, by omega, by go_num, rfl⟩
            case measure => simp [intOf]; omega
        · have hk1 : ¬ (k : Int) < (st.length : Int) := by omega
          obtain ⟨W7, hW7⟩ : ∃ W7, W6.drewN n = W7 := ⟨_, rfl⟩
          have hb7 : Below W6.heap.size W6 W7 := by rw [← hW7]; exact below_drewN (Below.refl _ _) n
          rw [hW7]
          clear hW7
          have HX7 := Lib.hid (HX62.out.below hb7)
          have HS7 := Lib.hid (HS62.out.keep hb7)
          clear hb7 HX62 HS62 HS662 s0 s1 s2 s3 s4 s5 s6 s7
          go_upto_region 28 with fail
          go_cut [20] (fun v wx => v = .func (.func 28) #[] #[] ∧ wx = W7)
          case first =>
            go_wp2_with fail
            go_meet
            exact ⟨rfl, rfl⟩
          case rest =>
            obtain ⟨rfl, rfl⟩ := hcut
            apply_assumption
            exact raised_tailB f x y X A0 A4 ch c0 c4 gl.length np a b A B c d r st w _ hsl HX7.out HS7.out HKL.out HUA.out HUB.out HM3.out
end Go.Proofs.YtbckfkopdojggaaGreatDoor
