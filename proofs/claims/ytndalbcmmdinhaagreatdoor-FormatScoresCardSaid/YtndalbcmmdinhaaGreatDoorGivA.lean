/- FormatGives: the reference's CheckGiven; both checks where there are no holes. -/
import Derived.Test.YtndalbcmmdinhaaGreatDoorSumA
import Derived.Test.YtndalbcmmdinhaaGreatDoorMgE
import Derived.Outline
set_option linter.unusedVariables false
set_option linter.unusedSimpArgs false
namespace Go.Proofs.YtndalbcmmdinhaaGreatDoor
open Go.RowKit

theorem givenE_out (hs : List (Int × Int)) (h : Int) : givenE hs h = if holesI hs = 0 then (if outB h then 3 else 0) else holesI hs := by
  unfold givenE
  by_cases g : holesI hs = 0
  · rw [if_pos g, g]
    unfold outB withinI
    by_cases g1 : h < -99
    · simp [firstI, g1]; omega
    · by_cases g2 : 99 < h
      · simp [firstI, g2] <;> omega
      · simp [firstI, g1, g2] <;> omega
  · rw [if_neg g]
    simp [firstI, g]

set_option maxRecDepth 100000 in
set_option maxHeartbeats 1000000 in
theorem refGivenC_any (A : Option Addr) (c : Nat) (hs : List (Int × Int)) (h : Int) (w : World) (hr : HolesR w A hs) (hl : hs.length ≤ 4611686018427387904) :
    Calls Tryz.prog 12 #[.slice A hs.length c, .int .i64 h] w fun e w' => e = .returned (.int .i64 (givenE hs h)) ∧ ∃ n, w' = w.drewN n := by
  have HC := Lib.hid (refCheckHoles_any A c hs w hr)
  have HV := Lib.hid (givenE_out hs h)
  clear hr
  generalize givenE hs h = res at HV ⊢
  generalize holesI hs = q at HC HV
  generalize hob : outB h = ob at HV
  have HOB := Lib.hid hob
  clear hob
  go_enter Tryz.func12, Tryz.ntmps12
  go_wp2_with fail
  refine HC.out.mono ?_
  rintro e w1 ⟨rfl, n, rfl⟩
  by_cases hq : q = 0
  · have hqb : (q == 0) = true := by simpa using hq
    go_wp2_with fail
    refine (refOut_any _ _).mono ?_
    rintro e w2 ⟨rfl, rfl⟩
    rw [HOB.out]
    cases ob
    all_goals
      go_wp2
      go_ret
      refine ⟨?_, n, rfl⟩
      rw [HV.out, if_pos hq]
      first | rfl | (rw [hq]; rfl)
  · have hqb : (q == 0) = false := beq_eq_false_iff_ne.2 hq
    go_wp2
    go_ret
    exact ⟨by rw [HV.out, if_neg hq]; rfl, n, rfl⟩

set_option maxRecDepth 100000 in
set_option maxHeartbeats 1000000 in
theorem checkHoles_none (A : Option Addr) (c : Nat) (w : World) :
    Calls Tryz.prog 54 #[.slice A ([] : List (Int × Int)).length c] w fun e w' => e = .returned (.int .i64 12) ∧ Below w.heap.size w w' := by
  go_enter Tryz.func54, Tryz.ntmps54
  go_wp2_with fail
  refine (sizedHole_any _ ([] : List (Int × Int)).length _ _ _ (by simp)).mono ?_; rintro e w1 ⟨rfl, hb1⟩
  rw [show sizedI ([] : List (Int × Int)).length 36 = 12 from rfl]
  go_wp2
  go_ret
  exact ⟨rfl, hb1⟩

set_option maxRecDepth 100000 in
set_option maxHeartbeats 1000000 in
theorem fmGiven_none (A : Option Addr) (c : Nat) (h : Int) (w : World) :
    Calls Tryz.prog 11 #[.slice A ([] : List (Int × Int)).length c, .int .i64 h] w fun e w' => e = .returned (.tuple #[.slice none 0 0, .int .i64 12]) ∧ Below w.heap.size w w' := by
  go_enter Tryz.func11, Tryz.ntmps11
  go_wp2_with fail
  refine (checkHoles_none A c _).mono ?_
  rintro e w1 ⟨rfl, hb1⟩
  have HB1 := Lib.hid hb1
  clear hb1
  go_wp2_with fail
  refine (fmCheckHandicap_any _ _).mono ?_
  rintro e w2 ⟨rfl, rfl⟩
  go_wp2_with fail
  refine (fmFirst_any _ _ [_, _] _ (by simp) (Ints.two _ _ _ _ _ rfl)).mono ?_
  rintro e w2 ⟨rfl, rfl⟩
  rw [show ∀ q, firstI [12, q] = 12 from fun q => rfl]
  go_wp2
  go_ret2
  exact ⟨rfl, HB1.out.alloc HB1.out.size _⟩
end Go.Proofs.YtndalbcmmdinhaaGreatDoor
