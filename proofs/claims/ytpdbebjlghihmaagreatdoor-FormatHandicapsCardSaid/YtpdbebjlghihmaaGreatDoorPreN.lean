/- The reference's check of numbers. -/
import Derived.Test.YtpdbebjlghihmaaGreatDoorMgG
import Derived.Outline
set_option linter.unusedVariables false
set_option linter.unusedSimpArgs false
namespace Go.Proofs.YtpdbebjlghihmaaGreatDoor
open Go.RowKit

theorem within_range (x : Int) : withinI x (-9999) 9999 = if decide (x < -9999) || decide (9999 < x) then 3 else 0 := by
  unfold withinI
  by_cases h1 : x < -9999
  · rw [if_neg (by omega), decide_eq_true h1]; rfl
  · by_cases h2 : 9999 < x
    · rw [if_neg (by omega), decide_eq_true h2, decide_eq_false h1]; rfl
    · rw [if_pos (by omega), decide_eq_false h2, decide_eq_false h1]; rfl

set_option maxRecDepth 100000 in
set_option maxHeartbeats 1000000 in
theorem refNumbers_any (A : Option Addr) (c B : Nat) (xs : List Int) (m : Int) (w : World) (h : IntsAt w B A xs) (hl : xs.length ≤ 4611686018427387904) :
    Calls Tryz.prog 11 #[.slice A xs.length c, .int .i64 m] w fun e w' => e = .returned (.int .i64 (numsI xs m)) ∧ w = w' := by
  have H := Lib.hid h
  clear h
  by_cases h0 : xs.length = 0
  · have b0 : ((xs.length : Int) == 0) = true := by rw [h0]; rfl
    have HV : Hid (numsI xs m = 12) := Lib.hid (by unfold numsI; simp [firstI, sizedI, h0])
    rw [HV.out]
    go_enter Tryz.func11, Tryz.ntmps11
    go_wp2
    go_ret
    exact ⟨rfl, rfl⟩
  · have b0 : ((xs.length : Int) == 0) = false := by rw [beq_eq_false_iff_ne]; omega
    by_cases h1 : (xs.length : Int) ≤ m
    · have b1 : decide (m < (xs.length : Int)) = false := decide_eq_false (by omega)
      have HV : Hid (numsI xs m = eachI xs (-9999) 9999) := Lib.hid (by unfold numsI; simp [firstI, sizedI, h0, h1]; omega)
      rw [HV.out]
      clear HV h1 h0
      generalize hres : eachI xs (-9999) 9999 = res
      have HRES := Lib.hid hres
      clear hres
      go_enter Tryz.func11, Tryz.ntmps11
      go_wp2
      go_loop [5] (fun i => ∃ k : Nat, k ≤ xs.length ∧ i = .int .i64 k ∧ eachI (xs.drop k) (-9999) 9999 = res) (fun i => xs.length - (intOf i).toNat)
      case atStart => exact ⟨0, Nat.zero_le _, rfl, HRES.out⟩
      case round =>
        obtain ⟨k, hk, rfl, he⟩ := hrel
        by_cases hlt : k < xs.length
        · obtain ⟨a, rfl, _, d0⟩ := H.out k hlt
          rw [eachI_drop xs _ _ k hlt, within_range] at he
          generalize xs.getD k 0 = x at d0 he
          have HE := Lib.hid he
          clear he
          have hk0 : (0 : Int) ≤ (k : Int) := Int.natCast_nonneg _
          have hk1 : (k : Int) < (xs.length : Int) := by omega
          cases g1 : decide (x < -9999)
          · cases g2 : decide (9999 < x)
            · rw [g1, g2] at HE
              go_wp2
              go_round
              case rel => exact ⟨k + 1, by omega, by go_num, HE.out⟩
              case measure => simp [intOf]; omega
            · rw [g1, g2] at HE
              go_wp2
              go_ret
              exact ⟨by rw [← HE.out]; rfl, rfl⟩
          · rw [g1] at HE
            go_wp2
            go_ret
            exact ⟨by rw [← HE.out]; rfl, rfl⟩
        · rw [List.drop_of_length_le (by omega)] at he
          have HE := Lib.hid he
          clear he
          go_wp2
          go_ret
          exact ⟨by rw [← HE.out]; rfl, rfl⟩
    · have b1 : decide (m < (xs.length : Int)) = true := decide_eq_true (by omega)
      have HV : Hid (numsI xs m = 5) := Lib.hid (by unfold numsI; simp [firstI, sizedI, h0, h1])
      rw [HV.out]
      go_enter Tryz.func11, Tryz.ntmps11
      go_wp2
      go_ret
      exact ⟨rfl, rfl⟩

end Go.Proofs.YtpdbebjlghihmaaGreatDoor
