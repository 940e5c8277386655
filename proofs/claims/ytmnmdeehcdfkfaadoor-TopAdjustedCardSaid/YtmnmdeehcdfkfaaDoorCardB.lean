/- The first error of a list, and the errors of lists by their lengths. -/
import Derived.Test.YtmnmdeehcdfkfaaDoorCardA
namespace Go.Proofs.YtmnmdeehcdfkfaaDoor
open Go.RowKit

set_option maxHeartbeats 400000 in
theorem first_any (A : Option Addr) (c : Nat) (xs : List Int) (w : World) (hl : xs.length ≤ 4611686018427387904) (h : Ints w A xs) :
    Calls Tryd.prog 32 #[.slice A xs.length c] w fun e w' => e = .returned (.int .i64 (firstI xs)) ∧ w = w' := by
  have H := Lib.hid h
  clear h
  go_enter Tryd.func32, Tryd.ntmps32
  go_wp2
  go_loop [7] (fun i => ∃ k : Nat, k ≤ xs.length ∧ i = .int .i64 k ∧ firstI (xs.drop k) = firstI xs) (fun i => xs.length - (intOf i).toNat)
  case atStart => exact ⟨0, Nat.zero_le _, rfl, rfl⟩
  case round =>
    obtain ⟨k, hk, rfl, hd⟩ := hrel
    have HD := Lib.hid hd
    clear hd
    by_cases hlt : k < xs.length
    · obtain ⟨a, rfl, hc⟩ := H.out k hlt
      have hs := Lib.hid (firstI_drop xs k hlt)
      generalize xs.getD k 0 = x at hc hs
      by_cases hx : x = 0
      · subst hx
        go_wp2
        go_round
        case rel => exact ⟨k + 1, by omega, by go_num, by have := hs.out; simp at this; rw [← this]; exact HD.out⟩
        case measure => simp [intOf]; omega
      · have hxb : (x != 0) = true := by simpa using hx
        go_wp2
        go_ret
        have := hs.out
        rw [if_neg hx] at this
        exact ⟨by rw [← this, HD.out]; rfl, rfl⟩
    · have : k = xs.length := by omega
      go_wp2
      go_ret
      have hd := HD.out
      rw [List.drop_eq_nil_of_le (by omega)] at hd
      exact ⟨by rw [← hd]; rfl, rfl⟩

end Go.Proofs.YtmnmdeehcdfkfaaDoor
