/- The small functions of package format: unless, within, first, checkHandicap, divided. -/
import Derived.Test.YtmnmdeehcdfkfaaDoorGenA
import Derived.BigQuiet
import Derived.Deep.QuietTactic
import Derived.IntWalk
namespace Go.Proofs.YtmnmdeehcdfkfaaDoor
open Go.RowKit

set_option maxHeartbeats 400000 in
theorem fmUnless_any (b : Bool) (n : Int) (w : World) :
    Calls Tryd.prog 58 #[.bool b, .int .i64 n] w fun e w' => e = .returned (.int .i64 (unlessI b n)) ∧ w = w' := by
  cases b
  all_goals
    go_enter Tryd.func58, Tryd.ntmps58
    go_wp2
    go_ret
    exact ⟨rfl, rfl⟩

set_option maxHeartbeats 400000 in
theorem fmWithin_any (n a b : Int) (w : World) :
    Calls Tryd.prog 47 #[.int .i64 n, .int .i64 a, .int .i64 b] w fun e w' => e = .returned (.int .i64 (withinI n a b)) ∧ w = w' := by
  by_cases h1 : a ≤ n <;> by_cases h2 : n ≤ b
  all_goals
    go_enter Tryd.func47, Tryd.ntmps47
    go_wp2_with (go_at_call 58; refine (fmUnless_any _ _ _).mono ?_; rintro e w' ⟨rfl, rfl⟩)
    go_ret
    exact ⟨by simp [withinI, unlessI, h1, h2], rfl⟩

set_option maxHeartbeats 400000 in
theorem fmFirst_any (A : Option Addr) (c : Nat) (xs : List Int) (w : World) (hl : xs.length ≤ 4611686018427387904) (h : Ints w A xs) :
    Calls Tryd.prog 26 #[.slice A xs.length c] w fun e w' => e = .returned (.int .i64 (firstI xs)) ∧ w = w' := by
  have H := Lib.hid h
  clear h
  go_enter Tryd.func26, Tryd.ntmps26
  go_wp2
  go_loop [7] (fun i => ∃ k : Nat, k ≤ xs.length ∧ i = .int .i64 k ∧ firstI (xs.drop k) = firstI xs) (fun i => xs.length - (intOf i).toNat)
  case atStart => exact ⟨0, Nat.zero_le _, rfl, rfl⟩
  case round =>
    obtain ⟨k, hk, rfl, hd⟩ := hrel
    have HD := Lib.hid hd
    clear hd
    by_cases hlt : k < xs.length
    · obtain ⟨a, rfl, hc⟩ := H.out k hlt
      have hs := Lib.hid (firstI_drop xs k hlt)
      generalize xs.getD k 0 = x at hc hs
      by_cases hx : x = 0
      · subst hx
        go_wp2
        go_round
        case rel => exact ⟨k + 1, by omega, by go_num, by have := hs.out; simp at this; rw [← this]; exact HD.out⟩
        case measure => simp [intOf]; omega
      · have hxb : (x != 0) = true := by simpa using hx
        go_wp2
        go_ret
        have := hs.out
        rw [if_neg hx] at this
        exact ⟨by rw [← this, HD.out]; rfl, rfl⟩
    · have : k = xs.length := by omega
      go_wp2
      go_ret
      have hd := HD.out
      rw [List.drop_eq_nil_of_le (by omega)] at hd
      exact ⟨by rw [← hd]; rfl, rfl⟩

set_option maxHeartbeats 400000 in
theorem fmCheckHandicap_any (n : Int) (w : World) :
    Calls Tryd.prog 28 #[.int .i64 n] w fun e w' => e = .returned (.int .i64 (withinI n (-99) 99)) ∧ w = w' := by
  go_enter Tryd.func28, Tryd.ntmps28
  go_wp2_with (go_at_call 47; refine (fmWithin_any _ _ _ _).mono ?_; rintro e w' ⟨rfl, rfl⟩)
  go_ret
  exact ⟨rfl, rfl⟩

theorem tdiv_neg_eq (n d : Int) (hn : n < 0) (hd : 0 < d) (h : n.tmod d < 0) : n.tdiv d - 1 = n / d ∧ n.tmod d + d = n % d := by
  have h1 := Int.mul_tdiv_add_tmod n d
  have h2 := Int.mul_ediv_add_emod n d
  have h3 := Int.emod_nonneg n (show d ≠ 0 by omega)
  have h4 := Int.emod_lt_of_pos n hd
  have h5 := Int.lt_tmod_of_pos n hd
  have e : d * (n.tdiv d - 1 - n / d) = n % d - (n.tmod d + d) := by rw [Int.mul_sub, Int.mul_sub, Int.mul_one]; omega
  have : n.tdiv d - 1 - n / d = 0 := by
    have h6 : -d < n % d - (n.tmod d + d) := by omega
    have h7 : n % d - (n.tmod d + d) < d := by omega
    rw [← e] at h6 h7
    generalize n.tdiv d - 1 - n / d = q at h6 h7
    have h8 : q < 1 := by
      rcases Int.lt_or_le q 1 with h | h
      · exact h
      · have := Int.mul_le_mul_of_nonneg_left h (show 0 ≤ d by omega); omega
    have h9 : -1 < q := by
      rcases Int.lt_or_le (-1) q with h | h
      · exact h
      · have := Int.mul_le_mul_of_nonneg_left h (show 0 ≤ d by omega); omega
    omega
  rw [this] at e
  omega
theorem tdiv_pos_eq (n d : Int) (hd : 0 < d) (h : 0 ≤ n.tmod d) : n.tdiv d = n / d ∧ n.tmod d = n % d := by
  have h1 := Int.mul_tdiv_add_tmod n d
  have h2 := Int.mul_ediv_add_emod n d
  have h3 := Int.emod_nonneg n (show d ≠ 0 by omega)
  have h4 := Int.emod_lt_of_pos n hd
  have h5 := Int.tmod_lt_of_pos n hd
  have e : d * (n.tdiv d - n / d) = n % d - n.tmod d := by rw [Int.mul_sub]; omega
  have : n.tdiv d - n / d = 0 := by
    have h6 : -d < n % d - n.tmod d := by omega
    have h7 : n % d - n.tmod d < d := by omega
    rw [← e] at h6 h7
    generalize n.tdiv d - n / d = q at h6 h7
    have h8 : q < 1 := by
      rcases Int.lt_or_le q 1 with h | h
      · exact h
      · have := Int.mul_le_mul_of_nonneg_left h (show 0 ≤ d by omega); omega
    have h9 : -1 < q := by
      rcases Int.lt_or_le (-1) q with h | h
      · exact h
      · have := Int.mul_le_mul_of_nonneg_left h (show 0 ≤ d by omega); omega
    omega
  rw [this] at e
  omega

theorem tdiv_bound (n d : Int) (hd : 0 < d) (h1 : -1000000000000 ≤ n) (h2 : n ≤ 1000000000000) : -1000000000000 ≤ n.tdiv d ∧ n.tdiv d ≤ 1000000000000 := by
  have e := Int.natAbs_tdiv_le_natAbs n d
  omega
theorem tmod_bound (n d : Int) (hd : 0 < d) : -d < n.tmod d ∧ n.tmod d < d := ⟨Int.lt_tmod_of_pos n hd, Int.tmod_lt_of_pos n hd⟩

set_option maxHeartbeats 400000 in
theorem divided_any (n d : Int) (w : World) (hd : 0 < d) (hd2 : d ≤ 1000000) (h1 : -1000000000000 ≤ n) (h2 : n ≤ 1000000000000) :
    Calls Tryd.prog 48 #[.int .i64 n, .int .i64 d] w fun e w' => e = .returned (.tuple #[.int .i64 (n / d), .int .i64 (n % d)]) ∧ Below w.heap.size w w' := by
  have hd0 : ¬ d = 0 := by omega
  have hdb : (d == 0) = false := by simpa using hd0
  go_enter Tryd.func48, Tryd.ntmps48
  go_wp2
  go_quiet (fail)
  all_goals go_wp2
  · have hlt : n.tmod d < 0 := by assumption
    have b1 := tdiv_bound n d hd h1 h2
    have b2 := tmod_bound n d hd
    have hn : n < 0 := by
      rcases Int.lt_or_le n 0 with h | h
      · exact h
      · have := Int.tmod_nonneg d h; omega
    have e := tdiv_neg_eq n d hn hd hlt
    rw [IntWalk.wrap64_in _ (by omega), IntWalk.wrap64_in _ (by omega)]
    go_ret2
    exact ⟨by rw [e.1, e.2]; rfl, below_drewN (Below.refl _ _) _⟩
  · have hge : 0 ≤ n.tmod d := by assumption
    have e := tdiv_pos_eq n d hd hge
    go_ret2
    exact ⟨by rw [e.1, e.2]; rfl, below_drewN (Below.refl _ _) _⟩

end Go.Proofs.YtmnmdeehcdfkfaaDoor
