/- checkFlows of one to eight flows, each from 1 to the limit. -/
import Derived.Test.YtclhohfkacgooaaRowI
namespace Go.Proofs.Ytclhohfkacgooaa
open Go.RowKit

set_option maxRecDepth 100000 in
set_option maxHeartbeats 1000000 in
theorem checkFlows_ok (A : Option Addr) (c B : Nat) (fs : List Int) (limit : Int) (w : World) (hl : fs.length ≤ 8) (hl0 : 0 < fs.length) (hlim : 1 ≤ limit ∧ limit ≤ 999999999) (hB : B ≤ w.heap.size) (hr : IntsAt w B A fs) (hfl : ∀ f ∈ fs, 1 ≤ f ∧ f ≤ limit) :
    Calls Try.prog 16 #[.slice A fs.length c, .int .i64 limit] w fun e w' => e = .returned (.int .i64 0) ∧ Below w.heap.size w w' := by
  have HR := Lib.hid hr
  have HF := Lib.hid hfl
  clear hr hfl
  have h8 : ((fs.length : Int) ≤ 8) := by omega
  have hz : (firstI [unlessI true 12, unlessI (decide ((fs.length : Int) ≤ 8)) 22, withinI limit 1 999999999] != 0) = false := by
    rw [show decide ((fs.length : Int) ≤ 8) = true from decide_eq_true h8]
    simp [firstI, unlessI, withinI, hlim]
  clear h8
  go_enter Try.func16, Try.ntmps16
  go_wp2_with fail
  refine (unless_any _ _ _).mono ?_; rintro e w1 ⟨rfl, rfl⟩
  go_wp2_with fail
  refine (unless_any _ _ _).mono ?_; rintro e w1 ⟨rfl, rfl⟩
  go_wp2_with fail
  refine (within_any _ _ _ _).mono ?_; rintro e w1 ⟨rfl, rfl⟩
  go_wp2_with fail
  refine (first_any _ _ [_, _, _] _ (by simp) (Ints.three _ _ _ _ _ _ rfl)).mono ?_; rintro e w1 ⟨rfl, rfl⟩
  have HB1 : Hid (Below w.heap.size w (w.alloc (.cells #[.int .i64 (unlessI true 12), .int .i64 (unlessI (decide ((fs.length : Int) ≤ 8)) 22), .int .i64 (withinI limit 1 999999999)] 30))) := (Below.refl _ _).alloc (Nat.le_refl _) _
  go_wp2
  go_loop [26] (fun i => ∃ k : Nat, k ≤ fs.length ∧ i = .int .i64 k) (fun i => fs.length - (intOf i).toNat)
  case atStart => exact ⟨0, Nat.zero_le _, rfl⟩
  case round =>
    obtain ⟨k, hk, rfl⟩ := hrel
    by_cases hlt : k < fs.length
    · obtain ⟨a, rfl, _, hc⟩ := (HR.out.below (HB1.out.mono hB)) k hlt
      have hx : 1 ≤ fs.getD k 0 ∧ fs.getD k 0 ≤ limit := by
        have := HF.out fs[k] (List.getElem_mem hlt)
        simpa [List.getD, List.getElem?_eq_getElem hlt] using this
      generalize fs.getD k 0 = x at hc hx
      have hwb : (withinI x 1 limit != 0) = false := by unfold withinI; rw [if_pos hx]; rfl
      go_wp2_with fail
      refine (within_any _ _ _ _).mono ?_; rintro e w1 ⟨rfl, rfl⟩
      go_wp2
      go_round
      case rel => exact ⟨k + 1, by omega, by go_num⟩
      case measure => simp [intOf]; omega
    · go_wp2
      go_ret
      exact ⟨rfl, HB1.out⟩

end Go.Proofs.Ytclhohfkacgooaa
