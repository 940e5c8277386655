/- linksGreen: the fixed example that the law checks first. -/
import Derived.Test.YtclhohfkacgooaaPolyJ
import Derived.Test.YtclhohfkacgooaaRootA
namespace Go.Proofs.Ytclhohfkacgooaa
open Go.RowKit

def green : List Pl := [(0, 0), (4, 0), (4, 2), (2, 2), (2, 4), (0, 4)]
theorem green_good : GoodP green where
  few := by decide
  many := by decide
  near := fun p hp => by
    simp only [green, List.mem_cons, List.not_mem_nil, or_false] at hp
    rcases hp with rfl | rfl | rfl | rfl | rfl | rfl <;> exact ⟨⟨by decide, by decide⟩, by decide, by decide⟩
  simple := by decide +kernel
theorem green_twice : twiceI green = 24 := by decide +kernel
theorem green_out : positionI green (3, 3) = -1 := by decide +kernel
theorem green_in : positionI green (1, 3) = 1 := by decide +kernel

theorem green_row (W : World) (T : TypeId) : PlacesR (W.alloc (.cells #[.int .i64 0, .int .i64 0, .int .i64 4, .int .i64 0, .int .i64 4, .int .i64 2, .int .i64 2, .int .i64 2, .int .i64 2, .int .i64 4, .int .i64 0, .int .i64 4] T)) (W.heap.size + 1) (some ⟨W.heap.size, 0, none⟩) green := fun j hj => by
  have h := heap_alloc_new W (.cells #[.int .i64 0, .int .i64 0, .int .i64 4, .int .i64 0, .int .i64 4, .int .i64 2, .int .i64 2, .int .i64 2, .int .i64 2, .int .i64 4, .int .i64 0, .int .i64 4] T)
  have e : ∀ k, (Addr.add ⟨W.heap.size, 0, none⟩ k) = ⟨W.heap.size, k, none⟩ := fun k => by
    unfold Addr.add
    split
    · rename_i h0; rw [h0]
    · simp
  refine ⟨_, rfl, Nat.lt_succ_self _, ?_, ?_⟩
  · rw [e, cell_of_row _ _ _ _ _ _ h]
    match j, hj with
    | 0, _ => rfl
    | 1, _ => rfl
    | 2, _ => rfl
    | 3, _ => rfl
    | 4, _ => rfl
    | 5, _ => rfl
  · rw [e, cell_of_row _ _ _ _ _ _ h]
    match j, hj with
    | 0, _ => rfl
    | 1, _ => rfl
    | 2, _ => rfl
    | 3, _ => rfl
    | 4, _ => rfl
    | 5, _ => rfl

set_option maxRecDepth 100000 in
set_option maxHeartbeats 2000000 in
theorem linksGreen_any (w : World) :
    Calls Try.prog 5 #[] w fun e w' => e = .returned (.bool true) ∧ Below w.heap.size w w' := by
  go_enter Try.func5, Try.ntmps5
  go_wp2_with fail
  obtain ⟨W1, hW1⟩ : ∃ W1, w.alloc (.cells #[.int .i64 0, .int .i64 0, .int .i64 4, .int .i64 0, .int .i64 4, .int .i64 2, .int .i64 2, .int .i64 2, .int .i64 2, .int .i64 4, .int .i64 0, .int .i64 4] 40) = W1 := ⟨_, rfl⟩
  have hr := green_row w 40
  have hB1 : Below w.heap.size w W1 := by rw [← hW1]; exact (Below.refl _ _).alloc (Nat.le_refl _) _
  have hs1 : w.heap.size + 1 ≤ W1.heap.size := by rw [← hW1]; simp
  rw [hW1] at hr ⊢
  clear hW1
  have MK : Hid (∀ W, Below W1.heap.size W1 W → PlacesR W W.heap.size (some ⟨w.heap.size, 0, none⟩) green) := Lib.hid fun W h => (hr.below (h.mono hs1)).mono (Nat.le_trans hs1 h.size)
  have HT : ∀ W, PlacesR W W.heap.size (some ⟨w.heap.size, 0, none⟩) green → Calls Try.prog 11 #[.slice (some ⟨w.heap.size, 0, none⟩) 6 6] W fun e w' => e = .returned (.tuple #[.int .i64 24, .int .i64 0]) ∧ Below W.heap.size W w' := fun W h => by
    have := twice_ok (some ⟨w.heap.size, 0, none⟩) 6 green W green_good h
    rw [green_twice] at this; exact this
  have HO : ∀ W, PlacesR W W.heap.size (some ⟨w.heap.size, 0, none⟩) green → Calls Try.prog 12 #[.slice (some ⟨w.heap.size, 0, none⟩) 6 6, .agg #[.int .i64 3, .int .i64 3]] W fun e w' => e = .returned (.tuple #[.int .i64 (-1), .int .i64 0]) ∧ Below W.heap.size W w' := fun W h => by
    have := contains_ok (some ⟨w.heap.size, 0, none⟩) 6 green (3, 3) W green_good ⟨⟨by decide, by decide⟩, by decide, by decide⟩ h
    rw [green_out] at this; exact this
  have HN : ∀ W, PlacesR W W.heap.size (some ⟨w.heap.size, 0, none⟩) green → Calls Try.prog 12 #[.slice (some ⟨w.heap.size, 0, none⟩) 6 6, .agg #[.int .i64 1, .int .i64 3]] W fun e w' => e = .returned (.tuple #[.int .i64 1, .int .i64 0]) ∧ Below W.heap.size W w' := fun W h => by
    have := contains_ok (some ⟨w.heap.size, 0, none⟩) 6 green (1, 3) W green_good ⟨⟨by decide, by decide⟩, by decide, by decide⟩ h
    rw [green_in] at this; exact this
  refine (HT _ (MK.out _ (Below.refl _ _))).mono ?_; rintro e W2 ⟨rfl, hb2⟩
  go_wp2_with fail
  have hb2' : Below W1.heap.size W1 W2 := hb2
  refine (HO _ (MK.out _ hb2')).mono ?_; rintro e W3 ⟨rfl, hb3⟩
  go_wp2_with fail
  have hb3' : Below W1.heap.size W1 W3 := hb2'.trans (hb3.mono hb2'.size)
  refine (HN _ (MK.out _ hb3')).mono ?_; rintro e W4 ⟨rfl, hb4⟩
  go_wp2_with fail
  have hb4' : Below W1.heap.size W1 W4 := hb3'.trans (hb4.mono hb3'.size)
  refine (root25 _).mono ?_; rintro e W5 ⟨rfl, rfl⟩
  go_wp2
  go_ret
  exact ⟨rfl, hB1.trans (hb4'.mono hB1.size)⟩

end Go.Proofs.Ytclhohfkacgooaa
