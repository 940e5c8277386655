/- The program's checkEntry returns entryI. -/
import Derived.Test.YtmnmdeehcdfkfaaDoorCardH
import Derived.Test.YtmnmdeehcdfkfaaDoorCardC
import Derived.Deep.RegionWith
import Derived.Laws.EntriesVeiled
namespace Go.Proofs.YtmnmdeehcdfkfaaDoor
open Go.RowKit

theorem marks_at (w : World) (g : Nat) (h : w.heap.size = g) : (w.alloc marksObj).heap[g]? = some marksObj := by
  subst h
  exact (MapKept.heap_alloc w _).1
theorem marks_past (w : World) (g : Nat) (o : Obj) (h : w.heap[g]? = some marksObj) : (w.alloc o).heap[g]? = some marksObj := by
  have hl : g < w.heap.size := by
    rcases Nat.lt_or_ge g w.heap.size with hlt | hge
    · exact hlt
    · rw [Array.getElem?_eq_none hge] at h; cases h
  exact (Below.heap_alloc w o g hl).trans h

set_option maxRecDepth 100000 in
set_option maxHeartbeats 4000000 in
theorem checkEntry_none (n : Int) (m : ByteArray) (w : World) (hv : markVal m = none) :
    Calls Tryd.prog 54 #[.agg #[.int .i64 n, .string m]] w fun e w' => e = .returned (.int .i64 (13)) ∧ Below w.heap.size w w' := by
  have l1 := fun (B : Obj) => look_marks ((w.alloc B).alloc marksObj).drew (w.heap.size + 1) m (marks_at (w.alloc B) _ (by simp))
  have l2 := fun (B C : Obj) => look_marks (((w.alloc B).alloc marksObj).alloc C).drew (w.heap.size + 1) m (marks_past _ _ _ (marks_at (w.alloc B) _ (by simp)))
  have l3 := fun (B C : Obj) => look_marks (((w.alloc B).alloc C).alloc marksObj).drew (w.heap.size + 2) m (marks_at ((w.alloc B).alloc C) _ (by simp))
  rw [hv] at l1 l2 l3
  simp only [fnV] at l1 l2 l3
  clear hv
  go_enter Tryd.func54, Tryd.ntmps54
  go_wp2
  go_region_with (go_at_call 60; refine (marks_any _).mono ?_; rintro e w1 ⟨rfl, rfl⟩)
  all_goals
    go_wp2
    all_goals go_ret
    all_goals refine ⟨by first | rfl | (simp [unlessI] <;> omega), ?_⟩
    all_goals repeat first | exact Below.refl _ _ | apply Below.drew | refine Below.alloc ?_ (by simp <;> omega) _ | refine Below.setCell ?_ (by simp <;> omega) _

set_option maxRecDepth 100000 in
set_option maxHeartbeats 4000000 in
theorem checkEntry_played (n : Int) (m : ByteArray) (w : World) (g : Nat) (hv : markVal m = some (62, g)) :
    Calls Tryd.prog 54 #[.agg #[.int .i64 n, .string m]] w fun e w' => e = .returned (.int .i64 (if 1 ≤ n ∧ n ≤ 99 then 0 else 3)) ∧ Below w.heap.size w w' := by
  have l1 := fun (B : Obj) => look_marks ((w.alloc B).alloc marksObj).drew (w.heap.size + 1) m (marks_at (w.alloc B) _ (by simp))
  have l2 := fun (B C : Obj) => look_marks (((w.alloc B).alloc marksObj).alloc C).drew (w.heap.size + 1) m (marks_past _ _ _ (marks_at (w.alloc B) _ (by simp)))
  have l3 := fun (B C : Obj) => look_marks (((w.alloc B).alloc C).alloc marksObj).drew (w.heap.size + 2) m (marks_at ((w.alloc B).alloc C) _ (by simp))
  rw [hv] at l1 l2 l3
  simp only [fnV] at l1 l2 l3
  clear hv
  go_enter Tryd.func54, Tryd.ntmps54
  go_wp2
  go_region_with (go_at_call 60; refine (marks_any _).mono ?_; rintro e w1 ⟨rfl, rfl⟩)
  all_goals
    go_wp2_with (first | (go_at_call 62; refine (played_any _ _).mono ?_; rintro e w1 ⟨rfl, rfl⟩) | (go_at_call 33; refine (unless_any _ _ _).mono ?_; rintro e w1 ⟨rfl, rfl⟩))
    all_goals go_ret
    all_goals refine ⟨by first | rfl | (simp [unlessI] <;> omega), ?_⟩
    all_goals repeat first | exact Below.refl _ _ | apply Below.drew | refine Below.alloc ?_ (by simp <;> omega) _ | refine Below.setCell ?_ (by simp <;> omega) _

set_option maxRecDepth 100000 in
set_option maxHeartbeats 4000000 in
theorem checkEntry_unplayed (n : Int) (m : ByteArray) (w : World) (g : Nat) (hv : markVal m = some (63, g)) :
    Calls Tryd.prog 54 #[.agg #[.int .i64 n, .string m]] w fun e w' => e = .returned (.int .i64 (if n = 0 then 0 else 3)) ∧ Below w.heap.size w w' := by
  have l1 := fun (B : Obj) => look_marks ((w.alloc B).alloc marksObj).drew (w.heap.size + 1) m (marks_at (w.alloc B) _ (by simp))
  have l2 := fun (B C : Obj) => look_marks (((w.alloc B).alloc marksObj).alloc C).drew (w.heap.size + 1) m (marks_past _ _ _ (marks_at (w.alloc B) _ (by simp)))
  have l3 := fun (B C : Obj) => look_marks (((w.alloc B).alloc C).alloc marksObj).drew (w.heap.size + 2) m (marks_at ((w.alloc B).alloc C) _ (by simp))
  rw [hv] at l1 l2 l3
  simp only [fnV] at l1 l2 l3
  clear hv
  go_enter Tryd.func54, Tryd.ntmps54
  go_wp2
  go_region_with (go_at_call 60; refine (marks_any _).mono ?_; rintro e w1 ⟨rfl, rfl⟩)
  all_goals
    go_wp2_with (first | (go_at_call 63; refine (unplayed_any _ _).mono ?_; rintro e w1 ⟨rfl, rfl⟩) | (go_at_call 33; refine (unless_any _ _ _).mono ?_; rintro e w1 ⟨rfl, rfl⟩))
    all_goals go_ret
    all_goals refine ⟨by first | rfl | (simp [unlessI] <;> omega), ?_⟩
    all_goals repeat first | exact Below.refl _ _ | apply Below.drew | refine Below.alloc ?_ (by simp <;> omega) _ | refine Below.setCell ?_ (by simp <;> omega) _

theorem checkEntry_any (n : Int) (m : ByteArray) (w : World) :
    Calls Tryd.prog 54 #[.agg #[.int .i64 n, .string m]] w fun e w' => e = .returned (.int .i64 (entryI n m)) ∧ Below w.heap.size w w' := by
  rcases mark_cases m with ⟨_, _, _, _, h5⟩ | ⟨_, _, _, _, h5⟩ | ⟨_, _, _, _, h5⟩ | ⟨_, _, _, _, h5⟩ | ⟨_, _, _, _, h5⟩
  all_goals unfold entryI; rw [h5]
  · exact checkEntry_played n m w _ (by unfold markVal; rw [h5]; rfl)
  · exact checkEntry_played n m w _ (by unfold markVal; rw [h5]; rfl)
  · exact checkEntry_unplayed n m w _ (by unfold markVal; rw [h5]; rfl)
  · exact checkEntry_unplayed n m w _ (by unfold markVal; rw [h5]; rfl)
  · exact checkEntry_none n m w (by unfold markVal; rw [h5]; rfl)

end Go.Proofs.YtmnmdeehcdfkfaaDoor
