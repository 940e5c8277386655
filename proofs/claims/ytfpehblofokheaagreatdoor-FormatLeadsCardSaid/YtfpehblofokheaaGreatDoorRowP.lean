/- Rows of integers in blocks of one's own, with room behind them. -/
import Derived.Test.YtfpehblofokheaaGreatDoorMgC
import Derived.Outline
set_option linter.unusedVariables false
set_option linter.unusedSimpArgs false
namespace Go.Proofs.YtfpehblofokheaaGreatDoor
open Go.RowKit

/-- Block g begins with these integers; behind them lies what is never looked at. -/
def PreR (w : World) (g : Nat) (ys : List Int) (rest : List Value) : Prop := w.heap[g]? = some (.cells (ys.map (Value.int .i64) ++ rest).toArray 3 (0, 0))
section
variable {w w' : World} {g : Nat} {ys : List Int} {rest : List Value}
theorem PreR.lt (h : PreR w g ys rest) : g < w.heap.size := by
  rcases Nat.lt_or_ge g w.heap.size with hlt | hge
  · exact hlt
  · unfold PreR at h; rw [Array.getElem?_eq_none hge] at h; cases h
theorem PreR.cell (h : PreR w g ys rest) {j : Nat} (hj : j < ys.length) : w.cell? ⟨g, j, none⟩ = some (.int .i64 (ys.getD j 0)) := by
  rw [cell_of_row w g j _ _ _ h]
  simp [List.getElem?_append_left (show j < (ys.map (Value.int .i64)).length by simpa using hj), List.getElem?_eq_getElem hj, List.getD]
theorem PreR.frozen (h : PreR w g ys rest) (j : Nat) : w.frozen? ⟨g, j, none⟩ = false := by
  unfold PreR at h
  simp [World.frozen?, h]
theorem PreR.set (h : PreR w g ys rest) {k : Nat} (hk : k < ys.length) (y : Int) : PreR (w.setCell ⟨g, k, none⟩ (.int .i64 y)) g (ys.set k y) rest := by
  unfold PreR at h ⊢
  simp [World.setCell, Array.getElem?_modify, h, List.map_set, List.set_append_left _ _ (show k < (ys.map (Value.int .i64)).length by simpa using hk)]
theorem PreR.drew (h : PreR w g ys rest) : PreR w.drew g ys rest := h
theorem PreR.drewN (h : PreR w g ys rest) (n : Nat) : PreR (w.drewN n) g ys rest := h
theorem PreR.eq_ (h : PreR w g ys rest) {zs : List Int} (e : ys = zs) : PreR w g zs rest := e ▸ h
theorem PreR.ints (h : PreR w g ys rest) {B : Nat} (hB : g < B) : IntsAt w B (some ⟨g, 0, none⟩) ys := fun j hj =>
  ⟨_, rfl, hB, by rw [add_zero_at]; exact h.cell hj⟩
theorem PreR.below {B : Nat} (h : PreR w g ys rest) (hb : Below B w w') (hg : g < B) : PreR w' g ys rest := (hb.block g hg).trans h
end

theorem PreR.of_row {w : World} {g : Nat} {xs : List Int} (h : RowI w g xs) : PreR w g xs [] := by
  unfold PreR
  rw [List.append_nil]
  exact h
theorem PreR.alloc {w : World} {g : Nat} {ys : List Int} {rest : List Value} (h : PreR w g ys rest) (o : Obj) : PreR (w.alloc o) g ys rest := (Below.heap_alloc w o g h.lt).trans h
theorem PreR.grown {w w' : World} {g : Nat} {ys : List Int} {rest : List Value} {row : Option Nat} (h : PreR w g ys rest) (hb : w.grownBy w' row) (hg : some g ≠ row) : PreR w' g ys rest := (hb.block g h.lt hg).trans h
/-- What one's own row of integers holds, as a block. -/
theorem PreR.of_own {w : World} {base : Nat} {v : Value} {xs : List Int} (h : w.ownsRow base 3 1 v xs.length (xs.map (Value.int .i64))) (h0 : 0 < xs.length) :
    ∃ g cap rest, v = .slice (some ⟨g, 0, none⟩) xs.length cap ∧ PreR w g xs rest ∧ base ≤ g ∧ xs.length ≤ cap := by
  rcases h.2 with ⟨_, e⟩ | ⟨g, cap, cur, rfl, hg, hgb, hnc, hcm, hcs, htk⟩
  · omega
  · refine ⟨g, cap, cur.toList.drop (xs.length * 1), rfl, ?_, hg, hnc⟩
    unfold PreR
    rw [hgb, ← htk, List.take_append_drop]
end Go.Proofs.YtfpehblofokheaaGreatDoor
