/- Rows of integers in blocks of the call's own. -/
import Derived.Test.YtclhohfkacgooaaCourB
import Derived.Laws.MakeOwn
import Derived.Laws.CopyOwn
import Derived.Deep.Draws
namespace Go.Proofs.Ytclhohfkacgooaa
open Go.RowKit

def rowI (xs : List Int) : Array Value := (xs.map (Value.int .i64)).toArray
def nils (n : Nat) : List Int := List.replicate n 0
theorem size_rowI (xs : List Int) : (rowI xs).size = xs.length := by simp [rowI]
theorem rowI_at (xs : List Int) (j : Nat) (h : j < xs.length) : (rowI xs)[j]? = some (.int .i64 (xs.getD j 0)) := by
  simp [rowI, List.getElem?_eq_getElem h, List.getD]
theorem rowI_set (xs : List Int) (k : Nat) (y : Int) : (rowI xs).setIfInBounds k (.int .i64 y) = rowI (xs.set k y) := by
  simp [rowI, List.map_set]

/-- Block g holds just these integers. -/
def RowI (w : World) (g : Nat) (xs : List Int) : Prop := w.heap[g]? = some (.cells (rowI xs) 3 (0, 0))

section
variable {w w' : World} {g : Nat} {xs : List Int}
theorem RowI.lt (h : RowI w g xs) : g < w.heap.size := by
  rcases Nat.lt_or_ge g w.heap.size with hlt | hge
  · exact hlt
  · unfold RowI at h; rw [Array.getElem?_eq_none hge] at h; cases h
theorem RowI.cell (h : RowI w g xs) {j : Nat} (hj : j < xs.length) : w.cell? ⟨g, j, none⟩ = some (.int .i64 (xs.getD j 0)) := by
  rw [cell_of_row w g j _ _ _ h, rowI_at xs j hj]
theorem RowI.frozen (h : RowI w g xs) (j : Nat) : w.frozen? ⟨g, j, none⟩ = false := by
  unfold RowI at h
  simp [World.frozen?, h]
theorem add_zero_at (g j : Nat) : (Addr.add ⟨g, 0, none⟩ j) = ⟨g, j, none⟩ := by
  unfold Addr.add
  split
  · rename_i h0; rw [h0]
  · simp
theorem RowI.ints (h : RowI w g xs) {B : Nat} (hB : g < B) : IntsAt w B (some ⟨g, 0, none⟩) xs := fun j hj =>
  ⟨_, rfl, hB, by rw [add_zero_at]; exact h.cell hj⟩
theorem RowI.new (w : World) (xs : List Int) : RowI (w.alloc (.cells (rowI xs) 3)) w.heap.size xs := heap_alloc_new w _
theorem RowI.drew (h : RowI w g xs) : RowI w.drew g xs := h
theorem RowI.drewN (h : RowI w g xs) (n : Nat) : RowI (w.drewN n) g xs := h
theorem RowI.below {B : Nat} (h : RowI w g xs) (hb : Below B w w') (hg : g < B) : RowI w' g xs := (hb.block g hg).trans h
theorem RowI.alloc (h : RowI w g xs) (o : Obj) : RowI (w.alloc o) g xs := (Below.heap_alloc w o g h.lt).trans h
theorem RowI.far (h : RowI w g xs) {p : Addr} (hp : g ≠ p.block) (u : Value) : RowI (w.setCell p u) g xs := (Below.heap_setCell w p u g hp).trans h
theorem RowI.grown {row : Option Nat} (h : RowI w g xs) (hb : w.grownBy w' row) (hg : some g ≠ row) : RowI w' g xs := (hb.block g h.lt hg).trans h
theorem RowI.set (h : RowI w g xs) (k : Nat) (y : Int) : RowI (w.setCell ⟨g, k, none⟩ (.int .i64 y)) g (xs.set k y) := by
  unfold RowI at h ⊢
  simp [World.setCell, Array.getElem?_modify, h, rowI_set]
theorem RowI.eq_ (h : RowI w g xs) {ys : List Int} (e : xs = ys) : RowI w g ys := e ▸ h
end

/-- Block g is just these cells of type t, none frozen. -/
def BlkV (w : World) (g : Nat) (t : TypeId) (cs : Array Value) : Prop := w.heap[g]? = some (.cells cs t (0, 0))
section
variable {w w' : World} {g : Nat} {t : TypeId} {cs : Array Value}
theorem BlkV.lt (h : BlkV w g t cs) : g < w.heap.size := by
  rcases Nat.lt_or_ge g w.heap.size with hlt | hge
  · exact hlt
  · unfold BlkV at h; rw [Array.getElem?_eq_none hge] at h; cases h
theorem BlkV.cell (h : BlkV w g t cs) (i : Nat) : w.cell? ⟨g, i, none⟩ = cs[i]? := cell_of_row w g i _ _ _ h
theorem BlkV.frozen (h : BlkV w g t cs) (j : Nat) : w.frozen? ⟨g, j, none⟩ = false := by
  unfold BlkV at h
  simp [World.frozen?, h]
theorem BlkV.new (w : World) (t : TypeId) (cs : Array Value) : BlkV (w.alloc (.cells cs t)) w.heap.size t cs := heap_alloc_new w _
theorem BlkV.below {B : Nat} (h : BlkV w g t cs) (hb : Below B w w') (hg : g < B) : BlkV w' g t cs := (hb.block g hg).trans h
theorem BlkV.alloc (h : BlkV w g t cs) (o : Obj) : BlkV (w.alloc o) g t cs := (Below.heap_alloc w o g h.lt).trans h
theorem BlkV.drew (h : BlkV w g t cs) : BlkV w.drew g t cs := h
theorem BlkV.far (h : BlkV w g t cs) {p : Addr} (hp : g ≠ p.block) (u : Value) : BlkV (w.setCell p u) g t cs := (Below.heap_setCell w p u g hp).trans h
theorem BlkV.grown {row : Option Nat} (h : BlkV w g t cs) (hb : w.grownBy w' row) (hg : some g ≠ row) : BlkV w' g t cs := (hb.block g h.lt hg).trans h
theorem BlkV.set (h : BlkV w g t cs) (i : Nat) (u : Value) : BlkV (w.setCell ⟨g, i, none⟩ u) g t (cs.setIfInBounds i u) := by
  unfold BlkV at h ⊢
  simp [World.setCell, Array.getElem?_modify, h]
end

theorem info_int : (Try.prog.info? 3).map (fun i => (i.zero, i.size, i.bytes)) = some (some (.int .i64 0), 1, 8) := by kernel_rfl

theorem made_nils (n : Nat) : madeCells (Value.int .i64 0).cells n = rowI (nils n) := by
  unfold madeCells rowI nils
  apply Array.ext
  · simp
  · intro i h1 h2
    simp [Value.cells, Nat.mod_one]

theorem make_ints (n : Nat) (hn : n ≤ 1073741824) (w : World) :
    (Instr.makeSlice 23 (.int .i64 (n : Int)) (.int .i64 (n : Int))).run Try.prog w = .ok (.slice (some ⟨w.heap.size, 0, none⟩) n n) (w.alloc (.cells (rowI (nils n)) 3)) := by
  obtain ⟨i0, hi, hz0, hz1, hz2⟩ := info_parts info_int
  have hr := run_make (P := Try.prog) w 23 3 i0 (.int .i64 0) Try.underlying23 hi hz0 .i64 .i64 n n (by omega) (by omega) (by rw [hz2]; omega) (by omega)
  rw [hz1] at hr
  simp only [Int.toNat_natCast, Nat.mul_one] at hr
  rw [made_nils] at hr
  exact hr

end Go.Proofs.Ytclhohfkacgooaa
