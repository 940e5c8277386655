/- Rows in blocks of the call's own; an element appended. -/
import Derived.Test.YtmnmdeehcdfkfaaDoorCardR
import Derived.Laws.MakeOwn
import Derived.Laws.CopyOwn
import Derived.Deep.RegionWith
import Derived.Deep.RegionHeld3
import Derived.Below
import Derived.Deep.Draws
import Derived.Deep.AppendLies
import Derived.StillTailTactics
import Derived.OwnWalk
namespace Go.Proofs.YtmnmdeehcdfkfaaDoor
open Go.RowKit

theorem block_of_add (a : Addr) (n : Nat) : (a.add n).block = a.block := by unfold Addr.add; split <;> rfl

/-- As Ints, in blocks below B. -/
def IntsAt (w : World) (B : Nat) (A : Option Addr) (xs : List Int) : Prop :=
  ∀ j, j < xs.length → ∃ a, A = some a ∧ a.block < B ∧ w.cell? (a.add j) = some (.int .i64 (xs.getD j 0))
theorem IntsAt.ints {w : World} {B : Nat} {A : Option Addr} {xs : List Int} (h : IntsAt w B A xs) : Ints w A xs := fun j hj => by
  obtain ⟨a, h1, _, h3⟩ := h j hj
  exact ⟨a, h1, h3⟩
theorem IntsAt.below {w w' : World} {B : Nat} {A : Option Addr} {xs : List Int} (h : IntsAt w B A xs) (hb : Below B w w') : IntsAt w' B A xs := fun j hj => by
  obtain ⟨a, h1, h2, h3⟩ := h j hj
  exact ⟨a, h1, h2, (hb.cell (by rw [block_of_add]; exact h2)).trans h3⟩
theorem IntsAt.mono {w : World} {B B' : Nat} {A : Option Addr} {xs : List Int} (h : IntsAt w B A xs) (hb : B ≤ B') : IntsAt w B' A xs := fun j hj => by
  obtain ⟨a, h1, h2, h3⟩ := h j hj
  exact ⟨a, h1, by omega, h3⟩
theorem Ints.drew {w : World} {A : Option Addr} {xs : List Int} (h : Ints w A xs) : Ints w.drew A xs := h

def rowI (xs : List Int) : Array Value := (xs.map (Value.int .i64)).toArray
def nils (n : Nat) : List Int := List.replicate n 0
theorem size_rowI (xs : List Int) : (rowI xs).size = xs.length := by simp [rowI]
theorem rowI_at (xs : List Int) (j : Nat) (h : j < xs.length) : (rowI xs)[j]? = some (.int .i64 (xs.getD j 0)) := by
  simp [rowI, List.getElem?_eq_getElem h, List.getD]
theorem rowI_set (xs : List Int) (k : Nat) (y : Int) : (rowI xs).setIfInBounds k (.int .i64 y) = rowI (xs.set k y) := by
  simp [rowI, List.map_set]

/-- Block g holds just these integers. -/
def RowI (w : World) (g : Nat) (xs : List Int) : Prop := w.heap[g]? = some (.cells (rowI xs) 3 (0, 0))

section
variable {w w' : World} {g : Nat} {xs : List Int}
theorem RowI.lt (h : RowI w g xs) : g < w.heap.size := by
  rcases Nat.lt_or_ge g w.heap.size with hlt | hge
  · exact hlt
  · unfold RowI at h; rw [Array.getElem?_eq_none hge] at h; cases h
theorem RowI.cell (h : RowI w g xs) {j : Nat} (hj : j < xs.length) : w.cell? ⟨g, j, none⟩ = some (.int .i64 (xs.getD j 0)) := by
  rw [cell_of_row w g j _ _ _ h, rowI_at xs j hj]
theorem RowI.frozen (h : RowI w g xs) (j : Nat) : w.frozen? ⟨g, j, none⟩ = false := by
  unfold RowI at h
  simp [World.frozen?, h]
theorem add_zero_at (g j : Nat) : (Addr.add ⟨g, 0, none⟩ j) = ⟨g, j, none⟩ := by
  unfold Addr.add
  split
  · rename_i h0; rw [h0]
  · simp
theorem RowI.ints (h : RowI w g xs) {B : Nat} (hB : g < B) : IntsAt w B (some ⟨g, 0, none⟩) xs := fun j hj =>
  ⟨_, rfl, hB, by rw [add_zero_at]; exact h.cell hj⟩
theorem RowI.new (w : World) (xs : List Int) : RowI (w.alloc (.cells (rowI xs) 3)) w.heap.size xs := heap_alloc_new w _
theorem RowI.drew (h : RowI w g xs) : RowI w.drew g xs := h
theorem RowI.drewN (h : RowI w g xs) (n : Nat) : RowI (w.drewN n) g xs := h
theorem RowI.below {B : Nat} (h : RowI w g xs) (hb : Below B w w') (hg : g < B) : RowI w' g xs := (hb.block g hg).trans h
theorem RowI.alloc (h : RowI w g xs) (o : Obj) : RowI (w.alloc o) g xs := (Below.heap_alloc w o g h.lt).trans h
theorem RowI.far (h : RowI w g xs) {p : Addr} (hp : g ≠ p.block) (u : Value) : RowI (w.setCell p u) g xs := (Below.heap_setCell w p u g hp).trans h
theorem RowI.grown {row : Option Nat} (h : RowI w g xs) (hb : w.grownBy w' row) (hg : some g ≠ row) : RowI w' g xs := (hb.block g h.lt hg).trans h
theorem RowI.set (h : RowI w g xs) (k : Nat) (y : Int) : RowI (w.setCell ⟨g, k, none⟩ (.int .i64 y)) g (xs.set k y) := by
  unfold RowI at h ⊢
  simp [World.setCell, Array.getElem?_modify, h, rowI_set]
theorem RowI.eq_ (h : RowI w g xs) {ys : List Int} (e : xs = ys) : RowI w g ys := e ▸ h
end

/-- Block g is just these cells of type t, none frozen. -/
def BlkV (w : World) (g : Nat) (t : TypeId) (cs : Array Value) : Prop := w.heap[g]? = some (.cells cs t (0, 0))
section
variable {w w' : World} {g : Nat} {t : TypeId} {cs : Array Value}
theorem BlkV.lt (h : BlkV w g t cs) : g < w.heap.size := by
  rcases Nat.lt_or_ge g w.heap.size with hlt | hge
  · exact hlt
  · unfold BlkV at h; rw [Array.getElem?_eq_none hge] at h; cases h
theorem BlkV.cell (h : BlkV w g t cs) (i : Nat) : w.cell? ⟨g, i, none⟩ = cs[i]? := cell_of_row w g i _ _ _ h
theorem BlkV.frozen (h : BlkV w g t cs) (j : Nat) : w.frozen? ⟨g, j, none⟩ = false := by
  unfold BlkV at h
  simp [World.frozen?, h]
theorem BlkV.new (w : World) (t : TypeId) (cs : Array Value) : BlkV (w.alloc (.cells cs t)) w.heap.size t cs := heap_alloc_new w _
theorem BlkV.below {B : Nat} (h : BlkV w g t cs) (hb : Below B w w') (hg : g < B) : BlkV w' g t cs := (hb.block g hg).trans h
theorem BlkV.alloc (h : BlkV w g t cs) (o : Obj) : BlkV (w.alloc o) g t cs := (Below.heap_alloc w o g h.lt).trans h
theorem BlkV.drew (h : BlkV w g t cs) : BlkV w.drew g t cs := h
theorem BlkV.far (h : BlkV w g t cs) {p : Addr} (hp : g ≠ p.block) (u : Value) : BlkV (w.setCell p u) g t cs := (Below.heap_setCell w p u g hp).trans h
theorem BlkV.grown {row : Option Nat} (h : BlkV w g t cs) (hb : w.grownBy w' row) (hg : some g ≠ row) : BlkV w' g t cs := (hb.block g h.lt hg).trans h
theorem BlkV.set (h : BlkV w g t cs) (i : Nat) (u : Value) : BlkV (w.setCell ⟨g, i, none⟩ u) g t (cs.setIfInBounds i u) := by
  unfold BlkV at h ⊢
  simp [World.setCell, Array.getElem?_modify, h]
end

theorem info_int : (Tryd.prog.info? 3).map (fun i => (i.zero, i.size, i.bytes)) = some (some (.int .i64 0), 1, 8) := by kernel_rfl

theorem made_nils (n : Nat) : madeCells (Value.int .i64 0).cells n = rowI (nils n) := by
  unfold madeCells rowI nils
  apply Array.ext
  · simp
  · intro i h1 h2
    simp [Value.cells, Nat.mod_one]

theorem make_ints (n : Nat) (hn : n ≤ 1073741824) (w : World) :
    (Instr.makeSlice 38 (.int .i64 (n : Int)) (.int .i64 (n : Int))).run Tryd.prog w = .ok (.slice (some ⟨w.heap.size, 0, none⟩) n n) (w.alloc (.cells (rowI (nils n)) 3)) := by
  obtain ⟨i0, hi, hz0, hz1, hz2⟩ := info_parts info_int
  have hr := run_make (P := Tryd.prog) w 38 3 i0 (.int .i64 0) Tryd.underlying38 hi hz0 .i64 .i64 n n (by omega) (by omega) (by rw [hz2]; omega) (by omega)
  rw [hz1] at hr
  simp only [Int.toNat_natCast, Nat.mul_one] at hr
  rw [made_nils] at hr
  exact hr

theorem ownsRow_slice {w : World} {base : Nat} {e : TypeId} {size n : Nat} {v : Value} {xs : List Value} (h : w.ownsRow base e size v n xs) : ∃ A m c, v = .slice A m c := by
  rcases h.2 with ⟨rfl, _⟩ | ⟨g, cap, _, rfl, _⟩
  · exact ⟨_, _, _, rfl⟩
  · exact ⟨_, _, _, rfl⟩
theorem ownsRow_base {w : World} {base base' : Nat} {e : TypeId} {size n : Nat} {v : Value} {xs : List Value} (h : w.ownsRow base e size v n xs) (hb : base' ≤ base) : w.ownsRow base' e size v n xs := by
  obtain ⟨h1, h2 | ⟨g, cap, cur, e1, e2, e3⟩⟩ := h
  · exact ⟨h1, .inl h2⟩
  · exact ⟨h1, .inr ⟨g, cap, cur, e1, by omega, e3⟩⟩

theorem owns_alloc {w : World} {base : Nat} {e : TypeId} {size n : Nat} {v : Value} {xs : List Value} (h : w.ownsRow base e size v n xs) (o : Obj) : (w.alloc o).ownsRow base e size v n xs :=
  h.kept (World.grownBy_alloc w o none) (by rcases h.2 with ⟨rfl, _⟩ | ⟨g, cap, cur, rfl, _⟩ <;> simp [Value.ownBlock])


theorem append_gen (base : Nat) (T TE : TypeId) (z : Value) (size bytes : Nat) (hT : Tryd.prog.underlying T = some (.slice TE)) (hI : (Tryd.prog.info? TE).map (fun i => (i.zero, i.size, i.bytes)) = some (some z, size, bytes)) (hz : z.cells.size = size) (hsz : 0 < size)
    (cs : List Value) (hcs : cs.length = size) (h1 : ∀ u ∈ cs, u.oneCell' = true) (w : World) (v : Value) (n : Nat) (xs : List Value) (hb : base ≤ w.heap.size) (hl : n ≤ 100000) (hbs : bytes ≤ 1000) (hown : w.ownsRow base TE size v n xs) :
    ∃ v' w', (Builtin.append_ #[T, T] T #[v, .slice (some ⟨w.heap.size, 0, none⟩) 1 1]).run Tryd.prog (w.alloc (.cells cs.toArray TE)) = .ok v' w' ∧
      w'.ownsRow base TE size v' (n + 1) (xs ++ cs) ∧ Below base w w' := by
  obtain ⟨i0, hi, hz0, hz1, hz2⟩ := info_parts hI
  have hd := owns_alloc hown (.cells cs.toArray TE)
  have hrow := heap_alloc_new w (.cells cs.toArray TE)
  have hbb : (n + 1) * bytes ≤ 140737488355328 := Nat.le_trans (Nat.mul_le_mul (show n + 1 ≤ 100001 by omega) hbs) (by decide)
  obtain ⟨v', w', hrun, h2, h3, _, _⟩ := run_append_own_at (P := Tryd.prog) (w.alloc (.cells cs.toArray TE)) base T T TE i0 z size bytes hT hi hz0 hz1 hz2 hz hsz v n xs hd ⟨w.heap.size, 0, none⟩ 1 1 cs (by omega)
    (fun j u hu => by rw [add_zero_at, cell_of_row _ _ j _ _ _ hrow]; rw [← hu]; simp)
    h1 (by unfold maxLen; omega) hbb (by simp; omega)
  refine ⟨v', w', hrun, h2, ?_⟩
  refine ((Below.refl base w).alloc hb _).grown h3 (by simp; omega) (fun k e => ?_)
  rcases hown.2 with ⟨rfl, _⟩ | ⟨g, cap, cur, rfl, hg, _⟩
  · simp [Value.ownBlock] at e
  · simp [Value.ownBlock] at e; omega
theorem rows_ints {w : World} {base : Nat} {v : Value} {xs : List Int} (h : w.ownsRow base 3 1 v xs.length (xs.map (Value.int .i64))) : ∃ A c, v = .slice A xs.length c ∧ xs.length ≤ c + 0 ∧ IntsAt w w.heap.size A xs := by
  rcases h.2 with ⟨rfl, h0⟩ | ⟨g, cap, cur, rfl, hg, hgb, hnc, hcm, hcs, htk⟩
  · exact ⟨none, 0, by rw [h0], by omega, fun j hj => by omega⟩
  · refine ⟨_, _, rfl, by omega, fun j hj => ⟨_, rfl, (Array.getElem?_eq_some_iff.1 hgb).1, ?_⟩⟩
    rw [add_zero_at, cell_of_row w g _ _ _ _ hgb]
    have : (xs.map (Value.int .i64))[j]? = some (.int .i64 (xs.getD j 0)) := by simp [List.getElem?_eq_getElem hj, List.getD]
    rw [← htk, List.getElem?_take_of_lt (by omega)] at this
    simpa using this

theorem still_of {P : Program} {f : FuncId} {args : Array Value} {w : World} {v : Value} (h : Calls P f args w fun e w' => e = .returned v ∧ w = w') : Calls P f args w fun e w' => e = .returned v ∧ w' = w :=
  h.mono fun _ _ ⟨a, b⟩ => ⟨a, b.symm⟩

theorem region_still_tail {P : Program} {id : Nat} {Q : Exit → Act → World → Prop} {a : Act} {w : World} {l : List Oper} (n : Nat) (hm : P.follows .mixedOrders = true) (hB : Region.lexTailB .any l.toArray n = true)
    (h : wpStill P l.toArray w.drew (fun a' => wpList P l.toArray Q (l.drop n) a' w.drew) (l.take n) a) : (Code.region id l.toArray true).wp P Q a w := wp_region_still_tail n hm hB h


end Go.Proofs.YtmnmdeehcdfkfaaDoor
