/- An append of a number as a step of a region that draws. -/
import Derived.Test.YtclhohfkacgooaaLawM
import Derived.Deep.AppendLies
import Derived.Deep.RegionHeld3
import Derived.RangeFuncOwn
import Derived.Deep.DeepCutAuto
import Derived.Maps.Range
namespace Go.Proofs.Ytclhohfkacgooaa
open Go.RowKit

theorem step_app {w : World} {ops : Array Oper} {o : Oper} {a : Act} {K : Act → World → Prop} {Q : Exit → Act → World → Prop} {E : Prop} (hgd : o.guard = none) (s x : Operand)
    (ho : o.op = .call { callee := .builtin .append, args := #[s, x], argTypes := #[23, 23] }) (base : Nat) (v : Value) (n : Nat) (xs : List Int) (hs : a.eval s = v)
    (hown : w.ownsRow base 3 1 v n (xs.map (Value.int .i64))) (hn : n ≤ 1000) (t c : Nat) (hx : a.eval x = .slice (some ⟨t, 0, none⟩) 1 c) (val : Int) (ht : w.cell? ⟨t, 0, none⟩ = some (.int .i64 val)) (hbase : base ≤ w.heap.size)
    (h : ∀ g cap w', Hid (w'.ownsRow base 3 1 (.slice (some ⟨g, 0, none⟩) (n + 1) cap) (n + 1) ((xs ++ [val]).map (Value.int .i64))) → Hid (w.grownBy w' v.ownBlock) → Hid (v.ownBlock = some g ∨ g = w.heap.size) → Hid (g < w'.heap.size) → K (a.put o.dst (.slice (some ⟨g, 0, none⟩) (n + 1) cap)) w') :
    if Region.wanted o (yielded ops a.tmps) = true then Oper.wp Try.prog o a w K Q else E := by
  obtain ⟨i0, hi, hz0, hz1, hz2⟩ := info_parts info_int
  refine step_append_lies w hgd s x 23 ho base 3 i0 _ 1 8 Try.underlying23 hi hz0 hz1 hz2 rfl (by decide) v n _ hs hown ⟨t, 0, none⟩ 1 c [.int .i64 val] hx rfl
    (fun j u hu => by cases j with | zero => (simp at hu; subst hu; rw [add_zero_at]; exact ht) | succ j => simp at hu)
    (fun u hu => by simp at hu; subst hu; rfl) (by decide) (by unfold maxLen; omega) (by omega) hbase w.heap.size rfl ?_
  intro g cap w' h1 h2 h3 h4
  exact h g cap w' (Lib.hid (by rw [List.map_append]; exact h1)) (Lib.hid h2) (Lib.hid h3) (Lib.hid h4)

theorem far_cell {Y w1 : World} {v : Value} {B : Nat} (hg : Y.grownBy w1 v.ownBlock) (nb : ∀ b, v.ownBlock = some b → b < B) : ∀ t u, B ≤ t → Y.cell? ⟨t, 0, none⟩ = some u → w1.cell? ⟨t, 0, none⟩ = some u := fun t u ht hu => by
  obtain ⟨o, ho, _⟩ := cells_of_cell hu
  rw [← hu]
  exact World.cell?_of_block (hg.block t (Array.getElem?_eq_some_iff.1 ho).1 (fun e => by have := nb t e.symm; omega))
theorem own_block {w : World} {base : Nat} {e : TypeId} {size n : Nat} {v : Value} {xs : List Value} (h : w.ownsRow base e size v n xs) : ∀ b, v.ownBlock = some b → base ≤ b ∧ b < w.heap.size := fun b hb => by
  rcases h.2 with ⟨rfl, _⟩ | ⟨g, cap, cur, rfl, hg, hgb, _⟩
  · simp [Value.ownBlock] at hb
  · simp [Value.ownBlock] at hb
    subst hb
    exact ⟨hg, (Array.getElem?_eq_some_iff.1 hgb).1⟩

/-- Cells of blocks just laid, one to three of them, behind a draw. -/
theorem cell_t1 (W : World) (v : Value) (T : TypeId) : (W.alloc (.cells #[v] T)).drew.cell? ⟨W.heap.size, 0, none⟩ = some v := (cell_of_row (W.alloc (.cells #[v] T)) W.heap.size 0 _ _ _ (heap_alloc_new W _)).trans rfl
theorem cell_t2 (W : World) (o : Obj) (v : Value) (T : TypeId) : ((W.alloc o).alloc (.cells #[v] T)).drew.cell? ⟨W.heap.size + 1, 0, none⟩ = some v := by
  have := cell_t1 (W.alloc o) v T; rwa [World.size_alloc] at this
theorem cell_t3 (W : World) (o o' : Obj) (v : Value) (T : TypeId) : (((W.alloc o).alloc o').alloc (.cells #[v] T)).drew.cell? ⟨W.heap.size + 1 + 1, 0, none⟩ = some v := by
  have := cell_t1 ((W.alloc o).alloc o') v T; rwa [World.size_alloc, World.size_alloc] at this
theorem cell_m2 (W : World) (o : Obj) (v : Value) (T : TypeId) : ((W.alloc (.cells #[v] T)).alloc o).drew.cell? ⟨W.heap.size, 0, none⟩ = some v :=
  (World.cell?_alloc_lt (W.alloc (.cells #[v] T)) o ⟨W.heap.size, 0, none⟩ (by simp)).trans (cell_t1 W v T)
theorem cell_m3 (W : World) (o o' : Obj) (v : Value) (T : TypeId) : (((W.alloc o).alloc (.cells #[v] T)).alloc o').drew.cell? ⟨W.heap.size + 1, 0, none⟩ = some v :=
  (World.cell?_alloc_lt ((W.alloc o).alloc (.cells #[v] T)) o' ⟨W.heap.size + 1, 0, none⟩ (by simp)).trans (cell_t2 W o v T)
theorem cell_l3 (W : World) (o o' : Obj) (v : Value) (T : TypeId) : (((W.alloc (.cells #[v] T)).alloc o).alloc o').drew.cell? ⟨W.heap.size, 0, none⟩ = some v :=
  (World.cell?_alloc_lt ((W.alloc (.cells #[v] T)).alloc o) o' ⟨W.heap.size, 0, none⟩ (by simp; omega)).trans (cell_m2 W o v T)

theorem g_alloc {w w' : World} (h : w.grownBy w' none) (o : Obj) : w.grownBy (w'.alloc o) none := h.trans (World.grownBy_alloc w' o none)
theorem g_drew {w w' : World} (h : w.grownBy w' none) : w.grownBy w'.drew none := ⟨h.os, h.tape, h.output, h.size, h.block⟩
theorem g_cell {w w' : World} (h : w.grownBy w' none) {a : Addr} {v : Value} (hc : w.cell? a = some v) : w'.cell? a = some v := h.cell hc (by simp)
theorem below_grown {w w' : World} {row : Option Nat} {B : Nat} (hB : B ≤ w.heap.size) (h : w.grownBy w' row) (hr : ∀ b, row = some b → B ≤ b) : Below B w w' := (Below.refl B w).grown h hB hr
theorem ne_turn {a b : Option Nat} (h : a = none ∨ a ≠ b) : b = none ∨ b ≠ a := by
  rcases h with rfl | h
  · cases b with | none => exact .inl rfl | some b => exact .inr (by simp)
  · exact .inr fun e => h e.symm

/-- The step, over a world from which the one at hand came by blocks laid and draws alone. -/
theorem step_app2 {w : World} {ops : Array Oper} {o : Oper} {a : Act} {K : Act → World → Prop} {Q : Exit → Act → World → Prop} {E : Prop} (hgd : o.guard = none) (s x : Operand)
    (ho : o.op = .call { callee := .builtin .append, args := #[s, x], argTypes := #[23, 23] }) (base : Nat) (v : Value) (n : Nat) (xs : List Int) (hs : a.eval s = v)
    (W0 : World) (hown : W0.ownsRow base 3 1 v n (xs.map (Value.int .i64))) (hn : n ≤ 1000) (hb0 : base ≤ W0.heap.size) (val : Int) (G : W0.grownBy w none) (t c : Nat) (hx : a.eval x = .slice (some ⟨t, 0, none⟩) 1 c) (ht : w.cell? ⟨t, 0, none⟩ = some (.int .i64 val))
    (h : ∀ g cap w', Hid (w'.ownsRow base 3 1 (.slice (some ⟨g, 0, none⟩) (n + 1) cap) (n + 1) ((xs ++ [val]).map (Value.int .i64))) → Hid (W0.grownBy w' v.ownBlock) → Hid (v.ownBlock = some g ∨ W0.heap.size ≤ g) → Hid (g < w'.heap.size) → Hid (∀ (t : Nat) (u : Value), (∀ b, v.ownBlock = some b → b < t) → w.cell? ⟨t, 0, none⟩ = some u → w'.cell? ⟨t, 0, none⟩ = some u) → K (a.put o.dst (.slice (some ⟨g, 0, none⟩) (n + 1) cap)) w') :
    if Region.wanted o (yielded ops a.tmps) = true then Oper.wp Try.prog o a w K Q else E := by
  have hown' : w.ownsRow base 3 1 v n (xs.map (Value.int .i64)) := hown.kept G (by cases v.ownBlock <;> simp)
  refine step_app hgd s x ho base v n xs hs hown' hn t c hx val ht (Nat.le_trans hb0 G.size) ?_
  intro g cap w' h1 h2 h3 h4
  refine h g cap w' h1 (Lib.hid ((World.grownBy.but G _).trans h2.out)) (Lib.hid ?_) h4 (Lib.hid fun t u hb hu => h2.out.cell hu (fun e => absurd (hb t e.symm) (Nat.lt_irrefl _)))
  rcases h3.out with e | e
  · exact .inl e
  · exact .inr (by rw [e]; exact G.size)

theorem cell_n1 (W : World) (v : Value) (T : TypeId) : (W.alloc (.cells #[v] T)).cell? ⟨W.heap.size, 0, none⟩ = some v := cell_t1 W v T
theorem cell_n2 (W : World) (o : Obj) (v : Value) (T : TypeId) : ((W.alloc o).alloc (.cells #[v] T)).cell? ⟨W.heap.size + 1, 0, none⟩ = some v := cell_t2 W o v T
theorem cell_k2 (W : World) (o : Obj) (v : Value) (T : TypeId) : ((W.alloc (.cells #[v] T)).alloc o).cell? ⟨W.heap.size, 0, none⟩ = some v := cell_m2 W o v T

theorem minL_getD (a b : List Int) (k : Nat) (h : k < a.length) : (minL a b).getD k 0 = min (a.getD k 0) (b.getD k 0) := by simp [minL, List.getD, List.getElem?_map, List.getElem?_range h]
theorem maxL_getD (a b : List Int) (k : Nat) (h : k < a.length) : (maxL a b).getD k 0 = max (a.getD k 0) (b.getD k 0) := by simp [maxL, List.getD, List.getElem?_map, List.getElem?_range h]
theorem ne_new {a b : Option Nat} {g B : Nat} (h3 : a = some g ∨ B ≤ g) (x : a = none ∨ a ≠ b) (n : ∀ c, b = some c → c < B) : some g ≠ b := by
  rcases h3 with rfl | h3
  · rcases x with x | x
    · simp at x
    · exact x
  · intro e; have := n g e.symm; omega
theorem ne_two {b : Option Nat} {g g' B : Nat} (h3 : b = some g' ∨ B ≤ g') (x : some g ≠ b) (hg : g < B) : some g ≠ some g' := by
  rcases h3 with rfl | h3
  · exact x
  · intro e; injection e with e; omega

end Go.Proofs.Ytclhohfkacgooaa
