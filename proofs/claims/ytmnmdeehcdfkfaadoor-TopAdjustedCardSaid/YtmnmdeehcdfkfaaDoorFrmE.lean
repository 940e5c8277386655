/- Lists of strokes and marks in rows of the call's own: appended to, kept, read. -/
import Derived.Test.YtmnmdeehcdfkfaaDoorFmtA
import Derived.Deep.RegionLaw
namespace Go.Proofs.YtmnmdeehcdfkfaaDoor
open Go.RowKit

/-- The cells of strokes and marks, two an element. -/
def pairCells (l : List (Int × ByteArray)) : List Value := l.flatMap fun e => [.int .i64 e.1, .string e.2]
theorem pairCells_len : ∀ l : List (Int × ByteArray), (pairCells l).length = l.length * 2
  | [] => rfl
  | e :: l => by have := pairCells_len l; simp only [pairCells, List.flatMap_cons, List.length_append, List.length_cons, List.length_nil] at this ⊢; omega
theorem pairCells_snoc (l : List (Int × ByteArray)) (e : Int × ByteArray) : pairCells (l ++ [e]) = pairCells l ++ [.int .i64 e.1, .string e.2] := by simp [pairCells]
theorem pairCells_at : ∀ (l : List (Int × ByteArray)) (j : Nat), j < l.length → (pairCells l)[j * 2]? = some (.int .i64 (l.getD j (0, ByteArray.empty)).1) ∧ (pairCells l)[j * 2 + 1]? = some (.string (l.getD j (0, ByteArray.empty)).2)
  | [], j, h => by simp at h
  | e :: l, 0, _ => by simp [pairCells]
  | e :: l, j + 1, h => by
    have := pairCells_at l j (by simpa using h)
    simp only [pairCells, List.flatMap_cons, List.cons_append, List.nil_append, show (j + 1) * 2 = j * 2 + 1 + 1 by omega, List.getElem?_cons_succ, List.getD_cons_succ] at this ⊢
    exact this

/-- The slice value v of elements of type TE owns the list l. -/
def PairsOwn (w : World) (base : Nat) (TE : TypeId) (v : Value) (l : List (Int × ByteArray)) : Prop := w.ownsRow base TE 2 v l.length (pairCells l)
section
variable {w w' : World} {base : Nat} {TE : TypeId} {v : Value} {l : List (Int × ByteArray)}
theorem PairsOwn.nil (w : World) (base : Nat) (TE : TypeId) : PairsOwn w base TE (.slice none 0 0) [] := World.ownsRow_nil w base TE 2
theorem PairsOwn.slice (h : PairsOwn w base TE v l) : ∃ A c, v = .slice A l.length c := by
  rcases h.2 with ⟨rfl, h0⟩ | ⟨g, cap, cur, rfl, _⟩
  · exact ⟨none, 0, by rw [h0]⟩
  · exact ⟨_, _, rfl⟩
theorem PairsOwn.block (h : PairsOwn w base TE v l) : ∀ b, v.ownBlock = some b → base ≤ b ∧ b < w.heap.size := World.ownsRow.lt h
theorem PairsOwn.below (h : PairsOwn w base TE v l) (hb : Below w.heap.size w w') : PairsOwn w' base TE v l := by
  refine ⟨h.1, ?_⟩
  rcases h.2 with hn | ⟨g, cap, cur, e1, e2, e3, rest⟩
  · exact .inl hn
  · exact .inr ⟨g, cap, cur, e1, e2, (hb.block g (Array.getElem?_eq_some_iff.1 e3).1).trans e3, rest⟩
theorem PairsOwn.far (h : PairsOwn w base TE v l) {p : Addr} (hp : p.block < base) (u : Value) : PairsOwn (w.setCell p u) base TE v l := by
  refine ⟨h.1, ?_⟩
  rcases h.2 with hn | ⟨g, cap, cur, e1, e2, e3, rest⟩
  · exact .inl hn
  · exact .inr ⟨g, cap, cur, e1, e2, (Below.heap_setCell w p u g (by omega)).trans e3, rest⟩
theorem PairsOwn.entries (h : PairsOwn w base TE v l) : ∃ A c, v = .slice A l.length c ∧ EntriesR w A l := by
  rcases h.2 with ⟨rfl, h0⟩ | ⟨g, cap, cur, rfl, hg, hgb, hnc, hcm, hcs, htk⟩
  · exact ⟨none, 0, by rw [h0], fun j hj => by omega⟩
  · refine ⟨_, _, rfl, fun j hj => ⟨⟨g, 0, none⟩, rfl, ?_, ?_, ?_⟩⟩
    · obtain ⟨p1, p2⟩ := pairCells_at l j hj
      rw [add_zero_at, cell_of_row w g _ _ _ _ hgb]
      rw [← htk, List.getElem?_take_of_lt (by omega)] at p1
      simpa using p1
    · obtain ⟨p1, p2⟩ := pairCells_at l j hj
      rw [add_zero_at, cell_of_row w g _ _ _ _ hgb]
      rw [← htk, List.getElem?_take_of_lt (by omega)] at p2
      simpa using p2
    · rw [add_zero_at]; exact (Array.getElem?_eq_some_iff.1 hgb).1

theorem step_pairs {ops : Array Oper} {o : Oper} {a : Act} {K : Act → World → Prop} {Q : Exit → Act → World → Prop} {E : Prop} (hgd : o.guard = none) (s x : Operand) (T : TypeId)
    (ho : o.op = .call { callee := .builtin .append, args := #[s, x], argTypes := #[T, T] }) (hT : Tryd.prog.underlying T = some (.slice TE))
    (hI : (Tryd.prog.info? TE).map (fun i => (i.zero, i.size, i.bytes)) = some (some (.agg #[.int .i64 0, .string ⟨#[]⟩]), 2, 24))
    (hs : a.eval s = v) (hown : PairsOwn w base TE v l) (hn : l.length ≤ 1000) (t c : Nat) (hx : a.eval x = .slice (some ⟨t, 0, none⟩) 1 c) (y : Int × ByteArray)
    (ht : ∃ ty fr, w.heap[t]? = some (.cells #[.int .i64 y.1, .string y.2] ty fr)) (hbase : base ≤ w.heap.size)
    (h : ∀ g cap w', Hid (PairsOwn w' base TE (.slice (some ⟨g, 0, none⟩) (l.length + 1) cap) (l ++ [y])) → Hid (w.grownBy w' v.ownBlock) → Hid (g < w'.heap.size) → K (a.put o.dst (.slice (some ⟨g, 0, none⟩) (l.length + 1) cap)) w') :
    if Region.wanted o (yielded ops a.tmps) = true then Oper.wp Tryd.prog o a w K Q else E := by
  obtain ⟨i0, hi, hz0, hz1, hz2⟩ := info_parts hI
  obtain ⟨ty, fr, ht⟩ := ht
  refine step_append_lies w hgd s x T ho base TE i0 _ 2 24 hT hi hz0 hz1 hz2 rfl (by decide) v l.length _ hs hown ⟨t, 0, none⟩ 1 c [.int .i64 y.1, .string y.2] hx rfl
    (World.news_of_block ht) (fun u hu => by simp at hu; rcases hu with rfl | rfl <;> rfl) (by decide) (by unfold maxLen; omega) (by omega) hbase w.heap.size rfl ?_
  intro g cap w' h1 h2 h3 h4
  exact h g cap w' (Lib.hid (by unfold PairsOwn; rw [pairCells_snoc, List.length_append]; exact h1)) (Lib.hid h2) (Lib.hid h4)
end

theorem EntriesR.far {w : World} {A : Option Addr} {l : List (Int × ByteArray)} (h : EntriesR w A l) {p : Addr} (hp : ∀ a, A = some a → a.block ≠ p.block) (u : Value) : EntriesR (w.setCell p u) A l := fun j hj => by
  obtain ⟨a, rfl, h0, h1, h2⟩ := h j hj
  have hne : (a.add (j * 2)).block ≠ p.block := by rw [block_of_add]; exact hp a rfl
  have hb := Below.heap_setCell w p u (a.add (j * 2)).block hne
  exact ⟨a, rfl, (World.cell?_of_block hb).trans h0, (World.cell?_of_block (a := ⟨_, _, none⟩) hb).trans h1, by simpa using h2⟩

/-- What is known behind one, two or three new blocks. -/
theorem one_alloc (w : World) (T1 : TypeId) (c1 : Array Value) {W : World} (h : w.alloc (.cells c1 T1) = W) :
    BlkV W w.heap.size T1 c1 ∧ Below w.heap.size w W ∧ W.heap.size = w.heap.size + 1 := by
  subst h
  exact ⟨BlkV.new w T1 c1, (Below.refl _ _).alloc (Nat.le_refl _) _, by simp⟩
theorem two_allocs (w : World) (T1 T2 : TypeId) (c1 c2 : Array Value) {W : World} (h : (w.alloc (.cells c1 T1)).alloc (.cells c2 T2) = W) :
    BlkV W w.heap.size T1 c1 ∧ BlkV W (w.heap.size + 1) T2 c2 ∧ Below w.heap.size w W ∧ W.heap.size = w.heap.size + 1 + 1 := by
  subst h
  refine ⟨(BlkV.new w T1 c1).alloc _, ?_, ((Below.refl _ _).alloc (Nat.le_refl _) _).alloc (by simp) _, by simp⟩
  have := BlkV.new (w.alloc (.cells c1 T1)) T2 c2
  simpa using this
theorem three_allocs (w : World) (T1 T2 T3 : TypeId) (c1 c2 c3 : Array Value) {W : World} (h : ((w.alloc (.cells c1 T1)).alloc (.cells c2 T2)).alloc (.cells c3 T3) = W) :
    BlkV W w.heap.size T1 c1 ∧ BlkV W (w.heap.size + 1) T2 c2 ∧ BlkV W (w.heap.size + 1 + 1) T3 c3 ∧ Below w.heap.size w W ∧ W.heap.size = w.heap.size + 1 + 1 + 1 := by
  subst h
  obtain ⟨h1, h2, h3, h4⟩ := two_allocs w T1 T2 c1 c2 rfl
  refine ⟨h1.alloc _, h2.alloc _, ?_, h3.alloc (by rw [h4]; omega) _, by simp⟩
  have := BlkV.new ((w.alloc (.cells c1 T1)).alloc (.cells c2 T2)) T3 c3
  rwa [h4] at this

theorem info_net : (Tryd.prog.info? 68).map (fun i => (i.zero, i.size, i.bytes)) = some (some (.agg #[.int .i64 0, .string ⟨#[]⟩]), 2, 24) := by kernel_rfl

end Go.Proofs.YtmnmdeehcdfkfaaDoor
