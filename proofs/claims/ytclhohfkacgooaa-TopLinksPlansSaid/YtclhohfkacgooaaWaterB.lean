/- watered: the first rounds for the flows, as wat has them; the rounds' rests are as they were. -/
import Derived.Test.YtclhohfkacgooaaRowI
import Derived.Test.YtclhohfkacgooaaWaterM
import Derived.Deep.QuietTactic
import Derived.BigQuiet
import Derived.RegionTactic
import Derived.Maps.AppendAt
import Derived.Laws.AppendOwnNone
namespace Go.Proofs.Ytclhohfkacgooaa
open Go.RowKit WaterMath

/-- An append whose run is known. -/
theorem wpList_append_run {P : Program} {w : World} {ops : Array Oper} {rest : List Oper} {o : Oper} {a : Act} {Q : Exit → Act → World → Prop} (hgd : o.guard = none) (s x : Operand) (t : TypeId)
    (ho : o.op = .call { callee := .builtin .append, args := #[s, x], argTypes := #[t, t] }) (v1 v2 v' : Value) (w' : World) (h1 : a.eval s = v1) (h2 : a.eval x = v2)
    (hrun : (Builtin.append_ #[t, t] o.type #[v1, v2]).run P w = .ok v' w') (h : wpList P ops Q rest (a.put o.dst v') w') : wpList P ops Q (o :: rest) a w := by
  refine wpList_plain hgd fun K hK => ?_
  unfold Oper.wp execOp
  simp only [ho, resolve, invoke, builtin, Sem.run_bind, Sem.run_pure, Result.andThen_ok, List.map_toArray, List.map_cons, List.map_nil, h1, h2, hrun]
  exact hK _ _ h

def intsV (ss : List Nat) : List Value := ss.map fun (s : Nat) => Value.int .i64 (s : Int)

/-- append([]int{x}, others...). -/
theorem append_round (w : World) (base : Nat) (x : Nat) (v : Value) (ss : List Nat) (hb : base ≤ w.heap.size) (hl : ss.length ≤ 1000) (hown : w.ownsRow base 3 1 v ss.length (intsV ss)) :
    ∃ v' w', (Builtin.append_ #[23, 23] 23 #[.slice (some ⟨w.heap.size, 0, none⟩) 1 1, v]).run Try.prog (w.alloc (.cells #[.int .i64 (x : Int)] 3)) = .ok v' w' ∧
      Hid (w'.ownsRow base 3 1 v' (x :: ss).length (intsV (x :: ss))) ∧ Hid (Below w.heap.size w w') := by
  obtain ⟨i0, hi, hz0, hz1, hz2⟩ := info_parts info_int
  have hd : (w.alloc (.cells #[.int .i64 (x : Int)] 3)).ownsRow base 3 1 (.slice (some ⟨w.heap.size, 0, none⟩) 1 1) 1 [.int .i64 (x : Int)] :=
    ⟨rfl, .inr ⟨w.heap.size, 1, _, rfl, hb, heap_alloc_new w _, Nat.le_refl _, by unfold maxLen; omega, rfl, rfl⟩⟩
  rcases hown.2 with ⟨rfl, h0⟩ | ⟨g, cap, cur, rfl, hg, hgb, hnc, hcm, hcs, htk⟩
  · have hs : ss = [] := List.eq_nil_of_length_eq_zero h0
    subst hs
    exact ⟨_, _, run_append_owned_none (P := Try.prog) _ base 23 23 3 i0 1 Try.underlying23 hi _ _ _ hd, Lib.hid hd, Lib.hid ((Below.refl _ w).alloc (Nat.le_refl _) _)⟩
  · have hcell : ∀ j u, (intsV ss)[j]? = some u → (w.alloc (.cells #[.int .i64 (x : Int)] 3)).cell? (Addr.add ⟨g, 0, none⟩ j) = some u := fun j u hu => by
      have hgl : g < w.heap.size := by
        rcases Nat.lt_or_ge g w.heap.size with h | h
        · exact h
        · rw [Array.getElem?_eq_none h] at hgb; cases hgb
      rw [add_zero_at, World.cell?_alloc_lt _ _ _ hgl, cell_of_row w g j _ _ _ hgb]
      rw [← htk] at hu
      rcases Nat.lt_or_ge j (ss.length * 1) with h | h
      · rw [List.getElem?_take_of_lt h] at hu
        simpa using hu
      · rw [List.getElem?_take_eq_none h] at hu; cases hu
    obtain ⟨v', w', hrun, h2, h3, _, h5⟩ := run_append_own_at (P := Try.prog) (w.alloc (.cells #[.int .i64 (x : Int)] 3)) base 23 23 3 i0 (.int .i64 0) 1 8 Try.underlying23 hi hz0 hz1 hz2 rfl (by decide) _ _ _ hd ⟨g, 0, none⟩ ss.length cap (intsV ss) (by simp [intsV]) hcell
      (fun u hu => by obtain ⟨y, _, rfl⟩ := List.mem_map.1 hu; rfl) (by unfold maxLen; omega) (by omega) (by simp; omega)
    refine ⟨v', w', hrun, Lib.hid ?_, Lib.hid ?_⟩
    · have e : (x :: ss).length = 1 + ss.length := by simp; omega
      rw [e]; exact h2
    · exact ((Below.refl _ w).alloc (Nat.le_refl _) _).grown h3 (by simp) (fun k e => by cases e; exact Nat.le_refl _)

theorem restore {wr w2 : World} {g r : Nat} {left : List Int} (x : Int) (hrow : RowI wr g left) (hr : r < left.length) (hb : Below wr.heap.size (wr.setCell ⟨g, r, none⟩ (.int .i64 x)) w2) :
    Below wr.heap.size wr (w2.setCell ⟨g, r, none⟩ (.int .i64 (left.getD r 0))) ∧ RowI (w2.setCell ⟨g, r, none⟩ (.int .i64 (left.getD r 0))) g left := by
  have h2 : RowI w2 g (left.set r x) := (hrow.set r x).below hb hrow.lt
  have h3 : RowI (w2.setCell ⟨g, r, none⟩ (.int .i64 (left.getD r 0))) g left := by
    have := h2.set r (left.getD r 0)
    rwa [List.set_set, show left.set r (left.getD r 0) = left from by rw [List.getD, List.getElem?_eq_getElem hr]; simp] at this
  refine ⟨⟨hb.os, hb.tape, hb.output, by have := hb.size; simpa [World.setCell] using this, fun k hk => ?_⟩, h3⟩
  by_cases e : k = g
  · subst e
    exact h3.trans hrow.symm
  · rw [Below.heap_setCell _ _ _ k e, hb.block k hk, Below.heap_setCell _ _ _ k e]

/-- One step of the search. -/
def watF (f : Int) (fs left : List Int) (r : Nat) : Option (List Nat) := if left.getD r 0 < f then none else (wat fs (left.set r (left.getD r 0 - f))).map (r :: ·)
theorem wat_cons (f : Int) (fs left : List Int) : wat (f :: fs) left = (List.range left.length).findSome? (watF f fs left) := rfl
theorem find_none {α : Type} (F : Nat → Option α) (n : Nat) (h : ∀ r, r < n → F r = none) : (List.range n).findSome? F = none := by
  rw [List.findSome?_eq_none_iff]; exact fun x hx => h x (List.mem_range.1 hx)
theorem find_first {α : Type} (F : Nat → Option α) (n r : Nat) (x : α) (hr : r < n) (h : ∀ q, q < r → F q = none) (hx : F r = some x) : (List.range n).findSome? F = some x := by
  obtain ⟨d, rfl⟩ : ∃ d, n = r + (d + 1) := ⟨n - r - 1, by omega⟩
  rw [List.range_add, List.findSome?_append, find_none F r h]
  simp [List.range_succ_eq_map, hx]

def WatOut (fs left : List Int) (w : World) (e : Ending) (w' : World) : Prop :=
  (wat fs left = none ∧ e = .returned (.tuple #[.slice none 0 0, .bool false]) ∨
    ∃ ss v, wat fs left = some ss ∧ e = .returned (.tuple #[v, .bool true]) ∧ w'.ownsRow w.heap.size 3 1 v ss.length (intsV ss)) ∧ Below w.heap.size w w'

end Go.Proofs.Ytclhohfkacgooaa
