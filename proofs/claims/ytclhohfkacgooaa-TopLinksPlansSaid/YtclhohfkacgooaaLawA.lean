/- The law's appends: a rule to the copied rules, a number to a list. -/
import Derived.Test.YtclhohfkacgooaaPolyK
import Derived.Test.YtclhohfkacgooaaRoundA
import Derived.Test.YtclhohfkacgooaaFitA
import Derived.Test.YtclhohfkacgooaaEarlA
import Derived.Test.YtclhohfkacgooaaFromA
namespace Go.Proofs.Ytclhohfkacgooaa
open Go.RowKit

def ruleV (r : Int × Int × Int) : List Value := [.int .i64 r.1, .int .i64 r.2.1, .int .i64 r.2.2]
def rulesV (rs : List (Int × Int × Int)) : List Value := rs.flatMap ruleV
theorem rulesV_snoc (rs : List (Int × Int × Int)) (r : Int × Int × Int) : rulesV (rs ++ [r]) = rulesV rs ++ ruleV r := by simp [rulesV]
theorem rulesV_at : ∀ (rs : List (Int × Int × Int)) (j i : Nat), j < rs.length → i < 3 → (rulesV rs)[j * 3 + i]? = (ruleV (rs.getD j (0, 0, 0)))[i]?
  | [], j, i, h, _ => absurd h (Nat.not_lt_zero _)
  | r :: rs, 0, i, _, hi => by
    simp only [rulesV, List.flatMap_cons, Nat.zero_mul, Nat.zero_add]
    rw [List.getElem?_append_left (by simpa [ruleV] using hi)]; rfl
  | r :: rs, j + 1, i, h, hi => by
    simp only [rulesV, List.flatMap_cons]
    rw [List.getElem?_append_right (by simp [ruleV]; omega), show (j + 1) * 3 + i - (ruleV r).length = j * 3 + i by simp [ruleV]; omega]
    exact rulesV_at rs j i (by simpa using h) hi

theorem info_rule : (Try.prog.info? 27).map (fun i => (i.zero, i.size, i.bytes)) = some (some (.agg #[.int .i64 0, .int .i64 0, .int .i64 0]), 3, 24) := by kernel_rfl

theorem append_rule (w : World) (base : Nat) (r : Int × Int × Int) (v : Value) (rs : List (Int × Int × Int)) (hb : base ≤ w.heap.size) (hl : (rs.length + 1) * 24 ≤ 140737488355328) (hown : w.ownsRow base 27 3 v rs.length (rulesV rs)) :
    ∃ v' w', (Builtin.append_ #[24, 24] 24 #[v, .slice (some ⟨w.heap.size, 0, none⟩) 1 1]).run Try.prog (w.alloc (.cells #[.int .i64 r.1, .int .i64 r.2.1, .int .i64 r.2.2] 27)) = .ok v' w' ∧
      w'.ownsRow base 27 3 v' (rs.length + 1) (rulesV (rs ++ [r])) ∧ Below base w w' := by
  obtain ⟨i0, hi, hz0, hz1, hz2⟩ := info_parts info_rule
  have hd := hown.kept (World.grownBy_alloc w (.cells #[.int .i64 r.1, .int .i64 r.2.1, .int .i64 r.2.2] 27) none) (by rcases hown.2 with ⟨rfl, _⟩ | ⟨g, cap, cur, rfl, _⟩ <;> simp [Value.ownBlock])
  have hrow := heap_alloc_new w (.cells #[.int .i64 r.1, .int .i64 r.2.1, .int .i64 r.2.2] 27)
  obtain ⟨v', w', hrun, h2, h3, _, _⟩ := run_append_own_at (P := Try.prog) (w.alloc (.cells #[.int .i64 r.1, .int .i64 r.2.1, .int .i64 r.2.2] 27)) base 24 24 27 i0 _ 3 24 Try.underlying24 hi hz0 hz1 hz2 rfl (by decide) _ _ _ hd ⟨w.heap.size, 0, none⟩ 1 1 (ruleV r) rfl
    (fun j u hu => by rw [add_zero_at, cell_of_row _ _ j _ _ _ hrow]; rw [← hu]; simp [ruleV])
    (fun u hu => by simp [ruleV] at hu; rcases hu with rfl | rfl | rfl <;> rfl) (by unfold maxLen; omega) hl (by simp; omega)
  refine ⟨v', w', hrun, by rw [rulesV_snoc]; exact h2, ?_⟩
  refine ((Below.refl base w).alloc hb _).grown h3 (by simp; omega) (fun k e => ?_)
  rcases hown.2 with ⟨rfl, _⟩ | ⟨g, cap, cur, rfl, hg, _⟩
  · simp [Value.ownBlock] at e
  · simp [Value.ownBlock] at e; omega

theorem append_int (w : World) (base : Nat) (x : Int) (v : Value) (xs : List Int) (hb : base ≤ w.heap.size) (hl : xs.length ≤ 1000) (hown : w.ownsRow base 3 1 v xs.length (xs.map (Value.int .i64))) :
    ∃ v' w', (Builtin.append_ #[23, 23] 23 #[v, .slice (some ⟨w.heap.size, 0, none⟩) 1 1]).run Try.prog (w.alloc (.cells #[.int .i64 x] 3)) = .ok v' w' ∧
      w'.ownsRow base 3 1 v' (xs.length + 1) ((xs ++ [x]).map (Value.int .i64)) ∧ (w.alloc (.cells #[.int .i64 x] 3)).grownBy w' v.ownBlock ∧ (v'.ownBlock = v.ownBlock ∨ v'.ownBlock = some (w.heap.size + 1)) := by
  obtain ⟨i0, hi, hz0, hz1, hz2⟩ := info_parts info_int
  have hd := hown.kept (World.grownBy_alloc w (.cells #[.int .i64 x] 3) none) (by rcases hown.2 with ⟨rfl, _⟩ | ⟨g, cap, cur, rfl, _⟩ <;> simp [Value.ownBlock])
  have hrow := heap_alloc_new w (.cells #[.int .i64 x] 3)
  obtain ⟨v', w', hrun, h2, h3, _, h5⟩ := run_append_own_at (P := Try.prog) (w.alloc (.cells #[.int .i64 x] 3)) base 23 23 3 i0 _ 1 8 Try.underlying23 hi hz0 hz1 hz2 rfl (by decide) _ _ _ hd ⟨w.heap.size, 0, none⟩ 1 1 [.int .i64 x] rfl
    (fun j u hu => by rw [add_zero_at, cell_of_row _ _ j _ _ _ hrow]; rw [← hu]; simp)
    (fun u hu => by simp at hu; subst hu; rfl) (by unfold maxLen; omega) (by omega) (by simp; omega)
  exact ⟨v', w', hrun, by rw [List.map_append]; exact h2, h3, by simpa using h5⟩

theorem owns_alloc {w : World} {base : Nat} {e : TypeId} {size n : Nat} {v : Value} {xs : List Value} (h : w.ownsRow base e size v n xs) (o : Obj) : (w.alloc o).ownsRow base e size v n xs :=
  h.kept (World.grownBy_alloc w o none) (by rcases h.2 with ⟨rfl, _⟩ | ⟨g, cap, cur, rfl, _⟩ <;> simp [Value.ownBlock])

/-- A row of rules that somebody owns is read as rules. -/
theorem rules_of_row {w : World} {base : Nat} {v : Value} {rs : List (Int × Int × Int)} (h : w.ownsRow base 27 3 v rs.length (rulesV rs)) : ∃ A c, v = .slice A rs.length c ∧ RulesR w w.heap.size A rs := by
  rcases h.2 with ⟨rfl, h0⟩ | ⟨g, cap, cur, rfl, hg, hgb, hnc, hcm, hcs, htk⟩
  · exact ⟨none, 0, by rw [h0], fun j hj => by omega⟩
  · refine ⟨_, _, rfl, fun j hj => ⟨_, rfl, (Array.getElem?_eq_some_iff.1 hgb).1, ?_, ?_, ?_⟩⟩
    all_goals
      rw [add_zero_at, cell_of_row w g _ _ _ _ hgb]
    · have := rulesV_at rs j 0 hj (by omega)
      rw [← htk, List.getElem?_take_of_lt (by omega)] at this
      simpa [ruleV] using this
    · have := rulesV_at rs j 1 hj (by omega)
      rw [← htk, List.getElem?_take_of_lt (by omega)] at this
      simpa [ruleV] using this
    · have := rulesV_at rs j 2 hj (by omega)
      rw [← htk, List.getElem?_take_of_lt (by omega)] at this
      simpa [ruleV] using this

theorem rows_ints {w : World} {base : Nat} {v : Value} {xs : List Int} (h : w.ownsRow base 3 1 v xs.length (xs.map (Value.int .i64))) : ∃ A c, v = .slice A xs.length c ∧ xs.length ≤ c + 0 ∧ IntsAt w w.heap.size A xs := by
  rcases h.2 with ⟨rfl, h0⟩ | ⟨g, cap, cur, rfl, hg, hgb, hnc, hcm, hcs, htk⟩
  · exact ⟨none, 0, by rw [h0], by omega, fun j hj => by omega⟩
  · refine ⟨_, _, rfl, by omega, fun j hj => ⟨_, rfl, (Array.getElem?_eq_some_iff.1 hgb).1, ?_⟩⟩
    rw [add_zero_at, cell_of_row w g _ _ _ _ hgb]
    have : (xs.map (Value.int .i64))[j]? = some (.int .i64 (xs.getD j 0)) := by simp [List.getElem?_eq_getElem hj, List.getD]
    rw [← htk, List.getElem?_take_of_lt (by omega)] at this
    simpa using this

end Go.Proofs.Ytclhohfkacgooaa
