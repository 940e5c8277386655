/- FormatAlone: sides of the same card: plain mathematics. -/
import Derived.Test.YtfpehblofokheaaGreatDoorMatM
import Derived.Test.YtfpehblofokheaaGreatDoorFrDN
set_option linter.unusedVariables false
set_option linter.unusedSimpArgs false
namespace Go.Proofs.YtfpehblofokheaaGreatDoor
open Go.RowKit

theorem fine_rank {e : Int × ByteArray} (h : fineN e) : rankI e.2 = 0 ∧ e.2.toList.isEmpty = true ∨ rankI e.2 = 1 ∧ e.2.toList.isEmpty = false ∧ e.1 = 0 ∧ (e.2.toList == [120]) = true ∨ rankI e.2 = 2 ∧ e.2.toList.isEmpty = false ∧ e.1 = 0 ∧ (e.2.toList == [45]) = true := by
  rcases h with h | ⟨h0, h⟩ | ⟨h0, h⟩
  · exact .inl ⟨rank_empty h, h⟩
  · exact .inr (.inl ⟨(rank_x h).1, (rank_x h).2, h0, h⟩)
  · right; right
    have e1 : markK e.2 = 3 ∧ e.2.toList.isEmpty = false := by
      rcases mark_cases e.2 with ⟨h1, h2, h3, h4, h5⟩ | ⟨h1, h2, h3, h4, h5⟩ | ⟨h1, h2, h3, h4, h5⟩ | ⟨h1, h2, h3, h4, h5⟩ | ⟨h1, h2, h3, h4, h5⟩
      · rw [h] at h4; cases h4
      · rw [h] at h4; cases h4
      · rw [h] at h4; cases h4
      · exact ⟨h5, h1⟩
      · rw [h] at h4; cases h4
    refine ⟨?_, e1.2, h0, h⟩
    unfold rankI
    rw [e1.1]
    rfl
theorem bytes_same {m n : ByteArray} (h : m.toList = n.toList) : m = n := by
  have h9 : m.data.toList = n.data.toList := by rw [← Lib.toList_data, ← Lib.toList_data, h]
  rw [← Lib.mk_data m, ← Lib.mk_data n, h9]
theorem merit_of (a b : Int × ByteArray) : meritI a b = if rankI a.2 < rankI b.2 then -1 else if rankI a.2 = rankI b.2 then (if a.1 < b.1 then -1 else if a.1 = b.1 then 0 else 1) else 1 := by
  unfold meritI cmpI
  by_cases h1 : rankI a.2 < rankI b.2
  · simp [firstI, h1]
  · by_cases h2 : rankI a.2 = rankI b.2
    · rw [h2]
      by_cases h3 : a.1 < b.1
      · simp [firstI, h3]
      · by_cases h4 : a.1 = b.1
        · simp [firstI, h4]
        · simp [firstI, h3, h4]
    · simp [firstI, h1, h2]
theorem merit_self (a : Int × ByteArray) : meritI a a = 0 := by
  rw [merit_of]
  simp
theorem merit_anti (a b : Int × ByteArray) : meritI a b < 0 ↔ 0 < meritI b a := by
  rw [merit_of, merit_of]
  generalize rankI a.2 = p
  generalize rankI b.2 = q
  generalize a.1 = s
  generalize b.1 = t
  constructor
  all_goals
    intro h
    repeat' split at h
    all_goals
      repeat' split
      all_goals omega
theorem merit_tie {a b : Int × ByteArray} (ha : fineN a) (hb : fineN b) (h : meritI a b = 0) : a = b := by
  rw [merit_of] at h
  have hr : rankI a.2 = rankI b.2 := by
    by_cases h1 : rankI a.2 < rankI b.2
    · rw [if_pos h1] at h; omega
    · rw [if_neg h1] at h
      by_cases h2 : rankI a.2 = rankI b.2
      · exact h2
      · rw [if_neg h2] at h; omega
  rw [if_neg (by omega), if_pos hr] at h
  have hs : a.1 = b.1 := by
    by_cases h3 : a.1 < b.1
    · rw [if_pos h3] at h; omega
    · rw [if_neg h3] at h
      by_cases h4 : a.1 = b.1
      · exact h4
      · rw [if_neg h4] at h; omega
  have hm : a.2.toList = b.2.toList := by
    rcases fine_rank ha with ⟨r, e⟩ | ⟨r, _, _, e⟩ | ⟨r, _, _, e⟩ <;> rcases fine_rank hb with ⟨r2, e2⟩ | ⟨r2, _, _, e2⟩ | ⟨r2, _, _, e2⟩
    · rw [List.isEmpty_iff.1 e, List.isEmpty_iff.1 e2]
    · omega
    · omega
    · omega
    · rw [eq_of_beq e, eq_of_beq e2]
    · omega
    · omega
    · omega
    · rw [eq_of_beq e, eq_of_beq e2]
  exact Prod.ext hs (bytes_same hm)
theorem min_two (x y : Int × ByteArray) : minM [x, y] = if meritI y x < 0 then y else x := rfl
theorem min_twin (x : Int × ByteArray) : minM [x, x] = x := by
  rw [min_two, merit_self]
  rfl
theorem min_three {x y : Int × ByteArray} (hx : fineN x) (hy : fineN y) : minM [y, x, x] = minM [x, y] := by
  rw [min_two]
  show (if meritI x (if meritI x y < 0 then x else y) < 0 then x else (if meritI x y < 0 then x else y)) = _
  by_cases h1 : meritI x y < 0
  · have h2 := (merit_anti x y).1 h1
    rw [if_pos h1, merit_self, if_neg (by omega), if_neg (by omega)]
  · rw [if_neg h1, if_neg h1]
    by_cases h3 : meritI y x < 0
    · rw [if_pos h3]
    · rw [if_neg h3]
      have h4 : ¬ 0 < meritI x y := fun g => h3 ((merit_anti y x).2 g)
      exact (merit_tie hx hy (by omega)).symm
theorem max_twin (x : Int × ByteArray) : maxM [x, x] = x := by
  show (if 0 < meritI x x then x else x) = x
  split <;> rfl
/-- The sum of a side of the same card twice. -/
theorem total_twin {x : Int × ByteArray} (hx : fineN x) : (totalM [x, x]).1 = 2 * x.1 ∧ ((totalM [x, x]).2.toList == x.2.toList) = true := by
  unfold totalM
  rw [max_twin]
  rcases fine_rank hx with ⟨_, e⟩ | ⟨_, e, e0, _⟩ | ⟨_, e, e0, _⟩
  · rw [if_pos (show countsB x.2 = true from e)]
    refine ⟨?_, ?_⟩
    · show ForMath.sumI [x.1, x.1] = _
      simp [ForMath.sumI]
      omega
    · show (noMark.toList == x.2.toList) = true
      rw [List.isEmpty_iff.1 e, Lib.toList_data]
      rfl
  · rw [if_neg (by rw [show countsB x.2 = false from e]; simp)]
    exact ⟨by omega, beq_self_eq_true _⟩
  · rw [if_neg (by rw [show countsB x.2 = false from e]; simp)]
    exact ⟨by omega, beq_self_eq_true _⟩
theorem min_counts {x y : Int × ByteArray} (hx : fineN x) (hy : fineN y) (h : x.2.toList.isEmpty = true) : (minM [x, y]).2.toList.isEmpty = true ∧ (minM [x, y]).1 ≤ x.1 := by
  rw [min_two]
  by_cases h1 : meritI y x < 0
  · rw [if_pos h1]
    rw [merit_of, rank_empty h] at h1
    rcases fine_rank hy with ⟨r, e⟩ | ⟨r, _⟩ | ⟨r, _⟩
    · refine ⟨e, ?_⟩
      rw [r] at h1
      simp only [Int.lt_irrefl, if_false, if_true] at h1
      by_cases h3 : y.1 < x.1
      · omega
      · rw [if_neg h3] at h1
        split at h1 <;> omega
    · rw [r] at h1; simp at h1
    · rw [r] at h1; simp at h1
  · rw [if_neg h1]
    exact ⟨h, Int.le_refl _⟩
end Go.Proofs.YtfpehblofokheaaGreatDoor
