/- strings.Cut at one byte, and the words of a text. -/
import Derived.Test.YtbckfkopdojggaaGreatDoorNotM
import Derived.Lib.CutLaws
import Derived.Lib.IndexBytes
import Derived.Lib.IndexLaws
set_option linter.unusedVariables false
set_option linter.unusedSimpArgs false
namespace Go.Proofs.YtbckfkopdojggaaGreatDoor
open Go

theorem not_contains {a : List UInt8} {c : UInt8} (h : ∀ k : Nat, a[k]? ≠ some c) : a.contains c = false := by
  rw [Bool.eq_false_iff]
  intro hc
  rw [List.contains_iff_mem] at hc
  obtain ⟨k, hk⟩ := List.mem_iff_getElem?.1 hc
  exact h k hk
/-- Cut at one byte: the text is what stands before it, the byte, and what stands behind, the first part without it. -/
theorem cut_one (s : List UInt8) (c : UInt8) :
    (∃ p r, Lib.cut s [c] = (p, r, true) ∧ s = p ++ c :: r ∧ p.contains c = false) ∨ (Lib.cut s [c] = (s, [], false) ∧ s.contains c = false) := by
  unfold Lib.cut
  rw [Lib.index_one]
  have hge := Lib.indexByte_ge s c
  by_cases h : 0 ≤ Lib.indexByte s c
  · left
    obtain ⟨o, ho⟩ := Int.eq_ofNat_of_zero_le h
    obtain ⟨h1, h2⟩ := Lib.indexByte_some ho
    rw [if_pos h, ho]
    refine ⟨_, _, rfl, ?_, ?_⟩
    · have hlt : o < s.length := by
        rcases Nat.lt_or_ge o s.length with h | h
        · exact h
        · rw [List.getElem?_eq_none h] at h1; cases h1
      have h3 : s[o] = c := by rw [List.getElem?_eq_getElem hlt] at h1; simpa using h1
      simp only [Int.toNat_natCast, List.length_cons, List.length_nil, Nat.zero_add]
      rw [← h3, ← List.drop_eq_getElem_cons hlt, List.take_append_drop]
    · refine not_contains fun k hk => ?_
      simp only [Int.toNat_natCast] at hk
      rcases Nat.lt_or_ge k o with h4 | h4
      · rw [List.getElem?_take_of_lt h4] at hk
        exact h2 k h4 hk
      · rw [List.getElem?_take_eq_none h4] at hk; cases hk
  · right
    rw [if_neg h]
    exact ⟨rfl, not_contains (Lib.indexByte_none (by omega))⟩
/-- The words of a text, one after another. -/
theorem cut_words (s : List UInt8) :
    (∃ p r, Lib.cut s [32] = (p, r, true) ∧ NotMath.splitB s = p :: NotMath.splitB r ∧ r.length < s.length) ∨ (Lib.cut s [32] = (s, [], false) ∧ NotMath.splitB s = [s]) := by
  rcases cut_one s 32 with ⟨p, r, h1, h2, h3⟩ | ⟨h1, h2⟩
  · refine .inl ⟨p, r, h1, ?_, ?_⟩
    · rw [h2, NotMath.splitB_cut p r h3]
    · rw [h2]; simp; omega
  · exact .inr ⟨h1, NotMath.splitB_plain s h2⟩
end Go.Proofs.YtbckfkopdojggaaGreatDoor
