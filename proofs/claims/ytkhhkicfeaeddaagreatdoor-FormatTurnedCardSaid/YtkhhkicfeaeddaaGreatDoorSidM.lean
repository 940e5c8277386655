/- Lists of net strokes: their errors: plain mathematics. -/
import Derived.Test.YtkhhkicfeaeddaaGreatDoorMatM
set_option linter.unusedVariables false
set_option linter.unusedSimpArgs false
namespace Go.Proofs.YtkhhkicfeaeddaaGreatDoor
open Go.RowKit

def kindB (m : ByteArray) : Bool := m.toList.isEmpty || m.toList == [120] || m.toList == [45]
/-- The error of the net strokes of a hole. -/
def netI (e : Int × ByteArray) : Int := if kindB e.2 = true then (if e.2.toList.isEmpty = true then withinI e.1 (-999) 999 else withinI e.1 0 0) else 13
def eachN (l : List (Int × ByteArray)) : Int := firstI (l.map netI)
def netsI (l : List (Int × ByteArray)) : Int := if l.length = 0 then 12 else if (l.length : Int) ≤ 36 then eachN l else 5
theorem eachN_drop (l : List (Int × ByteArray)) (k : Nat) (h : k < l.length) : eachN (l.drop k) = if netI (l.getD k (0, ByteArray.empty)) = 0 then eachN (l.drop (k + 1)) else netI (l.getD k (0, ByteArray.empty)) := by
  rw [List.drop_eq_getElem_cons h]
  have e : l.getD k (0, ByteArray.empty) = l[k] := by simp [List.getD, List.getElem?_eq_getElem h]
  rw [e]
  simp only [eachN, List.map_cons, firstI]
theorem netI_fine {e : Int × ByteArray} (h : netI e = 0) : fineN e := by
  unfold netI at h
  unfold fineN
  by_cases hk : kindB e.2 = true
  · rw [if_pos hk] at h
    by_cases h0 : e.2.toList.isEmpty = true
    · exact .inl h0
    · rw [if_neg h0] at h
      have hz : e.1 = 0 := by
        unfold withinI at h
        by_cases g : 0 ≤ e.1 ∧ e.1 ≤ 0
        · omega
        · rw [if_neg g] at h; omega
      unfold kindB at hk
      simp only [Bool.or_eq_true] at hk
      rcases hk with (hk | hk) | hk
      · exact absurd hk h0
      · exact .inr (.inl ⟨hz, hk⟩)
      · exact .inr (.inr ⟨hz, hk⟩)
  · rw [if_neg hk] at h
    omega
theorem netI_bound {e : Int × ByteArray} (h : netI e = 0) : -999 ≤ e.1 ∧ e.1 ≤ 999 := by
  unfold netI at h
  by_cases hk : kindB e.2 = true
  · rw [if_pos hk] at h
    by_cases h0 : e.2.toList.isEmpty = true
    · rw [if_pos h0] at h
      unfold withinI at h
      by_cases g : -999 ≤ e.1 ∧ e.1 ≤ 999
      · exact g
      · rw [if_neg g] at h; omega
    · rw [if_neg h0] at h
      unfold withinI at h
      by_cases g : 0 ≤ e.1 ∧ e.1 ≤ 0
      · omega
      · rw [if_neg g] at h; omega
  · rw [if_neg hk] at h
    omega
theorem netsI_zero {l : List (Int × ByteArray)} (h : netsI l = 0) : 0 < l.length ∧ l.length ≤ 36 ∧ (∀ e ∈ l, fineN e) ∧ (∀ e ∈ l, -999 ≤ e.1 ∧ e.1 ≤ 999) := by
  unfold netsI at h
  by_cases h0 : l.length = 0
  · rw [if_pos h0] at h; omega
  · rw [if_neg h0] at h
    by_cases h1 : (l.length : Int) ≤ 36
    · rw [if_pos h1] at h
      have hz := firstI_zero _ h
      have hz2 : ∀ e ∈ l, netI e = 0 := fun e he => hz _ (List.mem_map.2 ⟨e, he, rfl⟩)
      exact ⟨by omega, by omega, fun e he => netI_fine (hz2 e he), fun e he => netI_bound (hz2 e he)⟩
    · rw [if_neg h1] at h; omega
/-- The error of the net strokes of two sides. -/
def sidesE (xa xb : List (Int × ByteArray)) : Int := firstI [netsI xa, netsI xb, unlessI (decide (xa.length = xb.length)) 2]
theorem sidesE_zero {xa xb : List (Int × ByteArray)} (h : sidesE xa xb = 0) : netsI xa = 0 ∧ netsI xb = 0 ∧ xa.length = xb.length := by
  refine ⟨firstI_zero _ h _ (by simp), firstI_zero _ h _ (by simp), ?_⟩
  have := firstI_zero _ h (unlessI (decide (xa.length = xb.length)) 2) (by simp)
  unfold unlessI at this
  by_cases g : xa.length = xb.length
  · exact g
  · rw [decide_eq_false g] at this; simp at this
theorem sidesE_of {xa xb : List (Int × ByteArray)} (h1 : netsI xa = 0) (h2 : netsI xb = 0) (h3 : xa.length = xb.length) : sidesE xa xb = 0 := by
  unfold sidesE
  rw [h1, h2, decide_eq_true h3]
  rfl
def briefB (l : List (Int × ByteArray)) : Bool := (l.all fun e => decide (e.2.size ≤ 60)) && decide (l.length ≤ 39)
theorem briefB_len {l : List (Int × ByteArray)} (h : briefB l = true) : l.length ≤ 39 := by
  unfold briefB at h
  simp only [Bool.and_eq_true, decide_eq_true_eq] at h
  exact h.2
end Go.Proofs.YtkhhkicfeaeddaaGreatDoor
