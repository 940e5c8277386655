/- The law's loops: plain mathematics. -/
import Derived.Test.YtmnmdeehcdfkfaaDoorHapD
namespace Go.Proofs.YtmnmdeehcdfkfaaDoor
open Go.RowKit

/-- No entry is picked up. -/
def allB (l : List (Int × ByteArray)) : Bool := l.all fun e => decide (markK e.2 ≠ 2)
theorem all_take {α : Type} (f : α → Bool) (l : List α) (k : Nat) (d : α) (h : k < l.length) : (l.take (k + 1)).all f = ((l.take k).all f && f (l.getD k d)) := by
  rw [List.take_succ_eq_append_getElem h, List.all_append]
  simp [List.getD, List.getElem?_eq_getElem h]
theorem any_take {α : Type} (f : α → Bool) (l : List α) (k : Nat) (d : α) (h : k < l.length) : (l.take (k + 1)).any f = ((l.take k).any f || f (l.getD k d)) := by
  rw [List.take_succ_eq_append_getElem h, List.any_append]
  simp [List.getD, List.getElem?_eq_getElem h]
theorem allB_take (l : List (Int × ByteArray)) (k : Nat) (h : k < l.length) : allB (l.take (k + 1)) = (allB (l.take k) && decide (markK (l.getD k (0, ByteArray.empty)).2 ≠ 2)) := all_take _ l k _ h
/-- Whether one of the first k holes is worse than two above its net par. -/
def worseT (q r : Int) (hs : List (Int × Int)) (l : List (Int × ByteArray)) (k : Nat) : Bool := ((hs.zip l).take k).any fun x => decide (x.1.1 + 2 < x.2.1 - addI q r x.1.2)
theorem worseT_zero (q r : Int) (hs : List (Int × Int)) (l : List (Int × ByteArray)) : worseT q r hs l 0 = false := by simp [worseT]
theorem worseT_all (q r : Int) (hs : List (Int × Int)) (l : List (Int × ByteArray)) (k : Nat) (h1 : hs.length ≤ k) : worseT q r hs l k = worseB q r hs l := by
  unfold worseT worseB
  rw [List.take_of_length_le (by simp; omega)]
theorem worseT_succ (q r : Int) (hs : List (Int × Int)) (l : List (Int × ByteArray)) (k : Nat) (h1 : k < hs.length) (h2 : k < l.length) :
    worseT q r hs l (k + 1) = (worseT q r hs l k || decide ((hs.getD k (0, 0)).1 + 2 < (l.getD k (0, ByteArray.empty)).1 - addI q r (hs.getD k (0, 0)).2)) := by
  have h3 : k < (hs.zip l).length := by simp; omega
  unfold worseT
  rw [any_take _ _ k ((0, 0), (0, ByteArray.empty)) h3]
  simp [List.getD, List.getElem?_eq_getElem h1, List.getElem?_eq_getElem h2, List.getElem?_eq_getElem h3]
def parsL (hs : List (Int × Int)) : List Int := hs.map (·.1)
theorem parsL_len (hs : List (Int × Int)) : (parsL hs).length = hs.length := by simp [parsL]
theorem parsL_at (hs : List (Int × Int)) (k : Nat) (h : k < hs.length) : (parsL hs).getD k 0 = (hs.getD k (0, 0)).1 := by
  simp [parsL, List.getD, List.getElem?_eq_getElem h]
theorem mem_take_succ {α : Type} {l : List α} {k : Nat} (d : α) {P : α → Prop} (h : k < l.length) (h1 : ∀ e ∈ l.take k, P e) (h2 : P (l.getD k d)) : ∀ e ∈ l.take (k + 1), P e := fun e he => by
  rw [List.take_succ_eq_append_getElem h] at he
  rcases List.mem_append.1 he with h3 | h3
  · exact h1 e h3
  · simp at h3; subst h3; simpa [List.getD, List.getElem?_eq_getElem h] using h2

/-- What is true of a card without '-': sums, and whether all entries have strokes. -/
theorem law_facts {hs : List (Int × Int)} {nm : ByteArray} {l : List (Int × ByteArray)} {h : Int} (hn : playerI hs nm l h = 0) (h3 : ∀ e ∈ l, markK e.2 ≠ 3) :
    adjS hs h l + ForMath.sumI (parL pointsF 0 hs (netsOf hs h l)) = parsS hs + 2 * (hs.length : Int) + h ∧
    (allB l = true → grossR hs nm l h = (sumS l, 0) ∧ scoreR hs nm l h = (sumS l - h, 0) ∧ adjS hs h l ≤ sumS l ∧ (adjS hs h l = sumS l ↔ worseB (h / (hs.length : Int)) (h % (hs.length : Int)) hs l = false)) := by
  have F := fit_of hn
  refine ⟨adj_points hs l h (player_holes hn) F.len h3, fun ha => ?_⟩
  have hm : ∀ e ∈ l, markK e.2 ≠ 2 ∧ markK e.2 ≠ 3 := fun e he => ⟨by
    have := List.all_eq_true.1 ha e he
    simpa using this, h3 e he⟩
  have hc : allCount (netsOf hs h l) = true := nets_all _ _ hs l hm
  have hg := adj_gross hs l h F.len hm
  refine ⟨?_, ?_, hg.1, hg.2⟩
  · unfold grossR wholeR
    rw [if_pos hn, if_pos hc]
  · unfold scoreR wholeR
    rw [if_pos hn, if_pos hc, net_gross hs l h (player_holes hn) F.len hm]
theorem pts_bound {hs : List (Int × Int)} {nm : ByteArray} {l : List (Int × ByteArray)} {h : Int} (hn : playerI hs nm l h = 0) : ∀ y ∈ parL pointsF 0 hs (netsOf hs h l), -10000 ≤ y ∧ y ≤ 10000 := fun y hy => by
  have F := fit_of hn
  have HZ := holesI_zero (player_holes hn)
  unfold parL at hy
  obtain ⟨⟨x, e⟩, hz, rfl⟩ := List.mem_map.1 hy
  have h1 := List.of_mem_zip hz
  have h2 := HZ.2.2.1 x h1.1
  have h3 : -1200 ≤ e.1 ∧ e.1 ≤ 1200 := by
    have he := h1.2
    unfold netsOf netsL at he
    obtain ⟨⟨g, e0⟩, hz2, rfl⟩ := List.mem_map.1 he
    have h4 := List.of_mem_zip hz2
    have h5 := F.strokes e0 h4.2
    have hg : -1001 ≤ g ∧ g ≤ 1001 := by
      have := h4.1
      unfold givenL at this
      obtain ⟨x0, _, rfl⟩ := List.mem_map.1 this
      have := div_small h hs.length F.lo F.hi F.pos
      unfold addI
      split <;> omega
    simp only
    unfold netV
    split
    · simp
    · simp only; omega
  simp only
  unfold parV pointsF
  split <;> omega
end Go.Proofs.YtmnmdeehcdfkfaaDoor
