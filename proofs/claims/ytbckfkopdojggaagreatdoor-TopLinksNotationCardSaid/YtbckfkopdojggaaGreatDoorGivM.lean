/- FormatGives: the strokes given one after another: plain mathematics. -/
import Derived.Test.YtbckfkopdojggaaGreatDoorMgC
set_option linter.unusedVariables false
set_option linter.unusedSimpArgs false
namespace Go.Proofs.YtbckfkopdojggaaGreatDoor

theorem succ_div_mod (n k : Nat) (hn : 0 < n) : (k % n + 1 < n ∧ (k + 1) / n = k / n ∧ (k + 1) % n = k % n + 1) ∨ (k % n + 1 = n ∧ (k + 1) / n = k / n + 1 ∧ (k + 1) % n = 0) := by
  have e := Nat.div_add_mod k n
  have l := Nat.mod_lt k hn
  rcases Nat.lt_or_ge (k % n + 1) n with g | g
  · left
    have h1 : k + 1 = (k % n + 1) + n * (k / n) := by omega
    refine ⟨g, ?_, ?_⟩
    · have := Nat.add_mul_div_left (k % n + 1) (k / n) hn
      rw [← h1, Nat.div_eq_of_lt g] at this
      omega
    · have := Nat.add_mul_mod_self_left (k % n + 1) n (k / n)
      rw [← h1, Nat.mod_eq_of_lt g] at this
      exact this
  · right
    have h0 : k % n + 1 = n := by omega
    have h1 : k + 1 = n * (k / n + 1) := by rw [Nat.mul_add]; omega
    refine ⟨h0, ?_, ?_⟩
    · have := Nat.mul_div_cancel_left (k / n + 1) hn
      rw [← h1] at this
      exact this
    · have := Nat.mul_mod_right n (k / n + 1)
      rw [← h1] at this
      exact this
/-- How many of the numbers below k leave the remainder t on division by n. -/
def cntG (n t k : Nat) : Nat := k / n + if t < k % n then 1 else 0
theorem cntG_succ (n t k : Nat) (hn : 0 < n) (ht : t < n) : cntG n t (k + 1) = cntG n t k + if k % n = t then 1 else 0 := by
  unfold cntG
  rcases succ_div_mod n k hn with ⟨g, e1, e2⟩ | ⟨g, e1, e2⟩
  · rw [e1, e2]
    by_cases h1 : t < k % n
    · rw [if_pos h1, if_pos (by omega), if_neg (by omega)]
    · by_cases h2 : k % n = t
      · rw [if_neg h1, if_pos (by omega), if_pos h2]
      · rw [if_neg h1, if_neg (by omega), if_neg h2]
  · rw [e1, e2, if_neg (by omega)]
    by_cases h2 : k % n = t
    · rw [if_neg (by omega), if_pos h2]
    · rw [if_pos (by omega), if_neg h2]
/-- The index of the hole that has the k-th stroke. -/
def idxG (n : Nat) (h : Int) (k : Nat) : Int := if h < 0 then (n : Int) + 1 - (((k % n : Nat) : Int) + 1) else ((k % n : Nat) : Int) + 1
/-- The strokes of a hole with the index x behind k of them. -/
def gkG (n : Nat) (h x : Int) (k : Nat) : Int := if 0 < h then ((cntG n (x - 1).toNat k : Nat) : Int) else -((cntG n ((n : Int) - x).toNat k : Nat) : Int)
theorem gkG_zero (n : Nat) (h x : Int) : gkG n h x 0 = 0 := by
  unfold gkG cntG
  simp
theorem gkG_pos (n : Nat) (h x : Int) (k : Nat) (hn : 0 < n) (hx : 1 ≤ x ∧ x ≤ n) (hh : 0 < h) : gkG n h x (k + 1) = if x = idxG n h k then gkG n h x k + 1 else gkG n h x k := by
  have hng : ¬ h < 0 := by omega
  unfold gkG idxG
  simp only [if_pos hh, if_neg hng, cntG_succ n (x - 1).toNat k hn (by omega)]
  by_cases g : k % n = (x - 1).toNat
  · have g2 : x = ((k % n : Nat) : Int) + 1 := by omega
    rw [if_pos g, if_pos g2]; omega
  · have g2 : ¬ x = ((k % n : Nat) : Int) + 1 := by omega
    rw [if_neg g, if_neg g2]; omega
theorem gkG_neg (n : Nat) (h x : Int) (k : Nat) (hn : 0 < n) (hx : 1 ≤ x ∧ x ≤ n) (hh : h < 0) : gkG n h x (k + 1) = if x = idxG n h k then gkG n h x k - 1 else gkG n h x k := by
  have hng : ¬ 0 < h := by omega
  have l := Nat.mod_lt k hn
  unfold gkG idxG
  simp only [if_neg hng, if_pos hh, cntG_succ n ((n : Int) - x).toNat k hn (by omega)]
  by_cases g : k % n = ((n : Int) - x).toNat
  · have g2 : x = (n : Int) + 1 - (((k % n : Nat) : Int) + 1) := by omega
    rw [if_pos g, if_pos g2]; omega
  · have g2 : ¬ x = (n : Int) + 1 - (((k % n : Nat) : Int) + 1) := by omega
    rw [if_neg g, if_neg g2]; omega
theorem gkG_all (n : Nat) (h x : Int) (hn : 0 < n) (hx : 1 ≤ x ∧ x ≤ n) : gkG n h x h.natAbs = addI (h / (n : Int)) (h % (n : Int)) x := by
  have hni : (0 : Int) < (n : Int) := by omega
  have e := Nat.div_add_mod h.natAbs n
  have l := Nat.mod_lt h.natAbs hn
  have ei : (n : Int) * ((h.natAbs / n : Nat) : Int) + ((h.natAbs % n : Nat) : Int) = (h.natAbs : Int) := by exact_mod_cast e
  unfold gkG cntG addI
  generalize hq : h.natAbs / n = q at e ei ⊢
  generalize hr : h.natAbs % n = r at e l ei ⊢
  by_cases hp : 0 < h
  · have hu := (Int.ediv_emod_unique (a := h) (b := n) (r := r) (q := q) hni).2 ⟨by omega, by omega, by omega⟩
    rw [hu.1, hu.2, if_pos hp]
    by_cases g : x ≤ (r : Int)
    · rw [if_pos g, if_pos (by omega)]; omega
    · rw [if_neg g, if_neg (by omega)]; omega
  · rw [if_neg hp]
    by_cases hz : r = 0
    · have hm : (n : Int) * (-(q : Int)) = -((n : Int) * (q : Int)) := Int.mul_neg _ _
      have hu := (Int.ediv_emod_unique (a := h) (b := n) (r := 0) (q := -(q : Int)) hni).2 ⟨by omega, by omega, by omega⟩
      rw [hu.1, hu.2, if_neg (by omega), if_neg (by omega)]
      omega
    · have hm : (n : Int) * (-(q : Int) - 1) = -((n : Int) * (q : Int)) - n := by rw [Int.mul_sub, Int.mul_neg, Int.mul_one]
      have hu := (Int.ediv_emod_unique (a := h) (b := n) (r := (n : Int) - r) (q := -(q : Int) - 1) hni).2 ⟨by omega, by omega, by omega⟩
      rw [hu.1, hu.2]
      by_cases g : x ≤ (n : Int) - r
      · rw [if_pos g, if_neg (by omega)]; omega
      · rw [if_neg g, if_pos (by omega)]; omega
/-- The strokes of all holes: the first i of them behind k + 1 strokes, the others behind k. -/
def mixG (n : Nat) (h : Int) (hs : List (Int × Int)) (k i : Nat) : List Int := ((hs.take i).map fun x => gkG n h x.2 (k + 1)) ++ ((hs.drop i).map fun x => gkG n h x.2 k)
theorem mixG_len (n : Nat) (h : Int) (hs : List (Int × Int)) (k i : Nat) : (mixG n h hs k i).length = hs.length := by
  unfold mixG; simp; omega
theorem mixG_zero (n : Nat) (h : Int) (hs : List (Int × Int)) (k : Nat) : mixG n h hs k 0 = hs.map fun x => gkG n h x.2 k := by simp [mixG]
theorem mixG_all (n : Nat) (h : Int) (hs : List (Int × Int)) (k i : Nat) (hi : hs.length ≤ i) : mixG n h hs k i = mixG n h hs (k + 1) 0 := by
  rw [mixG_zero]
  unfold mixG
  rw [List.take_of_length_le hi, List.drop_eq_nil_of_le hi]
  simp
theorem mixG_at (n : Nat) (h : Int) (hs : List (Int × Int)) (k i : Nat) (hi : i < hs.length) : (mixG n h hs k i).getD i 0 = gkG n h (hs.getD i (0, 0)).2 k := by
  unfold mixG
  simp [List.getD, List.getElem?_append, List.getElem?_eq_getElem hi, Nat.min_eq_left (Nat.le_of_lt hi)]
theorem mixG_set (n : Nat) (h : Int) (hs : List (Int × Int)) (k i : Nat) (hi : i < hs.length) : (mixG n h hs k i).set i (gkG n h (hs.getD i (0, 0)).2 (k + 1)) = mixG n h hs k (i + 1) := by
  have e : hs.getD i (0, 0) = hs[i] := by simp [List.getD, List.getElem?_eq_getElem hi]
  have e0 : i - ((hs.take i).map fun x => gkG n h x.2 (k + 1)).length = 0 := by simp; omega
  rw [e]
  unfold mixG
  rw [List.set_append_right _ _ (by simp; omega), e0, List.take_succ_eq_append_getElem hi, List.drop_eq_getElem_cons hi, List.map_append, List.map_cons, List.map_cons, List.map_nil, List.append_assoc]
  rfl
theorem mixG_same (n : Nat) (h : Int) (hs : List (Int × Int)) (k i : Nat) (hi : i < hs.length) (hg : gkG n h (hs.getD i (0, 0)).2 (k + 1) = gkG n h (hs.getD i (0, 0)).2 k) : mixG n h hs k (i + 1) = mixG n h hs k i := by
  have e : hs.getD i (0, 0) = hs[i] := by simp [List.getD, List.getElem?_eq_getElem hi]
  rw [e] at hg
  unfold mixG
  rw [List.take_succ_eq_append_getElem hi, List.drop_eq_getElem_cons hi, List.map_append, List.map_cons, List.map_cons, List.map_nil, List.append_assoc, hg]
  rfl
theorem mixG_end (h : Int) (hs : List (Int × Int)) (hn : 0 < hs.length) (hx : ∀ x ∈ hs, 1 ≤ x.2 ∧ x.2 ≤ hs.length) : mixG hs.length h hs h.natAbs 0 = givenL (h / (hs.length : Int)) (h % (hs.length : Int)) hs := by
  rw [mixG_zero]
  unfold givenL
  apply List.map_congr_left
  intro x hxm
  exact gkG_all _ _ _ hn (hx x hxm)
theorem gkG_bound (n : Nat) (h x : Int) (k : Nat) : -(k : Int) - 1 ≤ gkG n h x k ∧ gkG n h x k ≤ (k : Int) + 1 := by
  unfold gkG cntG
  have h1 := Nat.div_le_self k n
  generalize k / n = q at h1 ⊢
  generalize k % n = r
  split <;> split <;> omega
end Go.Proofs.YtbckfkopdojggaaGreatDoor
