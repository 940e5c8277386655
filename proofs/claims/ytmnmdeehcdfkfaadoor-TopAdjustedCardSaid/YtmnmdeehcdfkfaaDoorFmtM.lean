/- Formats as mathematics: the strokes given, one after another. -/
import Derived.Test.YtmnmdeehcdfkfaaDoorForM
namespace ForMath

/-- The index of the hole that has the stroke with this number. -/
def turnAt (n : Nat) (up : Bool) (k : Nat) : Int := if up then (k % n : Nat) + 1 else (n : Int) - (k % n : Nat)
/-- How many of k strokes the hole with the index x has, one after another; below 0 they are taken away. -/
def cnt (n : Nat) (up : Bool) : Nat → Int → Int
  | 0, _ => 0
  | k + 1, x => cnt n up k x + if turnAt n up k = x then (if up then 1 else -1) else 0

theorem mod_succ_cases (n k : Nat) (hn : 0 < n) : (k % n + 1 < n ∧ (k + 1) / n = k / n ∧ (k + 1) % n = k % n + 1) ∨ (k % n + 1 = n ∧ (k + 1) / n = k / n + 1 ∧ (k + 1) % n = 0) := by
  have h1 := Nat.mod_lt k hn
  have h2 := Nat.div_add_mod k n
  by_cases h : k % n + 1 < n
  · refine .inl ⟨h, ?_, ?_⟩
    · rw [show k + 1 = (k % n + 1) + n * (k / n) by omega, Nat.add_mul_div_left _ _ hn, Nat.div_eq_of_lt h]; omega
    · rw [show k + 1 = (k % n + 1) + n * (k / n) by omega, Nat.add_mul_mod_self_left, Nat.mod_eq_of_lt h]
  · have e : k % n + 1 = n := by omega
    refine .inr ⟨e, ?_, ?_⟩
    · rw [show k + 1 = n * (k / n + 1) by rw [Nat.mul_add]; omega, Nat.mul_div_cancel_left _ hn]
    · rw [show k + 1 = n * (k / n + 1) by rw [Nat.mul_add]; omega, Nat.mul_mod_right]

theorem cnt_up (n : Nat) (hn : 0 < n) (x : Int) (h1 : 1 ≤ x) (h2 : x ≤ n) : ∀ k : Nat, cnt n true k x = (k / n : Nat) + (if x ≤ (k % n : Nat) then 1 else 0)
  | 0 => by simp [cnt]; omega
  | k + 1 => by
    rw [cnt, cnt_up n hn x h1 h2 k]
    have e : turnAt n true k = ((k % n : Nat) : Int) + 1 := by simp [turnAt]
    rw [e]
    simp only [if_true]
    generalize hq : k / n = q
    generalize hr : k % n = r
    rcases mod_succ_cases n k hn with ⟨h, e1, e2⟩ | ⟨h, e1, e2⟩ <;> rw [hq] at e1 <;> simp only [hr] at h e2 <;> rw [e1, e2]
    · repeat' split
      all_goals omega
    · repeat' split
      all_goals omega

theorem cnt_down (n : Nat) (hn : 0 < n) (x : Int) (h1 : 1 ≤ x) (h2 : x ≤ n) : ∀ k : Nat, cnt n false k x = -((k / n : Nat) : Int) - (if (n : Int) + 1 - x ≤ (k % n : Nat) then 1 else 0)
  | 0 => by simp [cnt]; omega
  | k + 1 => by
    rw [cnt, cnt_down n hn x h1 h2 k]
    have e : turnAt n false k = (n : Int) - ((k % n : Nat) : Int) := by simp [turnAt]
    rw [e]
    simp only [if_false, Bool.false_eq_true]
    generalize hq : k / n = q
    generalize hr : k % n = r
    rcases mod_succ_cases n k hn with ⟨h, e1, e2⟩ | ⟨h, e1, e2⟩ <;> rw [hq] at e1 <;> simp only [hr] at h e2 <;> rw [e1, e2]
    · repeat' split
      all_goals omega
    · repeat' split
      all_goals omega

theorem div_neg (n : Nat) (hn : 0 < n) (k : Nat) : (-(k : Int)) / (n : Int) = -((k / n : Nat) : Int) - (if k % n = 0 then 0 else 1) ∧ (-(k : Int)) % (n : Int) = if k % n = 0 then 0 else (n : Int) - (k % n : Nat) := by
  have h1 := Nat.mod_lt k hn
  have h2 := Nat.div_add_mod k n
  have hn' : (n : Int) ≠ 0 := by omega
  have e : (k : Int) = n * (k / n : Nat) + (k % n : Nat) := by exact_mod_cast h2.symm
  generalize k / n = q at e ⊢
  generalize hr : k % n = r at e h1 ⊢
  by_cases h0 : r = 0
  · subst h0
    simp only [if_true]
    have : -(k : Int) = (n : Int) * (-(q : Int)) := by rw [Int.mul_neg]; omega
    rw [this]
    exact ⟨by rw [Int.mul_ediv_cancel_left _ hn']; omega, Int.mul_emod_right _ _⟩
  · simp only [if_neg h0]
    have : -(k : Int) = ((n : Int) - r) + (n : Int) * (-(q : Int) - 1) := by rw [Int.mul_sub, Int.mul_neg, Int.mul_one]; omega
    rw [this]
    exact ⟨by rw [Int.add_mul_ediv_left _ _ hn', Int.ediv_eq_zero_of_lt (by omega) (by omega)]; omega, by rw [Int.add_mul_emod_self_left, Int.emod_eq_of_lt (by omega) (by omega)]⟩

/-- The strokes given on n holes with these stroke indices. -/
def givenAt (n : Nat) (h x : Int) : Int := h / (n : Int) + (if x ≤ h % (n : Int) then 1 else 0)
theorem cnt_given (n : Nat) (hn : 0 < n) (h x : Int) (h1 : 1 ≤ x) (h2 : x ≤ n) : cnt n (decide (0 ≤ h)) h.natAbs x = givenAt n h x := by
  unfold givenAt
  by_cases hh : 0 ≤ h
  · obtain ⟨k, rfl⟩ := Int.eq_ofNat_of_zero_le hh
    rw [decide_eq_true hh, show (k : Int).natAbs = k from rfl, cnt_up n hn x h1 h2]
    rw [Int.natCast_ediv, Int.natCast_emod]
  · obtain ⟨k, rfl⟩ : ∃ k : Nat, h = -(k : Int) := ⟨h.natAbs, by omega⟩
    rw [decide_eq_false hh, show (-(k : Int)).natAbs = k by omega, cnt_down n hn x h1 h2, (div_neg n hn k).1, (div_neg n hn k).2]
    have := Nat.mod_lt k hn
    repeat' split
    all_goals omega
theorem cnt_bound (n : Nat) (up : Bool) (x : Int) : ∀ k : Nat, -(k : Int) ≤ cnt n up k x ∧ cnt n up k x ≤ k
  | 0 => by simp [cnt]
  | k + 1 => by
    have := cnt_bound n up x k
    rw [cnt]
    cases up <;> simp only [if_true, Bool.false_eq_true, if_false] <;> split <;> omega
theorem givenAt_bound (n : Nat) (hn : 0 < n) (h x : Int) (h1 : 1 ≤ x) (h2 : x ≤ n) (hb : -99 ≤ h) (hc : h ≤ 99) : -99 ≤ givenAt n h x ∧ givenAt n h x ≤ 99 := by
  rw [← cnt_given n hn h x h1 h2]
  have := cnt_bound n (decide (0 ≤ h)) x h.natAbs
  omega

theorem nodup_bound : ∀ (k : Nat) (l : List Int) (a : Int), l.Nodup → (∀ x ∈ l, a ≤ x ∧ x < a + k) → l.length ≤ k
  | 0, l, a, _, h => by
    cases l with
    | nil => simp
    | cons x l => have := h x (by simp); omega
  | k + 1, l, a, hn, h => by
    have h1 := nodup_bound k (l.erase (a + k)) a (hn.erase _) (fun x hx => by
      rw [hn.mem_erase_iff] at hx
      have := h x hx.2
      have := hx.1
      omega)
    have h2 := List.length_erase (a := a + (k : Int)) (l := l)
    split at h2 <;> omega
theorem filter_two (p : Int → Bool) : ∀ l : List Int, (l.filter p).length + (l.filter fun x => !p x).length = l.length
  | [] => rfl
  | x :: l => by
    have := filter_two p l
    cases h : p x <;> simp [h] <;> omega
theorem count_le (n : Nat) (l : List Int) (hl : l.length = n) (hn : l.Nodup) (hb : ∀ x ∈ l, 1 ≤ x ∧ x ≤ (n : Int)) (r : Nat) (hr : r ≤ n) : (l.filter fun x => decide (x ≤ (r : Int))).length = r := by
  have h1 := nodup_bound r (l.filter fun x => decide (x ≤ (r : Int))) 1 (hn.filter _) (fun x hx => by
    rw [List.mem_filter] at hx; have := hb x hx.1; have := of_decide_eq_true hx.2; omega)
  have h2 := nodup_bound (n - r) (l.filter fun x => !decide (x ≤ (r : Int))) ((r : Int) + 1) (hn.filter _) (fun x hx => by
    rw [List.mem_filter] at hx; have := hb x hx.1; have := of_decide_eq_false (by simpa using hx.2 : decide (x ≤ (r : Int)) = false); omega)
  have h3 := filter_two (fun x => decide (x ≤ (r : Int))) l
  omega
theorem sum_given (n : Nat) (h : Int) (l : List Int) : sumI (l.map (givenAt n h)) = (l.length : Int) * (h / (n : Int)) + ((l.filter fun x => decide (x ≤ h % (n : Int))).length : Nat) := by
  induction l with
  | nil => simp [sumI]
  | cons x l ih =>
    simp only [List.map_cons, sumI_cons, ih, List.length_cons, List.filter_cons]
    have e : (((l.length + 1 : Nat) : Int)) * (h / (n : Int)) = (l.length : Int) * (h / (n : Int)) + h / (n : Int) := by rw [Int.natCast_add, Int.add_mul]; simp
    rw [e]
    unfold givenAt
    by_cases hx : x ≤ h % (n : Int)
    · simp only [hx, decide_true, if_true, List.length_cons]; omega
    · simp only [hx, decide_false, if_false, Bool.false_eq_true]; omega
theorem sum_given_all (n : Nat) (hn : 0 < n) (h : Int) (l : List Int) (hl : l.length = n) (hd : l.Nodup) (hb : ∀ x ∈ l, 1 ≤ x ∧ x ≤ (n : Int)) : sumI (l.map (givenAt n h)) = h := by
  have hm := Int.emod_nonneg h (show (n : Int) ≠ 0 by omega)
  have hm2 := Int.emod_lt_of_pos h (show (0 : Int) < n by omega)
  obtain ⟨r, hr⟩ : ∃ r : Nat, h % (n : Int) = r := ⟨(h % (n : Int)).toNat, by omega⟩
  rw [sum_given n, hr, count_le n l hl hd hb r (by omega), hl, ← hr]
  exact Int.mul_ediv_add_emod h n
end ForMath
