/- Mathematics of a stable sort by ranks: insertion leaves the classes of the ranks, one after another. -/
import Derived.Test.YtfpehblofokheaaGreatDoorMgC
set_option linter.unusedVariables false
set_option linter.unusedSimpArgs false
namespace Go.Proofs.YtfpehblofokheaaGreatDoor

section
variable {α : Type} (d : α)
/-- The row while x, which came behind P, stands at place k. -/
def insQ (P : List α) (x : α) (T : List α) (k : Nat) : List α := P.take k ++ x :: (P.drop k ++ T)
theorem insQ_len (P : List α) (x : α) (T : List α) (k : Nat) : (insQ P x T k).length = P.length + 1 + T.length := by
  simp [insQ]; omega
theorem insQ_top (P : List α) (x : α) (T : List α) : insQ P x T P.length = P ++ x :: T := by simp [insQ]
theorem insQ_at (P : List α) (x : α) (T : List α) (k : Nat) (hk : k ≤ P.length) : (insQ P x T k).getD k d = x := by
  unfold insQ
  rw [List.getD, List.getElem?_append_right (by simp; omega)]
  simp [Nat.min_eq_left hk]
theorem insQ_below (P : List α) (x : α) (T : List α) (k : Nat) (hk : k < P.length) : (insQ P x T (k + 1)).getD k d = P.getD k d := by
  unfold insQ
  rw [List.getD, List.getElem?_append_left (by simp; omega), List.getElem?_take_of_lt (by omega)]
  rfl
theorem insQ_swap (P : List α) (x : α) (T : List α) (k : Nat) (hk : k < P.length) : ((insQ P x T (k + 1)).set (k + 1) (P.getD k d)).set k x = insQ P x T k := by
  unfold insQ
  have hg : P.getD k d = P[k] := by simp [List.getD, List.getElem?_eq_getElem hk]
  rw [hg]
  have h1 : (P.take (k + 1) ++ x :: (P.drop (k + 1) ++ T)).set (k + 1) P[k] = P.take (k + 1) ++ P[k] :: (P.drop (k + 1) ++ T) := by
    rw [List.set_append_right _ _ (by simp; omega)]
    simp [Nat.min_eq_left (show k + 1 ≤ P.length by omega)]
  rw [h1, List.take_succ_eq_append_getElem hk, List.append_assoc, List.set_append_right _ _ (by simp; omega)]
  simp only [List.length_take, Nat.min_eq_left (show k ≤ P.length by omega), Nat.sub_self, List.cons_append, List.nil_append, List.set_cons_zero]
  rw [List.drop_eq_getElem_cons hk]
  rfl
end

/-- Those of rank n + 1. -/
def clsOf (l : List (Int × Int)) (n : Nat) : List (Int × Int) := l.filter fun x => x.2 == ((n + 1 : Nat) : Int)
/-- The classes of the ranks 1 to m, one after another. -/
def clsL (m : Nat) (l : List (Int × Int)) : List (Int × Int) := (List.range m).flatMap (clsOf l)
theorem clsOf_snoc (l : List (Int × Int)) (x : Int × Int) (n : Nat) : clsOf (l ++ [x]) n = clsOf l n ++ (if x.2 = ((n + 1 : Nat) : Int) then [x] else []) := by
  unfold clsOf
  rw [List.filter_append]
  congr 1
  by_cases h : x.2 = ((n + 1 : Nat) : Int)
  · rw [if_pos h]; simp [h]
  · rw [if_neg h, List.filter_cons_of_neg (by simpa using h)]; rfl
theorem flat_same {f g : Nat → List (Int × Int)} {s : List Nat} (h : ∀ n ∈ s, f n = g n) : s.flatMap f = s.flatMap g := by
  induction s with
  | nil => rfl
  | cons n s ih => rw [List.flatMap_cons, List.flatMap_cons, h n (by simp), ih fun k hk => h k (by simp [hk])]
theorem mem_cls {l : List (Int × Int)} {n : Nat} {y : Int × Int} (h : y ∈ clsOf l n) : y ∈ l ∧ y.2 = ((n + 1 : Nat) : Int) := by
  unfold clsOf at h
  rw [List.mem_filter] at h
  exact ⟨h.1, by simpa using h.2⟩

theorem cls_nil (m : Nat) : clsL m [] = [] := by
  unfold clsL
  induction List.range m with
  | nil => rfl
  | cons n s ih => rw [List.flatMap_cons, ih]; rfl
/-- One more goes behind those of its own rank. -/
theorem cls_split (m : Nat) (l : List (Int × Int)) (x : Int × Int) (h1 : 1 ≤ x.2) (h2 : x.2 ≤ m) :
    ∃ A B, clsL m l = A ++ B ∧ clsL m (l ++ [x]) = A ++ x :: B ∧ (∀ y ∈ A, y.2 ≤ x.2) ∧ ∀ y ∈ B, x.2 < y.2 := by
  obtain ⟨a, ha⟩ : ∃ a : Nat, x.2 = ((a + 1 : Nat) : Int) := ⟨x.2.toNat - 1, by omega⟩
  obtain ⟨b, hb⟩ : ∃ b, m = (a + 1) + b := ⟨m - (a + 1), by omega⟩
  have hr : List.range m = List.range (a + 1) ++ (List.range b).map (a + 1 + ·) := by rw [hb, List.range_add]
  obtain ⟨A, hA⟩ : ∃ A, (List.range (a + 1)).flatMap (clsOf l) = A := ⟨_, rfl⟩
  obtain ⟨B, hB⟩ : ∃ B, ((List.range b).map (a + 1 + ·)).flatMap (clsOf l) = B := ⟨_, rfl⟩
  have hP : clsL m l = A ++ B := by unfold clsL; rw [hr, List.flatMap_append, hA, hB]
  have hN : clsL m (l ++ [x]) = A ++ x :: B := by
    unfold clsL
    rw [hr, List.flatMap_append]
    have e1 : (List.range (a + 1)).flatMap (clsOf (l ++ [x])) = A ++ [x] := by
      rw [← hA, List.range_succ, List.flatMap_append, List.flatMap_append]
      rw [flat_same (f := clsOf (l ++ [x])) (g := clsOf l) (s := List.range a) (fun n hn => by
        rw [clsOf_snoc, if_neg (by rw [ha]; have := List.mem_range.1 hn; omega), List.append_nil])]
      simp only [List.flatMap_cons, List.flatMap_nil, List.append_nil]
      rw [clsOf_snoc, if_pos ha, List.append_assoc]
    have e2 : ((List.range b).map (a + 1 + ·)).flatMap (clsOf (l ++ [x])) = B := by
      rw [← hB]
      exact flat_same (fun n hn => by
        obtain ⟨j, _, rfl⟩ := List.mem_map.1 hn
        rw [clsOf_snoc, if_neg (by rw [ha]; show ¬ ((a + 1 : Nat) : Int) = ((a + 1 + j + 1 : Nat) : Int); omega), List.append_nil])
    rw [e1, e2, List.append_assoc]; rfl
  refine ⟨A, B, hP, hN, fun y hy => ?_, fun y hy => ?_⟩
  · rw [← hA] at hy
    obtain ⟨n, hn, hy⟩ := List.mem_flatMap.1 hy
    have := (mem_cls hy).2
    have := List.mem_range.1 hn
    omega
  · rw [← hB] at hy
    obtain ⟨n, hn, hy⟩ := List.mem_flatMap.1 hy
    have h3 := (mem_cls hy).2
    obtain ⟨j, _, rfl⟩ := List.mem_map.1 hn
    have h4 : y.2 = ((a + 1 + j + 1 : Nat) : Int) := h3
    omega
theorem cls_ins (m : Nat) (l : List (Int × Int)) (x d : Int × Int) (h1 : 1 ≤ x.2) (h2 : x.2 ≤ m) (k : Nat) (hk : k ≤ (clsL m l).length) (hgt : ∀ y ∈ (clsL m l).drop k, x.2 < y.2) (hle : k = 0 ∨ ((clsL m l).getD (k - 1) d).2 ≤ x.2) :
    (clsL m l).take k ++ x :: (clsL m l).drop k = clsL m (l ++ [x]) := by
  obtain ⟨A, B, hP, hN, hAle, hBgt⟩ := cls_split m l x h1 h2
  rw [hP] at hk hgt hle ⊢
  have hkA : k = A.length := by
    rcases Nat.lt_trichotomy k A.length with h | h | h
    · exfalso
      have hm : A[k] ∈ (A ++ B).drop k := by
        rw [List.drop_append_of_le_length (by omega), List.drop_eq_getElem_cons h]
        exact List.mem_append_left _ (List.mem_cons_self ..)
      have := hgt _ hm
      have := hAle _ (List.getElem_mem h)
      omega
    · exact h
    · exfalso
      rcases hle with h0 | hle
      · omega
      · have hlt : k - 1 < (A ++ B).length := by omega
        have hg : (A ++ B).getD (k - 1) d = (A ++ B)[k - 1] := by simp only [List.getD, List.getElem?_eq_getElem hlt, Option.getD_some]
        rw [hg, List.getElem_append_right (by omega)] at hle
        have := hBgt _ (List.getElem_mem (l := B) (n := k - 1 - A.length) (by simp at hlt; omega))
        omega
  rw [hN, hkA, List.take_left, List.drop_left]
theorem cls_one (m : Nat) (x : Int × Int) (h1 : 1 ≤ x.2) (h2 : x.2 ≤ m) : clsL m [x] = [x] := by
  have h := cls_ins m [] x x h1 h2 0 (by simp) (by rw [cls_nil]; simp) (.inl rfl)
  rw [cls_nil] at h
  exact h.symm
theorem cls_take (m : Nat) (l : List (Int × Int)) (h : ∀ y ∈ l, 1 ≤ y.2 ∧ y.2 ≤ m) : ∀ i, i ≤ l.length → (clsL m (l.take i)).length = i
  | 0, _ => by rw [List.take_zero, cls_nil]; rfl
  | i + 1, hi => by
    have ih := cls_take m l h i (by omega)
    have hx := h l[i] (List.getElem_mem _)
    obtain ⟨A, B, hP, hN, _, _⟩ := cls_split m (l.take i) l[i] hx.1 hx.2
    rw [List.take_succ_eq_append_getElem (by omega), hN]
    rw [hP] at ih
    simp at ih ⊢
    omega

/-- One more is in its place. -/
theorem cls_next (m : Nat) (l : List (Int × Int)) (d : Int × Int) (h : ∀ y ∈ l, 1 ≤ y.2 ∧ y.2 ≤ m) (i k : Nat) (hi : i < l.length) (hk : k ≤ i) (hgt : ∀ y ∈ (clsL m (l.take i)).drop k, (l.getD i d).2 < y.2) (hle : k = 0 ∨ ((clsL m (l.take i)).getD (k - 1) d).2 ≤ (l.getD i d).2) :
    insQ (clsL m (l.take i)) (l.getD i d) (l.drop (i + 1)) k = clsL m (l.take (i + 1)) ++ l.drop (i + 1) := by
  have hg : l.getD i d = l[i] := by simp [List.getD, List.getElem?_eq_getElem hi]
  rw [hg] at hgt hle ⊢
  have hx := h l[i] (List.getElem_mem _)
  have := cls_ins m (l.take i) l[i] d hx.1 hx.2 k (by rw [cls_take m l h i (by omega)]; exact hk) hgt hle
  rw [List.take_succ_eq_append_getElem hi, ← this]
  simp [insQ]
theorem cls_top (m : Nat) (l : List (Int × Int)) (d : Int × Int) (h : ∀ y ∈ l, 1 ≤ y.2 ∧ y.2 ≤ m) (i : Nat) (hi : i < l.length) : clsL m (l.take i) ++ l.drop i = insQ (clsL m (l.take i)) (l.getD i d) (l.drop (i + 1)) i := by
  have hq := insQ_top (clsL m (l.take i)) (l.getD i d) (l.drop (i + 1))
  rw [cls_take m l h i (by omega)] at hq
  rw [hq, List.drop_eq_getElem_cons hi]
  simp [List.getD, List.getElem?_eq_getElem hi]
theorem cls_start (m : Nat) (l : List (Int × Int)) (h : ∀ y ∈ l, 1 ≤ y.2 ∧ y.2 ≤ m) : clsL m (l.take 1) ++ l.drop 1 = l := by
  cases l with
  | nil => rw [List.take_nil, cls_nil]; rfl
  | cons x l =>
    have hx := h x (by simp)
    rw [show (x :: l).take 1 = [x] from rfl, cls_one m x hx.1 hx.2]; rfl
theorem cls_all (m : Nat) (l : List (Int × Int)) (i : Nat) (h : l.length ≤ i) : clsL m (l.take i) ++ l.drop i = clsL m l := by
  rw [List.take_of_length_le h, List.drop_of_length_le h, List.append_nil]
end Go.Proofs.YtfpehblofokheaaGreatDoor
