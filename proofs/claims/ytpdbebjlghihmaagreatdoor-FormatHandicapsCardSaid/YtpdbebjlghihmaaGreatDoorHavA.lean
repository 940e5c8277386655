/- Mathematics of the reference's sorting: one more number goes down to its place. -/
import Derived.Test.YtpdbebjlghihmaaGreatDoorMgC
set_option linter.unusedVariables false
set_option linter.unusedSimpArgs false
namespace Go.Proofs.YtpdbebjlghihmaaGreatDoor

def srtJ (xs : List Int) : List Int := xs.mergeSort fun x y => decide (x ≤ y)
theorem srtJ_sorted (xs : List Int) : (srtJ xs).Pairwise (fun a b => a ≤ b) := by
  have := List.pairwise_mergeSort (le := fun x y : Int => decide (x ≤ y)) (fun a b c h1 h2 => by simp at *; omega) (fun a b => by simp; omega) xs
  exact this.imp (fun h => by simpa using h)
theorem srtJ_perm (xs : List Int) : (srtJ xs).Perm xs := List.mergeSort_perm xs _
theorem srtJ_eq {xs ys : List Int} (hp : xs.Perm ys) (hs : ys.Pairwise (fun a b => a ≤ b)) : srtJ xs = ys :=
  List.Perm.eq_of_pairwise (fun a b _ _ h3 h4 => by omega) (srtJ_sorted xs) hs ((srtJ_perm xs).trans hp)

/-- The row while x, which came behind the sorted P, stands at place k. -/
def insS (P : List Int) (x : Int) (T : List Int) (k : Nat) : List Int := P.take k ++ x :: (P.drop k ++ T)
theorem insS_len (P : List Int) (x : Int) (T : List Int) (k : Nat) : (insS P x T k).length = P.length + 1 + T.length := by
  simp [insS]; omega
theorem insS_top (P : List Int) (x : Int) (T : List Int) : insS P x T P.length = P ++ x :: T := by simp [insS]
theorem insS_at (P : List Int) (x : Int) (T : List Int) (k : Nat) (hk : k ≤ P.length) : (insS P x T k).getD k 0 = x := by
  unfold insS
  rw [List.getD, List.getElem?_append_right (by simp; omega)]
  simp [Nat.min_eq_left hk]
theorem insS_below (P : List Int) (x : Int) (T : List Int) (k : Nat) (hk : k < P.length) : (insS P x T (k + 1)).getD k 0 = P.getD k 0 := by
  unfold insS
  rw [List.getD, List.getElem?_append_left (by simp; omega), List.getElem?_take_of_lt (by omega)]
  rfl
theorem insS_swap (P : List Int) (x : Int) (T : List Int) (k : Nat) (hk : k < P.length) : ((insS P x T (k + 1)).set (k + 1) (P.getD k 0)).set k x = insS P x T k := by
  unfold insS
  have hg : P.getD k 0 = P[k] := by simp [List.getD, List.getElem?_eq_getElem hk]
  rw [hg]
  have h1 : (P.take (k + 1) ++ x :: (P.drop (k + 1) ++ T)).set (k + 1) P[k] = P.take (k + 1) ++ P[k] :: (P.drop (k + 1) ++ T) := by
    rw [List.set_append_right _ _ (by simp; omega)]
    simp [Nat.min_eq_left (show k + 1 ≤ P.length by omega)]
  rw [h1, List.take_succ_eq_append_getElem hk, List.append_assoc, List.set_append_right _ _ (by simp; omega)]
  simp only [List.length_take, Nat.min_eq_left (show k ≤ P.length by omega), Nat.sub_self, List.cons_append, List.nil_append, List.set_cons_zero]
  rw [List.drop_eq_getElem_cons hk]
  rfl

theorem take_le {P : List Int} (hP : P.Pairwise (fun a b => a ≤ b)) {k : Nat} (h0 : 0 < k) (hk : k ≤ P.length) : ∀ a ∈ P.take k, a ≤ P.getD (k - 1) 0 := fun a ha => by
  obtain ⟨j, hj, rfl⟩ := List.getElem_of_mem ha
  have hj1 : j < k := by have := hj; simp at this; omega
  rw [List.getElem_take]
  have hg : P.getD (k - 1) 0 = P[k - 1]'(by omega) := by simp [List.getD, List.getElem?_eq_getElem (show k - 1 < P.length by omega)]
  rw [hg]
  by_cases h : j = k - 1
  · subst h; exact Int.le_refl _
  · exact List.pairwise_iff_getElem.1 hP j (k - 1) (by omega) (by omega) (by omega)

theorem ins_done {P : List Int} (hP : P.Pairwise (fun a b => a ≤ b)) (x : Int) (k : Nat) (hk : k ≤ P.length) (hgt : ∀ y ∈ P.drop k, x < y) (hle : k = 0 ∨ P.getD (k - 1) 0 ≤ x) :
    (P.take k ++ x :: P.drop k).Pairwise (fun a b => a ≤ b) := by
  refine List.pairwise_append.2 ⟨hP.sublist (List.take_sublist _ _), List.pairwise_cons.2 ⟨fun y hy => by have := hgt y hy; omega, hP.sublist (List.drop_sublist _ _)⟩, fun a ha b hb => ?_⟩
  have hax : a ≤ x := by
    rcases hle with h | h
    · subst h; simp at ha
    · by_cases h0 : k = 0
      · subst h0; simp at ha
      · have := take_le hP (by omega) hk a ha
        omega
  rcases List.mem_cons.1 hb with rfl | hb
  · exact hax
  · have := hgt b hb
    omega

/-- One more is in its place: the row is the sorted beginning, and what is left. -/
theorem ins_next (xs : List Int) (i k : Nat) (hi : i < xs.length) (hk : k ≤ i) (hgt : ∀ y ∈ (srtJ (xs.take i)).drop k, xs.getD i 0 < y) (hle : k = 0 ∨ (srtJ (xs.take i)).getD (k - 1) 0 ≤ xs.getD i 0) :
    insS (srtJ (xs.take i)) (xs.getD i 0) (xs.drop (i + 1)) k = srtJ (xs.take (i + 1)) ++ xs.drop (i + 1) := by
  have hl : (srtJ (xs.take i)).length = i := by rw [(srtJ_perm _).length_eq]; simp; omega
  have hs := ins_done (srtJ_sorted (xs.take i)) (xs.getD i 0) k (by omega) hgt hle
  have hp : (xs.take (i + 1)).Perm ((srtJ (xs.take i)).take k ++ xs.getD i 0 :: (srtJ (xs.take i)).drop k) := by
    rw [List.take_succ_eq_append_getElem hi, show xs[i] = xs.getD i 0 by simp [List.getD, List.getElem?_eq_getElem hi]]
    refine List.Perm.trans ?_ (List.perm_middle.symm)
    rw [List.take_append_drop]
    refine List.Perm.trans (List.perm_append_comm) ?_
    exact List.Perm.cons _ (srtJ_perm _).symm
  rw [srtJ_eq hp hs]
  simp [insS]
theorem sort_top (xs : List Int) (i : Nat) (hi : i < xs.length) : srtJ (xs.take i) ++ xs.drop i = insS (srtJ (xs.take i)) (xs.getD i 0) (xs.drop (i + 1)) i := by
  have hl : (srtJ (xs.take i)).length = i := by rw [(srtJ_perm _).length_eq]; simp; omega
  have h := insS_top (srtJ (xs.take i)) (xs.getD i 0) (xs.drop (i + 1))
  rw [hl] at h
  rw [h, List.drop_eq_getElem_cons hi, show xs[i] = xs.getD i 0 by simp [List.getD, List.getElem?_eq_getElem hi]]
theorem sort_one (xs : List Int) (h : 0 < xs.length) : srtJ (xs.take 1) ++ xs.drop 1 = xs := by
  cases xs with
  | nil => simp at h
  | cons x l => rw [show (x :: l).take 1 = [x] from rfl, srtJ_eq (ys := [x]) (List.Perm.refl _) (by simp)]; rfl
theorem sort_all (xs : List Int) (i : Nat) (h : xs.length ≤ i) : srtJ (xs.take i) ++ xs.drop i = srtJ xs := by
  rw [List.take_of_length_le h, List.drop_of_length_le h, List.append_nil]
end Go.Proofs.YtpdbebjlghihmaaGreatDoor
