/- A play-off by the reference: the same players, after as many holes. -/
import Derived.Test.YtfpehblofokheaaGreatDoorMgJ
set_option linter.unusedVariables false
set_option linter.unusedSimpArgs false
namespace Go.Proofs.YtfpehblofokheaaGreatDoor
open Go.RowKit

/-- The fewest strokes, but at most 99. -/
def leastR (l : List Int) : Int := l.foldl min 99
/-- Who stays after a hole. -/
def stayL (n : Nat) (ls : List (List Int)) (h : Nat) (L : List (Fin n)) : List (Fin n) := L.filter fun x => strokesF n ls h x == leastR (L.map (strokesF n ls h))
def refGo (n : Nat) (ls : List (List Int)) : Nat → Nat → List (Fin n) → List (Fin n) × Nat
  | 0, h, L => (L, h)
  | k + 1, h, L => if (stayL n ls h L).length = 1 then (stayL n ls h L, h + 1) else refGo n ls k (h + 1) (stayL n ls h L)
theorem foldl_min_le : ∀ (l : List Int) (x : Int), l.foldl min x ≤ x ∧ ∀ y ∈ l, l.foldl min x ≤ y
  | [], x => ⟨Int.le_refl _, fun y h => by cases h⟩
  | z :: l, x => by
    obtain ⟨h1, h2⟩ := foldl_min_le l (min x z)
    refine ⟨?_, fun y hy => ?_⟩
    · show l.foldl min (min x z) ≤ x
      omega
    · show l.foldl min (min x z) ≤ y
      rcases List.mem_cons.1 hy with rfl | hy
      · omega
      · exact h2 y hy
theorem leastR_eq {l : List Int} (hl : l ≠ []) (h : ∀ x ∈ l, x ≤ 99) : leastR l = leastI l := by
  have h1 := foldl_min_le l 99
  have hm := leastI_mem hl
  have h2 := h1.2 _ hm
  have h3 : leastI l ≤ leastR l := by
    unfold leastR
    rcases foldl_min_mem l 99 with e | e
    · rw [e]; exact h _ hm
    · match l, hl with
      | x :: t, _ =>
        have h4 := foldl_min_le t x
        rcases List.mem_cons.1 e with e2 | e2
        · rw [e2]; exact h4.1
        · exact h4.2 _ e2
  unfold leastR at h3 ⊢
  omega
theorem stay_step {n : Nat} {ls : List (List Int)} {h : Nat} {L : List (Fin n)} (hL : L ≠ []) (hb : ∀ x, strokesF n ls h x ≤ 99) : stayL n ls h L = stepL n ls h L := by
  unfold stayL stepL
  have hne : L.map (strokesF n ls h) ≠ [] := by simpa using hL
  rw [leastR_eq hne (fun x hx => by obtain ⟨y, _, rfl⟩ := List.mem_map.1 hx; exact hb y)]
  refine List.filter_congr (fun x hx => ?_)
  have hle : leastI (L.map (strokesF n ls h)) ≤ strokesF n ls h x := by
    have hm : strokesF n ls h x ∈ L.map (strokesF n ls h) := List.mem_map_of_mem hx
    generalize L.map (strokesF n ls h) = l at hm hne
    match l, hne with
    | y :: t, _ =>
      have h4 := foldl_min_le t y
      rcases List.mem_cons.1 hm with e2 | e2
      · rw [e2]; exact h4.1
      · exact h4.2 _ e2
  by_cases g : leastI (L.map (strokesF n ls h)) < strokesF n ls h x
  · rw [decide_eq_true g, beq_eq_false_iff_ne.2 (by omega)]; rfl
  · rw [decide_eq_false g, beq_iff_eq.2 (by omega)]; rfl
theorem refGo_play (n : Nat) (ls : List (List Int)) (hb : ∀ h x, strokesF n ls h x ≤ 99) : ∀ (k h : Nat) (L : List (Fin n)), 1 < L.length → refGo n ls k h L = playGo n ls k h L
  | 0, h, L, hL => rfl
  | k + 1, h, L, hL => by
    have hne : L ≠ [] := fun e => by rw [e] at hL; simp at hL
    rw [refGo, playGo, if_pos hL, stay_step hne (hb h)]
    have hs := stepL_ne (n := n) (ls := ls) (h := h) hne
    by_cases g : (stepL n ls h L).length = 1
    · rw [if_pos g]
      cases k with
      | zero => rfl
      | succ k => rw [playGo, if_neg (by omega)]
    · rw [if_neg g]
      exact refGo_play n ls hb k (h + 1) _ (by
        have : (stepL n ls h L).length ≠ 0 := fun e => hs (List.eq_nil_of_length_eq_zero e)
        omega)
end Go.Proofs.YtfpehblofokheaaGreatDoor
