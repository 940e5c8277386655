/- Lists of pairs in a block: their cells, one of them changed. -/
import Derived.Test.YtbckfkopdojggaaGreatDoorMgF
set_option linter.unusedVariables false
set_option linter.unusedSimpArgs false
namespace Go.Proofs.YtbckfkopdojggaaGreatDoor
open Go.RowKit

theorem entries_news {w : World} {a : Addr} {l : List (Int × ByteArray)} (h : EntriesR w (some a) l) : ∀ j u, (pairCells l)[j]? = some u → w.cell? (a.add j) = some u := by
  intro j u hu
  have hj : j < (pairCells l).length := by
    rcases Nat.lt_or_ge j (pairCells l).length with g | g
    · exact g
    · rw [List.getElem?_eq_none g] at hu; cases hu
  rw [pairCells_len] at hj
  have hi : j / 2 < l.length := by omega
  obtain ⟨b, hb, h0, h1, _⟩ := h (j / 2) hi
  injection hb with hb
  subst hb
  obtain ⟨p0, p1⟩ := pairCells_at l (j / 2) hi
  rcases Nat.mod_two_eq_zero_or_one j with g | g
  · have e : j / 2 * 2 = j := by omega
    rw [e] at p0 h0
    rw [p0] at hu
    injection hu with hu
    rw [← hu]; exact h0
  · have e : j / 2 * 2 + 1 = j := by omega
    rw [e] at p1
    rw [p1] at hu
    injection hu with hu
    rw [← hu, ← h1]
    congr 1
    unfold Addr.add
    rw [if_neg (by omega)]
    by_cases g0 : j / 2 * 2 = 0
    · rw [if_pos g0]
      have : j = 1 := by omega
      rw [this]
    · rw [if_neg g0]
      simp only [Addr.mk.injEq, and_true, true_and]
      omega
theorem pair_cells_one2 (l : List (Int × ByteArray)) : ∀ u ∈ pairCells l, u.oneCell' = true := fun u hu => by
  unfold pairCells at hu
  obtain ⟨e, _, h⟩ := List.mem_flatMap.1 hu
  simp at h
  rcases h with rfl | rfl <;> rfl
theorem pair_set1 : ∀ (l : List (Int × ByteArray)) (k : Nat) (s : Int), k < l.length → (pairCells l).set (k * 2) (.int .i64 s) = pairCells (l.set k (s, (l.getD k (0, ByteArray.empty)).2))
  | [], k, _, h => absurd h (Nat.not_lt_zero _)
  | e :: l, 0, s, _ => rfl
  | e :: l, k + 1, s, h => by
    have ih := pair_set1 l k s (by simpa using h)
    rw [show (k + 1) * 2 = k * 2 + 1 + 1 by omega]
    have e1 : pairCells (e :: l) = .int .i64 e.1 :: .string e.2 :: pairCells l := rfl
    rw [e1]
    simp only [List.set_cons_succ]
    rw [ih]
    rfl
theorem entries_of_take {w : World} {g T : Nat} {cur : Array Value} {l : List (Int × ByteArray)} (h : BlkV w g T cur) (ht : cur.toList.take (l.length * 2) = pairCells l) : EntriesR w (some ⟨g, 0, none⟩) l := fun j hj => by
  obtain ⟨p1, p2⟩ := pairCells_at l j hj
  rw [← ht, List.getElem?_take_of_lt (by omega)] at p1 p2
  refine ⟨_, rfl, ?_, ?_, ?_⟩
  · rw [add_zero_at, h.cell]; simpa using p1
  · rw [add_zero_at, h.cell]; simpa using p2
  · rw [add_zero_at]; exact h.lt
theorem set_take {cur : Array Value} {l : List (Int × ByteArray)} (ht : cur.toList.take (l.length * 2) = pairCells l) (k : Nat) (s : Int) (hk : k < l.length) :
    (cur.setIfInBounds (k * 2) (.int .i64 s)).toList.take ((l.set k (s, (l.getD k (0, ByteArray.empty)).2)).length * 2) = pairCells (l.set k (s, (l.getD k (0, ByteArray.empty)).2)) := by
  rw [List.length_set, Array.toList_setIfInBounds, List.take_set, ht]
  exact pair_set1 l k s hk

end Go.Proofs.YtbckfkopdojggaaGreatDoor
