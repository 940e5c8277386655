/- Merged: LedM RowP LedR LedS LedA LedB LedG. -/
import Derived.Test.YtbckfkopdojggaaGreatDoorMgC
import Derived.Outline
import Derived.Test.YtbckfkopdojggaaGreatDoorMgG
import Derived.Test.YtbckfkopdojggaaGreatDoorMgE
import Derived.IntWalk
import Derived.BigQuiet
import Derived.Deep.QuietTactic
import Derived.Test.YtbckfkopdojggaaGreatDoorFldS
import Derived.Test.YtbckfkopdojggaaGreatDoorMgF
import Derived.Test.YtbckfkopdojggaaGreatDoorMgGx
import Derived.Test.YtbckfkopdojggaaGreatDoorMgD
import Derived.Deep.RegionHeld3
import Derived.Test.YtbckfkopdojggaaGreatDoorScoA
import Derived.Test.YtbckfkopdojggaaGreatDoorFbaS
import Derived.OwnWalk
/- Mathematics of a stable sort by ranks: insertion leaves the classes of the ranks, one after another. -/
set_option linter.unusedVariables false
set_option linter.unusedSimpArgs false
namespace Go.Proofs.YtbckfkopdojggaaGreatDoor

section
variable {α : Type} (d : α)
/-- The row while x, which came behind P, stands at place k. -/
def insQ (P : List α) (x : α) (T : List α) (k : Nat) : List α := P.take k ++ x :: (P.drop k ++ T)
theorem insQ_len (P : List α) (x : α) (T : List α) (k : Nat) : (insQ P x T k).length = P.length + 1 + T.length := by
  simp [insQ]; omega
theorem insQ_top (P : List α) (x : α) (T : List α) : insQ P x T P.length = P ++ x :: T := by simp [insQ]
theorem insQ_at (P : List α) (x : α) (T : List α) (k : Nat) (hk : k ≤ P.length) : (insQ P x T k).getD k d = x := by
  unfold insQ
  rw [List.getD, List.getElem?_append_right (by simp; omega)]
  simp [Nat.min_eq_left hk]
theorem insQ_below (P : List α) (x : α) (T : List α) (k : Nat) (hk : k < P.length) : (insQ P x T (k + 1)).getD k d = P.getD k d := by
  unfold insQ
  rw [List.getD, List.getElem?_append_left (by simp; omega), List.getElem?_take_of_lt (by omega)]
  rfl
theorem insQ_swap (P : List α) (x : α) (T : List α) (k : Nat) (hk : k < P.length) : ((insQ P x T (k + 1)).set (k + 1) (P.getD k d)).set k x = insQ P x T k := by
  unfold insQ
  have hg : P.getD k d = P[k] := by simp [List.getD, List.getElem?_eq_getElem hk]
  rw [hg]
  have h1 : (P.take (k + 1) ++ x :: (P.drop (k + 1) ++ T)).set (k + 1) P[k] = P.take (k + 1) ++ P[k] :: (P.drop (k + 1) ++ T) := by
    rw [List.set_append_right _ _ (by simp; omega)]
    simp [Nat.min_eq_left (show k + 1 ≤ P.length by omega)]
  rw [h1, List.take_succ_eq_append_getElem hk, List.append_assoc, List.set_append_right _ _ (by simp; omega)]
  simp only [List.length_take, Nat.min_eq_left (show k ≤ P.length by omega), Nat.sub_self, List.cons_append, List.nil_append, List.set_cons_zero]
  rw [List.drop_eq_getElem_cons hk]
  rfl
end

/-- Those of rank n + 1. -/
def clsOf (l : List (Int × Int)) (n : Nat) : List (Int × Int) := l.filter fun x => x.2 == ((n + 1 : Nat) : Int)
/-- The classes of the ranks 1 to m, one after another. -/
def clsL (m : Nat) (l : List (Int × Int)) : List (Int × Int) := (List.range m).flatMap (clsOf l)
theorem clsOf_snoc (l : List (Int × Int)) (x : Int × Int) (n : Nat) : clsOf (l ++ [x]) n = clsOf l n ++ (if x.2 = ((n + 1 : Nat) : Int) then [x] else []) := by
  unfold clsOf
  rw [List.filter_append]
  congr 1
  by_cases h : x.2 = ((n + 1 : Nat) : Int)
  · rw [if_pos h]; simp [h]
  · rw [if_neg h, List.filter_cons_of_neg (by simpa using h)]; rfl
theorem flat_same {f g : Nat → List (Int × Int)} {s : List Nat} (h : ∀ n ∈ s, f n = g n) : s.flatMap f = s.flatMap g := by
  induction s with
  | nil => rfl
  | cons n s ih => rw [List.flatMap_cons, List.flatMap_cons, h n (by simp), ih fun k hk => h k (by simp [hk])]
theorem mem_cls {l : List (Int × Int)} {n : Nat} {y : Int × Int} (h : y ∈ clsOf l n) : y ∈ l ∧ y.2 = ((n + 1 : Nat) : Int) := by
  unfold clsOf at h
  rw [List.mem_filter] at h
  exact ⟨h.1, by simpa using h.2⟩

theorem cls_nil (m : Nat) : clsL m [] = [] := by
  unfold clsL
  induction List.range m with
  | nil => rfl
  | cons n s ih => rw [List.flatMap_cons, ih]; rfl
/-- One more goes behind those of its own rank. -/
theorem cls_split (m : Nat) (l : List (Int × Int)) (x : Int × Int) (h1 : 1 ≤ x.2) (h2 : x.2 ≤ m) :
    ∃ A B, clsL m l = A ++ B ∧ clsL m (l ++ [x]) = A ++ x :: B ∧ (∀ y ∈ A, y.2 ≤ x.2) ∧ ∀ y ∈ B, x.2 < y.2 := by
  obtain ⟨a, ha⟩ : ∃ a : Nat, x.2 = ((a + 1 : Nat) : Int) := ⟨x.2.toNat - 1, by omega⟩
  obtain ⟨b, hb⟩ : ∃ b, m = (a + 1) + b := ⟨m - (a + 1), by omega⟩
  have hr : List.range m = List.range (a + 1) ++ (List.range b).map (a + 1 + ·) := by rw [hb, List.range_add]
  obtain ⟨A, hA⟩ : ∃ A, (List.range (a + 1)).flatMap (clsOf l) = A := ⟨_, rfl⟩
  obtain ⟨B, hB⟩ : ∃ B, ((List.range b).map (a + 1 + ·)).flatMap (clsOf l) = B := ⟨_, rfl⟩
  have hP : clsL m l = A ++ B := by unfold clsL; rw [hr, List.flatMap_append, hA, hB]
  have hN : clsL m (l ++ [x]) = A ++ x :: B := by
    unfold clsL
    rw [hr, List.flatMap_append]
    have e1 : (List.range (a + 1)).flatMap (clsOf (l ++ [x])) = A ++ [x] := by
      rw [← hA, List.range_succ, List.flatMap_append, List.flatMap_append]
      rw [flat_same (f := clsOf (l ++ [x])) (g := clsOf l) (s := List.range a) (fun n hn => by
        rw [clsOf_snoc, if_neg (by rw [ha]; have := List.mem_range.1 hn; omega), List.append_nil])]
      simp only [List.flatMap_cons, List.flatMap_nil, List.append_nil]
      rw [clsOf_snoc, if_pos ha, List.append_assoc]
    have e2 : ((List.range b).map (a + 1 + ·)).flatMap (clsOf (l ++ [x])) = B := by
      rw [← hB]
      exact flat_same (fun n hn => by
        obtain ⟨j, _, rfl⟩ := List.mem_map.1 hn
        rw [clsOf_snoc, if_neg (by rw [ha]; show ¬ ((a + 1 : Nat) : Int) = ((a + 1 + j + 1 : Nat) : Int); omega), List.append_nil])
    rw [e1, e2, List.append_assoc]; rfl
  refine ⟨A, B, hP, hN, fun y hy => ?_, fun y hy => ?_⟩
  · rw [← hA] at hy
    obtain ⟨n, hn, hy⟩ := List.mem_flatMap.1 hy
    have := (mem_cls hy).2
    have := List.mem_range.1 hn
    omega
  · rw [← hB] at hy
    obtain ⟨n, hn, hy⟩ := List.mem_flatMap.1 hy
    have h3 := (mem_cls hy).2
    obtain ⟨j, _, rfl⟩ := List.mem_map.1 hn
    have h4 : y.2 = ((a + 1 + j + 1 : Nat) : Int) := h3
    omega
theorem cls_ins (m : Nat) (l : List (Int × Int)) (x d : Int × Int) (h1 : 1 ≤ x.2) (h2 : x.2 ≤ m) (k : Nat) (hk : k ≤ (clsL m l).length) (hgt : ∀ y ∈ (clsL m l).drop k, x.2 < y.2) (hle : k = 0 ∨ ((clsL m l).getD (k - 1) d).2 ≤ x.2) :
    (clsL m l).take k ++ x :: (clsL m l).drop k = clsL m (l ++ [x]) := by
  obtain ⟨A, B, hP, hN, hAle, hBgt⟩ := cls_split m l x h1 h2
  rw [hP] at hk hgt hle ⊢
  have hkA : k = A.length := by
    rcases Nat.lt_trichotomy k A.length with h | h | h
    · exfalso
      have hm : A[k] ∈ (A ++ B).drop k := by
        rw [List.drop_append_of_le_length (by omega), List.drop_eq_getElem_cons h]
        exact List.mem_append_left _ (List.mem_cons_self ..)
      have := hgt _ hm
      have := hAle _ (List.getElem_mem h)
      omega
    · exact h
    · exfalso
      rcases hle with h0 | hle
      · omega
      · have hlt : k - 1 < (A ++ B).length := by omega
        have hg : (A ++ B).getD (k - 1) d = (A ++ B)[k - 1] := by simp only [List.getD, List.getElem?_eq_getElem hlt, Option.getD_some]
        rw [hg, List.getElem_append_right (by omega)] at hle
        have := hBgt _ (List.getElem_mem (l := B) (n := k - 1 - A.length) (by simp at hlt; omega))
        omega
  rw [hN, hkA, List.take_left, List.drop_left]
theorem cls_one (m : Nat) (x : Int × Int) (h1 : 1 ≤ x.2) (h2 : x.2 ≤ m) : clsL m [x] = [x] := by
  have h := cls_ins m [] x x h1 h2 0 (by simp) (by rw [cls_nil]; simp) (.inl rfl)
  rw [cls_nil] at h
  exact h.symm
theorem cls_take (m : Nat) (l : List (Int × Int)) (h : ∀ y ∈ l, 1 ≤ y.2 ∧ y.2 ≤ m) : ∀ i, i ≤ l.length → (clsL m (l.take i)).length = i
  | 0, _ => by rw [List.take_zero, cls_nil]; rfl
  | i + 1, hi => by
    have ih := cls_take m l h i (by omega)
    have hx := h l[i] (List.getElem_mem _)
    obtain ⟨A, B, hP, hN, _, _⟩ := cls_split m (l.take i) l[i] hx.1 hx.2
    rw [List.take_succ_eq_append_getElem (by omega), hN]
    rw [hP] at ih
    simp at ih ⊢
    omega

/-- One more is in its place. -/
theorem cls_next (m : Nat) (l : List (Int × Int)) (d : Int × Int) (h : ∀ y ∈ l, 1 ≤ y.2 ∧ y.2 ≤ m) (i k : Nat) (hi : i < l.length) (hk : k ≤ i) (hgt : ∀ y ∈ (clsL m (l.take i)).drop k, (l.getD i d).2 < y.2) (hle : k = 0 ∨ ((clsL m (l.take i)).getD (k - 1) d).2 ≤ (l.getD i d).2) :
    insQ (clsL m (l.take i)) (l.getD i d) (l.drop (i + 1)) k = clsL m (l.take (i + 1)) ++ l.drop (i + 1) := by
  have hg : l.getD i d = l[i] := by simp [List.getD, List.getElem?_eq_getElem hi]
  rw [hg] at hgt hle ⊢
  have hx := h l[i] (List.getElem_mem _)
  have := cls_ins m (l.take i) l[i] d hx.1 hx.2 k (by rw [cls_take m l h i (by omega)]; exact hk) hgt hle
  rw [List.take_succ_eq_append_getElem hi, ← this]
  simp [insQ]
theorem cls_top (m : Nat) (l : List (Int × Int)) (d : Int × Int) (h : ∀ y ∈ l, 1 ≤ y.2 ∧ y.2 ≤ m) (i : Nat) (hi : i < l.length) : clsL m (l.take i) ++ l.drop i = insQ (clsL m (l.take i)) (l.getD i d) (l.drop (i + 1)) i := by
  have hq := insQ_top (clsL m (l.take i)) (l.getD i d) (l.drop (i + 1))
  rw [cls_take m l h i (by omega)] at hq
  rw [hq, List.drop_eq_getElem_cons hi]
  simp [List.getD, List.getElem?_eq_getElem hi]
theorem cls_start (m : Nat) (l : List (Int × Int)) (h : ∀ y ∈ l, 1 ≤ y.2 ∧ y.2 ≤ m) : clsL m (l.take 1) ++ l.drop 1 = l := by
  cases l with
  | nil => rw [List.take_nil, cls_nil]; rfl
  | cons x l =>
    have hx := h x (by simp)
    rw [show (x :: l).take 1 = [x] from rfl, cls_one m x hx.1 hx.2]; rfl
theorem cls_all (m : Nat) (l : List (Int × Int)) (i : Nat) (h : l.length ≤ i) : clsL m (l.take i) ++ l.drop i = clsL m l := by
  rw [List.take_of_length_le h, List.drop_of_length_le h, List.append_nil]
end Go.Proofs.YtbckfkopdojggaaGreatDoor

/- Rows of integers in blocks of one's own, with room behind them. -/
namespace Go.Proofs.YtbckfkopdojggaaGreatDoor
open Go.RowKit

/-- Block g begins with these integers; behind them lies what is never looked at. -/
def PreR (w : World) (g : Nat) (ys : List Int) (rest : List Value) : Prop := w.heap[g]? = some (.cells (ys.map (Value.int .i64) ++ rest).toArray 3 (0, 0))
section
variable {w w' : World} {g : Nat} {ys : List Int} {rest : List Value}
theorem PreR.lt (h : PreR w g ys rest) : g < w.heap.size := by
  rcases Nat.lt_or_ge g w.heap.size with hlt | hge
  · exact hlt
  · unfold PreR at h; rw [Array.getElem?_eq_none hge] at h; cases h
theorem PreR.cell (h : PreR w g ys rest) {j : Nat} (hj : j < ys.length) : w.cell? ⟨g, j, none⟩ = some (.int .i64 (ys.getD j 0)) := by
  rw [cell_of_row w g j _ _ _ h]
  simp [List.getElem?_append_left (show j < (ys.map (Value.int .i64)).length by simpa using hj), List.getElem?_eq_getElem hj, List.getD]
theorem PreR.frozen (h : PreR w g ys rest) (j : Nat) : w.frozen? ⟨g, j, none⟩ = false := by
  unfold PreR at h
  simp [World.frozen?, h]
theorem PreR.set (h : PreR w g ys rest) {k : Nat} (hk : k < ys.length) (y : Int) : PreR (w.setCell ⟨g, k, none⟩ (.int .i64 y)) g (ys.set k y) rest := by
  unfold PreR at h ⊢
  simp [World.setCell, Array.getElem?_modify, h, List.map_set, List.set_append_left _ _ (show k < (ys.map (Value.int .i64)).length by simpa using hk)]
theorem PreR.drew (h : PreR w g ys rest) : PreR w.drew g ys rest := h
theorem PreR.drewN (h : PreR w g ys rest) (n : Nat) : PreR (w.drewN n) g ys rest := h
theorem PreR.eq_ (h : PreR w g ys rest) {zs : List Int} (e : ys = zs) : PreR w g zs rest := e ▸ h
theorem PreR.ints (h : PreR w g ys rest) {B : Nat} (hB : g < B) : IntsAt w B (some ⟨g, 0, none⟩) ys := fun j hj =>
  ⟨_, rfl, hB, by rw [add_zero_at]; exact h.cell hj⟩
theorem PreR.below {B : Nat} (h : PreR w g ys rest) (hb : Below B w w') (hg : g < B) : PreR w' g ys rest := (hb.block g hg).trans h
end

theorem PreR.of_row {w : World} {g : Nat} {xs : List Int} (h : RowI w g xs) : PreR w g xs [] := by
  unfold PreR
  rw [List.append_nil]
  exact h
theorem PreR.alloc {w : World} {g : Nat} {ys : List Int} {rest : List Value} (h : PreR w g ys rest) (o : Obj) : PreR (w.alloc o) g ys rest := (Below.heap_alloc w o g h.lt).trans h
theorem PreR.grown {w w' : World} {g : Nat} {ys : List Int} {rest : List Value} {row : Option Nat} (h : PreR w g ys rest) (hb : w.grownBy w' row) (hg : some g ≠ row) : PreR w' g ys rest := (hb.block g h.lt hg).trans h
/-- What one's own row of integers holds, as a block. -/
theorem PreR.of_own {w : World} {base : Nat} {v : Value} {xs : List Int} (h : w.ownsRow base 3 1 v xs.length (xs.map (Value.int .i64))) (h0 : 0 < xs.length) :
    ∃ g cap rest, v = .slice (some ⟨g, 0, none⟩) xs.length cap ∧ PreR w g xs rest ∧ base ≤ g ∧ xs.length ≤ cap := by
  rcases h.2 with ⟨_, e⟩ | ⟨g, cap, cur, rfl, hg, hgb, hnc, hcm, hcs, htk⟩
  · omega
  · refine ⟨g, cap, cur.toList.drop (xs.length * 1), rfl, ?_, hg, hnc⟩
    unfold PreR
    rw [hgb, ← htk, List.take_append_drop]
end Go.Proofs.YtbckfkopdojggaaGreatDoor

/- Rows of pairs of integers (leaders: player, rank) in blocks of one's own; rows of lists. -/
namespace Go.Proofs.YtbckfkopdojggaaGreatDoor
open Go.RowKit

def ldCells : List (Int × Int) → List Value
  | [] => []
  | e :: l => .int .i64 e.1 :: .int .i64 e.2 :: ldCells l
theorem ldCells_len : ∀ l : List (Int × Int), (ldCells l).length = l.length * 2
  | [] => rfl
  | e :: l => by simp [ldCells, ldCells_len l]; omega
theorem ldCells_at : ∀ (l : List (Int × Int)) (j : Nat), j < l.length → (ldCells l)[j * 2]? = some (.int .i64 (l.getD j (0, 0)).1) ∧ (ldCells l)[j * 2 + 1]? = some (.int .i64 (l.getD j (0, 0)).2)
  | [], j, h => absurd h (Nat.not_lt_zero _)
  | e :: l, 0, _ => ⟨rfl, rfl⟩
  | e :: l, j + 1, h => by
    have ih := ldCells_at l j (by simpa using h)
    rw [show (j + 1) * 2 = j * 2 + 1 + 1 by omega]
    have e1 : ldCells (e :: l) = .int .i64 e.1 :: .int .i64 e.2 :: ldCells l := rfl
    rw [e1]
    simp only [List.getElem?_cons_succ]
    exact ih
theorem ldCells_set : ∀ (l : List (Int × Int)) (k : Nat) (s m : Int), k < l.length → ((ldCells l).set (k * 2) (.int .i64 s)).set (k * 2 + 1) (.int .i64 m) = ldCells (l.set k (s, m))
  | [], k, _, _, h => absurd h (Nat.not_lt_zero _)
  | e :: l, 0, s, m, _ => rfl
  | e :: l, k + 1, s, m, h => by
    have ih := ldCells_set l k s m (by simpa using h)
    rw [show (k + 1) * 2 = k * 2 + 1 + 1 by omega]
    have e1 : ldCells (e :: l) = .int .i64 e.1 :: .int .i64 e.2 :: ldCells l := rfl
    rw [e1]
    simp only [List.set_cons_succ]
    rw [ih]
    rfl
theorem ldCells_rank : ∀ (l : List (Int × Int)) (k : Nat) (m : Int), k < l.length → (ldCells l).set (k * 2 + 1) (.int .i64 m) = ldCells (l.set k ((l.getD k (0, 0)).1, m))
  | [], k, _, h => absurd h (Nat.not_lt_zero _)
  | e :: l, 0, m, _ => rfl
  | e :: l, k + 1, m, h => by
    have ih := ldCells_rank l k m (by simpa using h)
    rw [show (k + 1) * 2 + 1 = k * 2 + 1 + 1 + 1 by omega]
    have e1 : ldCells (e :: l) = .int .i64 e.1 :: .int .i64 e.2 :: ldCells l := rfl
    rw [e1]
    simp only [List.set_cons_succ]
    rw [ih]
    rfl
theorem ldCells_snoc : ∀ (l : List (Int × Int)) (x : Int × Int), ldCells (l ++ [x]) = ldCells l ++ [.int .i64 x.1, .int .i64 x.2]
  | [], x => rfl
  | e :: l, x => by show _ :: _ :: ldCells (l ++ [x]) = _; rw [ldCells_snoc l x]; rfl

/-- Block g begins with these pairs; behind them lies what is never looked at. -/
def LdR (w : World) (g : Nat) (l : List (Int × Int)) (rest : List Value) : Prop := w.heap[g]? = some (.cells (ldCells l ++ rest).toArray 100 (0, 0))
section
variable {w w' : World} {g : Nat} {l : List (Int × Int)} {rest : List Value}
theorem LdR.lt (h : LdR w g l rest) : g < w.heap.size := by
  rcases Nat.lt_or_ge g w.heap.size with hlt | hge
  · exact hlt
  · unfold LdR at h; rw [Array.getElem?_eq_none hge] at h; cases h
theorem LdR.cells (h : LdR w g l rest) {j : Nat} (hj : j < l.length) : w.cell? ⟨g, j * 2, none⟩ = some (.int .i64 (l.getD j (0, 0)).1) ∧ w.cell? ⟨g, j * 2 + 1, none⟩ = some (.int .i64 (l.getD j (0, 0)).2) := by
  obtain ⟨h1, h2⟩ := ldCells_at l j hj
  have hl := ldCells_len l
  constructor
  · rw [cell_of_row w g _ _ _ _ h, List.getElem?_toArray, List.getElem?_append_left (by omega), h1]
  · rw [cell_of_row w g _ _ _ _ h, List.getElem?_toArray, List.getElem?_append_left (by omega), h2]
theorem LdR.frozen (h : LdR w g l rest) (j : Nat) : w.frozen? ⟨g, j, none⟩ = false := by
  unfold LdR at h
  simp [World.frozen?, h]
theorem LdR.set (h : LdR w g l rest) {k : Nat} (hk : k < l.length) (s m : Int) : LdR ((w.setCell ⟨g, k * 2, none⟩ (.int .i64 s)).setCell ⟨g, k * 2 + 1, none⟩ (.int .i64 m)) g (l.set k (s, m)) rest := by
  have hl := ldCells_len l
  have q := (BlkV.set (show BlkV w g _ _ from h) (k * 2) (.int .i64 s)).set (k * 2 + 1) (.int .i64 m)
  unfold LdR
  rw [← ldCells_set l k s m hk, ← List.set_append_left _ _ (by simp; omega), ← List.set_append_left _ _ (by omega)]
  unfold BlkV at q
  simpa using q
theorem LdR.rank (h : LdR w g l rest) {k : Nat} (hk : k < l.length) (m : Int) : LdR (w.setCell ⟨g, k * 2 + 1, none⟩ (.int .i64 m)) g (l.set k ((l.getD k (0, 0)).1, m)) rest := by
  have hl := ldCells_len l
  have q := BlkV.set (show BlkV w g _ _ from h) (k * 2 + 1) (.int .i64 m)
  unfold LdR
  rw [← ldCells_rank l k m hk, ← List.set_append_left _ _ (by omega)]
  unfold BlkV at q
  simpa using q
theorem LdR.drew (h : LdR w g l rest) : LdR w.drew g l rest := h
theorem LdR.drewN (h : LdR w g l rest) (n : Nat) : LdR (w.drewN n) g l rest := h
theorem LdR.eq_ (h : LdR w g l rest) {zs : List (Int × Int)} (e : l = zs) : LdR w g zs rest := e ▸ h
theorem LdR.below {B : Nat} (h : LdR w g l rest) (hb : Below B w w') (hg : g < B) : LdR w' g l rest := (hb.block g hg).trans h
end
theorem info_led : (Tryz.prog.info? 100).map (fun i => (i.zero, i.size, i.bytes)) = some (some (.agg #[.int .i64 0, .int .i64 0]), 2, 16) := by kernel_rfl
/-- What one's own rows hold, as a block. -/
theorem LdR.of_own {w : World} {base : Nat} {v : Value} {l : List (Int × Int)} (h : w.ownsRow base 100 2 v l.length (ldCells l)) (h0 : 0 < l.length) :
    ∃ g cap rest, v = .slice (some ⟨g, 0, none⟩) l.length cap ∧ LdR w g l rest ∧ base ≤ g ∧ l.length ≤ cap := by
  rcases h.2 with ⟨_, e⟩ | ⟨g, cap, cur, rfl, hg, hgb, hnc, hcm, hcs, htk⟩
  · omega
  · refine ⟨g, cap, cur.toList.drop (l.length * 2), rfl, ?_, hg, hnc⟩
    unfold LdR
    rw [hgb, ← htk, List.take_append_drop]

/-- One more element to a row of one's own, and which block grew. -/
theorem append_grown (base : Nat) (T TE : TypeId) (z : Value) (size bytes : Nat) (hT : Tryz.prog.underlying T = some (.slice TE)) (hI : (Tryz.prog.info? TE).map (fun i => (i.zero, i.size, i.bytes)) = some (some z, size, bytes)) (hz : z.cells.size = size) (hsz : 0 < size)
    (cs : List Value) (hcs : cs.length = size) (h1 : ∀ u ∈ cs, u.oneCell' = true) (w : World) (v : Value) (n : Nat) (xs : List Value) (hb : base ≤ w.heap.size) (hl : n ≤ 100000) (hbs : bytes ≤ 1000) (hown : w.ownsRow base TE size v n xs) :
    ∃ v' w', (Builtin.append_ #[T, T] T #[v, .slice (some ⟨w.heap.size, 0, none⟩) 1 1]).run Tryz.prog (w.alloc (.cells cs.toArray TE)) = .ok v' w' ∧
      w'.ownsRow base TE size v' (n + 1) (xs ++ cs) ∧ Below base w w' ∧ w.grownBy w' v.ownBlock ∧ (v'.ownBlock = v.ownBlock ∨ v'.ownBlock = some (w.heap.size + 1)) := by
  obtain ⟨i0, hi, hz0, hz1, hz2⟩ := info_parts hI
  have hd := owns_alloc hown (.cells cs.toArray TE)
  have hrow := heap_alloc_new w (.cells cs.toArray TE)
  have hbb : (n + 1) * bytes ≤ 140737488355328 := Nat.le_trans (Nat.mul_le_mul (show n + 1 ≤ 100001 by omega) hbs) (by decide)
  obtain ⟨v', w', hrun, h2, h3, _, h5⟩ := run_append_own_at (P := Tryz.prog) (w.alloc (.cells cs.toArray TE)) base T T TE i0 z size bytes hT hi hz0 hz1 hz2 hz hsz v n xs hd ⟨w.heap.size, 0, none⟩ 1 1 cs (by omega)
    (fun j u hu => by rw [add_zero_at, cell_of_row _ _ j _ _ _ hrow]; rw [← hu]; simp)
    h1 (by unfold maxLen; omega) hbb (by simp; omega)
  refine ⟨v', w', hrun, h2, ?_, (World.grownBy_alloc w _ _).trans h3, by rw [World.size_alloc] at h5; exact h5⟩
  refine ((Below.refl base w).alloc hb _).grown h3 (by simp; omega) (fun k e => ?_)
  rcases hown.2 with ⟨rfl, _⟩ | ⟨g, cap, cur, rfl, hg, _⟩
  · simp [Value.ownBlock] at e
  · simp [Value.ownBlock] at e; omega

/-- Rows of lists of integers, in a block of one's own; each list in a block of integers, none of which is x. -/
def LsOwn (w : World) (base : Nat) (v : Value) (ls : List (List Int)) (x : Option Nat) : Prop :=
  ∃ cs : List Value, w.ownsRow base 35 1 v ls.length cs ∧ ∀ j, j < ls.length → ∃ g c rest, cs[j]? = some (.slice (some ⟨g, 0, none⟩) (ls.getD j []).length c) ∧ (ls.getD j []).length ≤ c ∧ PreR w g (ls.getD j []) rest ∧ x ≠ some g
theorem LsOwn.nil (w : World) (base : Nat) (x : Option Nat) : LsOwn w base (.slice none 0 0) [] x := ⟨[], World.ownsRow_nil w base 35 1, fun j hj => absurd hj (Nat.not_lt_zero _)⟩
/-- Another row of one's own has grown, whose elements have another type than []int, or which is x. -/
theorem LsOwn.kept {w w' : World} {base : Nat} {v : Value} {ls : List (List Int)} {x row x' : Option Nat} (h : LsOwn w base v ls x) (hg : w.grownBy w' row) (hv : v.ownBlock = none ∨ v.ownBlock ≠ row) (hr : ∀ b, row = some b → x = some b ∨ ∀ cur fz, w.heap[b]? ≠ some (.cells cur 3 fz))
    (hx : x' = x ∨ ∃ b, x' = some b ∧ w.heap.size ≤ b) : LsOwn w' base v ls x' := by
  obtain ⟨cs, h1, h2⟩ := h
  refine ⟨cs, h1.kept hg hv, fun j hj => ?_⟩
  · obtain ⟨g, c, rest, e1, e2, e3, e4⟩ := h2 j hj
    refine ⟨g, c, rest, e1, e2, e3.grown hg (fun e => ?_), ?_⟩
    · rcases hr g e.symm with h3 | h3
      · exact e4 h3
      · exact h3 _ _ e3
    · rcases hx with rfl | ⟨b, rfl, hb⟩
      · exact e4
      · intro e; injection e with e; have := e3.lt; omega
theorem LsOwn.below {w w' : World} {base : Nat} {v : Value} {ls : List (List Int)} {x : Option Nat} (h : LsOwn w base v ls x) (hb : Below w.heap.size w w') : LsOwn w' base v ls x := by
  obtain ⟨cs, ⟨a, h1⟩, h2⟩ := h
  refine ⟨cs, ⟨a, ?_⟩, fun j hj => ?_⟩
  · rcases h1 with b | ⟨g, cap, cur, rfl, hg, hgb, rest⟩
    · exact .inl b
    · exact .inr ⟨g, cap, cur, rfl, hg, (hb.block g (Array.getElem?_eq_some_iff.1 hgb).1).trans hgb, rest⟩
  · obtain ⟨g, c, rest, e1, e2, e3, e4⟩ := h2 j hj
    exact ⟨g, c, rest, e1, e2, e3.below hb e3.lt, e4⟩
theorem LsOwn.lists {w : World} {base : Nat} {v : Value} {ls : List (List Int)} {x : Option Nat} (h : LsOwn w base v ls x) : ∃ A c, v = .slice A ls.length c ∧ ListsR w A ls := by
  obtain ⟨cs, ⟨hcl, h1⟩, h2⟩ := h
  rcases h1 with ⟨rfl, h0⟩ | ⟨g, cap, cur, rfl, hg, hgb, hnc, hcm, hcs, htk⟩
  · exact ⟨none, 0, by rw [h0], fun j hj => by omega⟩
  · refine ⟨_, _, rfl, fun j hj => ?_⟩
    obtain ⟨B, c, rest, e1, e2, e3, _⟩ := h2 j hj
    refine ⟨_, some ⟨B, 0, none⟩, c, rfl, ?_, ?_, e2, e3.ints e3.lt⟩
    · rw [add_zero_at, cell_of_row w g _ _ _ _ hgb, ← e1, ← htk, List.getElem?_take_of_lt (by omega)]
      simp
    · rw [add_zero_at]; exact (Array.getElem?_eq_some_iff.1 hgb).1
theorem info_rowL : (Tryz.prog.info? 35).map (fun i => (i.zero, i.size, i.bytes)) = some (some (.slice none 0 0), 1, 24) := by kernel_rfl
/-- One more list. -/
theorem append_ls (base g c : Nat) (y : List Int) (rest : List Value) (x : Option Nat) (w : World) (v : Value) (tk : List (List Int)) (hb : base ≤ w.heap.size) (hl : tk.length ≤ 1000) (hown : LsOwn w base v tk x) (hy : PreR w g y rest) (hc : y.length ≤ c) (hx : x ≠ some g) :
    ∃ v' w', (Builtin.append_ #[26, 26] 26 #[v, .slice (some ⟨w.heap.size, 0, none⟩) 1 1]).run Tryz.prog (w.alloc (.cells #[.slice (some ⟨g, 0, none⟩) y.length c] 35)) = .ok v' w' ∧ LsOwn w' base v' (tk ++ [y]) x ∧ Below base w w' ∧
      w.grownBy w' v.ownBlock ∧ (v'.ownBlock = v.ownBlock ∨ v'.ownBlock = some (w.heap.size + 1)) := by
  obtain ⟨cs, h1, h2⟩ := hown
  obtain ⟨v', w', hr, ho, hbw, hgr, hob⟩ := append_grown base 26 35 (.slice none 0 0) 1 24 Tryz.underlying26 info_rowL rfl (by decide) [.slice (some ⟨g, 0, none⟩) y.length c] rfl (by simp [Value.oneCell']) w v tk.length cs hb (by omega) (by omega) h1
  have hcl : cs.length = tk.length := by have := h1.1; omega
  -- the rows are no blocks of lists
  have hfar : ∀ q zs rz, PreR w q zs rz → some q ≠ v.ownBlock := fun q zs rz hq e => by
    rcases h1.2 with ⟨rfl, _⟩ | ⟨g2, cap, cur, rfl, _, hgb, _⟩
    · simp [Value.ownBlock] at e
    · simp [Value.ownBlock] at e
      subst e
      unfold PreR at hq
      rw [hgb] at hq
      simp at hq
  refine ⟨v', w', hr, ⟨cs ++ [.slice (some ⟨g, 0, none⟩) y.length c], by rw [List.length_append]; exact ho, fun j hj => ?_⟩, hbw, hgr, hob⟩
  by_cases hjt : j < tk.length
  · obtain ⟨q, d, rz, e1, e2, e3, e4⟩ := h2 j hjt
    have e : (tk ++ [y]).getD j [] = tk.getD j [] := by simp [List.getD, List.getElem?_append_left hjt]
    rw [e]
    exact ⟨q, d, rz, by rw [List.getElem?_append_left (by omega)]; exact e1, e2, e3.grown hgr (hfar q _ _ e3), e4⟩
  · have hj' : j = tk.length := by simp at hj; omega
    subst hj'
    have e : (tk ++ [y]).getD tk.length [] = y := by simp [List.getD]
    rw [e]
    exact ⟨g, c, rest, by rw [List.getElem?_append_right (by omega), hcl]; simp, hc, hy.grown hgr (hfar g _ _ hy), hx⟩
end Go.Proofs.YtbckfkopdojggaaGreatDoor

/- slices.SortStableFunc of at most 19 leaders: an insertion sort, which leaves the classes of the ranks. -/
namespace Go.Proofs.YtbckfkopdojggaaGreatDoor
open Go.RowKit

set_option maxHeartbeats 1000000 in
theorem cmpLed_any (p1 r1 p2 r2 : Int) (w : World) :
    Calls Tryz.prog 101 #[.agg #[.int .i64 p1, .int .i64 r1], .agg #[.int .i64 p2, .int .i64 r2]] w fun e w' => e = .returned (.int .i64 (cmpI r1 r2)) ∧ Below w.heap.size w w' := by
  go_enter Tryz.func101, Tryz.ntmps101
  go_wp2_with fail
  refine (compareInt_any _ _ _).mono ?_
  rintro e w1 ⟨rfl, rfl⟩
  go_wp2
  go_ret
  exact ⟨rfl, ((Below.refl _ _).alloc (Nat.le_refl _) _).alloc (by simp) _⟩

theorem belowQ {B : Nat} {a w : World} (h : Below B a w) (k : Nat) : Below B a (w.drewN k) := ⟨h.os, h.tape, h.output, h.size, h.block⟩

set_option maxRecDepth 100000 in
set_option maxHeartbeats 4000000 in
theorem insertLed_any (g cap B : Nat) (l : List (Int × Int)) (rest : List Value) (w : World) (h : LdR w g l rest) (h1 : 1 ≤ l.length) (hl : l.length ≤ 19) (hr : ∀ y ∈ l, 1 ≤ y.2 ∧ y.2 ≤ ((l.length : Nat) : Int)) (hB : B ≤ g) :
    Calls Tryz.prog 190 #[.slice (some ⟨g, 0, none⟩) l.length cap, .int .i64 0, .int .i64 (l.length : Int), .func (.func 101) #[] #[]] w fun e w' => e = .returned (.tuple #[]) ∧ LdR w' g (clsL l.length l) rest ∧ Below B w w' := by
  have HROW := Lib.hid h
  have HR0 := Lib.hid hr
  have HBG := Lib.hid hB
  have HBW : Hid (B ≤ w.heap.size) := Lib.hid (by have := h.lt; omega)
  clear h hr
  go_enter Tryz.func190, Tryz.ntmps190
  go_wp2
  go_loopw [8, 9] (fun iv _ w' => ∃ i : Nat, 1 ≤ i ∧ i ≤ l.length ∧ iv = .int .i64 i ∧ LdR w' g (clsL l.length (l.take i) ++ l.drop i) rest ∧ Below B w w') (fun iv _ _ => l.length - (intOf iv).toNat)
  case atStart => exact ⟨1, Nat.le_refl _, h1, rfl, HROW.out.eq_ (cls_start l.length l HR0.out).symm, Below.refl _ _⟩
  case round =>
    obtain ⟨i, hi1, hi2, rfl, hr, hb⟩ := hrel
    have HR := Lib.hid hr
    have HB := Lib.hid hb
    clear hr hb HROW
    have hi0 : (0 : Int) ≤ (i : Int) := Int.natCast_nonneg _
    by_cases hlt : i < l.length
    · have hil : (i : Int) < (l.length : Int) := by omega
      have HPL := Lib.hid (cls_take l.length l HR0.out i (by omega))
      have HNX := Lib.hid (fun k => cls_next l.length l (0, 0) HR0.out i k hlt)
      have HTOP := Lib.hid (HR.out.eq_ (cls_top l.length l (0, 0) HR0.out i hlt))
      have HTL : Hid ((l.drop (i + 1)).length + (i + 1) = l.length) := Lib.hid (by simp; omega)
      clear HR
      generalize hP : clsL l.length (l.take i) = P at HPL HNX HTOP
      generalize hX : l.getD i (0, 0) = x at HNX HTOP
      generalize hT : l.drop (i + 1) = T at HNX HTOP HTL
      have HT := Lib.hid hT
      clear hT hP hX
      obtain ⟨px, rx⟩ := x
      simp only at HNX
      go_wp2
      go_loopw [9] (fun kv w' => ∃ k : Nat, k ≤ i ∧ kv = .int .i64 k ∧ LdR w' g (insQ P (px, rx) T k) rest ∧ (∀ y ∈ P.drop k, rx < y.2) ∧ Below B w w') (fun kv _ => (intOf kv).toNat)
      case atStart => exact ⟨i, Nat.le_refl _, rfl, HTOP.out.eq_ (by rw [← HPL.out]), by rw [List.drop_of_length_le (by rw [HPL.out]; omega)]; simp, HB.out⟩
      case round =>
        obtain ⟨k, hk, rfl, hr, hgt, hb⟩ := hrel
        have HR := Lib.hid hr
        have HB3 := Lib.hid hb
        have HGT := Lib.hid hgt
        clear hr hb hgt HTOP HB
        rcases Nat.eq_zero_or_pos k with hk0 | hk0
        · subst hk0
          have hg0 : decide ((0 : Int) < ((0 : Nat) : Int)) = false := rfl
          go_wp2
          go_quiet (fail)
          go_wp2
          go_round
          case rel => exact ⟨i + 1, by omega, by omega, by go_num, (HR.out.eq_ ((HNX.out 0 (Nat.zero_le _) HGT.out (.inl rfl)).trans (by rw [HT.out]))).drewN _, belowQ HB3.out _⟩
          case measure => simp [intOf]; omega
        · obtain ⟨m, rfl⟩ : ∃ m, k = m + 1 := ⟨k - 1, by omega⟩
          have hlen : (insQ P (px, rx) T (m + 1)).length = l.length := by rw [insQ_len, HPL.out]; have := HTL.out; omega
          obtain ⟨c1, c2⟩ := HR.out.cells (j := m + 1) (by omega)
          obtain ⟨c3, c4⟩ := HR.out.cells (j := m) (by omega)
          rw [insQ_at (0, 0) P (px, rx) T (m + 1) (by rw [HPL.out]; omega)] at c1 c2
          rw [insQ_below (0, 0) P (px, rx) T m (by rw [HPL.out]; omega)] at c3 c4
          have hp1 : (0 : Int) < ((m + 1 : Nat) : Int) := by omega
          have hd1 : decide ((0 : Int) < ((m + 1 : Nat) : Int)) = true := decide_eq_true hp1
          have hp2 : ((m + 1 : Nat) : Int) < (l.length : Int) := by omega
          have hp3 : (0 : Int) ≤ ((m + 1 : Nat) : Int) := by omega
          have hw1 : IntKind.i64.wrap (((m + 1 : Nat) : Int) - 1) = (m : Int) := by rw [IntWalk.i64_in _ (by omega)]; omega
          have hp4 : (0 : Int) ≤ (m : Int) := Int.natCast_nonneg _
          have hq3 : (0 : Int) ≤ (m : Int) + 1 := by omega
          have hq2 : (m : Int) + 1 < (l.length : Int) := by omega
          have hq1 : IntKind.i64.wrap ((m : Int) + 1 - 1) = (m : Int) := by rw [IntWalk.i64_in _ (by omega)]; omega
          have hq5 : IntKind.i64.wrap (m : Int) = (m : Int) := IntWalk.i64_in _ (by omega)
          have hp5 : (m : Int) < (l.length : Int) := by omega
          have HSE := Lib.hid (insQ_swap (0, 0) P (px, rx) T m (by rw [HPL.out]; omega))
          have HDR : Hid (∀ y ∈ P.drop m, y = P.getD m (0, 0) ∨ y ∈ P.drop (m + 1)) := Lib.hid (fun y hy => by
            rw [List.drop_eq_getElem_cons (by rw [HPL.out]; omega)] at hy
            rcases List.mem_cons.1 hy with rfl | h
            · left; simp [List.getD, List.getElem?_eq_getElem (show m < P.length by rw [HPL.out]; omega)]
            · exact .inr h)
          have HNX2 := Lib.hid (fun h => HNX.out (m + 1) hk HGT.out (.inr (by rw [Nat.add_sub_cancel]; exact h)))
          have HYD := Lib.hid (insQ_below (0, 0) P (px, rx) T m (by rw [HPL.out]; omega))
          have HXD := Lib.hid (insQ_at (0, 0) P (px, rx) T (m + 1) (by rw [HPL.out]; omega))
          generalize hY : P.getD m (0, 0) = y at c3 c4 HSE HDR HNX2 HYD
          clear hY
          obtain ⟨py, ry⟩ := y
          simp only at c1 c2 c3 c4 HNX2
          have HC := Lib.hid (fun W => cmpLed_any px rx py ry W)
          go_wp2
          refine region_still_tail 14 (by kernel_rfl) (by kernel_rfl) ?_
          simp only [List.take_succ_cons, List.take_zero, List.drop_succ_cons, List.drop_zero]
          iterate 14 still_step
          refine wpStill_nil ?_
          go_wp2_with fail
          refine (HC.out _).mono ?_
          rintro e w3 ⟨rfl, hb3⟩
          have hbq : Below wr.heap.size wr w3 := (Below.refl _ _).drew.trans hb3
          have HRQ := Lib.hid (HR.out.below hbq HR.out.lt)
          have HBQ := Lib.hid (HB3.out.trans (hbq.mono (Nat.le_trans HBW.out HB3.out.size)))
          clear hb3 hbq c1 c2 c3 c4
          by_cases hlt2 : rx < ry
          · have HGT2 : Hid (∀ y ∈ P.drop m, rx < y.2) := Lib.hid (fun y hy => by
              rcases HDR.out y hy with rfl | h
              · exact hlt2
              · exact HGT.out y h)
            have hcm : decide (cmpI rx ry < 0) = true := decide_eq_true (by unfold cmpI; rw [if_pos hlt2]; decide)
            generalize cmpI rx ry = z at hcm ⊢
            obtain ⟨e1, e2⟩ := HRQ.out.cells (j := m + 1) (by omega)
            obtain ⟨e3, e4⟩ := HRQ.out.cells (j := m) (by omega)
            rw [HXD.out] at e1 e2
            rw [HYD.out] at e3 e4
            simp only at e1 e2 e3 e4
            have f1 := HRQ.out.frozen ((m + 1) * 2)
            have f2 := HRQ.out.frozen ((m + 1) * 2 + 1)
            have f3 := HRQ.out.frozen (m * 2)
            have f4 := HRQ.out.frozen (m * 2 + 1)
            have HSW := Lib.hid ((HRQ.out.set (k := m + 1) (by omega) py ry).set (k := m) (by simp; omega) px rx)
            go_wp2
            go_region
            have HRS := Lib.hid (HSW.out.eq_ HSE.out).drew
            have HBS := Lib.hid ((((HBQ.out.setCell (p := ⟨g, (m + 1) * 2, none⟩) HBG.out (.int .i64 py)).setCell (p := ⟨g, (m + 1) * 2 + 1, none⟩) HBG.out (.int .i64 ry)).setCell (p := ⟨g, m * 2, none⟩) HBG.out (.int .i64 px)).setCell (p := ⟨g, m * 2 + 1, none⟩) HBG.out (.int .i64 rx)).drew
            generalize hWS : ((((w3.setCell ⟨g, (m + 1) * 2, none⟩ (.int .i64 py)).setCell ⟨g, (m + 1) * 2 + 1, none⟩ (.int .i64 ry)).setCell ⟨g, m * 2, none⟩ (.int .i64 px)).setCell ⟨g, m * 2 + 1, none⟩ (.int .i64 rx)).drew = WS at HRS HBS ⊢
            clear hWS
            go_wp2
            go_round
            case rel => exact ⟨m, by omega, by go_num, HRS.out, HGT2.out, HBS.out⟩
            case measure => simp [intOf]
          · have HNX3 := Lib.hid (HNX2.out (by omega))
            have hcm : decide (cmpI rx ry < 0) = false := decide_eq_false (by unfold cmpI; split <;> (try split) <;> omega)
            generalize cmpI rx ry = z at hcm ⊢
            go_wp2
            go_round
            case rel => exact ⟨i + 1, by omega, by omega, by go_num, HRQ.out.eq_ (HNX3.out.trans (by rw [HT.out])), HBQ.out⟩
            case measure => simp [intOf]; omega
    · have hil : ¬ (i : Int) < (l.length : Int) := by omega
      go_wp2
      refine bodyPost_end (results_none rfl _ _ _) rfl ?_
      exact ⟨rfl, HR.out.eq_ (cls_all l.length l i (by omega)), HB.out⟩

set_option maxRecDepth 100000 in
set_option maxHeartbeats 1000000 in
theorem sortLed_any (g cap B : Nat) (l : List (Int × Int)) (rest : List Value) (w : World) (h : LdR w g l rest) (h1 : 1 ≤ l.length) (hl : l.length ≤ 19) (hr : ∀ y ∈ l, 1 ≤ y.2 ∧ y.2 ≤ ((l.length : Nat) : Int)) (hB : B ≤ g) :
    Calls Tryz.prog 100 #[.slice (some ⟨g, 0, none⟩) l.length cap, .func (.func 101) #[] #[]] w fun e w' => e = .returned (.tuple #[]) ∧ LdR w' g (clsL l.length l) rest ∧ Below B w w' := by
  have HI := Lib.hid (insertLed_any g cap B l rest w h h1 hl hr hB)
  have HS : Hid (Calls Tryz.prog 161 #[.slice (some ⟨g, 0, none⟩) l.length cap, .int .i64 (l.length : Int), .func (.func 101) #[] #[]] w fun e w' => e = .returned (.tuple #[]) ∧ LdR w' g (clsL l.length l) rest ∧ Below B w w') := Lib.hid (by
    have hn1 : ¬ (20 : Int) ≤ (l.length : Int) := by omega
    have hn2 : ¬ (20 : Int) < (l.length : Int) := by omega
    clear h hr
    go_enter Tryz.func161, Tryz.ntmps161
    go_wp2
    go_loopw [7, 8] (fun u v w' => u = .int .i64 0 ∧ v = .int .i64 20 ∧ w = w') (fun _ _ _ => 0)
    case atStart => exact ⟨rfl, rfl, rfl⟩
    case round =>
      obtain ⟨rfl, rfl, rfl⟩ := hrel
      go_wp2_with fail
      refine HI.out.mono ?_
      rintro e w1 ⟨rfl, hrow, hb⟩
      have HROW := Lib.hid hrow
      have HB := Lib.hid hb
      clear hrow hb
      go_wp2
      go_loopw [6] (fun v w' => v = .int .i64 20 ∧ w1 = w') (fun _ _ => 0)
      case atStart => exact ⟨rfl, rfl⟩
      case round =>
        obtain ⟨rfl, rfl⟩ := hrel
        go_wp2
        refine bodyPost_end (results_none rfl _ _ _) rfl ?_
        exact ⟨rfl, HROW.out, HB.out⟩)
  clear h hr HI
  go_enter Tryz.func100, Tryz.ntmps100
  go_wp2_with fail
  refine HS.out.mono ?_
  rintro e w1 ⟨rfl, hrow, hb⟩
  have HROW := Lib.hid hrow
  have HB := Lib.hid hb
  clear hrow hb
  go_wp2
  refine bodyPost_end (results_none rfl _ _ _) rfl ?_
  exact ⟨rfl, HROW.out, HB.out⟩

set_option maxRecDepth 100000 in
set_option maxHeartbeats 1000000 in
theorem sortNil_any (A : Option Addr) (c : Nat) (w : World) :
    Calls Tryz.prog 100 #[.slice A 0 c, .func (.func 101) #[] #[]] w fun e w' => e = .returned (.tuple #[]) ∧ w = w' := by
  have HI : Hid (Calls Tryz.prog 190 #[.slice A 0 c, .int .i64 0, .int .i64 0, .func (.func 101) #[] #[]] w fun e w' => e = .returned (.tuple #[]) ∧ w = w') := Lib.hid (by
    go_enter Tryz.func190, Tryz.ntmps190
    go_wp2
    go_loopw [8] (fun v w' => v = .int .i64 1 ∧ w = w') (fun _ _ => 0)
    case atStart => exact ⟨rfl, rfl⟩
    case round =>
      obtain ⟨rfl, rfl⟩ := hrel
      go_wp2
      refine bodyPost_end (results_none rfl _ _ _) rfl ?_
      exact ⟨rfl, rfl⟩)
  have HS : Hid (Calls Tryz.prog 161 #[.slice A 0 c, .int .i64 0, .func (.func 101) #[] #[]] w fun e w' => e = .returned (.tuple #[]) ∧ w = w') := Lib.hid (by
    go_enter Tryz.func161, Tryz.ntmps161
    go_wp2
    go_loopw [7, 8] (fun u v w' => u = .int .i64 0 ∧ v = .int .i64 20 ∧ w = w') (fun _ _ _ => 0)
    case atStart => exact ⟨rfl, rfl, rfl⟩
    case round =>
      obtain ⟨rfl, rfl, rfl⟩ := hrel
      go_wp2_with fail
      refine HI.out.mono ?_
      rintro e w1 ⟨rfl, rfl⟩
      go_wp2
      go_loopw [6] (fun v w' => v = .int .i64 20 ∧ w = w') (fun _ _ => 0)
      case atStart => exact ⟨rfl, rfl⟩
      case round =>
        obtain ⟨rfl, rfl⟩ := hrel
        go_wp2
        refine bodyPost_end (results_none rfl _ _ _) rfl ?_
        exact ⟨rfl, rfl⟩)
  go_enter Tryz.func100, Tryz.ntmps100
  go_wp2_with fail
  refine HS.out.mono ?_
  rintro e w1 ⟨rfl, rfl⟩
  go_wp2
  refine bodyPost_end (results_none rfl _ _ _) rfl ?_
  exact ⟨rfl, rfl⟩
end Go.Proofs.YtbckfkopdojggaaGreatDoor

/- CheckField; eachOf over net strokes and over leaders. -/
namespace Go.Proofs.YtbckfkopdojggaaGreatDoor
open Go.RowKit

theorem keepF {w W w1 : World} {B : Nat} {p1 p2 : Addr} {u v : Value} (hb : Below W.heap.size W w1) (h : W.cell? p1 = some u ∧ W.cell? p2 = some v ∧ Hid (Below B w W)) (hB : B ≤ w.heap.size) : w1.cell? p1 = some u ∧ w1.cell? p2 = some v ∧ Hid (Below B w w1) :=
  ⟨(hb.cell (World.block_lt_of_cell? _ _ h.1)).trans h.1, (hb.cell (World.block_lt_of_cell? _ _ h.2.1)).trans h.2.1, h.2.2.out.trans (hb.mono (Nat.le_trans hB h.2.2.out.size))⟩
theorem heldF {C D : Prop} {B : Nat} {w W : World} (h : C ∧ D ∧ Hid (Below B w W)) : Below B w W := h.2.2.out

set_option maxRecDepth 100000 in
set_option maxHeartbeats 4000000 in
theorem fmField_any (A H : Option Addr) (c ch : Nat) (hs : List (Int × Int)) (ps : List Pl) (w : World) (hch : ∀ W, Below w.heap.size w W → Calls Tryz.prog 50 #[.slice H hs.length ch] W fun e w' => e = .returned (.int .i64 (holesI hs)) ∧ Below W.heap.size W w')
    (hcp : ∀ W, Below w.heap.size w W → Calls Tryz.prog 52 #[.slice H hs.length ch, .slice A ps.length c] W fun e w' => e = .returned (.int .i64 (playersGo hs [] ps)) ∧ Below W.heap.size W w') :
    Calls Tryz.prog 13 #[.agg #[.slice H hs.length ch, .slice A ps.length c]] w fun e w' => e = .returned (.int .i64 (fieldE hs ps)) ∧ Below w.heap.size w w' := by
  have HCH := Lib.hid hch
  have HCP := Lib.hid hcp
  have HF : Hid (firstI [holesI hs, unlessI (decide ((ps.length : Int) ≤ 200)) 5, playersGo hs [] ps] = fieldE hs ps) := Lib.hid rfl
  clear hch hcp
  generalize fieldE hs ps = z at HF ⊢
  go_enter Tryz.func13, Tryz.ntmps13
  go_wp2
  generalize hW0 : w.alloc (.cells #[.slice H hs.length ch, .slice A ps.length c] 25) = W0
  obtain ⟨a1, a2, a3⟩ := one_alloc w _ _ hW0
  have HB0 := Lib.hid a2
  have HS0 := Lib.hid (show W0.drew.cell? ⟨w.heap.size, 0, none⟩ = some (.slice H hs.length ch) ∧ W0.drew.cell? ⟨w.heap.size, 1, none⟩ = some (.slice A ps.length c) ∧ Hid (Below W0.heap.size W0 W0.drew) from ⟨a1.cell 0, a1.cell 1, Lib.hid ((Below.refl _ _).drew)⟩)
  clear hW0 a1 a2 a3
  go_region_held3 (fun W => W.cell? ⟨w.heap.size, 0, none⟩ = some (.slice H hs.length ch) ∧ W.cell? ⟨w.heap.size, 1, none⟩ = some (.slice A ps.length c) ∧ Hid (Below W0.heap.size W0 W))
    ((first | assumption | exact keepF hb1 (by assumption) (Nat.le_refl _) | exact keepF ((Below.refl _ _).alloc (Nat.le_refl _) _) (by assumption) (Nat.le_refl _) | exact HS0.out))
    (first
      | (go_at_call 50; refine (HCH.out _ (HB0.out.trans ((heldF (by assumption)).mono HB0.out.size))).mono ?_; rintro e w1 ⟨rfl, hb1⟩)
      | (go_at_call 51; refine (fmUnless_any _ _ _).mono ?_; rintro e w1 ⟨rfl, rfl⟩)
      | (go_at_call 52; refine (HCP.out _ (HB0.out.trans ((heldF (by assumption)).mono HB0.out.size))).mono ?_; rintro e w1 ⟨rfl, hb1⟩)
      | (go_at_call 49; refine (fmFirst_any _ _ [_, _, _] _ (by simp) (Ints.three _ _ _ _ _ _ rfl)).mono ?_; rintro e w1 ⟨rfl, rfl⟩))
  all_goals
    have hLAST := heldF (by assumption)
    have HLAST := Lib.hid (HB0.out.trans (hLAST.mono HB0.out.size))
    rw [HF.out]
    go_wp2
    go_ret
    exact ⟨rfl, HLAST.out⟩

set_option maxRecDepth 100000 in
set_option maxHeartbeats 2000000 in
theorem eachNets_any (A : Option Addr) (c : Nat) (l : List (Int × ByteArray)) (w : World) (he : EntriesR w A l) (hl : l.length ≤ 1000) :
    Calls Tryz.prog 98 #[.slice A l.length c, .func (.func 99) #[] #[]] w fun e w' =>
      e = .returned (.slice (some ⟨w.heap.size, 0, none⟩) l.length l.length) ∧ RowI w' w.heap.size (firsts l) ∧ Below w.heap.size w w' := by
  have hmk := make_ints l.length (by omega)
  have HE := Lib.hid he
  have HNL := Lib.hid (firsts_len l)
  clear he
  go_enter Tryz.func98, Tryz.ntmps98
  go_wp2
  go_loopw [13] (fun i w' => ∃ k : Nat, k ≤ l.length ∧ i = .int .i64 k ∧ RowI w' w.heap.size (partI (firsts l) k) ∧ Below w.heap.size w w') (fun i _ => l.length - (intOf i).toNat)
  case atStart => exact ⟨0, Nat.zero_le _, rfl, by rw [partI_zero, firsts_len]; exact RowI.new _ _, (Below.refl _ _).alloc (Nat.le_refl _) _⟩
  case round =>
    obtain ⟨k, hk, rfl, hrow, hbel⟩ := hrel
    have HROW := Lib.hid hrow
    have HBEL := Lib.hid hbel
    clear hrow hbel
    by_cases hlt : k < l.length
    · obtain ⟨a, rfl, d0, d1, _⟩ := (HE.out.keep HBEL.out) k hlt
      have HS := Lib.hid (firsts_at l k hlt)
      generalize l.getD k (0, ByteArray.empty) = en at d0 d1 HS
      obtain ⟨s, m⟩ := en
      simp only at d0 d1 HS
      go_wp2_with fail
      refine (netStrokes_any _ _ _).mono ?_; rintro e w2 ⟨rfl, hb2⟩
      have hbA := (Below.refl wr.heap.size wr).alloc (Nat.le_refl _) (.cells #[.int .i64 s, .string m] 83)
      have hb3 : Below wr.heap.size wr w2 := hbA.trans (hb2.mono (by simp))
      have hrow2 := HROW.out.below hb3 HROW.out.lt
      have HB2 := Lib.hid (HBEL.out.trans (hb3.mono HBEL.out.size))
      have hcell := hrow2.cell (j := k) (by rw [partI_len, HNL.out]; exact hlt)
      have hfr := hrow2.frozen k
      have HROW2 := Lib.hid hrow2
      clear hrow2 hb2 hbA hb3
      go_wp2
      go_roundw
      case rel =>
        refine ⟨k + 1, by omega, by go_num, ?_, HB2.out.setCell (Nat.le_refl _) _⟩
        exact (HROW2.out.set k s).eq_ (by rw [← partI_set _ _ (by rw [HNL.out]; exact hlt), HS.out])
      case measure => simp [intOf]; omega
    · go_wp2
      go_ret
      exact ⟨rfl, by have := HROW.out; rwa [partI_all _ _ (by rw [HNL.out]; omega)] at this, HBEL.out⟩

/-- A slice's address under which pairs of integers lie. -/
def LdAt (w : World) (A : Option Addr) (l : List (Int × Int)) : Prop := ∀ j, j < l.length → ∃ a, A = some a ∧ w.cell? (a.add (j * 2)) = some (.int .i64 (l.getD j (0, 0)).1) ∧ w.cell? ⟨(a.add (j * 2)).block, (a.add (j * 2)).off + 1, none⟩ = some (.int .i64 (l.getD j (0, 0)).2)
theorem LdAt.keep {w w' : World} {A : Option Addr} {l : List (Int × Int)} (h : LdAt w A l) (hb : Below w.heap.size w w') : LdAt w' A l := fun j hj => by
  obtain ⟨a, e, h1, h2⟩ := h j hj
  exact ⟨a, e, (hb.cell (World.block_lt_of_cell? _ _ h1)).trans h1, (hb.cell (World.block_lt_of_cell? _ _ h2)).trans h2⟩
theorem LdR.ldAt {w : World} {g : Nat} {l : List (Int × Int)} {rest : List Value} (h : LdR w g l rest) : LdAt w (some ⟨g, 0, none⟩) l := fun j hj => by
  obtain ⟨h1, h2⟩ := h.cells hj
  refine ⟨_, rfl, ?_, ?_⟩
  · rw [add_zero_at]; exact h1
  · rw [add_zero_at]; exact h2

set_option maxRecDepth 100000 in
set_option maxHeartbeats 2000000 in
theorem eachLed1_any (A : Option Addr) (c : Nat) (l : List (Int × Int)) (w : World) (he : LdAt w A l) (hl : l.length ≤ 1000) :
    Calls Tryz.prog 46 #[.slice A l.length c, .func (.func 47) #[] #[]] w fun e w' =>
      e = .returned (.slice (some ⟨w.heap.size, 0, none⟩) l.length l.length) ∧ RowI w' w.heap.size (l.map (·.1)) ∧ Below w.heap.size w w' := by
  have hmk := make_ints l.length (by omega)
  have HE := Lib.hid he
  have HNL : Hid ((l.map (·.1)).length = l.length) := Lib.hid (by simp)
  have HAT : Hid (∀ k, k < l.length → (l.map (·.1)).getD k 0 = (l.getD k (0, 0)).1) := Lib.hid (fun k hk => by simp [List.getD, List.getElem?_eq_getElem hk])
  clear he
  generalize l.map (·.1) = xs at HNL HAT ⊢
  go_enter Tryz.func46, Tryz.ntmps46
  go_wp2
  go_loopw [13] (fun i w' => ∃ k : Nat, k ≤ l.length ∧ i = .int .i64 k ∧ RowI w' w.heap.size (partI xs k) ∧ Below w.heap.size w w') (fun i _ => l.length - (intOf i).toNat)
  case atStart => exact ⟨0, Nat.zero_le _, rfl, by rw [partI_zero, HNL.out]; exact RowI.new _ _, (Below.refl _ _).alloc (Nat.le_refl _) _⟩
  case round =>
    obtain ⟨k, hk, rfl, hrow, hbel⟩ := hrel
    have HROW := Lib.hid hrow
    have HBEL := Lib.hid hbel
    clear hrow hbel
    by_cases hlt : k < l.length
    · obtain ⟨a, rfl, d0, d1⟩ := (HE.out.keep HBEL.out) k hlt
      have HS := Lib.hid (HAT.out k hlt)
      generalize l.getD k (0, 0) = en at d0 d1 HS
      obtain ⟨s, m⟩ := en
      simp only at d0 d1 HS
      have HC : Hid (∀ W, Calls Tryz.prog 47 #[.agg #[.int .i64 s, .int .i64 m]] W fun e w' => e = .returned (.int .i64 s) ∧ Below W.heap.size W w') := Lib.hid (fun W => by
        go_enter Tryz.func47, Tryz.ntmps47
        go_wp2
        go_ret
        exact ⟨rfl, (Below.refl _ _).alloc (Nat.le_refl _) _⟩)
      go_wp2_with fail
      refine (HC.out _).mono ?_; rintro e w2 ⟨rfl, hb2⟩
      have hbA := (Below.refl wr.heap.size wr).alloc (Nat.le_refl _) (.cells #[.int .i64 s, .int .i64 m] 100)
      have hb3 : Below wr.heap.size wr w2 := hbA.trans (hb2.mono (by simp))
      have hrow2 := HROW.out.below hb3 HROW.out.lt
      have HB2 := Lib.hid (HBEL.out.trans (hb3.mono HBEL.out.size))
      have hcell := hrow2.cell (j := k) (by rw [partI_len, HNL.out]; exact hlt)
      have hfr := hrow2.frozen k
      have HROW2 := Lib.hid hrow2
      clear hrow2 hb2 hbA hb3
      go_wp2
      go_roundw
      case rel =>
        refine ⟨k + 1, by omega, by go_num, ?_, HB2.out.setCell (Nat.le_refl _) _⟩
        exact (HROW2.out.set k s).eq_ (by rw [← partI_set _ _ (by rw [HNL.out]; exact hlt), HS.out])
      case measure => simp [intOf]; omega
    · go_wp2
      go_ret
      exact ⟨rfl, by have := HROW.out; rwa [partI_all _ _ (by rw [HNL.out]; omega)] at this, HBEL.out⟩

set_option maxRecDepth 100000 in
set_option maxHeartbeats 2000000 in
theorem eachLed2_any (A : Option Addr) (c : Nat) (l : List (Int × Int)) (w : World) (he : LdAt w A l) (hl : l.length ≤ 1000) :
    Calls Tryz.prog 46 #[.slice A l.length c, .func (.func 48) #[] #[]] w fun e w' =>
      e = .returned (.slice (some ⟨w.heap.size, 0, none⟩) l.length l.length) ∧ RowI w' w.heap.size (l.map (·.2)) ∧ Below w.heap.size w w' := by
  have hmk := make_ints l.length (by omega)
  have HE := Lib.hid he
  have HNL : Hid ((l.map (·.2)).length = l.length) := Lib.hid (by simp)
  have HAT : Hid (∀ k, k < l.length → (l.map (·.2)).getD k 0 = (l.getD k (0, 0)).2) := Lib.hid (fun k hk => by simp [List.getD, List.getElem?_eq_getElem hk])
  clear he
  generalize l.map (·.2) = xs at HNL HAT ⊢
  go_enter Tryz.func46, Tryz.ntmps46
  go_wp2
  go_loopw [13] (fun i w' => ∃ k : Nat, k ≤ l.length ∧ i = .int .i64 k ∧ RowI w' w.heap.size (partI xs k) ∧ Below w.heap.size w w') (fun i _ => l.length - (intOf i).toNat)
  case atStart => exact ⟨0, Nat.zero_le _, rfl, by rw [partI_zero, HNL.out]; exact RowI.new _ _, (Below.refl _ _).alloc (Nat.le_refl _) _⟩
  case round =>
    obtain ⟨k, hk, rfl, hrow, hbel⟩ := hrel
    have HROW := Lib.hid hrow
    have HBEL := Lib.hid hbel
    clear hrow hbel
    by_cases hlt : k < l.length
    · obtain ⟨a, rfl, d0, d1⟩ := (HE.out.keep HBEL.out) k hlt
      have HS := Lib.hid (HAT.out k hlt)
      generalize l.getD k (0, 0) = en at d0 d1 HS
      obtain ⟨s, m⟩ := en
      simp only at d0 d1 HS
      have HC : Hid (∀ W, Calls Tryz.prog 48 #[.agg #[.int .i64 s, .int .i64 m]] W fun e w' => e = .returned (.int .i64 m) ∧ Below W.heap.size W w') := Lib.hid (fun W => by
        go_enter Tryz.func48, Tryz.ntmps48
        go_wp2
        go_ret
        exact ⟨rfl, (Below.refl _ _).alloc (Nat.le_refl _) _⟩)
      go_wp2_with fail
      refine (HC.out _).mono ?_; rintro e w2 ⟨rfl, hb2⟩
      have hbA := (Below.refl wr.heap.size wr).alloc (Nat.le_refl _) (.cells #[.int .i64 s, .int .i64 m] 100)
      have hb3 : Below wr.heap.size wr w2 := hbA.trans (hb2.mono (by simp))
      have hrow2 := HROW.out.below hb3 HROW.out.lt
      have HB2 := Lib.hid (HBEL.out.trans (hb3.mono HBEL.out.size))
      have hcell := hrow2.cell (j := k) (by rw [partI_len, HNL.out]; exact hlt)
      have hfr := hrow2.frozen k
      have HROW2 := Lib.hid hrow2
      clear hrow2 hb2 hbA hb3
      go_wp2
      go_roundw
      case rel =>
        refine ⟨k + 1, by omega, by go_num, ?_, HB2.out.setCell (Nat.le_refl _) _⟩
        exact (HROW2.out.set k m).eq_ (by rw [← partI_set _ _ (by rw [HNL.out]; exact hlt), HS.out])
      case measure => simp [intOf]; omega
    · go_wp2
      go_ret
      exact ⟨rfl, by have := HROW.out; rwa [partI_all _ _ (by rw [HNL.out]; omega)] at this, HBEL.out⟩

end Go.Proofs.YtbckfkopdojggaaGreatDoor

/- leaders: the players with a net score, ranked and sorted. -/
namespace Go.Proofs.YtbckfkopdojggaaGreatDoor
open Go.RowKit

/-- The numbers of the first k players who have a net score. -/
def isLd (hs : List (Int × Int)) (p : Pl) : Bool := allCount (netsOf hs p.h p.l)
def ldIx (hs : List (Int × Int)) (ps : List Pl) (k : Nat) : List Nat := (List.range k).filter fun i => isLd hs (ps.getD i plD)
def ldS (hs : List (Int × Int)) (p : Pl) : List Int := firsts (netsOf hs p.h p.l)
def ldLs (hs : List (Int × Int)) (ps : List Pl) (k : Nat) : List (List Int) := (ldIx hs ps k).map fun i => ldS hs (ps.getD i plD)
def ldZ (hs : List (Int × Int)) (ps : List Pl) (k : Nat) : List (Int × Int) := (ldIx hs ps k).map fun i => (((i : Nat) : Int), (0 : Int))
theorem ldIx_succ (hs : List (Int × Int)) (ps : List Pl) (k : Nat) : ldIx hs ps (k + 1) = if isLd hs (ps.getD k plD) = true then ldIx hs ps k ++ [k] else ldIx hs ps k := by
  unfold ldIx
  rw [List.range_succ, List.filter_append]
  by_cases h : isLd hs (ps.getD k plD) = true
  · rw [if_pos h, List.filter_cons_of_pos (p := fun i => isLd hs (ps.getD i plD)) h]; rfl
  · rw [if_neg h, List.filter_cons_of_neg (p := fun i => isLd hs (ps.getD i plD)) h]; simp
theorem ldIx_lt {hs : List (Int × Int)} {ps : List Pl} {k i : Nat} (h : i ∈ ldIx hs ps k) : i < k := by
  unfold ldIx at h
  exact List.mem_range.1 (List.mem_filter.1 h).1
theorem ldIx_len (hs : List (Int × Int)) (ps : List Pl) (k : Nat) : (ldIx hs ps k).length ≤ k := by
  unfold ldIx
  have := List.length_filter_le (fun i => isLd hs (ps.getD i plD)) (List.range k)
  simpa using this
theorem ldZ_len (hs : List (Int × Int)) (ps : List Pl) (k : Nat) : (ldZ hs ps k).length = (ldIx hs ps k).length := by simp [ldZ]
theorem ldLs_len (hs : List (Int × Int)) (ps : List Pl) (k : Nat) : (ldLs hs ps k).length = (ldIx hs ps k).length := by simp [ldLs]
/-- The leaders with their ranks, in the players' order. -/
def ldP (hs : List (Int × Int)) (ps : List Pl) : List (Int × Int) := ((ldIx hs ps ps.length).map fun i => ((i : Nat) : Int)).zip (ForMath.ranks (ldLs hs ps ps.length))
theorem ldZP (hs : List (Int × Int)) (ps : List Pl) : (ldZ hs ps ps.length).length = (ldP hs ps).length := by
  unfold ldP
  simp [ranks_len, ldLs_len, ldZ_len]
theorem ldLP (hs : List (Int × Int)) (ps : List Pl) : (ldLs hs ps ps.length).length = (ldP hs ps).length := by
  unfold ldP
  simp [ranks_len, ldLs_len]
theorem ldP_len (hs : List (Int × Int)) (ps : List Pl) : (ldP hs ps).length = (ldIx hs ps ps.length).length := by
  unfold ldP
  simp [ranks_len, ldLs_len]
theorem ranks_bound {ls : List (List Int)} {r : Int} (h : r ∈ ForMath.ranks ls) : 1 ≤ r ∧ r ≤ ((ls.length : Nat) : Int) := by
  unfold ForMath.ranks at h
  obtain ⟨x, hx, rfl⟩ := List.mem_map.1 h
  have hlt : (ls.filter fun y => decide (ForMath.cback y x < 0)).length < ls.length := by
    rw [List.length_filter_lt_length_iff_exists]
    exact ⟨x, hx, by rw [ForMath.cback_self]; decide⟩
  omega
theorem ldP_ranks (hs : List (Int × Int)) (ps : List Pl) : ∀ y ∈ ldP hs ps, 1 ≤ y.2 ∧ y.2 ≤ (((ldP hs ps).length : Nat) : Int) := fun y hy => by
  rw [ldP_len, ← ldLs_len]
  unfold ldP at hy
  obtain ⟨a, b⟩ := y
  exact ranks_bound (List.of_mem_zip hy).2
/-- Ranks written so far. -/
def ldK (hs : List (Int × Int)) (ps : List Pl) (k : Nat) : List (Int × Int) := (ldP hs ps).take k ++ (ldZ hs ps ps.length).drop k
theorem ldK_zero (hs : List (Int × Int)) (ps : List Pl) : ldK hs ps 0 = ldZ hs ps ps.length := by simp [ldK]
theorem ldK_all (hs : List (Int × Int)) (ps : List Pl) (k : Nat) (h : (ldP hs ps).length ≤ k) : ldK hs ps k = ldP hs ps := by
  unfold ldK
  rw [List.take_of_length_le h, List.drop_of_length_le (by rw [ldZ_len, ← ldP_len]; exact h), List.append_nil]
theorem ldK_len (hs : List (Int × Int)) (ps : List Pl) (k : Nat) : (ldK hs ps k).length = (ldP hs ps).length := by
  unfold ldK
  have h1 := ldZ_len hs ps ps.length
  have h2 := ldP_len hs ps
  simp
  omega
theorem ldK_set (hs : List (Int × Int)) (ps : List Pl) (k : Nat) (h : k < (ldP hs ps).length) : (ldK hs ps k).set k (((ldK hs ps k).getD k (0, 0)).1, (ForMath.ranks (ldLs hs ps ps.length)).getD k 0) = ldK hs ps (k + 1) := by
  have h1 := ldZ_len hs ps ps.length
  have h2 := ldP_len hs ps
  have hz : k < (ldZ hs ps ps.length).length := by omega
  have hi : k < (ldIx hs ps ps.length).length := by omega
  have hrk : k < (ForMath.ranks (ldLs hs ps ps.length)).length := by rw [ranks_len, ldLs_len]; omega
  have hg : (ldK hs ps k).getD k (0, 0) = (ldZ hs ps ps.length)[k] := by
    unfold ldK
    rw [List.getD, List.getElem?_append_right (by simp; omega), List.length_take, Nat.min_eq_left (by omega), Nat.sub_self]
    simp [hz]
  have hp : (((ldZ hs ps ps.length)[k]).1, (ForMath.ranks (ldLs hs ps ps.length)).getD k 0) = (ldP hs ps)[k] := by
    simp [ldP, ldZ, List.getD, List.getElem?_eq_getElem hrk]
  rw [hg, hp]
  unfold ldK
  rw [List.set_append_right _ _ (by simp; omega), List.length_take, Nat.min_eq_left (by omega), Nat.sub_self, List.drop_eq_getElem_cons hz, List.set_cons_zero, List.take_succ_eq_append_getElem h, List.append_assoc]
  rfl

theorem cls_whole (hs : List (Int × Int)) (ps : List Pl) : (clsL (ldP hs ps).length (ldP hs ps)).length = (ldP hs ps).length := by
  have h := cls_take (ldP hs ps).length (ldP hs ps) (ldP_ranks hs ps) (ldP hs ps).length (Nat.le_refl _)
  rwa [List.take_length] at h
theorem own_types {w : World} {b1 b2 s1 s2 n1 n2 : Nat} {e1 e2 : TypeId} {v1 v2 : Value} {x1 x2 : List Value} (h1 : w.ownsRow b1 e1 s1 v1 n1 x1) (h2 : w.ownsRow b2 e2 s2 v2 n2 x2) (he : e1 ≠ e2) : v1.ownBlock = none ∨ v1.ownBlock ≠ v2.ownBlock := by
  rcases h1.2 with ⟨rfl, _⟩ | ⟨g, cap, cur, rfl, _, hg, _⟩
  · left; rfl
  · right
    rcases h2.2 with ⟨rfl, _⟩ | ⟨g2, cap2, cur2, rfl, _, hg2, _⟩
    · simp [Value.ownBlock]
    · intro e
      simp [Value.ownBlock] at e
      subst e
      rw [hg2] at hg
      injection hg with hg
      injection hg with _ hg _
      exact he hg.symm
theorem one_append (base : Nat) (y : Int × Int) (w : World) (v : Value) (tk : List (Int × Int)) (hb : base ≤ w.heap.size) (hl : tk.length ≤ 1000) (hown : w.ownsRow base 100 2 v tk.length (ldCells tk)) :
    ∃ v' w', (Builtin.append_ #[96, 96] 96 #[v, .slice (some ⟨w.heap.size, 0, none⟩) 1 1]).run Tryz.prog (w.alloc (.cells #[.int .i64 y.1, .int .i64 y.2] 100)) = .ok v' w' ∧ w'.ownsRow base 100 2 v' (tk ++ [y]).length (ldCells (tk ++ [y])) ∧ Below base w w' ∧
      w.grownBy w' v.ownBlock := by
  obtain ⟨v', w', hr, ho, hbw, hgr, _⟩ := append_grown base 96 100 (.agg #[.int .i64 0, .int .i64 0]) 2 16 Tryz.underlying96 info_led rfl (by decide) [.int .i64 y.1, .int .i64 y.2] rfl (by simp [Value.oneCell']) w v tk.length _ hb (by omega) (by omega) hown
  exact ⟨v', w', hr, by rw [List.length_append, ldCells_snoc]; exact ho, hbw, hgr⟩
/-- Lists of integers stay where leaders' rows grow. -/
theorem LsOwn.led {w w' : World} {base b2 n : Nat} {v v2 : Value} {ls : List (List Int)} {xs : List Value} (h : LsOwn w base v ls none) (h2 : w.ownsRow b2 100 2 v2 n xs) (hg : w.grownBy w' v2.ownBlock) : LsOwn w' base v ls none := by
  have ht : (100 : TypeId) ≠ 35 := by decide
  have ht2 : (100 : TypeId) ≠ 3 := by decide
  refine h.kept hg ?_ (fun b e => .inr (fun cur fz hc => ?_)) (.inl rfl)
  · obtain ⟨cs, h1, _⟩ := h
    exact own_types h1 h2 (Ne.symm ht)
  · rcases h2.2 with ⟨rfl, _⟩ | ⟨g, cap, cur2, rfl, _, hg2, _⟩
    · simp [Value.ownBlock] at e
    · simp [Value.ownBlock] at e
      subst e
      rw [hg2] at hc
      injection hc with hc
      injection hc with _ hc _
      exact ht2 hc

theorem own_keep {w w' : World} {base n s : Nat} {e : TypeId} {v : Value} {xs : List Value} (h : w.ownsRow base e s v n xs) (hb : Below w.heap.size w w') : w'.ownsRow base e s v n xs := by
  refine ⟨h.1, ?_⟩
  rcases h.2 with hn | ⟨g, cap, cur, e1, e2, e3, rest⟩
  · exact .inl hn
  · exact .inr ⟨g, cap, cur, e1, e2, (hb.block g (Array.getElem?_eq_some_iff.1 e3).1).trans e3, rest⟩
theorem own_lt {w : World} {base n s : Nat} {e : TypeId} {v : Value} {xs : List Value} (h : w.ownsRow base e s v n xs) : ∀ b, v.ownBlock = some b → base ≤ b ∧ b < w.heap.size := fun b hb => by
  rcases h.2 with ⟨rfl, _⟩ | ⟨g, cap, cur, rfl, hg, hgb, _⟩
  · simp [Value.ownBlock] at hb
  · simp [Value.ownBlock] at hb
    subst hb
    exact ⟨hg, (Array.getElem?_eq_some_iff.1 hgb).1⟩
theorem entries_grown {w w' : World} {A : Option Addr} {l : List (Int × ByteArray)} {row : Option Nat} (h : EntriesR w A l) (hg : w.grownBy w' row) (hA : ∀ a, A = some a → ∀ b, row = some b → b < a.block) : EntriesR w' A l := fun j hj => by
  obtain ⟨a, rfl, h1, h2, h3⟩ := h j hj
  have hne : some (a.add (j * 2)).block ≠ row := fun e => by
    have := hA a rfl _ e.symm
    rw [block_of_add] at this
    omega
  exact ⟨a, rfl, hg.cell h1 hne, hg.cell h2 hne, Nat.lt_of_lt_of_le h3 hg.size⟩
/-- What leaders hands over: the sorted pairs. -/
def LedOut (l : List (Int × Int)) (w : World) (e : Ending) (w' : World) : Prop := ∃ A c, e = .returned (.slice A l.length c) ∧ LdAt w' A l ∧ Below w.heap.size w w'
theorem ldLs_alike (hs : List (Int × Int)) (ps : List Pl) (hn : ∀ p ∈ ps, plI hs p = 0) (h0 : 0 < hs.length) (h36 : hs.length ≤ 36) : Alike hs.length (ldLs hs ps ps.length) := by
  have hm : ∀ y ∈ ldLs hs ps ps.length, ∃ p ∈ ps, y = ldS hs p := fun y hy => by
    obtain ⟨i, hi, rfl⟩ := List.mem_map.1 hy
    have := ldIx_lt hi
    exact ⟨ps.getD i plD, by simp [List.getD, List.getElem?_eq_getElem this], rfl⟩
  refine ⟨fun y hy => ?_, fun y hy => ?_, h0, by omega⟩
  · obtain ⟨p, hp, rfl⟩ := hm y hy
    unfold ldS
    rw [firsts_len, (fit_of (hn p hp)).netsLen]
  · obtain ⟨p, hp, rfl⟩ := hm y hy
    exact (fit_of (hn p hp)).netsSmall

set_option maxRecDepth 100000 in
set_option maxHeartbeats 8000000 in
theorem leaders_any (A H : Option Addr) (c ch : Nat) (hs : List (Int × Int)) (ps : List Pl) (w : World) (hr : HolesR w H hs) (hbl : ∀ a, H = some a → a.block < w.heap.size) (hp : PlayersR w A ps) (hl : ps.length ≤ 19) (hn : ∀ p ∈ ps, plI hs p = 0) (h0 : 0 < hs.length) (h36 : hs.length ≤ 36) :
    Calls Tryz.prog 45 #[.agg #[.slice H hs.length ch, .slice A ps.length c]] w (LedOut (clsL (ldP hs ps).length (ldP hs ps)) w) := by
  have HRD := Lib.hid (fun W (hb : Below w.heap.size w W) B d (p : Pl) (he : EntriesR W B p.l) (hn : plI hs p = 0) =>
    roundOf_any H B ch d hs p.nm p.l p.h W (hr.keep hbl hb) (fun a ha => Nat.lt_of_lt_of_le (hbl a ha) hb.size) he h0 (by omega) (fit_of hn).len (fit_of hn).strokes (fit_of hn).lo (fit_of hn).hi)
  have HP := Lib.hid hp
  have HN := Lib.hid hn
  have HAL := Lib.hid (ldLs_alike hs ps hn h0 h36)
  clear hr hp hn
  go_enter Tryz.func45, Tryz.ntmps45
  go_wp2
  generalize hW0 : w.alloc (.cells #[.slice H hs.length ch, .slice A ps.length c] 25) = W0
  obtain ⟨a1, a2, a3⟩ := one_alloc w _ _ hW0
  have HBX := Lib.hid a1
  have HB0 := Lib.hid a2
  have HSZ0 := Lib.hid a3
  clear hW0 a1 a2 a3
  go_loopw [3, 4, 13] (fun vl vL iv w' => ∃ k : Nat, k ≤ ps.length ∧ iv = .int .i64 k ∧ w'.ownsRow W0.heap.size 100 2 vl (ldZ hs ps k).length (ldCells (ldZ hs ps k)) ∧ LsOwn w' W0.heap.size vL (ldLs hs ps k) none ∧ Below W0.heap.size W0 w') (fun _ _ iv _ => ps.length - (intOf iv).toNat)
  case atStart => exact ⟨0, Nat.zero_le _, rfl, World.ownsRow_nil _ _ _ 2, LsOwn.nil _ _ _, Below.refl _ _⟩
  case round =>
    obtain ⟨k, hk, rfl, ho, hL, hb⟩ := hrel
    have HO := Lib.hid ho
    have HL := Lib.hid hL
    have HB := Lib.hid hb
    have hbx := HBX.out.below hb HBX.out.lt
    have x0 := hbx.cell 0
    have x1 := hbx.cell 1
    simp only [List.getElem?_toArray, List.getElem?_cons_zero, List.getElem?_cons_succ] at x0 x1
    have HBK := Lib.hid (HB0.out.trans (hb.mono HB0.out.size))
    clear ho hL hb hbx
    by_cases hlt : k < ps.length
    · have hk0 : (0 : Int) ≤ (k : Int) := Int.natCast_nonneg _
      have hk1 : (k : Int) < (ps.length : Int) := by omega
      have HMEM : Hid (ps.getD k plD ∈ ps) := Lib.hid (by simp [List.getD, List.getElem?_eq_getElem hlt])
      have HPN := Lib.hid (HN.out _ HMEM.out)
      have HFL := Lib.hid (fit_of HPN.out).netsLen
      obtain ⟨a, B, d, rfl, d0, d1, d2, _, hent⟩ := (HP.out.keep HBK.out) k hlt
      have HENT := Lib.hid hent
      have HSUC := Lib.hid (ldIx_succ hs ps k)
      have HDS : Hid (ldS hs (ps.getD k plD) = firsts (netsOf hs (ps.getD k plD).h (ps.getD k plD).l)) := Lib.hid rfl
      have HDI : Hid (isLd hs (ps.getD k plD) = allCount (netsOf hs (ps.getD k plD).h (ps.getD k plD).l)) := Lib.hid rfl
      have HZ1 : Hid (ldLs hs ps (k + 1) = if isLd hs (ps.getD k plD) = true then ldLs hs ps k ++ [ldS hs (ps.getD k plD)] else ldLs hs ps k) := Lib.hid (by
        unfold ldLs; rw [HSUC.out]; split
        · rw [List.map_append]; rfl
        · rfl)
      have HZ2 : Hid (ldZ hs ps (k + 1) = if isLd hs (ps.getD k plD) = true then ldZ hs ps k ++ [((k : Int), 0)] else ldZ hs ps k) := Lib.hid (by
        unfold ldZ; rw [HSUC.out]; split
        · rw [List.map_append]; rfl
        · rfl)
      have HLEN := Lib.hid (ldIx_len hs ps k)
      have HZL := Lib.hid (ldZ_len hs ps k)
      have HLL := Lib.hid (ldLs_len hs ps k)
      clear hent HMEM HSUC
      generalize ps.getD k plD = p at d0 d1 d2 HENT HPN HFL HDS HDI HZ1 HZ2
      obtain ⟨nm, l, h⟩ := p
      simp only at d0 d1 d2
      have x2 := (World.cell?_alloc_lt wr (.cells #[.string nm, .slice B l.length d, .int .i64 h] 55) ⟨w.heap.size, 0, none⟩ (World.block_lt_of_cell? _ _ x0)).trans x0
      go_wp2_with fail
      generalize hW2 : wr.alloc (.cells #[.string nm, .slice B l.length d, .int .i64 h] 55) = W2
      have hB2 : Below wr.heap.size wr W2 := by subst hW2; exact (Below.refl _ _).alloc (Nat.le_refl _) _
      have HB2 := Lib.hid hB2
      clear hW2 hB2 d0 d1 d2 x0 x1 x2
      refine (HRD.out W2 (HBK.out.trans (HB2.out.mono HBK.out.size)) B d ⟨nm, l, h⟩ (HENT.out.keep HB2.out) HPN.out).mono ?_
      rintro e w3 ⟨A3, c3, rfl, hen3, hge3, hb3⟩
      have HB3 := Lib.hid (HB2.out.trans (hb3.mono HB2.out.size))
      have HEN3 := Lib.hid hen3
      have HGE3 : Hid (∀ a, A3 = some a → wr.heap.size ≤ a.block) := Lib.hid (fun a ha => Nat.le_trans HB2.out.size (hge3 a ha))
      clear hen3 hge3 hb3
      have HDS2 : Hid (ldS hs ⟨nm, l, h⟩ = firsts (netsOf hs h l)) := HDS
      have HDI2 : Hid (isLd hs ⟨nm, l, h⟩ = allCount (netsOf hs h l)) := HDI
      have HFL2 : Hid ((netsOf hs h l).length = hs.length) := HFL
      clear HDS HDI HFL HPN
      have HFL36 : Hid ((netsOf hs h l).length ≤ 36) := Lib.hid (by rw [HFL2.out]; exact h36)
      have HFL0 : Hid (0 < (netsOf hs h l).length) := Lib.hid (by rw [HFL2.out]; exact h0)
      generalize netsOf hs h l = nl at HEN3 HFL2 HDS2 HDI2 HFL36 HFL0
      go_wp2_with fail
      generalize hW4 : w3.alloc (.cells #[.slice B l.length d, .slice A3 nl.length c3] 135) = W4
      obtain ⟨b1, b2, b3⟩ := one_alloc w3 _ _ hW4
      have HBX4 := Lib.hid b1
      have HB4 := Lib.hid (HB3.out.trans (b2.mono HB3.out.size))
      have HEN4 := Lib.hid (HEN3.out.keep b2)
      have HBX3 : Hid (wr.heap.size ≤ w3.heap.size) := Lib.hid HB3.out.size
      clear hW4 b1 b2 b3 HB3 HEN3
      refine (isWhole_any A3 B c3 d l.length nl W4 HEN4.out (by have := HFL36.out; omega)).mono ?_
      rintro e w5 ⟨rfl, hb5⟩
      have HBX5 := Lib.hid (HBX4.out.below hb5 HBX4.out.lt)
      have HEN5 := Lib.hid (HEN4.out.keep hb5)
      have HB5 := Lib.hid (HB4.out.trans (hb5.mono HB4.out.size))
      clear hb5 HBX4 HEN4 HB4
      rw [← HDI2.out]
      cases hld : isLd hs ⟨nm, l, h⟩
      · have HZ1' : Hid (ldLs hs ps (k + 1) = ldLs hs ps k) := Lib.hid (by have := HZ1.out; rwa [hld] at this)
        have HZ2' : Hid (ldZ hs ps (k + 1) = ldZ hs ps k) := Lib.hid (by have := HZ2.out; rwa [hld] at this)
        clear hld
        go_wp2
        go_roundw
        case rel => exact ⟨k + 1, by omega, by go_num, by rw [HZ2'.out]; exact own_keep HO.out HB5.out, by rw [HZ1'.out]; exact HL.out.below HB5.out, HB.out.trans (HB5.out.mono HB.out.size)⟩
        case measure => simp [intOf]; omega
      · have HZ1' : Hid (ldLs hs ps (k + 1) = ldLs hs ps k ++ [ldS hs ⟨nm, l, h⟩]) := Lib.hid (by have := HZ1.out; rwa [hld, if_pos rfl] at this)
        have HZ2' : Hid (ldZ hs ps (k + 1) = ldZ hs ps k ++ [((k : Int), 0)]) := Lib.hid (by have := HZ2.out; rwa [hld, if_pos rfl] at this)
        clear hld
        obtain ⟨v1, w6, hr6, ho6, hb6, hg6⟩ := one_append W0.heap.size ((k : Int), 0) w5 u3 (ldZ hs ps k) (Nat.le_trans HB.out.size HB5.out.size) (by have := HLEN.out; have := HZL.out; omega) (own_keep HO.out HB5.out)
        have hul := own_lt HO.out
        have hen6 := entries_grown HEN5.out hg6 (fun x hx b hb => by have := HGE3.out x hx; have := (hul b hb).2; omega)
        have hbx6 := HBX5.out.grown hg6 (fun e => by have := (hul _ e.symm).2; have := HBX3.out; omega)
        have hL6 := (HL.out.below HB5.out).led (own_keep HO.out HB5.out) hg6
        have hb06 : Below W0.heap.size W0 w6 := (HB.out.trans (HB5.out.mono HB.out.size)).trans hb6
        have y1 := hbx6.cell 1
        simp only [List.getElem?_toArray, List.getElem?_cons_zero, List.getElem?_cons_succ] at y1
        have HEN6 := Lib.hid hen6
        have HL6 := Lib.hid hL6
        have HO6 := Lib.hid ho6
        have HB6 := Lib.hid hb06
        have HRUN6 := Lib.hid hr6
        clear hul hen6 hbx6 hL6 hb06 ho6 hb6 hg6 hr6
        go_wp2_with (at_builtin; refine wpList_append_go rfl _ _ 96 rfl _ _ v1 w6 rfl rfl HRUN6.out ?_)
        refine (eachNets_any A3 c3 nl w6 HEN6.out (by have := HFL36.out; omega)).mono ?_
        rintro e w7 ⟨rfl, hrow7, hb7⟩
        obtain ⟨v2, w8, hr8, ho8, hb8, hg8, _⟩ := append_ls W0.heap.size w6.heap.size nl.length (firsts nl) [] none w7 u4 (ldLs hs ps k) (Nat.le_trans HB6.out.size hb7.size) (by have := HLEN.out; have := HLL.out; omega) (HL6.out.below hb7) (PreR.of_row hrow7) (by rw [firsts_len]; exact Nat.le_refl _) (by simp)
        rw [firsts_len] at hr8
        have HRUN8 := Lib.hid hr8
        have HL8 : Hid (LsOwn w8 W0.heap.size v2 (ldLs hs ps (k + 1)) none) := Lib.hid (by rw [HZ1'.out, HDS2.out]; exact ho8)
        have HO8 : Hid (w8.ownsRow W0.heap.size 100 2 v1 (ldZ hs ps (k + 1)).length (ldCells (ldZ hs ps (k + 1)))) := Lib.hid (by
          rw [HZ2'.out]
          refine (own_keep HO6.out hb7).kept hg8 ?_
          obtain ⟨cs, q, _⟩ := HL6.out.below hb7
          exact own_types (own_keep HO6.out hb7) q (by decide))
        have HB8 := Lib.hid ((HB6.out.trans (hb7.mono HB6.out.size)).trans hb8)
        clear hr8 ho8 hb8 hg8 hb7 hrow7
        go_wp2_with (at_builtin; refine wpList_append_go rfl _ _ 26 rfl _ _ v2 w8 rfl rfl HRUN8.out ?_)
        go_roundw
        case rel => exact ⟨k + 1, by omega, by go_num, HO8.out, HL8.out, HB8.out⟩
        case measure => simp [intOf]; omega
    · have hkn : k = ps.length := by omega
      subst hkn
      have HM19 : Hid ((ldP hs ps).length ≤ 19) := Lib.hid (by rw [ldP_len]; have := ldIx_len hs ps ps.length; omega)
      have HRL : Hid ((ForMath.ranks (ldLs hs ps ps.length)).length = (ldP hs ps).length) := Lib.hid (by rw [ranks_len, ldLP])
      obtain ⟨AL, cL, rfl, hLR⟩ := HL.out.lists
      have HLR := Lib.hid hLR
      have HCW := Lib.hid (cls_whole hs ps)
      have HPR := Lib.hid (ldP_ranks hs ps)
      have HK0 := Lib.hid (ldK_zero hs ps)
      have HKS := Lib.hid (ldK_set hs ps)
      have HKL := Lib.hid (ldK_len hs ps)
      have HKA := Lib.hid (ldK_all hs ps)
      have HZP := Lib.hid (ldZP hs ps)
      clear hLR x0 x1
      rw [ldLP]
      have HRK := Lib.hid (fun W (h : ListsR W AL (ldLs hs ps ps.length)) => by
        have hh := ranks_any AL cL hs.length (ldLs hs ps ps.length) W h HAL.out (by rw [ldLP]; have := HM19.out; omega)
        rw [ldLP] at hh
        exact hh)
      by_cases hm : (ldP hs ps).length = 0
      · have hz : (ldZ hs ps ps.length).length = 0 := by rw [HZP.out]; exact hm
        obtain ⟨A3, c3, rfl⟩ : ∃ A3 c3, u3 = .slice A3 0 c3 := by
          rcases HO.out.2 with ⟨rfl, _⟩ | ⟨g, cap, cur, rfl, _⟩
          · exact ⟨none, 0, rfl⟩
          · exact ⟨some ⟨g, 0, none⟩, cap, by rw [hz]⟩
        have HCL : Hid (clsL (ldP hs ps).length (ldP hs ps) = []) := Lib.hid (List.eq_nil_of_length_eq_zero (by rw [HCW.out]; exact hm))
        rw [HCL.out]
        rw [hm] at HRK HRL ⊢
        clear hz
        go_wp2_with fail
        refine (HRK.out _ HLR.out).mono ?_
        rintro e w2 ⟨g, rfl, hrow, hg, hb2⟩
        have HB2 := Lib.hid (HBK.out.trans (hb2.mono HBK.out.size))
        rw [HRL.out]
        clear hrow hg hb2
        go_wp2
        go_loopw [39] (fun iv w' => iv = .int .i64 0 ∧ w2 = w') (fun _ _ => 0)
        case atStart => exact ⟨rfl, rfl⟩
        case round =>
          obtain ⟨rfl, rfl⟩ := hrel
          go_wp2_with fail
          refine (sortNil_any A3 c3 _).mono ?_
          rintro e w3 ⟨rfl, rfl⟩
          go_wp2
          go_ret
          exact ⟨A3, c3, by rw [HCL.out]; rfl, fun j hj => by rw [HCL.out] at hj; exact absurd hj (Nat.not_lt_zero _), HB2.out⟩
      · obtain ⟨gl, capl, restl, rfl, hR, hgl, hcapl⟩ := LdR.of_own HO.out (by rw [HZP.out]; omega)
        have HR := Lib.hid (hR.eq_ HK0.out.symm)
        have HGL : Hid (w.heap.size ≤ gl) := Lib.hid (Nat.le_trans HB0.out.size hgl)
        rw [HZP.out]
        clear hR hgl hcapl
        go_wp2_with fail
        refine (HRK.out _ HLR.out).mono ?_
        rintro e w2 ⟨g, rfl, hrow, hg, hb2⟩
        have HB2 := Lib.hid (HBK.out.trans (hb2.mono HBK.out.size))
        have HR2 := Lib.hid (HR.out.below hb2 HR.out.lt)
        have HROW2 := Lib.hid hrow
        have HNE : Hid (gl ≠ g) := Lib.hid (by have := HR.out.lt; omega)
        rw [HRL.out]
        clear hrow hg hb2
        go_wp2
        go_loopw [39] (fun iv w' => ∃ k : Nat, k ≤ (ldP hs ps).length ∧ iv = .int .i64 k ∧ LdR w' gl (ldK hs ps k) restl ∧ RowI w' g (ForMath.ranks (ldLs hs ps ps.length)) ∧ Below w.heap.size w w') (fun iv _ => (ldP hs ps).length - (intOf iv).toNat)
        case atStart => exact ⟨0, Nat.zero_le _, rfl, HR2.out, HROW2.out, HB2.out⟩
        case round =>
          obtain ⟨k, hk, rfl, hr, hrow, hb⟩ := hrel
          have HR3 := Lib.hid hr
          have HROW3 := Lib.hid hrow
          have HB3 := Lib.hid hb
          clear hr hrow hb
          by_cases hlt : k < (ldP hs ps).length
          · have hk0 : (0 : Int) ≤ (k : Int) := Int.natCast_nonneg _
            have hk1 : (k : Int) < (((ldP hs ps).length : Nat) : Int) := by omega
            have hk19 : (k : Int) < 19 := by have := HM19.out; omega
            have c0 := HROW3.out.cell (j := k) (by rw [HRL.out]; exact hlt)
            obtain ⟨e1, e2⟩ := HR3.out.cells (j := k) (by rw [HKL.out]; exact hlt)
            have f1 := HR3.out.frozen (k * 2 + 1)
            have HSE := Lib.hid (HKS.out k hlt)
            have HRS := Lib.hid (fun m => HR3.out.rank (k := k) (by rw [HKL.out]; exact hlt) m)
            have HRW := Lib.hid (fun m => HROW3.out.far (p := ⟨gl, k * 2 + 1, none⟩) (fun e => HNE.out e.symm) (.int .i64 m))
            have HBS := Lib.hid (fun m => HB3.out.setCell (p := ⟨gl, k * 2 + 1, none⟩) HGL.out (.int .i64 m))
            generalize (ForMath.ranks (ldLs hs ps ps.length)).getD k 0 = q at c0 HSE
            generalize ((ldK hs ps k).getD k (0, 0)).1 = q1 at e1 HSE HRS
            generalize ((ldK hs ps k).getD k (0, 0)).2 = q2 at e2
            go_wp2
            go_roundw
            case rel => exact ⟨k + 1, by omega, by go_num, (HRS.out q).eq_ HSE.out, HRW.out q, HBS.out q⟩
            case measure => simp [intOf]; omega
          · have HR4 := Lib.hid (HR3.out.eq_ (HKA.out k (by omega)))
            have hkn : ¬ (k : Int) < (((ldP hs ps).length : Nat) : Int) := by omega
            go_wp2_with fail
            refine (sortLed_any gl capl w.heap.size (ldP hs ps) restl _ HR4.out (by omega) HM19.out HPR.out HGL.out).mono ?_
            rintro e w3 ⟨rfl, hsr, hb4⟩
            have HSR := Lib.hid hsr
            have HB4 := Lib.hid (HB3.out.trans hb4)
            clear hsr hb4
            go_wp2
            go_ret
            exact ⟨some ⟨gl, 0, none⟩, capl, by rw [HCW.out]; rfl, HSR.out.ldAt, HB4.out⟩
end Go.Proofs.YtbckfkopdojggaaGreatDoor

/- The law's players of any number that an argument can have; Leaders. -/
namespace Go.Proofs.YtbckfkopdojggaaGreatDoor
open Go.RowKit

theorem append_genB (base : Nat) (T TE : TypeId) (z : Value) (size bytes : Nat) (hT : Tryz.prog.underlying T = some (.slice TE)) (hI : (Tryz.prog.info? TE).map (fun i => (i.zero, i.size, i.bytes)) = some (some z, size, bytes)) (hz : z.cells.size = size) (hsz : 0 < size)
    (cs : List Value) (hcs : cs.length = size) (h1 : ∀ u ∈ cs, u.oneCell' = true) (w : World) (v : Value) (n : Nat) (xs : List Value) (hb : base ≤ w.heap.size) (hl : n ≤ 4611686018427387904) (hbb : (n + 1) * bytes ≤ 140737488355328) (hown : w.ownsRow base TE size v n xs) :
    ∃ v' w', (Builtin.append_ #[T, T] T #[v, .slice (some ⟨w.heap.size, 0, none⟩) 1 1]).run Tryz.prog (w.alloc (.cells cs.toArray TE)) = .ok v' w' ∧
      w'.ownsRow base TE size v' (n + 1) (xs ++ cs) ∧ Below base w w' := by
  obtain ⟨i0, hi, hz0, hz1, hz2⟩ := info_parts hI
  have hd := owns_alloc hown (.cells cs.toArray TE)
  have hrow := heap_alloc_new w (.cells cs.toArray TE)
  obtain ⟨v', w', hrun, h2, h3, _, _⟩ := run_append_own_at (P := Tryz.prog) (w.alloc (.cells cs.toArray TE)) base T T TE i0 z size bytes hT hi hz0 hz1 hz2 hz hsz v n xs hd ⟨w.heap.size, 0, none⟩ 1 1 cs (by omega)
    (fun j u hu => by rw [add_zero_at, cell_of_row _ _ j _ _ _ hrow]; rw [← hu]; simp)
    h1 (by unfold maxLen; omega) hbb (by simp; omega)
  refine ⟨v', w', hrun, h2, ?_⟩
  refine ((Below.refl base w).alloc hb _).grown h3 (by simp; omega) (fun k e => ?_)
  rcases hown.2 with ⟨rfl, _⟩ | ⟨g, cap, cur, rfl, hg, _⟩
  · simp [Value.ownBlock] at e
  · simp [Value.ownBlock] at e; omega
theorem append_plB (w0 : World) (base : Nat) (y : Pl) (B : Option Addr) (d : Nat) (w : World) (v : Value) (tk : List Pl) (hb : base ≤ w.heap.size) (hl : (tk.length + 1) * 48 ≤ 140737488355328) (hown : PlOwn w0 w base v tk) (he : EntriesR w0 B y.l) :
    ∃ v' w', (Builtin.append_ #[27, 27] 27 #[v, .slice (some ⟨w.heap.size, 0, none⟩) 1 1]).run Tryz.prog (w.alloc (.cells #[.string y.nm, .slice B y.l.length d, .int .i64 y.h] 84)) = .ok v' w' ∧
      PlOwn w0 w' base v' (tk ++ [y]) ∧ Below base w w' := by
  obtain ⟨vs, ho, hv⟩ := hown
  obtain ⟨v', w', h1, h2, h3⟩ := append_genB base 27 84 (.agg #[.string ⟨#[]⟩, .slice none 0 0, .int .i64 0]) 3 48 Tryz.underlying27 info_rpl rfl (by decide) [.string y.nm, .slice B y.l.length d, .int .i64 y.h] rfl (by simp [Value.oneCell']) w v tk.length _ hb (by omega) hl ho
  refine ⟨v', w', h1, ⟨_, by rw [List.length_append]; exact h2, fun j hj => ?_⟩, h3⟩
  have hvl : vs.length = tk.length * 3 := ho.1
  by_cases hjt : j < tk.length
  · obtain ⟨B', d', p0, p1, p2, he'⟩ := hv j hjt
    have e : (tk ++ [y]).getD j plD = tk.getD j plD := by simp [List.getD, List.getElem?_append_left hjt]
    rw [e]
    exact ⟨B', d', by rw [List.getElem?_append_left (by omega)]; exact p0, by rw [List.getElem?_append_left (by omega)]; exact p1, by rw [List.getElem?_append_left (by omega)]; exact p2, he'⟩
  · have hj' : j = tk.length := by simp at hj; omega
    subst hj'
    have e : (tk ++ [y]).getD tk.length plD = y := by simp [List.getD]
    rw [e]
    refine ⟨B, d, ?_, ?_, ?_, he⟩
    · rw [List.getElem?_append_right (by omega)]; simp [hvl]
    · rw [List.getElem?_append_right (by omega)]; simp [hvl]
    · rw [List.getElem?_append_right (by omega)]; simp [hvl]

set_option maxRecDepth 100000 in
set_option maxHeartbeats 4000000 in
theorem lawPlayersB_any (A : Option Addr) (c : Nat) (ps : List Pl) (w0 w : World) (hb0 : Below w0.heap.size w0 w) (hp : PlayersR w0 A ps) (hl : ps.length * 48 ≤ 140737488355328) :
    Calls Tryz.prog 7 #[.slice A ps.length c] w fun e w' => ∃ A' c', e = .returned (.slice A' ps.length c') ∧ PlOwn w0 w' w.heap.size (.slice A' ps.length c') ps ∧ Below w.heap.size w w' := by
  have HP := Lib.hid hp
  have HB00 := Lib.hid hb0
  clear hp hb0
  go_enter Tryz.func7, Tryz.ntmps7
  go_wp2
  go_loopw [3, 8] (fun v kv w' => ∃ k : Nat, k ≤ ps.length ∧ kv = .int .i64 k ∧ PlOwn w0 w' w.heap.size v (ps.take k) ∧ Below w.heap.size w w') (fun _ kv _ => ps.length - (intOf kv).toNat)
  case atStart => exact ⟨0, Nat.zero_le _, rfl, PlOwn.nil _ _ _, Below.refl _ _⟩
  case round =>
    obtain ⟨k, hk, rfl, hown, hb⟩ := hrel
    have HOWN := Lib.hid hown
    have HB := Lib.hid hb
    clear hown hb
    have hk0 : (0 : Int) ≤ (k : Int) := Int.natCast_nonneg _
    by_cases hlt : k < ps.length
    · have hk1 : (k : Int) < (ps.length : Int) := by omega
      obtain ⟨a, B, d, rfl, _, _, _, _, he⟩ := HP.out k hlt
      obtain ⟨a', B', d', ea, d0, d1, d2, _, _⟩ := (HP.out.keep (HB00.out.trans (HB.out.mono HB00.out.size))) k hlt
      injection ea with ea
      subst ea
      obtain ⟨_, B2, d3, eb, f0, f1, f2, _, he2⟩ := HP.out k hlt
      injection eb with eb
      subst eb
      have hbd : Value.slice B' (ps.getD k plD).l.length d' = Value.slice B2 (ps.getD k plD).l.length d3 := by
        have g := ((HB00.out.trans (HB.out.mono HB00.out.size)).cell (p := ⟨(a.add (k * 3)).block, (a.add (k * 3)).off + 1, none⟩) (World.block_lt_of_cell? _ _ f1)).trans f1
        rw [d1] at g
        injection g
      injection hbd with h1 _ h3
      subst h1; subst h3
      clear he f0 f1 f2
      have HTK : Hid (ps.take (k + 1) = ps.take k ++ [ps.getD k plD]) := Lib.hid (by
        rw [List.take_succ_eq_append_getElem hlt]; simp [List.getD, List.getElem?_eq_getElem hlt])
      have HLEN : Hid (((ps.take k).length + 1) * 48 ≤ 140737488355328) := Lib.hid (by rw [List.length_take]; omega)
      have hk47 : (k : Int) < 140737488355328 := by omega
      generalize ps.getD k plD = y at d0 d1 d2 he2 HTK
      obtain ⟨nm, l, h⟩ := y
      simp only at d0 d1 d2 he2 HTK
      have ha := (Below.refl wr.heap.size wr).alloc (Nat.le_refl _) (.cells #[.string nm, .slice B' l.length d', .int .i64 h] 55)
      have hen := BlkV.new wr 55 #[.string nm, .slice B' l.length d', .int .i64 h]
      have HAPP := Lib.hid (append_plB w0 w.heap.size ⟨nm, l, h⟩ B' d' _ u3 _ (by have := HB.out.size; have := ha.size; omega) HLEN.out (HOWN.out.below ha) he2)
      have HBA := Lib.hid (HB.out.trans (ha.mono HB.out.size))
      rw [show (wr.alloc (.cells #[.string nm, .slice B' l.length d', .int .i64 h] 55)).heap.size = wr.heap.size + 1 by simp] at HAPP
      clear ha
      generalize ps.take k = tk at HTK HAPP HOWN
      have e0 := hen.cell 0
      have e1 := hen.cell 1
      have e2 := hen.cell 2
      simp only [List.getElem?_toArray, List.getElem?_cons_zero, List.getElem?_cons_succ] at e0 e1 e2
      clear hen he2
      obtain ⟨v', w4, hrun, ho, hb4⟩ := HAPP.out
      simp only at hrun
      have HRUN := Lib.hid hrun
      have HO := Lib.hid ho
      have HB4 := Lib.hid (HBA.out.trans hb4)
      clear hrun ho hb4 HAPP HOWN HBA
      go_wp2_with (at_builtin; refine wpList_append_go rfl _ _ 27 rfl _ _ v' w4 rfl rfl HRUN.out ?_)
      go_roundw
      case rel => exact ⟨k + 1, by omega, by go_num, by rw [HTK.out]; exact HO.out, HB4.out⟩
      case measure => simp [intOf]; omega
    · have HF : Hid (ps.take k = ps) := Lib.hid (List.take_of_length_le (by omega))
      have HFI : Hid (PlOwn w0 wr w.heap.size u3 ps) := Lib.hid (by have := HOWN.out; rwa [HF.out] at this)
      go_wp2
      go_ret
      obtain ⟨A', c', e⟩ := HFI.out.slice
      exact ⟨A', c', by rw [← e]; rfl, by rw [← e]; exact HFI.out, HB.out⟩

theorem PlOwn.far {w0 w : World} {base : Nat} {v : Value} {ps : List Pl} (h : PlOwn w0 w base v ps) {p : Addr} (hp : p.block < base) (u : Value) : PlOwn w0 (w.setCell p u) base v ps := by
  obtain ⟨vs, ho, hv⟩ := h
  refine ⟨vs, ⟨ho.1, ?_⟩, hv⟩
  rcases ho.2 with hn | ⟨g, cap, cur, e1, e2, e3, rest⟩
  · exact .inl hn
  · exact .inr ⟨g, cap, cur, e1, e2, (Below.heap_setCell w p u g (by omega)).trans e3, rest⟩

/-- What Leaders hands over: the players and their ranks. -/
def LeadsOut (xs ys : List Int) (w : World) (e : Ending) (w' : World) : Prop := ∃ A c B d, e = .returned (.tuple #[.slice A xs.length c, .slice B ys.length d, .int .i64 0]) ∧ IntsAt w' w'.heap.size A xs ∧ IntsAt w' w'.heap.size B ys ∧ Below w.heap.size w w'

set_option maxRecDepth 100000 in
set_option maxHeartbeats 4000000 in
theorem fmLeaders_yes (A H : Option Addr) (c ch : Nat) (hs : List (Int × Int)) (ps : List Pl) (w : World)
    (hCF : ∀ W, Below w.heap.size w W → Calls Tryz.prog 13 #[.agg #[.slice H hs.length ch, .slice A ps.length c]] W fun e w' => e = .returned (.int .i64 0) ∧ Below W.heap.size W w')
    (hLD : ∀ W, Below w.heap.size w W → Calls Tryz.prog 45 #[.agg #[.slice H hs.length ch, .slice A ps.length c]] W (LedOut (clsL (ldP hs ps).length (ldP hs ps)) W)) (hl : ps.length ≤ 19) :
    Calls Tryz.prog 12 #[.agg #[.slice H hs.length ch, .slice A ps.length c]] w (LeadsOut ((clsL (ldP hs ps).length (ldP hs ps)).map (·.1)) ((clsL (ldP hs ps).length (ldP hs ps)).map (·.2)) w) := by
  have HCF := Lib.hid hCF
  have HLD := Lib.hid hLD
  have HL : Hid ((clsL (ldP hs ps).length (ldP hs ps)).length ≤ 1000) := Lib.hid (by rw [cls_whole, ldP_len]; have := ldIx_len hs ps ps.length; omega)
  clear hCF hLD
  generalize clsL (ldP hs ps).length (ldP hs ps) = P at HLD HL ⊢
  go_enter Tryz.func12, Tryz.ntmps12
  go_wp2_with fail
  generalize hW0 : w.alloc (.cells #[.slice H hs.length ch, .slice A ps.length c] 25) = W0
  obtain ⟨a1, a2, a3⟩ := one_alloc w _ _ hW0
  have HBX := Lib.hid a1
  have HB0 := Lib.hid a2
  clear hW0 a1 a2 a3
  refine (HCF.out W0 HB0.out).mono ?_
  rintro e w1 ⟨rfl, hb1⟩
  have HB1 := Lib.hid (HB0.out.trans (hb1.mono HB0.out.size))
  have hbx := HBX.out.below hb1 HBX.out.lt
  have x0 := hbx.cell 0
  have x1 := hbx.cell 1
  simp only [List.getElem?_toArray, List.getElem?_cons_zero, List.getElem?_cons_succ] at x0 x1
  clear hbx hb1
  go_wp2_with fail
  refine (HLD.out w1 HB1.out).mono ?_
  rintro e w2 ⟨A2, c2, rfl, hat, hb2⟩
  have HAT := Lib.hid hat
  have HB2 := Lib.hid (HB1.out.trans (hb2.mono HB1.out.size))
  clear hat hb2
  go_wp2_with fail
  refine (eachLed1_any A2 c2 P w2 HAT.out HL.out).mono ?_
  rintro e w3 ⟨rfl, hr3, hb3⟩
  have HR3 := Lib.hid hr3
  have HB3 := Lib.hid (HB2.out.trans (hb3.mono HB2.out.size))
  have HAT3 := Lib.hid (HAT.out.keep hb3)
  clear hr3 hb3
  go_wp2_with fail
  refine (eachLed2_any A2 c2 P w3 HAT3.out HL.out).mono ?_
  rintro e w4 ⟨rfl, hr4, hb4⟩
  have HR4 := Lib.hid hr4
  have HR34 := Lib.hid (HR3.out.below hb4 HR3.out.lt)
  have HB4 := Lib.hid (HB3.out.trans (hb4.mono HB3.out.size))
  clear hr4 hb4
  go_wp2
  go_ret3
  exact ⟨some ⟨w2.heap.size, 0, none⟩, P.length, some ⟨w3.heap.size, 0, none⟩, P.length, by simp, HR34.out.ints HR34.out.lt, HR4.out.ints HR4.out.lt, HB4.out⟩

set_option maxRecDepth 100000 in
set_option maxHeartbeats 2000000 in
theorem fmLeaders_no (A H : Option Addr) (c ch : Nat) (hs : List (Int × Int)) (ps : List Pl) (z : Int) (w : World)
    (hCF : ∀ W, Below w.heap.size w W → Calls Tryz.prog 13 #[.agg #[.slice H hs.length ch, .slice A ps.length c]] W fun e w' => e = .returned (.int .i64 z) ∧ Below W.heap.size W w') (hz : z ≠ 0) :
    Calls Tryz.prog 12 #[.agg #[.slice H hs.length ch, .slice A ps.length c]] w fun e w' => e = .returned (.tuple #[.slice none 0 0, .slice none 0 0, .int .i64 z]) ∧ Below w.heap.size w w' := by
  have HCF := Lib.hid hCF
  have hzb : (z != 0) = true := by simpa using hz
  clear hCF hz
  go_enter Tryz.func12, Tryz.ntmps12
  go_wp2_with fail
  generalize hW0 : w.alloc (.cells #[.slice H hs.length ch, .slice A ps.length c] 25) = W0
  obtain ⟨a1, a2, a3⟩ := one_alloc w _ _ hW0
  have HB0 := Lib.hid a2
  clear hW0 a1 a2 a3
  refine (HCF.out W0 HB0.out).mono ?_
  rintro e w1 ⟨rfl, hb1⟩
  have HB1 := Lib.hid (HB0.out.trans (hb1.mono HB0.out.size))
  clear hb1
  go_wp2
  go_ret3
  exact ⟨rfl, HB1.out⟩
end Go.Proofs.YtbckfkopdojggaaGreatDoor
