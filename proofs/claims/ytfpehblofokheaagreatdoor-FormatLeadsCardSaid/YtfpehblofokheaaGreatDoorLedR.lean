/- Rows of pairs of integers (leaders: player, rank) in blocks of one's own; rows of lists. -/
import Derived.Test.YtfpehblofokheaaGreatDoorLedM
import Derived.Test.YtfpehblofokheaaGreatDoorMgG
import Derived.Test.YtfpehblofokheaaGreatDoorRowP
import Derived.Outline
set_option linter.unusedVariables false
set_option linter.unusedSimpArgs false
namespace Go.Proofs.YtfpehblofokheaaGreatDoor
open Go.RowKit

def ldCells : List (Int × Int) → List Value
  | [] => []
  | e :: l => .int .i64 e.1 :: .int .i64 e.2 :: ldCells l
theorem ldCells_len : ∀ l : List (Int × Int), (ldCells l).length = l.length * 2
  | [] => rfl
  | e :: l => by simp [ldCells, ldCells_len l]; omega
theorem ldCells_at : ∀ (l : List (Int × Int)) (j : Nat), j < l.length → (ldCells l)[j * 2]? = some (.int .i64 (l.getD j (0, 0)).1) ∧ (ldCells l)[j * 2 + 1]? = some (.int .i64 (l.getD j (0, 0)).2)
  | [], j, h => absurd h (Nat.not_lt_zero _)
  | e :: l, 0, _ => ⟨rfl, rfl⟩
  | e :: l, j + 1, h => by
    have ih := ldCells_at l j (by simpa using h)
    rw [show (j + 1) * 2 = j * 2 + 1 + 1 by omega]
    have e1 : ldCells (e :: l) = .int .i64 e.1 :: .int .i64 e.2 :: ldCells l := rfl
    rw [e1]
    simp only [List.getElem?_cons_succ]
    exact ih
theorem ldCells_set : ∀ (l : List (Int × Int)) (k : Nat) (s m : Int), k < l.length → ((ldCells l).set (k * 2) (.int .i64 s)).set (k * 2 + 1) (.int .i64 m) = ldCells (l.set k (s, m))
  | [], k, _, _, h => absurd h (Nat.not_lt_zero _)
  | e :: l, 0, s, m, _ => rfl
  | e :: l, k + 1, s, m, h => by
    have ih := ldCells_set l k s m (by simpa using h)
    rw [show (k + 1) * 2 = k * 2 + 1 + 1 by omega]
    have e1 : ldCells (e :: l) = .int .i64 e.1 :: .int .i64 e.2 :: ldCells l := rfl
    rw [e1]
    simp only [List.set_cons_succ]
    rw [ih]
    rfl
theorem ldCells_rank : ∀ (l : List (Int × Int)) (k : Nat) (m : Int), k < l.length → (ldCells l).set (k * 2 + 1) (.int .i64 m) = ldCells (l.set k ((l.getD k (0, 0)).1, m))
  | [], k, _, h => absurd h (Nat.not_lt_zero _)
  | e :: l, 0, m, _ => rfl
  | e :: l, k + 1, m, h => by
    have ih := ldCells_rank l k m (by simpa using h)
    rw [show (k + 1) * 2 + 1 = k * 2 + 1 + 1 + 1 by omega]
    have e1 : ldCells (e :: l) = .int .i64 e.1 :: .int .i64 e.2 :: ldCells l := rfl
    rw [e1]
    simp only [List.set_cons_succ]
    rw [ih]
    rfl
theorem ldCells_snoc : ∀ (l : List (Int × Int)) (x : Int × Int), ldCells (l ++ [x]) = ldCells l ++ [.int .i64 x.1, .int .i64 x.2]
  | [], x => rfl
  | e :: l, x => by show _ :: _ :: ldCells (l ++ [x]) = _; rw [ldCells_snoc l x]; rfl

/-- Block g begins with these pairs; behind them lies what is never looked at. -/
def LdR (w : World) (g : Nat) (l : List (Int × Int)) (rest : List Value) : Prop := w.heap[g]? = some (.cells (ldCells l ++ rest).toArray 93 (0, 0))
section
variable {w w' : World} {g : Nat} {l : List (Int × Int)} {rest : List Value}
theorem LdR.lt (h : LdR w g l rest) : g < w.heap.size := by
  rcases Nat.lt_or_ge g w.heap.size with hlt | hge
  · exact hlt
  · unfold LdR at h; rw [Array.getElem?_eq_none hge] at h; cases h
theorem LdR.cells (h : LdR w g l rest) {j : Nat} (hj : j < l.length) : w.cell? ⟨g, j * 2, none⟩ = some (.int .i64 (l.getD j (0, 0)).1) ∧ w.cell? ⟨g, j * 2 + 1, none⟩ = some (.int .i64 (l.getD j (0, 0)).2) := by
  obtain ⟨h1, h2⟩ := ldCells_at l j hj
  have hl := ldCells_len l
  constructor
  · rw [cell_of_row w g _ _ _ _ h, List.getElem?_toArray, List.getElem?_append_left (by omega), h1]
  · rw [cell_of_row w g _ _ _ _ h, List.getElem?_toArray, List.getElem?_append_left (by omega), h2]
theorem LdR.frozen (h : LdR w g l rest) (j : Nat) : w.frozen? ⟨g, j, none⟩ = false := by
  unfold LdR at h
  simp [World.frozen?, h]
theorem LdR.set (h : LdR w g l rest) {k : Nat} (hk : k < l.length) (s m : Int) : LdR ((w.setCell ⟨g, k * 2, none⟩ (.int .i64 s)).setCell ⟨g, k * 2 + 1, none⟩ (.int .i64 m)) g (l.set k (s, m)) rest := by
  have hl := ldCells_len l
  have q := (BlkV.set (show BlkV w g _ _ from h) (k * 2) (.int .i64 s)).set (k * 2 + 1) (.int .i64 m)
  unfold LdR
  rw [← ldCells_set l k s m hk, ← List.set_append_left _ _ (by simp; omega), ← List.set_append_left _ _ (by omega)]
  unfold BlkV at q
  simpa using q
theorem LdR.rank (h : LdR w g l rest) {k : Nat} (hk : k < l.length) (m : Int) : LdR (w.setCell ⟨g, k * 2 + 1, none⟩ (.int .i64 m)) g (l.set k ((l.getD k (0, 0)).1, m)) rest := by
  have hl := ldCells_len l
  have q := BlkV.set (show BlkV w g _ _ from h) (k * 2 + 1) (.int .i64 m)
  unfold LdR
  rw [← ldCells_rank l k m hk, ← List.set_append_left _ _ (by omega)]
  unfold BlkV at q
  simpa using q
theorem LdR.drew (h : LdR w g l rest) : LdR w.drew g l rest := h
theorem LdR.drewN (h : LdR w g l rest) (n : Nat) : LdR (w.drewN n) g l rest := h
theorem LdR.eq_ (h : LdR w g l rest) {zs : List (Int × Int)} (e : l = zs) : LdR w g zs rest := e ▸ h
theorem LdR.below {B : Nat} (h : LdR w g l rest) (hb : Below B w w') (hg : g < B) : LdR w' g l rest := (hb.block g hg).trans h
end
theorem info_led : (Tryz.prog.info? 93).map (fun i => (i.zero, i.size, i.bytes)) = some (some (.agg #[.int .i64 0, .int .i64 0]), 2, 16) := by kernel_rfl
/-- What one's own rows hold, as a block. -/
theorem LdR.of_own {w : World} {base : Nat} {v : Value} {l : List (Int × Int)} (h : w.ownsRow base 93 2 v l.length (ldCells l)) (h0 : 0 < l.length) :
    ∃ g cap rest, v = .slice (some ⟨g, 0, none⟩) l.length cap ∧ LdR w g l rest ∧ base ≤ g ∧ l.length ≤ cap := by
  rcases h.2 with ⟨_, e⟩ | ⟨g, cap, cur, rfl, hg, hgb, hnc, hcm, hcs, htk⟩
  · omega
  · refine ⟨g, cap, cur.toList.drop (l.length * 2), rfl, ?_, hg, hnc⟩
    unfold LdR
    rw [hgb, ← htk, List.take_append_drop]

/-- One more element to a row of one's own, and which block grew. -/
theorem append_grown (base : Nat) (T TE : TypeId) (z : Value) (size bytes : Nat) (hT : Tryz.prog.underlying T = some (.slice TE)) (hI : (Tryz.prog.info? TE).map (fun i => (i.zero, i.size, i.bytes)) = some (some z, size, bytes)) (hz : z.cells.size = size) (hsz : 0 < size)
    (cs : List Value) (hcs : cs.length = size) (h1 : ∀ u ∈ cs, u.oneCell' = true) (w : World) (v : Value) (n : Nat) (xs : List Value) (hb : base ≤ w.heap.size) (hl : n ≤ 100000) (hbs : bytes ≤ 1000) (hown : w.ownsRow base TE size v n xs) :
    ∃ v' w', (Builtin.append_ #[T, T] T #[v, .slice (some ⟨w.heap.size, 0, none⟩) 1 1]).run Tryz.prog (w.alloc (.cells cs.toArray TE)) = .ok v' w' ∧
      w'.ownsRow base TE size v' (n + 1) (xs ++ cs) ∧ Below base w w' ∧ w.grownBy w' v.ownBlock ∧ (v'.ownBlock = v.ownBlock ∨ v'.ownBlock = some (w.heap.size + 1)) := by
  obtain ⟨i0, hi, hz0, hz1, hz2⟩ := info_parts hI
  have hd := owns_alloc hown (.cells cs.toArray TE)
  have hrow := heap_alloc_new w (.cells cs.toArray TE)
  have hbb : (n + 1) * bytes ≤ 140737488355328 := Nat.le_trans (Nat.mul_le_mul (show n + 1 ≤ 100001 by omega) hbs) (by decide)
  obtain ⟨v', w', hrun, h2, h3, _, h5⟩ := run_append_own_at (P := Tryz.prog) (w.alloc (.cells cs.toArray TE)) base T T TE i0 z size bytes hT hi hz0 hz1 hz2 hz hsz v n xs hd ⟨w.heap.size, 0, none⟩ 1 1 cs (by omega)
    (fun j u hu => by rw [add_zero_at, cell_of_row _ _ j _ _ _ hrow]; rw [← hu]; simp)
    h1 (by unfold maxLen; omega) hbb (by simp; omega)
  refine ⟨v', w', hrun, h2, ?_, (World.grownBy_alloc w _ _).trans h3, by rw [World.size_alloc] at h5; exact h5⟩
  refine ((Below.refl base w).alloc hb _).grown h3 (by simp; omega) (fun k e => ?_)
  rcases hown.2 with ⟨rfl, _⟩ | ⟨g, cap, cur, rfl, hg, _⟩
  · simp [Value.ownBlock] at e
  · simp [Value.ownBlock] at e; omega

/-- Rows of lists of integers, in a block of one's own; each list in a block of integers, none of which is x. -/
def LsOwn (w : World) (base : Nat) (v : Value) (ls : List (List Int)) (x : Option Nat) : Prop :=
  ∃ cs : List Value, w.ownsRow base 35 1 v ls.length cs ∧ ∀ j, j < ls.length → ∃ g c rest, cs[j]? = some (.slice (some ⟨g, 0, none⟩) (ls.getD j []).length c) ∧ (ls.getD j []).length ≤ c ∧ PreR w g (ls.getD j []) rest ∧ x ≠ some g
theorem LsOwn.nil (w : World) (base : Nat) (x : Option Nat) : LsOwn w base (.slice none 0 0) [] x := ⟨[], World.ownsRow_nil w base 35 1, fun j hj => absurd hj (Nat.not_lt_zero _)⟩
/-- Another row of one's own has grown, whose elements have another type than []int, or which is x. -/
theorem LsOwn.kept {w w' : World} {base : Nat} {v : Value} {ls : List (List Int)} {x row x' : Option Nat} (h : LsOwn w base v ls x) (hg : w.grownBy w' row) (hv : v.ownBlock = none ∨ v.ownBlock ≠ row) (hr : ∀ b, row = some b → x = some b ∨ ∀ cur fz, w.heap[b]? ≠ some (.cells cur 3 fz))
    (hx : x' = x ∨ ∃ b, x' = some b ∧ w.heap.size ≤ b) : LsOwn w' base v ls x' := by
  obtain ⟨cs, h1, h2⟩ := h
  refine ⟨cs, h1.kept hg hv, fun j hj => ?_⟩
  · obtain ⟨g, c, rest, e1, e2, e3, e4⟩ := h2 j hj
    refine ⟨g, c, rest, e1, e2, e3.grown hg (fun e => ?_), ?_⟩
    · rcases hr g e.symm with h3 | h3
      · exact e4 h3
      · exact h3 _ _ e3
    · rcases hx with rfl | ⟨b, rfl, hb⟩
      · exact e4
      · intro e; injection e with e; have := e3.lt; omega
theorem LsOwn.below {w w' : World} {base : Nat} {v : Value} {ls : List (List Int)} {x : Option Nat} (h : LsOwn w base v ls x) (hb : Below w.heap.size w w') : LsOwn w' base v ls x := by
  obtain ⟨cs, ⟨a, h1⟩, h2⟩ := h
  refine ⟨cs, ⟨a, ?_⟩, fun j hj => ?_⟩
  · rcases h1 with b | ⟨g, cap, cur, rfl, hg, hgb, rest⟩
    · exact .inl b
    · exact .inr ⟨g, cap, cur, rfl, hg, (hb.block g (Array.getElem?_eq_some_iff.1 hgb).1).trans hgb, rest⟩
  · obtain ⟨g, c, rest, e1, e2, e3, e4⟩ := h2 j hj
    exact ⟨g, c, rest, e1, e2, e3.below hb e3.lt, e4⟩
theorem LsOwn.lists {w : World} {base : Nat} {v : Value} {ls : List (List Int)} {x : Option Nat} (h : LsOwn w base v ls x) : ∃ A c, v = .slice A ls.length c ∧ ListsR w A ls := by
  obtain ⟨cs, ⟨hcl, h1⟩, h2⟩ := h
  rcases h1 with ⟨rfl, h0⟩ | ⟨g, cap, cur, rfl, hg, hgb, hnc, hcm, hcs, htk⟩
  · exact ⟨none, 0, by rw [h0], fun j hj => by omega⟩
  · refine ⟨_, _, rfl, fun j hj => ?_⟩
    obtain ⟨B, c, rest, e1, e2, e3, _⟩ := h2 j hj
    refine ⟨_, some ⟨B, 0, none⟩, c, rfl, ?_, ?_, e2, e3.ints e3.lt⟩
    · rw [add_zero_at, cell_of_row w g _ _ _ _ hgb, ← e1, ← htk, List.getElem?_take_of_lt (by omega)]
      simp
    · rw [add_zero_at]; exact (Array.getElem?_eq_some_iff.1 hgb).1
theorem info_rowL : (Tryz.prog.info? 35).map (fun i => (i.zero, i.size, i.bytes)) = some (some (.slice none 0 0), 1, 24) := by kernel_rfl
/-- One more list. -/
theorem append_ls (base g c : Nat) (y : List Int) (rest : List Value) (x : Option Nat) (w : World) (v : Value) (tk : List (List Int)) (hb : base ≤ w.heap.size) (hl : tk.length ≤ 1000) (hown : LsOwn w base v tk x) (hy : PreR w g y rest) (hc : y.length ≤ c) (hx : x ≠ some g) :
    ∃ v' w', (Builtin.append_ #[26, 26] 26 #[v, .slice (some ⟨w.heap.size, 0, none⟩) 1 1]).run Tryz.prog (w.alloc (.cells #[.slice (some ⟨g, 0, none⟩) y.length c] 35)) = .ok v' w' ∧ LsOwn w' base v' (tk ++ [y]) x ∧ Below base w w' ∧
      w.grownBy w' v.ownBlock ∧ (v'.ownBlock = v.ownBlock ∨ v'.ownBlock = some (w.heap.size + 1)) := by
  obtain ⟨cs, h1, h2⟩ := hown
  obtain ⟨v', w', hr, ho, hbw, hgr, hob⟩ := append_grown base 26 35 (.slice none 0 0) 1 24 Tryz.underlying26 info_rowL rfl (by decide) [.slice (some ⟨g, 0, none⟩) y.length c] rfl (by simp [Value.oneCell']) w v tk.length cs hb (by omega) (by omega) h1
  have hcl : cs.length = tk.length := by have := h1.1; omega
  -- the rows are no blocks of lists
  have hfar : ∀ q zs rz, PreR w q zs rz → some q ≠ v.ownBlock := fun q zs rz hq e => by
    rcases h1.2 with ⟨rfl, _⟩ | ⟨g2, cap, cur, rfl, _, hgb, _⟩
    · simp [Value.ownBlock] at e
    · simp [Value.ownBlock] at e
      subst e
      unfold PreR at hq
      rw [hgb] at hq
      simp at hq
  refine ⟨v', w', hr, ⟨cs ++ [.slice (some ⟨g, 0, none⟩) y.length c], by rw [List.length_append]; exact ho, fun j hj => ?_⟩, hbw, hgr, hob⟩
  by_cases hjt : j < tk.length
  · obtain ⟨q, d, rz, e1, e2, e3, e4⟩ := h2 j hjt
    have e : (tk ++ [y]).getD j [] = tk.getD j [] := by simp [List.getD, List.getElem?_append_left hjt]
    rw [e]
    exact ⟨q, d, rz, by rw [List.getElem?_append_left (by omega)]; exact e1, e2, e3.grown hgr (hfar q _ _ e3), e4⟩
  · have hj' : j = tk.length := by simp at hj; omega
    subst hj'
    have e : (tk ++ [y]).getD tk.length [] = y := by simp [List.getD]
    rw [e]
    exact ⟨g, c, rest, by rw [List.getElem?_append_right (by omega), hcl]; simp, hc, hy.grown hgr (hfar g _ _ hy), hx⟩
end Go.Proofs.YtfpehblofokheaaGreatDoor
