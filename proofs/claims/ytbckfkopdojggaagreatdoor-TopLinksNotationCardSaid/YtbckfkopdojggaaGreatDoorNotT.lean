/- card's notation: the words of all nines; an append of many texts. -/
import Derived.Test.YtbckfkopdojggaaGreatDoorNotR
import Derived.Test.YtbckfkopdojggaaGreatDoorMgF
set_option linter.unusedVariables false
set_option linter.unusedSimpArgs false
namespace Go.Proofs.YtbckfkopdojggaaGreatDoor
open Go Go.RowKit

/-- The words with a further nine: a bar ahead of it if there are words. -/
def wAdd (ts : List (List UInt8)) (part : List NotMath.En) : List (List UInt8) := (if ts = [] then [] else ts ++ [[124]]) ++ NotMath.runsW 9 part
def partL (l : List NotMath.En) (k : Nat) : List NotMath.En := (l.drop (9 * k)).take 9
def wordsK (l : List NotMath.En) : Nat → List (List UInt8)
  | 0 => []
  | k + 1 => wAdd (wordsK l k) (partL l k)
theorem runsW_ne (m : List NotMath.En) (hm : m ≠ []) : NotMath.runsW 9 m ≠ [] := by
  cases m with
  | nil => exact absurd rfl hm
  | cons x m => unfold NotMath.runsW; split <;> simp
theorem runsW_len : ∀ (f : Nat) (l : List NotMath.En), (NotMath.runsW f l).length ≤ l.length
  | 0, l => by simp [NotMath.runsW]
  | f + 1, [] => by simp [NotMath.runsW]
  | f + 1, x :: l => by
    unfold NotMath.runsW
    split
    · have h1 := runsW_len f (l.dropWhile (· = x))
      have h2 : (l.dropWhile (· = x)).length ≤ l.length := (List.dropWhile_sublist _).length_le
      simp only [List.length_cons]
      omega
    · have h1 := runsW_len f l
      simp only [List.length_cons]
      omega
theorem partL_len (l : List NotMath.En) (k : Nat) : (partL l k).length = min 9 (l.length - 9 * k) := by simp [partL]
theorem partL_ne {l : List NotMath.En} {k : Nat} (h : 9 * k < l.length) : partL l k ≠ [] := fun e => by
  have := partL_len l k
  rw [e] at this
  simp at this
  omega
theorem wAdd_ne (ts : List (List UInt8)) {part : List NotMath.En} (h : part ≠ []) : wAdd ts part ≠ [] := fun e => runsW_ne part h (List.append_eq_nil_iff.1 e).2
theorem wordsK_ne {l : List NotMath.En} {k : Nat} (h : 9 * k < l.length) : wordsK l (k + 1) ≠ [] := wAdd_ne _ (partL_ne h)
theorem wordsK_len (l : List NotMath.En) : ∀ k, (wordsK l k).length ≤ 10 * k
  | 0 => Nat.le_refl _
  | k + 1 => by
    have h1 := wordsK_len l k
    have h2 := runsW_len 9 (partL l k)
    rw [partL_len] at h2
    simp only [wordsK, wAdd, List.length_append]
    split <;> simp <;> omega
theorem wordsK_all {l : List NotMath.En} (h0 : l ≠ []) (h36 : l.length ≤ 36) : wordsK l ((l.length + 8) / 9) = NotMath.notW 4 l := by
  have hl : 0 < l.length := List.length_pos_iff.2 h0
  have hd : ∀ a b (m : List NotMath.En), (m.drop a).drop b = m.drop (a + b) := fun a b m => by rw [List.drop_drop]
  have q0 : partL l 0 = l.take 9 := by simp [partL]
  have n1 : wordsK l 1 = NotMath.runsW 9 (l.take 9) := by simp [wordsK, wAdd, q0]
  have m1 : 9 < l.length → wordsK l 2 = NotMath.runsW 9 (l.take 9) ++ [124] :: NotMath.runsW 9 (partL l 1) := fun h => by
    have := wordsK_ne (l := l) (k := 0) (by omega)
    show wAdd (wordsK l 1) (partL l 1) = _
    unfold wAdd
    rw [if_neg this, n1]
    simp
  have m2 : 18 < l.length → wordsK l 3 = wordsK l 2 ++ [124] :: NotMath.runsW 9 (partL l 2) := fun h => by
    have := wordsK_ne (l := l) (k := 1) (by omega)
    show wAdd (wordsK l 2) (partL l 2) = _
    unfold wAdd
    rw [if_neg this]
    simp
  have m3 : 27 < l.length → wordsK l 4 = wordsK l 3 ++ [124] :: NotMath.runsW 9 (partL l 3) := fun h => by
    have := wordsK_ne (l := l) (k := 2) (by omega)
    show wAdd (wordsK l 3) (partL l 3) = _
    unfold wAdd
    rw [if_neg this]
    simp
  by_cases h1 : l.length ≤ 9
  · rw [show (l.length + 8) / 9 = 1 by omega, n1, List.take_of_length_le h1]
    unfold NotMath.notW
    rw [if_pos h1]
  by_cases h2 : l.length ≤ 18
  · rw [show (l.length + 8) / 9 = 2 by omega, m1 (by omega)]
    unfold NotMath.notW
    rw [if_neg h1]
    unfold NotMath.notW
    rw [if_pos (by rw [List.length_drop]; omega)]
    rw [show partL l 1 = l.drop 9 from List.take_of_length_le (by rw [List.length_drop]; omega)]
  by_cases h3 : l.length ≤ 27
  · rw [show (l.length + 8) / 9 = 3 by omega, m2 (by omega), m1 (by omega)]
    unfold NotMath.notW
    rw [if_neg h1]
    unfold NotMath.notW
    rw [if_neg (by rw [List.length_drop]; omega)]
    unfold NotMath.notW
    rw [if_pos (by simp; omega), hd]
    rw [show partL l 2 = l.drop 18 from List.take_of_length_le (by rw [List.length_drop]; omega), show partL l 1 = (l.drop 9).take 9 from rfl]
    simp
  · rw [show (l.length + 8) / 9 = 4 by omega, m3 (by omega), m2 (by omega), m1 (by omega)]
    unfold NotMath.notW
    rw [if_neg h1]
    unfold NotMath.notW
    rw [if_neg (by rw [List.length_drop]; omega)]
    unfold NotMath.notW
    rw [if_neg (by simp; omega), hd]
    unfold NotMath.notW
    rw [if_pos (by simp; omega), hd]
    rw [show partL l 3 = l.drop 27 from List.take_of_length_le (by rw [List.length_drop]; omega), show partL l 2 = (l.drop 18).take 9 from rfl, show partL l 1 = (l.drop 9).take 9 from rfl]
    simp

/-- What a text is printed as. -/
theorem join_lib : ∀ ts : List (List UInt8), Lib.join ts [32] = NotMath.joinB ts
  | [] => rfl
  | [t] => by rw [Lib.join_one]; rfl
  | t :: u :: ts => by
    have ih := join_lib (u :: ts)
    show _ = t ++ 32 :: NotMath.joinB (u :: ts)
    rw [← ih]
    simp [Lib.join, List.intercalate]
theorem runsW_wide : ∀ (f : Nat) (l : List NotMath.En), l.length ≤ 9 → (∀ x ∈ l, NotMath.okE x = true) → ∀ t ∈ NotMath.runsW f l, t.length ≤ 6
  | 0, _, _, _, t, ht => by simp [NotMath.runsW] at ht
  | f + 1, [], _, _, t, ht => by simp [NotMath.runsW] at ht
  | f + 1, x :: l, hl, ho, t, ht => by
    have hx := wordE_len x (ho x (by simp))
    have htk := tw_len x l
    simp only [List.length_cons] at hl
    unfold NotMath.runsW at ht
    split at ht
    · rcases List.mem_cons.1 ht with rfl | ht
      · have := digits_len ((l.takeWhile (· = x)).length + 1) (by omega)
        simp; omega
      · exact runsW_wide f _ (Nat.le_trans (List.dropWhile_sublist _).length_le (by omega)) (fun y hy => ho y (List.mem_cons_of_mem _ ((List.dropWhile_sublist _).mem hy))) t ht
    · rcases List.mem_cons.1 ht with rfl | ht
      · omega
      · exact runsW_wide f l (by omega) (fun y hy => ho y (List.mem_cons_of_mem _ hy)) t ht
theorem wordsK_wide {l : List NotMath.En} (ho : ∀ x ∈ l, NotMath.okE x = true) : ∀ k, ∀ t ∈ wordsK l k, t.length ≤ 6
  | 0, t, ht => by simp [wordsK] at ht
  | k + 1, t, ht => by
    simp only [wordsK, wAdd] at ht
    rcases List.mem_append.1 ht with ht | ht
    · split at ht
      · simp at ht
      · rcases List.mem_append.1 ht with ht | ht
        · exact wordsK_wide ho k t ht
        · simp at ht; subst ht; simp
    · exact runsW_wide 9 (partL l k) (by rw [partL_len]; omega) (fun x hx => ho x (List.mem_of_mem_drop (List.mem_of_mem_take hx))) t ht
theorem joinB_len : ∀ ts : List (List UInt8), (∀ t ∈ ts, t.length ≤ 6) → (NotMath.joinB ts).length ≤ 7 * ts.length
  | [], _ => by simp [NotMath.joinB]
  | [t], h => by have := h t (by simp); simp [NotMath.joinB]; omega
  | t :: u :: ts, h => by
    have h1 := h t (by simp)
    have h2 := joinB_len (u :: ts) (fun x hx => h x (List.mem_cons_of_mem _ hx))
    simp only [NotMath.joinB, List.length_append, List.length_cons] at h2 ⊢
    omega

/-- Entries of a part. -/
theorem entries_part {w : World} {a : Addr} {l : List NotMath.En} (h : EntriesR w (some a) (l.map enV)) (k : Nat) : EntriesR w (some (a.add (9 * k * 2))) ((partL l k).map enV) := by
  intro j hj
  rw [List.length_map, partL_len] at hj
  obtain ⟨a2, e2, z0, z1, z2⟩ := h (9 * k + j) (by rw [List.length_map]; omega)
  cases e2
  have e : (a.add (9 * k * 2)).add (j * 2) = a.add ((9 * k + j) * 2) := by
    rcases Nat.eq_zero_or_pos (9 * k) with e0 | h1
    · rw [e0]; simp [Addr.add]
    · rcases Nat.eq_zero_or_pos j with rfl | h2
      · simp [Addr.add]
      · have g1 : ¬ 9 * k * 2 = 0 := by omega
        have g2 : ¬ j * 2 = 0 := by omega
        have g3 : ¬ 9 * k * 2 + j * 2 = 0 := by omega
        simp only [Addr.add, if_neg g1, if_neg g2, Nat.add_mul, Nat.add_assoc, if_neg g3]
  have eg : ((partL l k).map enV).getD j (0, ByteArray.empty) = (l.map enV).getD (9 * k + j) (0, ByteArray.empty) := by
    have h9 : j < 9 := by omega
    simp [List.getD, partL, List.getElem?_take, h9, List.getElem?_drop]
  exact ⟨_, rfl, by rw [e, eg]; exact z0, by rw [e, eg]; exact z1, by rw [e]; exact z2⟩

/-- An append of many texts. -/
theorem append_texts (base : Nat) (ts ws : List (List UInt8)) (w : World) (v v2 : Value) (b2 : Nat) (hb : base ≤ w.heap.size) (hl : ts.length + ws.length ≤ 1000) (h0 : 0 < ws.length) (hown : TxtOwn w base v ts) (h2 : TxtOwn w b2 v2 ws) :
    ∃ v' w', (Builtin.append_ #[121, 121] 121 #[v, v2]).run Tryz.prog w = .ok v' w' ∧ TxtOwn w' base v' (ts ++ ws) ∧ Below base w w' ∧ KeepsOthers w w' := by
  obtain ⟨i0, hi, hz0, hz1, hz2⟩ := info_parts info_text
  rcases h2.2 with ⟨_, h⟩ | ⟨g, cap, cur, rfl, hg, hgb, hnc, hcm, hcs, htk⟩
  · omega
  · obtain ⟨v', w', hrun, q2, q3, _, _⟩ := run_append_own_at (P := Tryz.prog) w base 121 121 9 i0 _ 1 16 Tryz.underlying121 hi hz0 hz1 hz2 rfl (by decide) v ts.length _ hown ⟨g, 0, none⟩ ws.length cap (ws.map fun t => Value.string ⟨t.toArray⟩) (by simp)
      (fun j u hu => by
        have hj : j < ws.length := by
          rcases Nat.lt_or_ge j ws.length with q | q
          · exact q
          · rw [List.getElem?_eq_none (by simpa using q)] at hu; cases hu
        rw [add_zero_at, cell_of_row w g _ _ _ _ hgb]
        rw [← htk, List.getElem?_take_of_lt (by omega)] at hu
        simpa using hu) (fun u hu => by
        obtain ⟨t, _, rfl⟩ := List.mem_map.1 hu
        rfl) (by unfold maxLen; omega) (by omega) hb
    refine ⟨v', w', hrun, ?_, (Below.refl base w).grown q3 hb (fun k e => ?_), KeepsOthers.of_grownBy q3 fun j o ej hj => ?_⟩
    · unfold TxtOwn
      rw [List.map_append, List.length_append]
      exact q2
    · rcases hown.2 with ⟨e1, _⟩ | ⟨g', cap', cur', e1, hg', _⟩
      · rw [e1] at e; simp [Value.ownBlock] at e
      · rw [e1] at e; simp [Value.ownBlock] at e; omega
    · rcases hown.2 with ⟨e1, _⟩ | ⟨g', cap', cur', e1, hg', hgb', _⟩
      · rw [e1] at ej; simp [Value.ownBlock] at ej
      · rw [e1] at ej
        obtain rfl : g' = j := by simpa [Value.ownBlock] using ej
        rw [hgb'] at hj; cases hj; rfl
/-- Texts that a slice owns: where they lie. -/
theorem TxtOwn.block {w : World} {base : Nat} {v : Value} {ts : List (List UInt8)} (h : TxtOwn w base v ts) (h0 : 0 < ts.length) :
    ∃ g c, v = .slice (some ⟨g, 0, none⟩) ts.length c ∧ base ≤ g ∧ g < w.heap.size ∧ ts.length ≤ c ∧ ∀ (j : Nat) x, (ts.map fun t => (⟨t.toArray⟩ : ByteArray))[j]? = some x → w.cell? ⟨g, 0 + j, none⟩ = some (.string x) := by
  rcases h.2 with ⟨_, h⟩ | ⟨g, cap, cur, rfl, hg, hgb, hnc, hcm, hcs, htk⟩
  · omega
  · refine ⟨g, cap, rfl, hg, (Array.getElem?_eq_some_iff.1 hgb).1, by omega, fun j x hx => ?_⟩
    have hj : j < ts.length := by
      rcases Nat.lt_or_ge j ts.length with q | q
      · exact q
      · rw [List.getElem?_eq_none (by simpa using q)] at hx; cases hx
    rw [Nat.zero_add, cell_of_row w g _ _ _ _ hgb]
    have hu : (ts.map fun t => Value.string ⟨t.toArray⟩)[j]? = some (.string x) := by
      simp only [List.getElem?_map] at hx ⊢
      cases he : ts[j]? with
      | none => rw [he] at hx; cases hx
      | some t => rw [he] at hx; simp at hx ⊢; exact hx
    rw [← htk, List.getElem?_take_of_lt (by omega)] at hu
    simpa using hu
theorem TxtOwn.below {w w' : World} {base : Nat} {v : Value} {ts : List (List UInt8)} (h : TxtOwn w base v ts) (hb : Below w.heap.size w w') : TxtOwn w' base v ts := by
  refine ⟨h.1, ?_⟩
  rcases h.2 with hn | ⟨g, cap, cur, e1, e2, e3, rest⟩
  · exact .inl hn
  · exact .inr ⟨g, cap, cur, e1, e2, (hb.block g (Array.getElem?_eq_some_iff.1 e3).1).trans e3, rest⟩
theorem TxtOwn.far {w : World} {base : Nat} {v : Value} {ts : List (List UInt8)} (h : TxtOwn w base v ts) {p : Addr} (hp : p.block < base) (u : Value) : TxtOwn (w.setCell p u) base v ts := by
  refine ⟨h.1, ?_⟩
  rcases h.2 with hn | ⟨g, cap, cur, e1, e2, e3, rest⟩
  · exact .inl hn
  · exact .inr ⟨g, cap, cur, e1, e2, (Below.heap_setCell w p u g (by omega)).trans e3, rest⟩
theorem TxtOwn.turn {w w' : World} {base : Nat} {v : Value} {ts : List (List UInt8)} (h : TxtOwn w base v ts) {row : Option Nat} (hg : w.grownBy w' row) (hr : ∀ r, row = some r → ∃ o : Obj, w.heap[r]? = some o ∧ o.isCells = false) : TxtOwn w' base v ts := by
  refine World.ownsRow.kept h hg ?_
  rcases h.2 with ⟨rfl, _⟩ | ⟨g, cap, cur, rfl, _, hgb, _⟩
  · exact .inl rfl
  · refine .inr fun e => ?_
    obtain ⟨o, ho, hc⟩ := hr g e.symm
    rw [hgb] at ho; cases ho; cases hc
theorem TxtOwn.slice {w : World} {base : Nat} {v : Value} {ts : List (List UInt8)} (h : TxtOwn w base v ts) : ∃ A c, v = .slice A ts.length c := by
  rcases h.2 with ⟨rfl, h0⟩ | ⟨g, cap, cur, rfl, _⟩
  · exact ⟨none, 0, by rw [h0]⟩
  · exact ⟨_, _, rfl⟩
theorem txt_new (w : World) (t : List UInt8) : TxtOwn (w.alloc (.cells #[.string ⟨t.toArray⟩] 9)) w.heap.size (.slice (some ⟨w.heap.size, 0, none⟩) 1 1) [t] :=
  ⟨rfl, .inr ⟨w.heap.size, 1, #[.string ⟨t.toArray⟩], rfl, Nat.le_refl _, heap_alloc_new w _, by simp, by decide, rfl, rfl⟩⟩
theorem wAdd_len (ts : List (List UInt8)) (part : List NotMath.En) : (wAdd ts part).length ≤ ts.length + 1 + part.length := by
  have h2 := runsW_len 9 part
  simp only [wAdd, List.length_append]
  split <;> simp <;> omega
/-- The words by the parts that were handed over. -/
def wordsP (l : List NotMath.En) (ks : List Nat) : List (List UInt8) := ks.foldl (fun ts k => wAdd ts (partL l k)) []
theorem wordsP_snoc (l : List NotMath.En) (ks : List Nat) (k : Nat) : wordsP l (ks ++ [k]) = wAdd (wordsP l ks) (partL l k) := by simp [wordsP, List.foldl_append]
theorem wordsP_range (l : List NotMath.En) : ∀ k, wordsP l (List.range k) = wordsK l k
  | 0 => rfl
  | k + 1 => by rw [List.range_succ, wordsP_snoc, wordsP_range l k]; rfl
theorem wordsP_len (l : List NotMath.En) (ks : List Nat) : (wordsP l ks).length ≤ 10 * ks.length := by
  unfold wordsP
  rw [← List.foldr_reverse]
  have : ∀ (r : List Nat), (r.foldr (fun k ts => wAdd ts (partL l k)) []).length ≤ 10 * r.length := fun r => by
    induction r with
    | nil => exact Nat.le_refl _
    | cons k r ih =>
      have h2 := wAdd_len (r.foldr (fun k ts => wAdd ts (partL l k)) []) (partL l k)
      rw [partL_len] at h2
      simp only [List.foldr_cons, List.length_cons]
      omega
  simpa using this ks.reverse
end Go.Proofs.YtbckfkopdojggaaGreatDoor
