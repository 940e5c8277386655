/- TopLinksRaised: strokes given to both, strokes more for both: plain mathematics. -/
import Derived.Test.YtbckfkopdojggaaGreatDoorMgF
set_option linter.unusedVariables false
set_option linter.unusedSimpArgs false
namespace Go.Proofs.YtbckfkopdojggaaGreatDoor
open Go.RowKit

/-- Net strokes: without a mark, or none with the mark x or -. -/
def netLike (e : Ent) : Prop := markK e.2 = 0 ∨ e.1 = 0 ∧ (markK e.2 = 2 ∨ markK e.2 = 3)
theorem markK_no : markK noMark = 0 := by decide +kernel
theorem netV_like (g : Int) (e : Ent) : netLike (netV g e) := by
  unfold netV
  by_cases h : markK e.2 = 2 ∨ markK e.2 = 3
  · rw [if_pos h]; exact .inr ⟨rfl, h⟩
  · rw [if_neg h]; exact .inl markK_no
/-- As many strokes more. -/
def shE (r : Int) (e : Ent) : Ent := if markK e.2 = 2 ∨ markK e.2 = 3 then e else (e.1 + r, e.2)
theorem shE_mark (r : Int) (e : Ent) : (shE r e).2 = e.2 := by unfold shE; split <;> rfl
theorem netV_more (g r : Int) (e : Ent) : netV (g + r) e = shE (-r) (netV g e) := by
  unfold netV
  by_cases h : markK e.2 = 2 ∨ markK e.2 = 3
  · rw [if_pos h, if_pos h]
    unfold shE
    rw [if_pos h]
  · rw [if_neg h, if_neg h]
    unfold shE
    rw [if_neg (by rw [markK_no]; omega)]
    simp only [Prod.mk.injEq, and_true]
    omega
/-- An entry with a stroke more. -/
def upE (e : Ent) : Ent := if markK e.2 = 0 ∨ markK e.2 = 1 then (e.1 + 1, e.2) else e
theorem upE_mark (e : Ent) : (upE e).2 = e.2 := by unfold upE; split <;> rfl
theorem markK_le (m : ByteArray) : markK m ≤ 4 := by
  rcases mark_cases m with ⟨_, _, _, _, h⟩ | ⟨_, _, _, _, h⟩ | ⟨_, _, _, _, h⟩ | ⟨_, _, _, _, h⟩ | ⟨_, _, _, _, h⟩ <;> omega
theorem netV_up (g : Int) (e : Ent) (he : markK e.2 ≠ 4) : netV g (upE e) = shE 1 (netV g e) := by
  have hk := markK_le e.2
  unfold netV
  rw [upE_mark]
  by_cases h : markK e.2 = 2 ∨ markK e.2 = 3
  · rw [if_pos h, if_pos h]
    unfold shE
    rw [if_pos h]
  · rw [if_neg h, if_neg h]
    unfold shE upE
    rw [if_pos (by omega), if_neg (by rw [markK_no]; omega)]
    simp only [Prod.mk.injEq, and_true]
    omega
theorem rank_of0 {m : ByteArray} (h : markK m = 0) : rankI m = 0 := by unfold rankI; rw [h]; rfl
theorem rank_of2 {m : ByteArray} (h : markK m = 2) : rankI m = 1 := by unfold rankI; rw [h]; rfl
theorem rank_of3 {m : ByteArray} (h : markK m = 3) : rankI m = 2 := by unfold rankI; rw [h]; rfl
theorem cmp_shift (a b r : Int) : cmpI (a + r) (b + r) = cmpI a b := by
  unfold cmpI
  by_cases h1 : a < b
  · rw [if_pos h1, if_pos (by omega)]
  · rw [if_neg h1, if_neg (by omega)]
    by_cases h2 : a = b
    · rw [if_pos h2, if_pos (by omega)]
    · rw [if_neg h2, if_neg (by omega)]
theorem merit_ranks {a b a2 b2 : Ent} (ha : a2.2 = a.2) (hb : b2.2 = b.2) (h : rankI a.2 = rankI b.2 → cmpI a2.1 b2.1 = cmpI a.1 b.1) : meritI a2 b2 = meritI a b := by
  unfold meritI
  rw [ha, hb]
  by_cases e : rankI a.2 = rankI b.2
  · rw [h e]
  · have hn : cmpI (rankI a.2) (rankI b.2) ≠ 0 := by
      unfold cmpI
      by_cases h1 : rankI a.2 < rankI b.2
      · rw [if_pos h1]; decide
      · rw [if_neg h1, if_neg e]; decide
    simp only [firstI, if_neg hn]
theorem sh_res {r : Int} {a b : Ent} (ha : netLike a) (hb : netLike b) : resI (shE r a) (shE r b) = resI a b := by
  have hm : meritI (shE r a) (shE r b) = meritI a b := merit_ranks (shE_mark r a) (shE_mark r b) fun e => by
    unfold shE
    rcases ha with ha | ⟨a0, ha | ha⟩ <;> rcases hb with hb | ⟨b0, hb | hb⟩
    · rw [if_neg (by omega), if_neg (by omega)]
      exact cmp_shift _ _ _
    · rw [rank_of0 ha, rank_of2 hb] at e; cases e
    · rw [rank_of0 ha, rank_of3 hb] at e; cases e
    · rw [rank_of2 ha, rank_of0 hb] at e; cases e
    · rw [if_pos (by omega), if_pos (by omega)]
    · rw [rank_of2 ha, rank_of3 hb] at e; cases e
    · rw [rank_of3 ha, rank_of0 hb] at e; cases e
    · rw [rank_of3 ha, rank_of2 hb] at e; cases e
    · rw [if_pos (by omega), if_pos (by omega)]
  unfold resI
  rw [hm]

/-- The same marks and results, the same states. -/
theorem go_shift (r : Int) : ∀ (l : List Du) (u : Int) (o : Bool), (∀ x ∈ l, netLike x.2.1 ∧ netLike x.2.2) → statesGo u o (l.map fun x => (x.1, shE r x.2.1, shE r x.2.2)) = statesGo u o l
  | [], _, _, _ => rfl
  | x :: l, u, o, h => by
    have h0 := h x (by simp)
    have ih := go_shift r l (u + resI x.2.1 x.2.2) (overI (u + resI x.2.1 x.2.2) x.1) (fun y hy => h y (by simp [hy]))
    rw [List.map_cons, statesGo, statesGo]
    simp only [shE_mark, sh_res h0.1 h0.2]
    rw [ih]
theorem shE_empty (r : Int) : ∀ (xa : List Ent) (i : Nat), i < xa.length → (xa.map (shE r)).getD i (0, ByteArray.empty) = shE r (xa.getD i (0, ByteArray.empty)) := fun xa i h => by
  simp [List.getD, List.getElem?_eq_getElem h]
theorem states_shift {xa xb : List Ent} (r : Int) (h : xa.length = xb.length) (fa : ∀ e ∈ xa, netLike e) (fb : ∀ e ∈ xb, netLike e) : statesL (xa.map (shE r)) (xb.map (shE r)) = statesL xa xb := by
  unfold statesL
  have hd : duels (xa.map (shE r)) (xb.map (shE r)) (xa.map (shE r)).length = (duels xa xb xa.length).map fun x => (x.1, shE r x.2.1, shE r x.2.2) := by
    unfold duels
    rw [List.map_map, List.length_map]
    apply List.map_congr_left
    intro i hi
    have hi := List.mem_range.1 hi
    simp only [Function.comp, shE_empty r xa i hi, shE_empty r xb i (by omega)]
  rw [hd]
  refine go_shift r _ 0 false fun x hx => ?_
  unfold duels at hx
  obtain ⟨i, hi, rfl⟩ := List.mem_map.1 hx
  have hi := List.mem_range.1 hi
  refine ⟨fa _ ?_, fb _ ?_⟩
  · simp [List.getD, List.getElem?_eq_getElem hi]
  · simp [List.getD, List.getElem?_eq_getElem (show i < xb.length by omega)]

theorem netsL_like (gs : List Int) (l : List Ent) : ∀ e ∈ netsL gs l, netLike e := fun e he => by
  unfold netsL at he
  obtain ⟨x, _, rfl⟩ := List.mem_map.1 he
  exact netV_like _ _
theorem netsL_more (r : Int) : ∀ (gs : List Int) (l : List Ent), netsL (gs.map (· + r)) l = (netsL gs l).map (shE (-r))
  | [], _ => by simp [netsL]
  | _ :: _, [] => by simp [netsL]
  | g :: gs, e :: l => by
    have ih := netsL_more r gs l
    unfold netsL at ih ⊢
    simp only [List.map_cons, List.zip_cons_cons, netV_more, ih]
theorem netsL_up : ∀ (gs : List Int) (l : List Ent), (∀ e ∈ l, markK e.2 ≠ 4) → netsL gs (l.map upE) = (netsL gs l).map (shE 1)
  | [], _, _ => by simp [netsL]
  | _ :: _, [], _ => by simp [netsL]
  | g :: gs, e :: l, h => by
    have ih := netsL_up gs l (fun x hx => h x (by simp [hx]))
    unfold netsL at ih ⊢
    simp only [List.map_cons, List.zip_cons_cons, netV_up g e (h e (by simp)), ih]
/-- As many strokes given to each hole more. -/
theorem givenL_more (n : Nat) (hn : 0 < n) (h r : Int) (hs : List (Int × Int)) : givenL ((h + r * (n : Int)) / (n : Int)) ((h + r * (n : Int)) % (n : Int)) hs = (givenL (h / (n : Int)) (h % (n : Int)) hs).map (· + r) := by
  have hn' : (n : Int) ≠ 0 := by omega
  unfold givenL
  rw [List.map_map, Int.add_mul_ediv_right _ _ hn', Int.add_mul_emod_self_right]
  apply List.map_congr_left
  intro x _
  simp only [Function.comp, addI]
  split <;> omega
theorem netsOf_more {hs : List (Int × Int)} (hn : 0 < hs.length) (h r : Int) (l : List Ent) : netsOf hs (h + r * (hs.length : Int)) l = (netsOf hs h l).map (shE (-r)) := by
  unfold netsOf
  rw [givenL_more hs.length hn, netsL_more]
theorem netsOf_up (hs : List (Int × Int)) (h : Int) (l : List Ent) (hl : ∀ e ∈ l, markK e.2 ≠ 4) : netsOf hs h (l.map upE) = (netsOf hs h l).map (shE 1) := netsL_up _ l hl
theorem netsOf_size {hs : List (Int × Int)} {h : Int} {l : List Ent} (hl : l.length = hs.length) : (netsOf hs h l).length = hs.length := by
  unfold netsOf
  rw [netsL_len _ _ (by rw [givenL_len]; exact hl.symm), hl]
theorem match_more {hs : List (Int × Int)} (hn : 0 < hs.length) (ha hb r : Int) (la lb : List Ent) (e1 : la.length = hs.length) (e2 : lb.length = hs.length) :
    statesL (netsOf hs (ha + r * (hs.length : Int)) la) (netsOf hs (hb + r * (hs.length : Int)) lb) = statesL (netsOf hs ha la) (netsOf hs hb lb) := by
  rw [netsOf_more hn, netsOf_more hn]
  exact states_shift _ (by rw [netsOf_size e1, netsOf_size e2]) (netsL_like _ _) (netsL_like _ _)
theorem match_up {hs : List (Int × Int)} (ha hb : Int) (la lb : List Ent) (e1 : la.length = hs.length) (e2 : lb.length = hs.length) (ma : ∀ e ∈ la, markK e.2 ≠ 4) (mb : ∀ e ∈ lb, markK e.2 ≠ 4) :
    statesL (netsOf hs ha (la.map upE)) (netsOf hs hb (lb.map upE)) = statesL (netsOf hs ha la) (netsOf hs hb lb) := by
  rw [netsOf_up hs ha la ma, netsOf_up hs hb lb mb]
  exact states_shift _ (by rw [netsOf_size e1, netsOf_size e2]) (netsL_like _ _) (netsL_like _ _)

/-- Which entries are right. -/
theorem entryI_parts {n : Int} {m : ByteArray} (h : entryI n m = 0) : ((markK m = 0 ∨ markK m = 1) ∧ 1 ≤ n ∧ n ≤ 99) ∨ ((markK m = 2 ∨ markK m = 3) ∧ n = 0) := by
  have hk := markK_le m
  unfold entryI at h
  generalize markK m = k at h hk ⊢
  match k, hk with
  | 0, _ => simp only at h; split at h <;> omega
  | 1, _ => simp only at h; split at h <;> omega
  | 2, _ => simp only at h; split at h <;> omega
  | 3, _ => simp only at h; split at h <;> omega
  | 4, _ => simp at h
theorem entryI_up {e : Ent} (h : entryI e.1 e.2 = 0) (hr : (markK e.2 = 0 ∨ markK e.2 = 1) → e.1 ≠ 99) : entryI (upE e).1 (upE e).2 = 0 := by
  rw [upE_mark]
  unfold upE
  rcases entryI_parts h with ⟨h1, h2, h3⟩ | ⟨h1, h2⟩
  · have h4 := hr h1
    rw [if_pos h1]
    unfold entryI
    rcases h1 with h1 | h1 <;> rw [h1] <;> simp <;> omega
  · rw [if_neg (by omega)]
    exact h
theorem entriesI_all : ∀ l : List Ent, (∀ e ∈ l, entryI e.1 e.2 = 0) → entriesI l = 0
  | [], _ => rfl
  | (n, m) :: l, h => by
    rw [entriesI, if_pos (h (n, m) (by simp))]
    exact entriesI_all l (fun e he => h e (by simp [he]))
theorem firstI_all : ∀ l : List Int, (∀ x ∈ l, x = 0) → firstI l = 0
  | [], _ => rfl
  | x :: l, h => by
    have h0 := h x (by simp)
    subst h0
    simp only [firstI, if_true]
    exact firstI_all l (fun y hy => h y (by simp [hy]))
/-- Where strokes are left for one more. -/
def roomL (l : List Ent) : Prop := ∀ e ∈ l, (markK e.2 = 0 ∨ markK e.2 = 1) → e.1 ≠ 99
theorem pl_marks {hs : List (Int × Int)} {p : Pl} (h : plI hs p = 0) : (∀ e ∈ p.l, entryI e.1 e.2 = 0) ∧ ∀ e ∈ p.l, markK e.2 ≠ 4 := by
  have h2 := firstI_zero _ h (cardI hs p.nm p.l) (by simp)
  have h5 := firstI_zero _ h2 (entriesI p.l) (by simp)
  have h6 := entriesI_zero p.l h5
  refine ⟨h6, fun e he => ?_⟩
  rcases entryI_parts (h6 e he) with ⟨h1, _⟩ | ⟨h1, _⟩ <;> omega
theorem pl_up {hs : List (Int × Int)} {p : Pl} (h : plI hs p = 0) (hr : roomL p.l) : plI hs { p with l := p.l.map upE } = 0 := by
  have h1 := firstI_zero _ h (holesI hs) (by simp)
  have h2 := firstI_zero _ h (cardI hs p.nm p.l) (by simp)
  have h3 := firstI_zero _ h (withinI p.h (-99) 99) (by simp)
  have h4 := firstI_zero _ h2 (pairedI p.l.length hs.length) (by simp)
  have h6 := firstI_zero _ h2 (unlessI (nameB p.nm) 8) (by simp)
  have h7 := (pl_marks h).1
  refine firstI_all _ fun x hx => ?_
  simp only [List.mem_cons, List.not_mem_nil, or_false] at hx
  rcases hx with rfl | rfl | rfl
  · exact h1
  · refine firstI_all _ fun y hy => ?_
    simp only [List.mem_cons, List.not_mem_nil, or_false] at hy
    rcases hy with rfl | rfl | rfl | rfl
    · exact h1
    · exact h6
    · rw [List.length_map]; exact h4
    · refine entriesI_all _ fun e he => ?_
      obtain ⟨x, hx, rfl⟩ := List.mem_map.1 he
      exact entryI_up (h7 x hx) (hr x hx)
  · exact h3
theorem pl_more {hs : List (Int × Int)} {p : Pl} (h : plI hs p = 0) (k : Int) (h1 : -99 ≤ k) (h2 : k ≤ 99) : plI hs { p with h := k } = 0 := by
  have g1 := firstI_zero _ h (holesI hs) (by simp)
  have g2 := firstI_zero _ h (cardI hs p.nm p.l) (by simp)
  refine firstI_all _ fun x hx => ?_
  simp only [List.mem_cons, List.not_mem_nil, or_false] at hx
  rcases hx with rfl | rfl | rfl
  · exact g1
  · exact g2
  · show withinI k (-99) 99 = 0
    unfold withinI
    rw [if_pos ⟨h1, h2⟩]
theorem two_of {hs : List (Int × Int)} {a b : Pl} (ha : plI hs a = 0) (hb : plI hs b = 0) (hn : b.nm ≠ a.nm) : playersGo hs [] [a, b] = 0 := by
  have e1 : firstI [plI hs a, unlessI (!decide (a.nm ∈ ([] : List ByteArray))) 9] = 0 := by simp [ha, firstI, unlessI]
  have e2 : firstI [plI hs b, unlessI (!decide (b.nm ∈ ([] ++ [a.nm] : List ByteArray))) 9] = 0 := by simp [hb, firstI, unlessI, hn]
  unfold playersGo
  rw [if_pos e1]
  unfold playersGo
  rw [if_pos e2]
  rfl
/-- The first two of a field without an error. -/
theorem two_first {hs : List (Int × Int)} {a b : Pl} {ps : List Pl} (h : playersGo hs [] (a :: b :: ps) = 0) : playersGo hs [] [a, b] = 0 := by
  unfold playersGo at h
  by_cases h1 : firstI [plI hs a, unlessI (!decide (a.nm ∈ ([] : List ByteArray))) 9] = 0
  · rw [if_pos h1] at h
    unfold playersGo at h
    by_cases h2 : firstI [plI hs b, unlessI (!decide (b.nm ∈ ([] ++ [a.nm] : List ByteArray))) 9] = 0
    · unfold playersGo
      rw [if_pos h1]
      unfold playersGo
      rw [if_pos h2]
      rfl
    · rw [if_neg h2] at h; exact absurd h h2
  · rw [if_neg h1] at h; exact absurd h h1
end Go.Proofs.YtbckfkopdojggaaGreatDoor
