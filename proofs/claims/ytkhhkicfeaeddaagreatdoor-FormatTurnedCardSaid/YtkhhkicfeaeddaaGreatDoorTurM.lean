/- FormatTurned: a match the other way round, raised, with itself: plain mathematics. -/
import Derived.Test.YtkhhkicfeaeddaaGreatDoorAloM
set_option linter.unusedVariables false
set_option linter.unusedSimpArgs false
namespace Go.Proofs.YtkhhkicfeaeddaaGreatDoor
open Go.RowKit

theorem res_anti (a b : Ent) : resI b a = -resI a b := by
  have h1 := merit_anti a b
  have h2 := merit_anti b a
  unfold resI
  by_cases g1 : meritI a b < 0
  · rw [if_pos g1, if_neg (by have := h1.1 g1; omega), if_pos (h1.1 g1)]
  · rw [if_neg g1]
    by_cases g2 : 0 < meritI a b
    · rw [if_pos g2, if_pos (h2.2 g2)]
      rfl
    · rw [if_neg g2, if_neg (fun g => g2 (h2.1 g)), if_neg (fun g => g1 (h1.2 g))]
      rfl
theorem res_self (a : Ent) : resI a a = 0 := by
  unfold resI
  rw [merit_self]
  rfl
theorem over_neg (u t : Int) : overI (-u) t = overI u t := by
  unfold overI
  rw [Int.neg_neg, Bool.or_comm (decide (t < -u))]
theorem played_comm (m n : ByteArray) : playedB n m = playedB m n := by
  unfold playedB
  exact Bool.and_comm _ _
def swapD (x : Du) : Du := (x.1, x.2.2, x.2.1)
def negS (x : St) : St := (-x.1, x.2.1, x.2.2)
theorem go_turned : ∀ (u : Int) (o : Bool) (l : List Du), statesGo (-u) o (l.map swapD) = (statesGo u o l).map negS
  | _, _, [] => rfl
  | u, o, x :: l => by
    have ih := go_turned (u + resI x.2.1 x.2.2) (overI (u + resI x.2.1 x.2.2) x.1) l
    rw [List.map_cons, statesGo, statesGo]
    have e1 : -u + resI (swapD x).2.1 (swapD x).2.2 = -(u + resI x.2.1 x.2.2) := by
      show -u + resI x.2.2 x.2.1 = _
      rw [res_anti]
      omega
    have e2 : playedB (swapD x).2.1.2 (swapD x).2.2.2 = playedB x.2.1.2 x.2.2.2 := played_comm _ _
    have e3 : (swapD x).1 = x.1 := rfl
    rw [e1, e2, e3, over_neg, ih]
    split <;> rfl
theorem duels_turned {xa xb : List Ent} (h : xa.length = xb.length) (k : Nat) : duels xb xa k = (duels xa xb k).map swapD := by
  unfold duels
  rw [List.map_map, h]
  rfl
/-- The other way round. -/
theorem states_turned {xa xb : List Ent} (h : xa.length = xb.length) : statesL xb xa = (statesL xa xb).map negS := by
  unfold statesL
  rw [← h, duels_turned h]
  exact go_turned 0 false _
/-- What is known of the states, one after another. -/
theorem go_at : ∀ (l : List Du) (u : Int) (i : Nat), i < (statesGo u false l).length →
    ((statesGo u false l).getD i (0, 0, false)).2.1 = (((l.getD i (0, (0, ByteArray.empty), (0, ByteArray.empty))).1 : Nat) : Int) ∧
    ((statesGo u false l).getD i (0, 0, false)).2.2 = overI ((statesGo u false l).getD i (0, 0, false)).1 ((statesGo u false l).getD i (0, 0, false)).2.1 ∧
    (-1 ≤ ((statesGo u false l).getD i (0, 0, false)).1 - (if i = 0 then u else ((statesGo u false l).getD (i - 1) (0, 0, false)).1) ∧ ((statesGo u false l).getD i (0, 0, false)).1 - (if i = 0 then u else ((statesGo u false l).getD (i - 1) (0, 0, false)).1) ≤ 1) ∧
    (i + 1 < (statesGo u false l).length → ((statesGo u false l).getD i (0, 0, false)).2.2 = false)
  | [], _, _, h => absurd h (Nat.not_lt_zero _)
  | x :: l, u, i, h => by
    rw [statesGo] at h ⊢
    by_cases hp : false = true ∨ playedB x.2.1.2 x.2.2.2 = false
    · rw [if_pos hp] at h
      exact absurd h (Nat.not_lt_zero _)
    · rw [if_neg hp] at h ⊢
      have hb := resI_bound x.2.1 x.2.2
      cases ho : overI (u + resI x.2.1 x.2.2) x.1
      · rw [ho] at h
        match i, h with
        | 0, _ =>
          refine ⟨rfl, by show false = _; exact ho.symm, ?_, fun _ => rfl⟩
          rw [if_pos rfl]
          show -1 ≤ u + resI x.2.1 x.2.2 - u ∧ u + resI x.2.1 x.2.2 - u ≤ 1
          omega
        | j + 1, h =>
          have ih := go_at l (u + resI x.2.1 x.2.2) j (by simpa using h)
          obtain ⟨i1, i2, i3, i4⟩ := ih
          refine ⟨i1, i2, ?_, fun g => i4 (by simpa using g)⟩
          rw [if_neg (Nat.succ_ne_zero j)]
          by_cases hj : j = 0
          · subst hj
            rw [if_pos rfl] at i3
            exact i3
          · rw [if_neg hj] at i3
            obtain ⟨m, rfl⟩ : ∃ m, j = m + 1 := ⟨j - 1, by omega⟩
            exact i3
      · have he : statesGo (u + resI x.2.1 x.2.2) true l = [] := by cases l <;> simp [statesGo]
        rw [ho, he] at h
        rw [he]
        match i, h with
        | 0, _ =>
          refine ⟨rfl, by show true = _; exact ho.symm, ?_, fun g => absurd g (by simp)⟩
          rw [if_pos rfl]
          show -1 ≤ u + resI x.2.1 x.2.2 - u ∧ u + resI x.2.1 x.2.2 - u ≤ 1
          omega
        | j + 1, h => exact absurd h (by simp)
theorem duels_at (xa xb : List Ent) (k i : Nat) (h : i < k) : (duels xa xb k).getD i (0, (0, ByteArray.empty), (0, ByteArray.empty)) = (xa.length - 1 - i, xa.getD i (0, ByteArray.empty), xb.getD i (0, ByteArray.empty)) := by
  simp [duels, List.getD, List.getElem?_range h]
/-- The match of a list with itself. -/
theorem go_own : ∀ (l : List Du), (∀ x ∈ l, x.2.1 = x.2.2) → ∀ i, i < (statesGo 0 false l).length → ((statesGo 0 false l).getD i (0, 0, false)).1 = 0
  | [], _, _, h => absurd h (Nat.not_lt_zero _)
  | x :: l, hx, i, h => by
    have e : x.2.1 = x.2.2 := hx x (by simp)
    have r : (0 : Int) + resI x.2.1 x.2.2 = 0 := by rw [e, res_self]; rfl
    rw [statesGo] at h ⊢
    rw [r] at h ⊢
    by_cases hp : false = true ∨ playedB x.2.1.2 x.2.2.2 = false
    · rw [if_pos hp] at h
      exact absurd h (Nat.not_lt_zero _)
    · rw [if_neg hp] at h ⊢
      match i, h with
      | 0, _ => rfl
      | j + 1, h =>
        cases ho : overI 0 x.1
        · rw [ho] at h
          exact go_own l (fun y hy => hx y (by simp [hy])) j (by simpa using h)
        · have he : statesGo 0 true l = [] := by cases l <;> simp [statesGo]
          rw [ho, he] at h
          exact absurd h (by simp)
theorem states_own (xa : List Ent) (i : Nat) (h : i < (statesL xa xa).length) : ((statesL xa xa).getD i (0, 0, false)).1 = 0 := by
  unfold statesL at h ⊢
  refine go_own _ (fun x hx => ?_) i h
  unfold duels at hx
  obtain ⟨j, _, rfl⟩ := List.mem_map.1 hx
  rfl
/-- As many strokes more for both on a hole that counts for them. -/
def riseE (r : Int) (e : Ent) : Ent := if e.2.toList.isEmpty then (e.1 + r, e.2) else e
theorem rise_mark (r : Int) (e : Ent) : (riseE r e).2 = e.2 := by
  unfold riseE
  split <;> rfl
theorem rise_res {r : Int} {a b : Ent} (ha : fineN a) (hb : fineN b) : resI (riseE r a) (riseE r b) = resI a b := by
  have hm : meritI (riseE r a) (riseE r b) = meritI a b := by
    rw [merit_of, merit_of, rise_mark, rise_mark]
    by_cases h1 : rankI a.2 < rankI b.2
    · rw [if_pos h1, if_pos h1]
    · rw [if_neg h1, if_neg h1]
      by_cases h2 : rankI a.2 = rankI b.2
      · rw [if_pos h2, if_pos h2]
        have hs : (riseE r a).1 - (riseE r b).1 = a.1 - b.1 := by
          unfold riseE
          rcases fine_rank ha with ⟨q, e⟩ | ⟨q, e, _⟩ | ⟨q, e, _⟩ <;> rcases fine_rank hb with ⟨q2, e2⟩ | ⟨q2, e2, _⟩ | ⟨q2, e2, _⟩
          all_goals
            rw [e, e2]
            first
              | (exfalso; omega)
              | (simp; done)
              | (simp; omega)
        by_cases h3 : a.1 < b.1
        · rw [if_pos h3, if_pos (by omega)]
        · rw [if_neg h3, if_neg (by omega)]
          by_cases h4 : a.1 = b.1
          · rw [if_pos h4, if_pos (by omega)]
          · rw [if_neg h4, if_neg (by omega)]
      · rw [if_neg h2, if_neg h2]
  unfold resI
  rw [hm]
/-- The same results, the same states. -/
theorem go_like : ∀ (l l' : List Du) (u : Int) (o : Bool), l.length = l'.length → (∀ i, i < l.length → (l.getD i (0, (0, ByteArray.empty), (0, ByteArray.empty))).1 = (l'.getD i (0, (0, ByteArray.empty), (0, ByteArray.empty))).1 ∧
      resI (l.getD i (0, (0, ByteArray.empty), (0, ByteArray.empty))).2.1 (l.getD i (0, (0, ByteArray.empty), (0, ByteArray.empty))).2.2 = resI (l'.getD i (0, (0, ByteArray.empty), (0, ByteArray.empty))).2.1 (l'.getD i (0, (0, ByteArray.empty), (0, ByteArray.empty))).2.2 ∧
      playedB (l.getD i (0, (0, ByteArray.empty), (0, ByteArray.empty))).2.1.2 (l.getD i (0, (0, ByteArray.empty), (0, ByteArray.empty))).2.2.2 = playedB (l'.getD i (0, (0, ByteArray.empty), (0, ByteArray.empty))).2.1.2 (l'.getD i (0, (0, ByteArray.empty), (0, ByteArray.empty))).2.2.2) →
    statesGo u o l = statesGo u o l'
  | [], [], _, _, _, _ => rfl
  | [], _ :: _, _, _, h, _ => by simp at h
  | _ :: _, [], _, _, h, _ => by simp at h
  | x :: l, y :: l', u, o, h, H => by
    have h0 := H 0 (by simp)
    simp only [List.getD_cons_zero] at h0
    obtain ⟨a1, a2, a3⟩ := h0
    have ih := go_like l l' (u + resI x.2.1 x.2.2) (overI (u + resI x.2.1 x.2.2) x.1) (by simpa using h) (fun i hi => by
      have := H (i + 1) (by simpa using hi)
      simpa only [List.getD_cons_succ] using this)
    rw [statesGo, statesGo, ← a1, ← a2, ← a3, ih]
def riseL (k : Nat) (r : Int) (xs : List Ent) : List Ent := xs.set k (riseE r (xs.getD k (0, ByteArray.empty)))
theorem riseL_len (k : Nat) (r : Int) (xs : List Ent) : (riseL k r xs).length = xs.length := by simp [riseL]
theorem riseL_at (k : Nat) (r : Int) (xs : List Ent) (i : Nat) (h : i < xs.length) : (riseL k r xs).getD i (0, ByteArray.empty) = if k = i then riseE r (xs.getD i (0, ByteArray.empty)) else xs.getD i (0, ByteArray.empty) := by
  unfold riseL
  by_cases e : k = i
  · subst e
    rw [if_pos rfl]
    simp [List.getD, h]
  · rw [if_neg e]
    simp [List.getD, List.getElem?_set_ne e]
theorem states_rise {xa xb : List Ent} (k : Nat) (r : Int) (h : xa.length = xb.length) (fa : ∀ e ∈ xa, fineN e) (fb : ∀ e ∈ xb, fineN e) : statesL (riseL k r xa) (riseL k r xb) = statesL xa xb := by
  unfold statesL
  rw [riseL_len]
  refine go_like _ _ 0 false (by rw [duels_length, duels_length]) fun i hi => ?_
  rw [duels_length] at hi
  have hi2 : i < xb.length := by omega
  rw [duels_at _ _ _ _ hi, duels_at _ _ _ _ hi, riseL_len, riseL_at _ _ _ _ hi, riseL_at _ _ _ _ hi2]
  have ga := fa (xa.getD i (0, ByteArray.empty)) (by simp [List.getD, List.getElem?_eq_getElem hi])
  have gb := fb (xb.getD i (0, ByteArray.empty)) (by simp [List.getD, List.getElem?_eq_getElem hi2])
  by_cases e : k = i
  · rw [if_pos e, if_pos e]
    exact ⟨rfl, rise_res ga gb, by rw [rise_mark, rise_mark]⟩
  · rw [if_neg e, if_neg e]
    exact ⟨rfl, rfl, rfl⟩
end Go.Proofs.YtkhhkicfeaeddaaGreatDoor
