/- FormatTurned: what the law asks of states, one by one; the words of opposite states: plain mathematics. -/
import Derived.Test.YtkhhkicfeaeddaaGreatDoorTurM
import Derived.Test.YtkhhkicfeaeddaaGreatDoorSidM
import Derived.Test.YtkhhkicfeaeddaaGreatDoorMgH
set_option linter.unusedVariables false
set_option linter.unusedSimpArgs false
namespace Go.Proofs.YtkhhkicfeaeddaaGreatDoor
open Go.RowKit

/-- What is known of the state i. -/
theorem state_facts (xa xb : List Ent) (i : Nat) (h : i < (statesL xa xb).length) :
    ((statesL xa xb).getD i (0, 0, false)).2.1 = (xa.length : Int) - i - 1 ∧
    ((statesL xa xb).getD i (0, 0, false)).2.2 = overI ((statesL xa xb).getD i (0, 0, false)).1 ((statesL xa xb).getD i (0, 0, false)).2.1 ∧
    (-1 ≤ ((statesL xa xb).getD i (0, 0, false)).1 - (if i = 0 then 0 else ((statesL xa xb).getD (i - 1) (0, 0, false)).1) ∧ ((statesL xa xb).getD i (0, 0, false)).1 - (if i = 0 then 0 else ((statesL xa xb).getD (i - 1) (0, 0, false)).1) ≤ 1) ∧
    (i + 1 < (statesL xa xb).length → ((statesL xa xb).getD i (0, 0, false)).2.2 = false) := by
  have hl := states_len xa xb
  have hi : i < xa.length := by omega
  unfold statesL at h ⊢
  obtain ⟨h1, h2, h3, h4⟩ := go_at _ 0 i h
  refine ⟨?_, h2, h3, h4⟩
  rw [h1, duels_at _ _ _ _ hi]
  show ((xa.length - 1 - i : Nat) : Int) = _
  omega
theorem state_up (xa xb : List Ent) : ∀ i, i < (statesL xa xb).length → -((i : Int) + 1) ≤ ((statesL xa xb).getD i (0, 0, false)).1 ∧ ((statesL xa xb).getD i (0, 0, false)).1 ≤ (i : Int) + 1
  | 0, h => by
    obtain ⟨_, _, h3, _⟩ := state_facts xa xb 0 h
    rw [if_pos rfl] at h3
    omega
  | i + 1, h => by
    obtain ⟨_, _, h3, _⟩ := state_facts xa xb (i + 1) h
    have ih := state_up xa xb i (by omega)
    rw [if_neg (Nat.succ_ne_zero i), Nat.add_sub_cancel] at h3
    omega
theorem turned_at {xa xb : List Ent} (h : xa.length = xb.length) (i : Nat) (hi : i < (statesL xa xb).length) : (statesL xb xa).getD i (0, 0, false) = negS ((statesL xa xb).getD i (0, 0, false)) := by
  rw [states_turned h]
  simp [List.getD, List.getElem?_eq_getElem hi]
theorem turned_len {xa xb : List Ent} (h : xa.length = xb.length) : (statesL xb xa).length = (statesL xa xb).length := by
  rw [states_turned h, List.length_map]
/-- A state that is over has its words. -/
theorem desc_over {u t : Int} (ho : overI u t = true) (ht : 0 ≤ t ∧ t ≤ 36) (hu : -36 ≤ u ∧ u ≤ 36) : descI u t true (overI u t) = 0 := by
  unfold descI
  rw [ho]
  unfold withinI unlessI
  rw [if_pos ht, if_pos hu]
  rfl
theorem first_byte {u : Int} (hu : u ≠ 0) (t : Int) : (wordsB u t).toList.head? = some (if u < 0 then 115 else 102) := by
  unfold wordsB
  rw [if_neg hu, Lib.toList_data]
  by_cases h : u < 0
  · rw [if_pos h]
    have e : (winB u).data.toList = [115, 101, 99, 111, 110, 100, 32] := by unfold winB; rw [if_pos h]
    by_cases ht : t = 0
    · rw [if_pos ht]
      simp [ByteArray.data_append, Array.toList_append, e]
    · rw [if_neg ht]
      simp [ByteArray.data_append, Array.toList_append, e]
  · rw [if_neg h]
    have e : (winB u).data.toList = [102, 105, 114, 115, 116, 32] := by unfold winB; rw [if_neg h]
    by_cases ht : t = 0
    · rw [if_pos ht]
      simp [ByteArray.data_append, Array.toList_append, e]
    · rw [if_neg ht]
      simp [ByteArray.data_append, Array.toList_append, e]
/-- The words of opposite states are equal just if the match is halved. -/
theorem words_turned (u t : Int) : ((wordsB u t).toList == (wordsB (-u) t).toList) = (u == 0) := by
  by_cases hu : u = 0
  · subst hu
    exact beq_self_eq_true _
  · rw [show (u == 0) = false from beq_eq_false_iff_ne.2 hu]
    refine beq_eq_false_iff_ne.2 (fun e => ?_)
    have h1 := first_byte hu t
    have h2 := first_byte (show -u ≠ 0 by omega) t
    rw [e, h2] at h1
    by_cases h : u < 0
    · rw [if_pos h, if_neg (by omega)] at h1
      cases h1
    · rw [if_neg h, if_pos (by omega)] at h1
      cases h1
/-- The own match, state by state. -/
theorem own_facts (xa : List Ent) (i : Nat) (h : i < (statesL xa xa).length) :
    ((statesL xa xa).getD i (0, 0, false)).1 = 0 ∧ ((statesL xa xa).getD i (0, 0, false)).2.2 = decide ((i : Int) = (xa.length : Int) - 1) := by
  have h0 := states_own xa i h
  obtain ⟨h1, h2, _, _⟩ := state_facts xa xa i h
  have hl := states_len xa xa
  refine ⟨h0, ?_⟩
  rw [h2, h0, h1]
  unfold overI
  rw [decide_eq_false (by omega), decide_eq_false (by omega)]
  simp only [Bool.false_or]
  exact decide_eq_decide.2 ⟨fun g => by omega, fun g => by omega⟩
theorem riseE_bound {r : Int} {e : Ent} (hr : -50 ≤ r ∧ r ≤ 50) (he : -999 ≤ e.1 ∧ e.1 ≤ 999) : -2000 ≤ (riseE r e).1 ∧ (riseE r e).1 ≤ 2000 := by
  unfold riseE
  split
  · show -2000 ≤ e.1 + r ∧ e.1 + r ≤ 2000
    omega
  · omega
end Go.Proofs.YtkhhkicfeaeddaaGreatDoor
