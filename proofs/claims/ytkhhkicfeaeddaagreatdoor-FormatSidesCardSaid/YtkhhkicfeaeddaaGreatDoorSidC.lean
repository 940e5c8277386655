/- Describe of any state; the reference's CheckState; texts of small numbers by the reference; its Describe. -/
import Derived.Test.YtkhhkicfeaeddaaGreatDoorMgH
import Derived.Test.YtkhhkicfeaeddaaGreatDoorMatA
import Derived.Laws.Concat
import Derived.Outline
set_option linter.unusedVariables false
set_option linter.unusedSimpArgs false
namespace Go.Proofs.YtkhhkicfeaeddaaGreatDoor
open Go.RowKit

set_option maxRecDepth 100000 in
set_option maxHeartbeats 1000000 in
theorem stateOf_gen (u t nu : Int) (w : World) (hnu : IntKind.i64.wrap (-u) = nu) :
    Calls Tryz.prog 49 #[.int .i64 u, .int .i64 t] w fun e w' => e = .returned (.agg #[.int .i64 u, .int .i64 t, .bool (decide (t < u) || decide (t < nu) || decide (t = 0))]) ∧ Below w.heap.size w w' := by
  have HO : Hid (∀ b : Bool, ((t < u ∨ t < nu ∨ t = 0) ↔ b = true) → (decide (t < u) || decide (t < nu) || decide (t = 0)) = b) := Lib.hid (fun b h => by
    rw [Bool.eq_iff_iff, ← h]
    simp [or_assoc])
  generalize (decide (t < u) || decide (t < nu) || decide (t = 0)) = ov at HO ⊢
  by_cases g1 : u < nu <;> by_cases g2 : t < u <;> by_cases g3 : t < nu <;> cases g4 : (t == 0)
  all_goals first
    | (exfalso; omega)
    | (have G4 := Lib.hid g4
       go_enter Tryz.func49, Tryz.ntmps49
       go_wp2
       all_goals
         refine bodyPost_ret (v := .agg #[.int .i64 u, .int .i64 t, .bool ov]) ?_ rfl ⟨rfl, ?_⟩
         · have := G4.out
           simp only [beq_iff_eq, beq_eq_false_iff_ne] at this
           first
             | (rw [← HO.out true (by simp only [iff_true]; omega), HO.out true (by simp only [iff_true]; omega)]; simp [results, Tryz.results49, go_sem, HO.out true (by simp only [iff_true]; omega)])
             | (simp [results, Tryz.results49, go_sem, HO.out false (by simp only [Bool.false_eq_true, iff_false]; omega)]; done)
             | (simp [results, Tryz.results49, go_sem, HO.out false (by simp only [Bool.false_eq_true, iff_false]; omega)]; omega)
         · repeat first | exact Below.refl _ _ | apply Below.drew | refine Below.setCell ?_ (by simp <;> omega) _ | refine Below.alloc ?_ (by simp <;> omega) _)

/-- The error of a state that is described. -/
def stI (u t : Int) (o : Bool) : Int := if (0 ≤ t ∧ t ≤ 36) ∧ (-36 ≤ u ∧ u ≤ 36) then (if overI u t = true then (if o = true then 0 else 1) else 19) else 3
theorem desc_st (u t : Int) (o ov : Bool) (h : (-36 ≤ u ∧ u ≤ 36) → ov = overI u t) : descI u t o ov = stI u t o := by
  unfold descI stI
  by_cases g1 : 0 ≤ t ∧ t ≤ 36
  · by_cases g2 : -36 ≤ u ∧ u ≤ 36
    · rw [if_pos ⟨g1, g2⟩, h g2]
      unfold withinI
      rw [if_pos g1, if_pos g2]
      cases overI u t <;> cases o <;> rfl
    · rw [if_neg (fun g => g2 g.2)]
      unfold withinI
      rw [if_pos g1, if_neg g2]
      rfl
  · rw [if_neg (fun g => g1 g.1)]
    unfold withinI
    rw [if_neg g1]
    rfl
theorem describe_any (u t : Int) (o : Bool) (w : World) :
    Calls Tryz.prog 10 #[.agg #[.int .i64 u, .int .i64 t, .bool o]] w fun e w' => e = .returned (.tuple #[.string (descS (stI u t o) u t), .int .i64 (stI u t o)]) ∧ Below w.heap.size w w' := by
  have h := describe_of u t o _ w (Lib.hid (fun W => stateOf_gen u t _ W rfl))
  rw [desc_st u t o _ (fun g => by
    rw [IntWalk.i64_in _ (by omega)]
    rfl)] at h
  exact h

set_option maxRecDepth 100000 in
set_option maxHeartbeats 2000000 in
theorem refState_any (u t : Int) (o : Bool) (w : World) :
    Calls Tryz.prog 17 #[.agg #[.int .i64 u, .int .i64 t, .bool o]] w fun e w' => e = .returned (.int .i64 (stI u t o)) ∧ Below w.heap.size w w' := by
  have HV : Hid (stI u t o = if (0 ≤ t ∧ t ≤ 36) ∧ (-36 ≤ u ∧ u ≤ 36) then (if overI u t = true then (if o = true then 0 else 1) else 19) else 3) := Lib.hid rfl
  have HB := Lib.hid ((Below.refl w.heap.size w).alloc (Nat.le_refl _) (.cells #[.int .i64 u, .int .i64 t, .bool o] 43))
  generalize stI u t o = z at HV ⊢
  by_cases g1 : t < 0
  · have HZ : Hid (z = 3) := Lib.hid (by rw [HV.out, if_neg (by omega)])
    go_enter Tryz.func17, Tryz.ntmps17
    go_wp2
    go_ret
    exact ⟨by rw [HZ.out]; rfl, HB.out⟩
  · by_cases g2 : 36 < t
    · have HZ : Hid (z = 3) := Lib.hid (by rw [HV.out, if_neg (by omega)])
      go_enter Tryz.func17, Tryz.ntmps17
      go_wp2
      go_ret
      exact ⟨by rw [HZ.out]; rfl, HB.out⟩
    · by_cases g3 : u < -36
      · have HZ : Hid (z = 3) := Lib.hid (by rw [HV.out, if_neg (by omega)])
        go_enter Tryz.func17, Tryz.ntmps17
        go_wp2
        go_ret
        exact ⟨by rw [HZ.out]; rfl, HB.out⟩
      · by_cases g4 : 36 < u
        · have HZ : Hid (z = 3) := Lib.hid (by rw [HV.out, if_neg (by omega)])
          go_enter Tryz.func17, Tryz.ntmps17
          go_wp2
          go_ret
          exact ⟨by rw [HZ.out]; rfl, HB.out⟩
        · have HZ : Hid (z = if overI u t = true then (if o = true then 0 else 1) else 19) := Lib.hid (by rw [HV.out, if_pos (by omega)])
          have HOV := Lib.hid (fun W => refIsOver_any u t W (by omega))
          generalize overI u t = ov at HZ HOV
          cases ov <;> cases o
          all_goals
            go_enter Tryz.func17, Tryz.ntmps17
            go_wp2_with fail
            refine (HOV.out _).mono ?_
            rintro e w9 ⟨rfl, rfl⟩
            go_wp2
            go_ret
            exact ⟨by rw [HZ.out]; rfl, HB.out⟩

theorem dig_piece (i : Nat) (h : i < 10) : (⟨((⟨#[48, 49, 50, 51, 52, 53, 54, 55, 56, 57]⟩ : ByteArray).data.toList.drop i).take 1 |>.toArray⟩ : ByteArray) = numB i := by
  have h9 : i = 0 ∨ i = 1 ∨ i = 2 ∨ i = 3 ∨ i = 4 ∨ i = 5 ∨ i = 6 ∨ i = 7 ∨ i = 8 ∨ i = 9 := by omega
  unfold numB
  rw [Lib.decDigits_one h]
  rcases h9 with rfl | rfl | rfl | rfl | rfl | rfl | rfl | rfl | rfl | rfl <;> rfl
end Go.Proofs.YtkhhkicfeaeddaaGreatDoor
