/- card.integerOf: the integer with a text, of up to 9 digits. -/
import Derived.Test.YtbckfkopdojggaaGreatDoorNotA
import Derived.Lib.SmallJoins
import Derived.BigQuiet
import Derived.Deep.QuietTactic
set_option linter.unusedVariables false
set_option linter.unusedSimpArgs false
namespace Go.Proofs.YtbckfkopdojggaaGreatDoor
open Go.RowKit

theorem belowDraws {B : Nat} {a w : World} (h : Below B a w) (n : Nat) : Below B a (w.drewN n) := ⟨h.os, h.tape, h.output, h.size, h.block⟩
theorem dec_val : ∀ (l : List UInt8) (acc : Nat), l.all NotMath.isD = true → Lib.decFrom acc l = some (l.foldl (fun a c => 10 * a + (c.toNat - 48)) acc)
  | [], acc, _ => rfl
  | c :: l, acc, h => by
    simp only [List.all_cons, Bool.and_eq_true] at h
    have hc : 48 ≤ c.toNat ∧ c.toNat ≤ 57 := by simpa [NotMath.isD] using h.1
    unfold Lib.decFrom Lib.digitVal
    rw [if_pos hc]
    simp only [List.foldl_cons]
    rw [dec_val l _ h.2, Nat.mul_comm]
theorem isInt_digits {l : List UInt8} (h : NotMath.isInt l = true) : l.all NotMath.isD = true ∧ l ≠ [] := by
  unfold NotMath.isInt at h
  simp only [Bool.or_eq_true, Bool.and_eq_true, beq_iff_eq, bne_iff_ne] at h
  rcases h with rfl | ⟨⟨h1, h2⟩, h3⟩
  · exact ⟨by decide, by simp⟩
  · exact ⟨h3, h1⟩
theorem atoi_val {l : List UInt8} (h : NotMath.isInt l = true) : Lib.atoi l = some ((NotMath.val l : Nat) : Int) := by
  obtain ⟨h1, h2⟩ := isInt_digits h
  cases l with
  | nil => exact absurd rfl h2
  | cons c l =>
    have hc : 48 ≤ c.toNat ∧ c.toNat ≤ 57 := by
      simp only [List.all_cons, Bool.and_eq_true] at h1
      simpa [NotMath.isD] using h1.1
    have n1 : (c == 45) = false := by
      rw [beq_eq_false_iff_ne]; rintro rfl; exact absurd hc.1 (by decide)
    have n2 : (c == 43) = false := by
      rw [beq_eq_false_iff_ne]; rintro rfl; exact absurd hc.1 (by decide)
    simp only [Lib.atoi, n1, n2, Bool.false_eq_true, if_false]
    unfold Lib.decNat
    simp only [List.isEmpty_cons, Bool.false_eq_true, if_false]
    rw [dec_val _ 0 h1]
    rfl

def numI (l : List UInt8) : Int := match NotMath.num l with | some n => (n : Int) | none => 0
def wnumB (l : List UInt8) : Bool := (NotMath.num l).isSome

theorem integerOf_any (s : ByteArray) (w : World) (hs : s.size ≤ 9223372036854775807) :
    Calls Tryz.prog 176 #[.string s] w fun e w' => e = .returned (.tuple #[.int .i64 (numI s.data.toList), .bool (wnumB s.data.toList)]) ∧ Below w.heap.size w w' := by
  have HI := isInteger_any s
  have hsz := Lib.size_eq s
  cases hb : NotMath.isInt s.data.toList with
  | false =>
    have e1 : numI s.data.toList = 0 := by unfold numI NotMath.num; rw [hb]; rfl
    have e2 : wnumB s.data.toList = false := by unfold wnumB NotMath.num; rw [hb]; rfl
    rw [e1, e2]
    rw [hb] at HI
    clear hb e1 e2 hsz
    go_enter Tryz.func176, Tryz.ntmps176
    go_wp2_with (go_at_call 198; (with_reducible refine (HI _ hs).mono ?_); rintro e w1 ⟨rfl, hb1⟩)
    all_goals go_ret2
    all_goals exact ⟨rfl, hb1⟩
  | true =>
    by_cases h9 : s.size ≤ 9
    · have e0 : NotMath.num s.data.toList = some (NotMath.val s.data.toList) := by
        unfold NotMath.num; rw [hb, ← hsz]; simp [h9]
      have e1 : numI s.data.toList = (NotMath.val s.data.toList : Nat) := by unfold numI; rw [e0]
      have e2 : wnumB s.data.toList = true := by unfold wnumB; rw [e0]; rfl
      rw [e1, e2]
      have HA := fun w => Tryz.strconv_Atoi s _ (by omega) (atoi_val hb) w
      rw [hb] at HI
      have g1 : ¬ ((9 : Int) < (s.size : Nat)) := by omega
      clear hb e0 e1 e2 hsz
      generalize NotMath.val s.data.toList = n at HA ⊢
      have hm : Tryz.prog.follows .mixedOrders = true := by kernel_rfl
      go_enter Tryz.func176, Tryz.ntmps176
      go_wp2_with (first | (go_at_call 198; (with_reducible refine (HI _ hs).mono ?_); rintro e w1 ⟨rfl, hb1⟩) | (go_at_call 199; (with_reducible refine (HA _).mono ?_); rintro e w2 ⟨rfl, t, rfl⟩))
      all_goals (first | go_quiet (fail) | skip)
      all_goals go_wp2
      all_goals go_ret2
      all_goals exact ⟨rfl, hb1.trans (belowDraws (Joins.below_bytesWorld _ _ _ _ hb1.size) _)⟩
    · have e0 : NotMath.num s.data.toList = none := by
        unfold NotMath.num; rw [hb, ← hsz]; simp [h9]
      have e1 : numI s.data.toList = 0 := by unfold numI; rw [e0]
      have e2 : wnumB s.data.toList = false := by unfold wnumB; rw [e0]; rfl
      rw [e1, e2]
      rw [hb] at HI
      have g1 : (9 : Int) < (s.size : Nat) := by omega
      clear hb e0 e1 e2 hsz
      go_enter Tryz.func176, Tryz.ntmps176
      go_wp2_with (go_at_call 198; (with_reducible refine (HI _ hs).mono ?_); rintro e w1 ⟨rfl, hb1⟩)
      all_goals go_ret2
      all_goals exact ⟨rfl, hb1⟩

end Go.Proofs.YtbckfkopdojggaaGreatDoor
