/- Mathematics of half: a fraction in lowest terms has the same floor. -/
import Derived.Test.YtpdbebjlghihmaaGreatDoorMgN
set_option linter.unusedVariables false
set_option linter.unusedSimpArgs false
namespace Go.Proofs.YtpdbebjlghihmaaGreatDoor

theorem ofB_red (n d : Int) (hd : 0 < d) : ∃ (p : Int) (q : Nat) (g : Int), 0 < g ∧ p * g = n ∧ (q : Int) * g = d ∧ 0 < q ∧ ofB n d = ratB p q := by
  obtain ⟨hg0, _, hq0, _, _⟩ := of_facts n d hd
  have hn : ((Nat.gcd n.natAbs d.toNat : Nat) : Int) ∣ n := Int.dvd_natAbs.1 (Int.natCast_dvd_natCast.2 (Nat.gcd_dvd_left _ _))
  have hdd : ((Nat.gcd n.natAbs d.toNat : Nat) : Int) ∣ d := by
    have h := Int.natCast_dvd_natCast.2 (Nat.gcd_dvd_right n.natAbs d.toNat)
    rwa [show ((d.toNat : Nat) : Int) = d by omega] at h
  refine ⟨n.tdiv (Nat.gcd n.natAbs d.toNat), (d.tdiv (Nat.gcd n.natAbs d.toNat)).toNat, ((Nat.gcd n.natAbs d.toNat : Nat) : Int), by omega, Int.tdiv_mul_cancel hn, ?_, by omega, rfl⟩
  rw [Int.toNat_of_nonneg (by omega)]
  exact Int.tdiv_mul_cancel hdd

/-- What is below and above in lowest terms is no greater. -/
theorem red_le {p g n : Int} (hg : 0 < g) (h : p * g = n) (b : Int) (hb : 0 ≤ b) (h1 : -b ≤ n) (h2 : n ≤ b) : -b ≤ p ∧ p ≤ b := by
  constructor
  · by_cases hp : 0 ≤ p
    · omega
    · have := Int.mul_le_mul_of_nonpos_left (show p ≤ 0 by omega) (show 1 ≤ g by omega)
      rw [h] at this
      omega
  · by_cases hp : p ≤ 0
    · omega
    · have := Int.mul_le_mul_of_nonneg_left (show 1 ≤ g by omega) (show 0 ≤ p by omega)
      rw [h] at this
      omega

/-- The text of a whole number holds no slash. -/
theorem ratL_noslash (p : Int) : ∀ c ∈ ratL p 1, c ≠ 47 := by
  unfold ratL bodyL
  rw [if_neg (show ¬ 1 < 1 by omega), List.append_nil]
  intro c hc e
  have hd : ∀ x ∈ Lib.decDigits p.natAbs, x ≠ 47 := fun x hx h => by have := dec_digit _ x hx; subst h; simp at this
  split at hc
  · rcases List.mem_cons.1 hc with h | h
    · subst h; simp at e
    · exact hd c h e
  · exact hd c hc e

theorem half_floor {n d p q g p2 q2 g2 : Int} (hg : 0 < g) (hp : p * g = n) (hq : q * g = d) (hg2 : 0 < g2) (hp2 : p2 * g2 = p * 2 + 1 * q) (hq2 : q2 * g2 = q * 2) :
    p2 / q2 = (2 * n + d) / (2 * d) := by
  rw [← Int.mul_ediv_mul_of_pos_left p2 q2 hg2, hp2, hq2, ← Int.mul_ediv_mul_of_pos_left (p * 2 + 1 * q) (q * 2) hg]
  congr 1
  · rw [Int.add_mul, Int.mul_right_comm, hp, Int.one_mul, hq]; omega
  · rw [Int.mul_right_comm, hq]; omega
end Go.Proofs.YtpdbebjlghihmaaGreatDoor
