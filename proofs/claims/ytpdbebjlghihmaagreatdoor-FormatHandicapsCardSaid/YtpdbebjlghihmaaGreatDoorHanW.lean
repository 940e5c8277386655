/- The reference's half: the nearest integer of a fraction. -/
import Derived.Test.YtpdbebjlghihmaaGreatDoorHanV
set_option linter.unusedVariables false
set_option linter.unusedSimpArgs false
namespace Go.Proofs.YtpdbebjlghihmaaGreatDoor
open Go.RowKit

theorem ratB_half : ratB 1 2 = ⟨#[49, 47, 50]⟩ := by
  unfold ratB
  rw [if_neg (by omega), if_pos (by omega), numB_bytes, numB_bytes, show Int.natAbs 1 = 1 from rfl, Lib.decDigits_one (by omega), Lib.decDigits_one (by omega)]
  rfl

theorem belowH {B : Nat} {a w : World} (h : Below B a w) (k : Nat) : Below B a (w.drewN k) := ⟨h.os, h.tape, h.output, h.size, h.block⟩

set_option maxRecDepth 100000 in
set_option maxHeartbeats 2000000 in
theorem half_any (n d : Int) (w : World) (h1 : -9999 ≤ n) (h2 : n ≤ 9999) (hd0 : 0 < d) (hd : d < 1000) :
    Calls Tryz.prog 49 #[.int .i64 n, .int .i64 d] w fun e w' => e = .returned (.int .i64 ((2 * n + d) / (2 * d))) ∧ Below w.heap.size w w' := by
  obtain ⟨p, q, g, hg, hp, hq, hq0, hof⟩ := ofB_red n d hd0
  have hpb := red_le hg hp 9999 (by omega) h1 h2
  have hqb := red_le hg hq 999 (by omega) (by omega) (by omega)
  obtain ⟨p2, q2, g2, hg2, hp2, hq2, hq20, hof2⟩ := ofB_red (p * ((2 : Nat) : Int) + 1 * (q : Int)) ((q : Int) * ((2 : Nat) : Int)) (by omega)
  have hp2b := red_le hg2 hp2 30000 (by omega) (by omega) (by omega)
  have hq2b := red_le hg2 hq2 3000 (by omega) (by omega) (by omega)
  have hv : p2 / (q2 : Int) = (2 * n + d) / (2 * d) := half_floor hg hp hq hg2 hp2 hq2
  have hvb : -30000 ≤ p2 / (q2 : Int) ∧ p2 / (q2 : Int) ≤ 30000 := by
    have := Int.natAbs_ediv_le_natAbs p2 (q2 : Int)
    omega
  have K1 := Lib.hid (fun W => of_any n d W (by omega) (by omega) hd0 (by omega))
  rw [hof] at K1
  have K2 := Lib.hid (fun W => add_any p 1 q 2 W (by omega) (by omega) (by omega) (by omega) hq0 (by omega) (by omega) (by omega))
  rw [hof2, ratB_half] at K2
  have K3 := Lib.hid (fun W => floor_any p2 q2 W (by omega) (by omega) hq20 (by omega))
  have K4 := Lib.hid (fun W => toInt_whole (p2 / (q2 : Int)) W (by omega) (by omega))
  rw [hv] at K3 K4
  generalize (2 * n + d) / (2 * d) = r at *
  generalize ratB p q = A at *
  generalize ratB p2 q2 = B at *
  generalize ratB r 1 = C at *
  clear hof hof2 hp hq hp2 hq2 hv hvb hpb hqb hp2b hq2b
  go_enter Tryz.func49, Tryz.ntmps49
  go_wp2_with fail
  refine (K1.out _).mono ?_; rintro e w1 ⟨rfl, k1, rfl⟩
  go_wp2_with fail
  refine (K2.out _).mono ?_; rintro e w2 ⟨rfl, k2, rfl⟩
  go_wp2_with fail
  refine (K3.out _).mono ?_; rintro e w3 ⟨rfl, hb3⟩
  have HB3 := Lib.hid ((belowH (Below.refl w.heap.size w) (k1 + k2)).trans hb3)
  clear hb3
  go_wp2_with fail
  refine (K4.out _).mono ?_; rintro e w4 ⟨rfl, hb4⟩
  have HB4 := Lib.hid (HB3.out.trans (hb4.mono HB3.out.size))
  clear hb4
  go_wp2
  go_ret
  exact ⟨rfl, HB4.out⟩
end Go.Proofs.YtpdbebjlghihmaaGreatDoor
