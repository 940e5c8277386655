/- The reference's parts of a fraction in lowest terms; Floor; ToInt of a whole number. -/
import Derived.Test.YtpdbebjlghihmaaGreatDoorHanT
import Derived.Test.YtpdbebjlghihmaaGreatDoorHanU
set_option linter.unusedVariables false
set_option linter.unusedSimpArgs false
namespace Go.Proofs.YtpdbebjlghihmaaGreatDoor
open Go.RowKit

theorem ratL_split (p : Int) (q : Nat) (hq : 1 < q) : ratL p q = ratL p 1 ++ 47 :: Lib.decDigits q := by
  unfold ratL bodyL
  rw [if_pos hq, if_neg (show ¬ 1 < 1 by omega), List.append_nil]
  split <;> simp
theorem slash_frac (p : Int) (q : Nat) (hq : 1 < q) : slashAt (ratL p q) = (ratL p 1).length := by
  rw [ratL_split p q hq]
  exact slashAt_app _ _ (ratL_noslash p)
theorem ratB_nat (q : Nat) : numB q = ratB (q : Int) 1 := by
  unfold ratB
  rw [if_neg (by omega), if_neg (show ¬ 1 < 1 by omega), Int.natAbs_natCast]

theorem parts_rat (p : Int) (q : Nat) (w : World) (h1 : -1000000000 < p) (h2 : p < 1000000000) (hq1 : 1 < q) (hq : q < 1000000000) :
    Calls Tryz.prog 135 #[.string (ratB p q)] w fun e w' => ∃ ga ca gb cb, e = .returned (.tuple #[.agg #[.bool (decide (p < 0)), .slice (some ⟨ga, 0, none⟩) (oneL (p.natAbs : Int)) ca], .agg #[.bool false, .slice (some ⟨gb, 0, none⟩) 1 cb]]) ∧ w'.cell? ⟨ga, 0, none⟩ = some (.int .i64 (p.natAbs : Int)) ∧ w'.cell? ⟨gb, 0, none⟩ = some (.int .i64 (q : Int)) ∧ Below w.heap.size w w' := by
  have hS := ratB_bytes p q
  have hsp := ratL_split p q hq1
  have hsl := slash_frac p q hq1
  have la := len_whole p h1 h2
  have lq := dec_len (k := 8) (n := q) (by omega)
  have hlen : (ratL p q).length = (ratL p 1).length + 1 + (Lib.decDigits q).length := by rw [hsp]; simp; omega
  refine parts_frac (ratB p q) (ratB p 1) (numB q) (ratL p 1).length (decide (p < 0)) (p.natAbs : Int) (q : Int) w ?_ ?_ ?_ ?_ ?_ ?_ ?_
  · rw [hS, bytesL_size]; omega
  · rw [hS, bytesL_size]; omega
  · intro W
    rw [hS, ← hsl]
    exact slash_any (ratL p q) W (by omega)
  · rw [hS, bytesL_extract, hsp, ratB_bytes]
    simp
  · rw [hS, bytesL_size, bytesL_extract, hlen, hsp, numB_bytes]
    congr 1
    rw [show ratL p 1 ++ 47 :: Lib.decDigits q = (ratL p 1 ++ [47]) ++ Lib.decDigits q by simp, List.drop_append_of_le_length (by simp), List.drop_of_length_le (by simp)]
    simp
  · exact fun W => parse_whole p W h1 h2
  · intro W
    rw [ratB_nat]
    have h := parse_whole (q : Int) W (by omega) (by omega)
    rw [Int.natAbs_natCast, decide_eq_false (show ¬ (q : Int) < 0 by omega), show oneL (q : Int) = 1 by unfold oneL; rw [if_neg (by omega)]] at h
    exact h

set_option maxRecDepth 100000 in
set_option maxHeartbeats 2000000 in
theorem floor_any (p : Int) (q : Nat) (w : World) (h1 : -999999999 < p) (h2 : p < 999999999) (hq0 : 0 < q) (hq : q < 1000000000) :
    Calls Tryz.prog 90 #[.string (ratB p q)] w fun e w' => e = .returned (.string (ratB (p / (q : Int)) 1)) ∧ Below w.heap.size w w' := by
  by_cases hq1 : 1 < q
  · have KW : Hid (∀ W, Calls Tryz.prog 133 #[.string (ratB p q)] W fun e w' => e = .returned (.bool false) ∧ W = w') := Lib.hid (fun W => by
      have la := len_whole p (by omega) (by omega)
      have lq := dec_len (k := 8) (n := q) (by omega)
      have hlen : (ratL p q).length = (ratL p 1).length + 1 + (Lib.decDigits q).length := by rw [ratL_split p q hq1]; simp; omega
      have h := refWhole_any (ratL p q) W (by omega)
      rw [slash_frac p q hq1, decide_eq_false (by omega), ← ratB_bytes] at h
      exact h)
    have KP := Lib.hid (fun W => parts_rat p q W (by omega) (by omega) hq1 hq)
    have KF := Lib.hid (fun ga ca gb cb W ha hb => floorDiv_any ga ca gb cb p (q : Int) W h1 h2 (by omega) ha hb)
    have KT := Lib.hid (text_floor p (q : Int) (by omega))
    have hb0 : 0 ≤ ((p / (q : Int)).natAbs : Int) ∧ ((p / (q : Int)).natAbs : Int) < 1000000000 ∧ (decide (p < 0) = true → ((p / (q : Int)).natAbs : Int) ≠ 0) := by
      refine ⟨by omega, ?_, fun h => ?_⟩
      · have := Int.natAbs_ediv_le_natAbs p (q : Int)
        omega
      · have : p / (q : Int) < 0 := Int.ediv_neg_of_neg_of_pos (by simpa using h) (by omega)
        omega
    have HB0 := Lib.hid hb0
    clear hb0
    generalize ratB p q = S at KW KP ⊢
    generalize ratB (p / (q : Int)) 1 = R at KT ⊢
    generalize ((p / (q : Int)).natAbs : Int) = v at KF KT HB0
    generalize decide (p < 0) = nb at KP KF KT HB0
    generalize oneL (p.natAbs : Int) = lm at KP KF
    generalize (p.natAbs : Int) = m at KP KF
    generalize (q : Int) = d at KP KF
    go_enter Tryz.func90, Tryz.ntmps90
    go_wp2_with fail
    refine (KW.out _).mono ?_; rintro e w1 ⟨rfl, rfl⟩
    go_wp2_with fail
    refine (KP.out _).mono ?_; rintro e w2 ⟨ga, ca, gb, cb, rfl, ha, hb, hbw⟩
    have HA := Lib.hid ha
    have HB := Lib.hid hb
    have HW := Lib.hid hbw
    clear ha hb hbw
    go_wp2_with fail
    generalize hW3 : (w2.alloc (.cells #[.bool nb, .slice (some ⟨ga, 0, none⟩) lm ca] 177)).alloc (.cells #[.bool false, .slice (some ⟨gb, 0, none⟩) 1 cb] 177) = w3
    have hb3 : Below w2.heap.size w2 w3 := by subst hW3; exact ((Below.refl _ _).alloc (Nat.le_refl _) _).alloc (by simp) _
    have HB3 := Lib.hid (HW.out.trans (hb3.mono HW.out.size))
    have hca := (hb3.cell (World.block_lt_of_cell? _ _ HA.out)).trans HA.out
    have hcb := (hb3.cell (World.block_lt_of_cell? _ _ HB.out)).trans HB.out
    clear hW3 hb3
    refine (KF.out ga ca gb cb w3 hca hcb).mono ?_; rintro e w4 ⟨X, rfl, hx, hb4⟩
    have HX := Lib.hid hx
    have HB4 := Lib.hid (HB3.out.trans (hb4.mono HB3.out.size))
    clear hx hb4 hca hcb
    go_wp2_with fail
    refine (text_one nb X v _ HB0.out.1 HB0.out.2.1 HX.out HB0.out.2.2).mono ?_; rintro e w5 ⟨rfl, hb5⟩
    have HB5 := Lib.hid (HB4.out.trans (hb5.mono HB4.out.size))
    clear hb5
    rw [KT.out]
    go_wp2
    go_ret
    exact ⟨rfl, HB5.out⟩
  · have hq2 : q = 1 := by omega
    subst hq2
    rw [show p / ((1 : Nat) : Int) = p by omega]
    have KW : Hid (∀ W, Calls Tryz.prog 133 #[.string (ratB p 1)] W fun e w' => e = .returned (.bool true) ∧ W = w') := Lib.hid (fun W => by
      have la := len_whole p (by omega) (by omega)
      have h := refWhole_any (ratL p 1) W (by omega)
      rw [slash_whole, decide_eq_true rfl, ← ratB_bytes] at h
      exact h)
    generalize ratB p 1 = S at KW ⊢
    go_enter Tryz.func90, Tryz.ntmps90
    go_wp2_with fail
    refine (KW.out _).mono ?_; rintro e w1 ⟨rfl, rfl⟩
    go_wp2
    go_ret
    exact ⟨rfl, Below.refl _ _⟩

theorem toInt_whole (p : Int) (w : World) (h1 : -1000000000 < p) (h2 : p < 1000000000) :
    Calls Tryz.prog 89 #[.string (ratB p 1)] w fun e w' => e = .returned (.tuple #[.int .i64 p, .bool true]) ∧ Below w.heap.size w w' := by
  have la := len_whole p h1 h2
  have h := toInt_gen (ratB p 1) (decide (p < 0)) (p.natAbs : Int) w (by rw [ratB_bytes, bytesL_size]; omega) (by omega) (by omega) (fun h => by
      have h3 : p < 0 := of_decide_eq_true h
      omega)
    (fun W => by
      have h := refWhole_any (ratL p 1) W (by omega)
      rw [slash_whole, decide_eq_true rfl, ← ratB_bytes] at h
      exact h)
    (fun W => parse_whole p W h1 h2)
  rw [show (if decide (p < 0) = true then -(p.natAbs : Int) else (p.natAbs : Int)) = p by
    by_cases hp : p < 0
    · rw [if_pos (by simpa using hp)]; omega
    · rw [if_neg (by simpa using hp)]; omega] at h
  exact h
end Go.Proofs.YtpdbebjlghihmaaGreatDoor
