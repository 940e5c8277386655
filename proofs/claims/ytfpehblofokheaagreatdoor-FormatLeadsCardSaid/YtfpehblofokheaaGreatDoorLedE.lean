/- The reference's CheckPlayoff. -/
import Derived.Test.YtfpehblofokheaaGreatDoorMgJ
import Derived.Test.YtfpehblofokheaaGreatDoorPreS
import Derived.BigQuiet
import Derived.Deep.QuietTactic
import Derived.Outline
set_option linter.unusedVariables false
set_option linter.unusedSimpArgs false
namespace Go.Proofs.YtfpehblofokheaaGreatDoor
open Go.RowKit

theorem eachI_step (xs : List Int) (a b : Int) (k : Nat) (h : k < xs.length) (R : Int) (hd : eachI (xs.drop k) a b = R) : (a ≤ xs.getD k 0 ∧ xs.getD k 0 ≤ b → eachI (xs.drop (k + 1)) a b = R) ∧ (¬ (a ≤ xs.getD k 0 ∧ xs.getD k 0 ≤ b) → R = 3) := by
  rw [eachI_drop xs a b k h] at hd
  unfold withinI at hd
  constructor
  · intro g; rw [if_pos g, if_pos rfl] at hd; exact hd
  · intro g; rw [if_neg g, if_neg (by decide)] at hd; exact hd.symm
theorem lineP_if (n : Nat) (y : List Int) : lineI playC n y = if y.length = 0 then 12 else if 36 < y.length then 5 else if eachI y 1 99 ≠ 0 then eachI y 1 99 else if y.length = n then 0 else 2 := by
  unfold lineI playC sizedI
  by_cases h1 : y.length = 0
  · rw [if_pos h1, if_pos h1]; simp [firstI]
  · rw [if_neg h1, if_neg h1]
    by_cases h2 : 36 < y.length
    · rw [if_neg (show ¬ (y.length : Int) ≤ 36 by omega), if_pos h2]; simp [firstI]
    · rw [if_pos (show (y.length : Int) ≤ 36 by omega), if_neg h2]
      by_cases h3 : eachI y 1 99 = 0
      · rw [if_neg (by simpa using h3), h3]
        by_cases h4 : y.length = n
        · rw [if_pos h4, decide_eq_true h4]; simp [firstI, unlessI]
        · rw [if_neg h4, decide_eq_false h4]; simp [firstI, unlessI]
      · rw [if_pos (by simpa using h3)]; simp [firstI, h3]

set_option maxRecDepth 100000 in
set_option maxHeartbeats 8000000 in
theorem refCheckPlayoff_any (A : Option Addr) (c : Nat) (ls : List (List Int)) (w : World) (h : ListsR w A ls) :
    Calls Tryz.prog 15 #[.slice A ls.length c] w fun e w' => e = .returned (.int .i64 (playE ls)) ∧ ∃ n, w' = w.drewN n := by
  have H := Lib.hid h
  clear h
  by_cases h2 : ls.length < 2
  · have d2 : decide ((ls.length : Int) < 2) = true := decide_eq_true (by omega)
    have HV : Hid (playE ls = 2) := Lib.hid (by unfold playE; rw [decide_eq_false (show ¬ 2 ≤ (ls.length : Int) by omega)]; simp [firstI, unlessI])
    rw [HV.out]
    go_enter Tryz.func15, Tryz.ntmps15
    go_wp2
    go_ret
    exact ⟨rfl, 0, rfl⟩
  · have d2 : decide ((ls.length : Int) < 2) = false := decide_eq_false (by omega)
    by_cases h200 : 200 < ls.length
    · have d3 : decide ((200 : Int) < (ls.length : Int)) = true := decide_eq_true (by omega)
      have HV : Hid (playE ls = 5) := Lib.hid (by unfold playE; rw [decide_eq_true (show 2 ≤ (ls.length : Int) by omega), decide_eq_false (show ¬ (ls.length : Int) ≤ 200 by omega)]; simp [firstI, unlessI])
      rw [HV.out]
      go_enter Tryz.func15, Tryz.ntmps15
      go_wp2
      go_ret
      exact ⟨rfl, 0, rfl⟩
    · have d3 : decide ((200 : Int) < (ls.length : Int)) = false := decide_eq_false (by omega)
      have HV : Hid (playE ls = listsI playC ls) := Lib.hid (by
        unfold playE
        rw [decide_eq_true (show 2 ≤ (ls.length : Int) by omega), decide_eq_true (show (ls.length : Int) ≤ 200 by omega)]
        show firstI [listsI playC ls] = _
        unfold firstI
        by_cases g3 : listsI playC ls = 0
        · rw [if_pos g3, g3]; rfl
        · rw [if_neg g3])
      rw [HV.out]
      clear HV
      have HRES : Hid (firstI (ls.map (lineI playC (ls.getD 0 []).length)) = listsI playC ls) := Lib.hid rfl
      generalize listsI playC ls = res at HRES
      have h0 : 0 < ls.length := by omega
      obtain ⟨a, B0, c0, rfl, z0, _, _, _⟩ := H.out 0 h0
      rw [Addr.add_zero'] at z0
      have HN0 : Hid ((ls.getD 0 []).length = (ls.getD 0 []).length) := Lib.hid rfl
      generalize hn0 : (ls.getD 0 []).length = n0 at z0 HRES
      clear hn0 HN0
      go_enter Tryz.func15, Tryz.ntmps15
      go_wp2
      go_loopw [3] (fun i w' => ∃ k n : Nat, k ≤ ls.length ∧ w' = w.drewN n ∧ i = .int .i64 k ∧ firstI ((ls.drop k).map (lineI playC n0)) = res) (fun i _ => ls.length - (intOf i).toNat)
      case atStart => exact ⟨0, 0, Nat.zero_le _, rfl, rfl, HRES.out⟩
      case round =>
        obtain ⟨k, n, hk, rfl, rfl, he⟩ := hrel
        by_cases hlt : k < ls.length
        · obtain ⟨a', B, cc, ha', y0, _, _, hints⟩ := H.out k hlt
          cases ha'
          rw [lines_drop _ ls k hlt, lineP_if] at he
          have HE := Lib.hid he
          have HI := Lib.hid hints
          have hk0 : (0 : Int) ≤ (k : Int) := Int.natCast_nonneg _
          have hk1 : (k : Int) < (ls.length : Int) := by omega
          have hk200 : (k : Int) < 200 := by omega
          clear he hints
          generalize ls.getD k [] = y at y0 HE HI
          by_cases g1 : y.length = 0
          · have hr : Hid (res = 12) := Lib.hid (by have := HE.out; rw [if_pos g1] at this; simpa using this.symm)
            have e1 : ((y.length : Int) == 0) = true := by rw [beq_iff_eq]; omega
            go_wp2
            go_ret
            exact ⟨by rw [hr.out]; rfl, n, rfl⟩
          · have e1 : ((y.length : Int) == 0) = false := by rw [beq_eq_false_iff_ne]; omega
            by_cases g2 : 36 < y.length
            · have hr : Hid (res = 5) := Lib.hid (by have := HE.out; rw [if_neg g1, if_pos g2] at this; simpa using this.symm)
              have e2 : decide ((36 : Int) < (y.length : Int)) = true := decide_eq_true (by omega)
              go_wp2
              go_ret
              exact ⟨by rw [hr.out]; rfl, n, rfl⟩
            · have e2 : decide ((36 : Int) < (y.length : Int)) = false := decide_eq_false (by omega)
              have HE2 := Lib.hid (by have := HE.out; rwa [if_neg g1, if_neg g2] at this)
              clear HE
              obtain ⟨R, hR⟩ : ∃ R, eachI y 1 99 = R := ⟨_, rfl⟩
              have HR := Lib.hid hR
              have HE3 := Lib.hid (by have := HE2.out; rwa [hR] at this)
              clear hR HE2
              have hy36 : (y.length : Int) ≤ 36 := by omega
              go_wp2
              go_loopw [4] (fun jv w' => ∃ j n2 : Nat, j ≤ y.length ∧ w' = w.drewN n2 ∧ jv = .int .i64 j ∧ eachI (y.drop j) 1 99 = R) (fun jv _ => y.length - (intOf jv).toNat)
              case atStart => exact ⟨0, n, Nat.zero_le _, rfl, rfl, HR.out⟩
              case round =>
                obtain ⟨j, n2, hj, rfl, rfl, hd⟩ := hrel
                by_cases hjl : j < y.length
                · obtain ⟨b, rfl, _, q0⟩ := HI.out j hjl
                  obtain ⟨s1, s2⟩ := eachI_step y 1 99 j hjl R hd
                  have hj0 : (0 : Int) ≤ (j : Int) := Int.natCast_nonneg _
                  have hj1 : (j : Int) < (y.length : Int) := by omega
                  generalize y.getD j 0 = x at q0 s1 s2
                  have HS1 := Lib.hid s1
                  have HS2 := Lib.hid s2
                  clear s1 s2 hd
                  by_cases gx1 : x < 1
                  · have t1 : decide (x < 1) = true := decide_eq_true gx1
                    have hr3 : Hid (res = 3) := Lib.hid (by
                      have h3 := HS2.out (by omega)
                      have := HE3.out
                      rw [h3] at this
                      simpa using this.symm)
                    go_wp2
                    go_ret
                    exact ⟨by rw [hr3.out]; rfl, n2, rfl⟩
                  · have t1 : decide (x < 1) = false := decide_eq_false gx1
                    by_cases gx2 : 99 < x
                    · have t2 : decide (99 < x) = true := decide_eq_true gx2
                      have hr3 : Hid (res = 3) := Lib.hid (by
                        have h3 := HS2.out (by omega)
                        have := HE3.out
                        rw [h3] at this
                        simpa using this.symm)
                      go_wp2
                      go_ret
                      exact ⟨by rw [hr3.out]; rfl, n2, rfl⟩
                    · have t2 : decide (99 < x) = false := decide_eq_false gx2
                      have HN := Lib.hid (HS1.out (by omega))
                      go_wp2
                      go_round
                      case rel => exact ⟨j + 1, n2, by omega, rfl, by go_num, HN.out⟩
                      case measure => simp [intOf]; omega
                · have hjn : ¬ (j : Int) < (y.length : Int) := by omega
                  have hR0 : R = 0 := by rw [← hd, List.drop_of_length_le (by omega)]; rfl
                  subst hR0
                  have HE4 : Hid ((if (if y.length = n0 then (0 : Int) else 2) = 0 then firstI ((ls.drop (k + 1)).map (lineI playC n0)) else (if y.length = n0 then 0 else 2)) = res) := Lib.hid (by have h3 := HE3.out; simpa using h3)
                  clear HE3 hd
                  by_cases g4 : y.length = n0
                  · have e4 : ((y.length : Int) != (n0 : Int)) = false := by rw [g4]; simp
                    have HE5 := Lib.hid (by have h5 := HE4.out; rwa [if_pos g4, if_pos rfl] at h5)
                    clear HE4 g4
                    go_wp2
                    go_quiet (fail)
                    go_wp2
                    go_round
                    case rel => exact ⟨k + 1, n2 + nq, by omega, by first | rfl | rw [World.drewN_drewN], by go_num, HE5.out⟩
                    case measure => simp [intOf]; omega
                  · have e4 : ((y.length : Int) != (n0 : Int)) = true := by rw [bne_iff_ne]; omega
                    have hr2 : Hid (res = 2) := Lib.hid (by have := HE4.out; rw [if_neg g4] at this; simpa using this.symm)
                    go_wp2
                    go_quiet (fail)
                    go_wp2
                    go_ret
                    exact ⟨by rw [hr2.out]; rfl, n2 + nq, by first | rfl | rw [World.drewN_drewN]⟩
        · have hr : Hid (res = 0) := Lib.hid (by rw [List.drop_of_length_le (by omega)] at he; exact he.symm)
          have hkn : ¬ (k : Int) < (ls.length : Int) := by omega
          go_wp2
          go_ret
          exact ⟨by rw [hr.out]; rfl, n, rfl⟩
end Go.Proofs.YtfpehblofokheaaGreatDoor
