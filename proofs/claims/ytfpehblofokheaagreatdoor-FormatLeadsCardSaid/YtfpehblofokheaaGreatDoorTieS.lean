/- The law's short for lists of any number. -/
import Derived.Test.YtfpehblofokheaaGreatDoorPreS
import Derived.Test.YtfpehblofokheaaGreatDoorMgG
import Derived.Outline
set_option linter.unusedVariables false
set_option linter.unusedSimpArgs false
namespace Go.Proofs.YtfpehblofokheaaGreatDoor
open Go.RowKit

def shortTB (ls : List (List Int)) : Bool := (decide (ls.length ≤ 8) || (decide (200 < ls.length) && decide (ls.length ≤ 203))) && shortLB ls
set_option maxRecDepth 100000 in
set_option maxHeartbeats 2000000 in
theorem shortT_any (A : Option Addr) (c : Nat) (ls : List (List Int)) (w : World) (h : ListsR w A ls) :
    Calls Tryz.prog 7 #[.slice A ls.length c] w fun e w' => e = .returned (.bool (shortTB ls)) ∧ w = w' := by
  have H := Lib.hid h
  clear h
  by_cases h1 : ls.length ≤ 8 ∨ (200 < ls.length ∧ ls.length ≤ 203)
  · have hl : ls.length ≤ 203 := by omega
    have HV : Hid (shortTB ls = ls.all fun y => decide (y.length ≤ 39)) := Lib.hid (by
      unfold shortTB shortLB
      rcases h1 with g | ⟨g1, g2⟩
      · rw [decide_eq_true g]; rfl
      · rw [decide_eq_true g1, decide_eq_true g2]; simp)
    have b2 : decide ((203 : Int) < (ls.length : Int)) = false := decide_eq_false (by omega)
    have hbb : (decide ((8 : Int) < (ls.length : Int)) = false) ∨ (decide ((8 : Int) < (ls.length : Int)) = true ∧ decide ((ls.length : Int) ≤ 200) = false ∧ decide ((200 : Int) < (ls.length : Int)) = true) := by
      rcases h1 with g | ⟨g1, g2⟩
      · exact .inl (decide_eq_false (by omega))
      · exact .inr ⟨decide_eq_true (by omega), decide_eq_false (by omega), decide_eq_true (by omega)⟩
    generalize shortTB ls = res at HV ⊢
    clear h1
    rcases hbb with b1 | ⟨b1, b3, b4⟩
    all_goals
      go_enter Tryz.func7, Tryz.ntmps7
      go_wp2
      go_loop [20] (fun i => ∃ k : Nat, k ≤ ls.length ∧ i = .int .i64 k ∧ (ls.take k).all (fun y => decide (y.length ≤ 39)) = true) (fun i => ls.length - (intOf i).toNat)
      case atStart => exact ⟨0, Nat.zero_le _, rfl, rfl⟩
      case round =>
        obtain ⟨k, hk, rfl, hall⟩ := hrel
        have HALL := Lib.hid hall
        clear hall
        by_cases hlt : k < ls.length
        · obtain ⟨a, B, cc, rfl, d0, _, _, _⟩ := H.out k hlt
          have HTK : Hid (ls.take (k + 1) = ls.take k ++ [ls.getD k []]) := Lib.hid (by
            rw [List.take_succ_eq_append_getElem hlt]; simp [List.getD, List.getElem?_eq_getElem hlt])
          have HMEM : Hid (ls.getD k [] ∈ ls) := Lib.hid (by simp [List.getD, List.getElem?_eq_getElem hlt])
          generalize ls.getD k [] = y at d0 HTK HMEM
          have hk0 : (0 : Int) ≤ (k : Int) := Int.natCast_nonneg _
          have hk1 : (k : Int) < (ls.length : Int) := by omega
          by_cases hy : y.length ≤ 39
          · have hyi : decide ((39 : Int) < (y.length : Int)) = false := decide_eq_false (by omega)
            have HY := Lib.hid hy
            clear hy
            go_wp2
            go_round
            case rel => exact ⟨k + 1, by omega, by go_num, by rw [HTK.out, List.all_append, HALL.out]; simp [HY.out]⟩
            case measure => simp [intOf]; omega
          · have hyi : decide ((39 : Int) < (y.length : Int)) = true := decide_eq_true (by omega)
            have HY := Lib.hid hy
            clear hy
            go_wp2
            go_ret
            refine ⟨?_, rfl⟩
            rw [HV.out, List.all_eq_false.2 ⟨_, HMEM.out, by simpa using HY.out⟩]
            rfl
        · have hlk : ls.take k = ls := List.take_of_length_le (by omega)
          have HALL2 : Hid (ls.all (fun y => decide (y.length ≤ 39)) = true) := Lib.hid (by have := HALL.out; rwa [hlk] at this)
          clear hlk
          go_wp2
          go_ret
          exact ⟨by rw [HV.out, HALL2.out]; rfl, rfl⟩
  · have HV : Hid (shortTB ls = false) := Lib.hid (by
      unfold shortTB
      rw [show (decide (ls.length ≤ 8) || (decide (200 < ls.length) && decide (ls.length ≤ 203))) = false by
        by_cases g : 200 < ls.length
        · rw [decide_eq_false (show ¬ ls.length ≤ 8 by omega), decide_eq_false (show ¬ ls.length ≤ 203 by omega)]; simp
        · rw [decide_eq_false (show ¬ ls.length ≤ 8 by omega), decide_eq_false g]; rfl]
      rfl)
    rw [HV.out]
    have b1 : decide ((8 : Int) < (ls.length : Int)) = true := decide_eq_true (by omega)
    have hbb : (decide ((ls.length : Int) ≤ 200) = true ∧ decide ((200 : Int) < (ls.length : Int)) = false) ∨ (decide ((ls.length : Int) ≤ 200) = false ∧ decide ((200 : Int) < (ls.length : Int)) = true ∧ decide ((203 : Int) < (ls.length : Int)) = true) := by
      by_cases g : ls.length ≤ 200
      · exact .inl ⟨decide_eq_true (by omega), decide_eq_false (by omega)⟩
      · exact .inr ⟨decide_eq_false (by omega), decide_eq_true (by omega), decide_eq_true (by omega)⟩
    clear h1
    rcases hbb with ⟨b2, b3⟩ | ⟨b2, b3, b4⟩
    all_goals
      go_enter Tryz.func7, Tryz.ntmps7
      go_wp2
      go_ret
      exact ⟨rfl, rfl⟩

end Go.Proofs.YtfpehblofokheaaGreatDoor
