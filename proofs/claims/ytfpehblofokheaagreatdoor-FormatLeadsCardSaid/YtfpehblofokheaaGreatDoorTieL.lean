/- The reference's Last. -/
import Derived.Test.YtfpehblofokheaaGreatDoorMgG
import Derived.Outline
set_option linter.unusedVariables false
set_option linter.unusedSimpArgs false
namespace Go.Proofs.YtfpehblofokheaaGreatDoor
open Go.RowKit

set_option maxRecDepth 100000 in
set_option maxHeartbeats 1000000 in
theorem refLast_any (A : Option Addr) (c n : Nat) (xs : List Int) (w : World) (h : Ints w A xs) (hs : SmallI xs) (hl : xs.length ≤ 1000) (hn : n ≤ xs.length) :
    Calls Tryz.prog 143 #[.slice A xs.length c, .int .i64 n] w fun e w' => e = .returned (.int .i64 (ForMath.lastSum xs n)) ∧ w = w' := by
  have H := Lib.hid h
  obtain ⟨b, hb⟩ : ∃ b, b + n = xs.length := ⟨xs.length - n, by omega⟩
  have hw0 : IntKind.i64.wrap ((xs.length : Int) - (n : Int)) = (b : Int) := by rw [IntWalk.i64_in _ (by omega)]; omega
  have HV : Hid (ForMath.lastSum xs n = ForMath.sumI (xs.drop b)) := Lib.hid (by unfold ForMath.lastSum; rw [show xs.length - n = b by omega])
  have HYL : Hid ((xs.drop b).length = n) := Lib.hid (by rw [List.length_drop]; omega)
  have HYS := Lib.hid (hs.drop b)
  have HYA := Lib.hid (fun j (hj : j < n) => show xs.getD (b + j) 0 = (xs.drop b).getD j 0 by simp [List.getD, List.getElem?_drop])
  rw [HV.out]
  generalize xs.drop b = ys at HYL HYS HYA ⊢
  have HB := Lib.hid hb
  have hbn : b ≤ 1000 := by omega
  have hnn : n ≤ 1000 := by omega
  clear h hs hb HV
  go_enter Tryz.func143, Tryz.ntmps143
  go_wp2
  go_loop [5, 6] (fun t i => ∃ j : Nat, j ≤ n ∧ i = .int .i64 ((b + j : Nat) : Int) ∧ t = .int .i64 (ForMath.sumI (ys.take j))) (fun _ i => xs.length - (intOf i).toNat)
  case atStart => exact ⟨0, Nat.zero_le _, rfl, rfl⟩
  case round =>
    obtain ⟨j, hj, rfl, rfl⟩ := hrel
    by_cases hlt : j < n
    · have hbj : b + j < xs.length := by have := HB.out; omega
      obtain ⟨a, rfl, d0⟩ := H.out (b + j) hbj
      rw [HYA.out j hlt] at d0
      have hyj : j < ys.length := by rw [HYL.out]; exact hlt
      have hkb := HYS.out.at j hyj
      have HT := Lib.hid (sumI_take ys j hyj)
      have hsb := sumI_take_bound ys j (by rw [HYL.out]; omega) HYS.out
      generalize ys.getD j 0 = x at d0 hkb HT
      generalize ForMath.sumI (ys.take j) = t at hsb HT
      have hwr : IntKind.i64.wrap (t + x) = t + x := IntWalk.i64_in _ (by omega)
      generalize hi : b + j = i at d0 hbj ⊢
      have HI := Lib.hid hi
      have hi1 : i ≤ 2000 := by omega
      have hi0 : (0 : Int) ≤ (i : Int) := Int.natCast_nonneg _
      have hi2 : (i : Int) < (xs.length : Int) := by omega
      clear hyj hi
      go_wp2
      go_round
      case rel => exact ⟨j + 1, by omega, by have := HI.out; go_num, by rw [HT.out]⟩
      case measure => simp [intOf]; omega
    · have hji : b + j = xs.length := by have := HB.out; omega
      rw [hji]
      have HK : Hid (ForMath.sumI (ys.take j) = ForMath.sumI ys) := Lib.hid (by rw [List.take_of_length_le (by rw [HYL.out]; omega)])
      clear hji
      go_wp2
      go_ret
      exact ⟨by show Ending.returned (.int .i64 (ForMath.sumI (ys.take j))) = _; rw [HK.out], rfl⟩

end Go.Proofs.YtfpehblofokheaaGreatDoor
