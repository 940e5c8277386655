/- The reference's Countback. -/
import Derived.Test.YtfpehblofokheaaGreatDoorTieL
import Derived.Outline
set_option linter.unusedVariables false
set_option linter.unusedSimpArgs false
namespace Go.Proofs.YtfpehblofokheaaGreatDoor
open Go.RowKit

set_option maxRecDepth 100000 in
set_option maxHeartbeats 2000000 in
theorem refCountback_any (A B : Option Addr) (c d : Nat) (xa xb : List Int) (w : World) (ha : IntsAt w w.heap.size A xa) (hb : IntsAt w w.heap.size B xb) (hab : xa.length = xb.length) (h0 : 0 < xa.length) (hl : xa.length ≤ 1000) (sa : SmallI xa) (sb : SmallI xb) :
    Calls Tryz.prog 95 #[.slice A xa.length c, .slice B xb.length d] w fun e w' => e = .returned (.int .i64 (ForMath.cback xa xb)) ∧ Below w.heap.size w w' := by
  have HA := Lib.hid ha
  have HB := Lib.hid hb
  have HAB := Lib.hid hab
  have HD : Hid (ForMath.cbGo xa xb (lasts xa.length) = ForMath.cback xa xb) := Lib.hid rfl
  have HSA := Lib.hid sa
  have HSB := Lib.hid sb
  clear ha hb hab sa sb
  go_enter Tryz.func95, Tryz.ntmps95
  go_wp2
  go_loopw [6] (fun i w' => ∃ k : Nat, k ≤ 5 ∧ i = .int .i64 k ∧ ForMath.cbGo xa xb ((lasts xa.length).drop k) = ForMath.cbGo xa xb (lasts xa.length) ∧ RowI w' w.heap.size [(xa.length : Int), 9, 6, 3, 1] ∧ Below w.heap.size w w') (fun i _ => 5 - (intOf i).toNat)
  case atStart => exact ⟨0, by omega, rfl, rfl, RowI.new w [(xa.length : Int), 9, 6, 3, 1], (Below.refl _ _).alloc (Nat.le_refl _) _⟩
  case round =>
    obtain ⟨k, hk, rfl, hg, hrow, hbel⟩ := hrel
    have HG := Lib.hid hg
    have HROW := Lib.hid hrow
    have HBEL := Lib.hid hbel
    clear hg hbel
    by_cases hlt : k < 5
    · have c0 := hrow.cell (j := k) hlt
      rw [lasts_at _ _ hlt] at c0
      have HS := Lib.hid (cbGo_drop xa xb (lasts xa.length) k hlt)
      clear hrow
      generalize (lasts xa.length).getD k 0 = m at c0 HS
      by_cases hgt : xa.length < m
      · go_wp2
        go_roundw
        case rel => exact ⟨k + 1, by omega, by go_num, by rw [← HG.out, HS.out, if_pos hgt], HROW.out, HBEL.out⟩
        case measure => simp [intOf]; omega
      · have hgti : decide ((xa.length : Int) < (m : Int)) = false := decide_eq_false (by omega)
        have HSUMA := Lib.hid (fun (W : World) (hW : Below w.heap.size w W) => refLast_any A c m xa W (HA.out.below hW).ints HSA.out hl (by omega))
        have HSUMB := Lib.hid (fun (W : World) (hW : Below w.heap.size w W) => refLast_any B d m xb W (HB.out.below hW).ints HSB.out (by have := HAB.out; omega) (by have := HAB.out; omega))
        rw [if_neg hgt] at HS
        generalize ForMath.lastSum xa m = sx at HSUMA HS
        generalize ForMath.lastSum xb m = sy at HSUMB HS
        by_cases g1 : sx < sy
        · have HE : Hid (ForMath.cbGo xa xb ((lasts xa.length).drop k) = -1) := Lib.hid (by rw [HS.out]; unfold cmpI; simp [g1])
          go_wp2
          go_quiet ((go_at_call 143; first | with_reducible exact quiet_w (HSUMA.out _ (below_drewN HBEL.out _)) | with_reducible exact quiet_w (HSUMB.out _ (below_drewN HBEL.out _))))
          all_goals
            go_wp2
            go_ret
            exact ⟨by rw [← HD.out, ← HG.out, HE.out]; rfl, below_drewN HBEL.out _⟩
        · by_cases g2 : sy < sx
          · have HE : Hid (ForMath.cbGo xa xb ((lasts xa.length).drop k) = 1) := Lib.hid (by
              have g3 : ¬ sx = sy := by omega
              rw [HS.out]; unfold cmpI; simp [g1, g3])
            go_wp2
            go_quiet ((go_at_call 143; first | with_reducible exact quiet_w (HSUMA.out _ (below_drewN HBEL.out _)) | with_reducible exact quiet_w (HSUMB.out _ (below_drewN HBEL.out _))))
            all_goals
              go_wp2
              go_ret
              exact ⟨by rw [← HD.out, ← HG.out, HE.out]; rfl, below_drewN HBEL.out _⟩
          · have HE : Hid (ForMath.cbGo xa xb ((lasts xa.length).drop (k + 1)) = ForMath.cbGo xa xb (lasts xa.length)) := Lib.hid (by
              have g3 : sx = sy := by omega
              rw [← HG.out, HS.out]; unfold cmpI; simp [g3])
            go_wp2
            go_quiet ((go_at_call 143; first | with_reducible exact quiet_w (HSUMA.out _ (below_drewN HBEL.out _)) | with_reducible exact quiet_w (HSUMB.out _ (below_drewN HBEL.out _))))
            all_goals
              go_wp2
              go_roundw
              case rel => exact ⟨k + 1, by omega, by go_num, HE.out, HROW.out.drewN _, below_drewN HBEL.out _⟩
              case measure => simp [intOf]; omega
    · have HZ : Hid (ForMath.cback xa xb = 0) := Lib.hid (by rw [← HD.out, ← HG.out, show k = 5 by omega]; rfl)
      go_wp2
      go_ret
      exact ⟨by rw [HZ.out]; rfl, HBEL.out⟩
end Go.Proofs.YtfpehblofokheaaGreatDoor
