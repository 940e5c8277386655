/- The reference's Ranks. -/
import Derived.Test.YtfpehblofokheaaGreatDoorTieA
import Derived.Test.YtfpehblofokheaaGreatDoorMgG
import Derived.Test.YtfpehblofokheaaGreatDoorMgJ
import Derived.StillTailTactics
import Derived.Outline
set_option linter.unusedVariables false
set_option linter.unusedSimpArgs false
namespace Go.Proofs.YtfpehblofokheaaGreatDoor
open Go.RowKit

set_option maxRecDepth 100000 in
set_option maxHeartbeats 2000000 in
theorem refRanks_any (A : Option Addr) (c n : Nat) (ls : List (List Int)) (w : World) (hls : ListsR w A ls) (al : Alike n ls) (hl : ls.length ≤ 1000) :
    Calls Tryz.prog 48 #[.slice A ls.length c] w fun e w' => ∃ v, e = .returned v ∧ NumOwn w' w.heap.size v (ForMath.ranks ls) ∧ Below w.heap.size w w' := by
  have HLS := Lib.hid hls
  have HAL := Lib.hid al
  have HRL := Lib.hid (ranks_len ls)
  clear hls al
  go_enter Tryz.func48, Tryz.ntmps48
  go_wp2
  go_loopw [3, 4] (fun v i w' => ∃ k : Nat, k ≤ ls.length ∧ i = .int .i64 k ∧ NumOwn w' w.heap.size v ((ForMath.ranks ls).take k) ∧ Below w.heap.size w w') (fun _ i _ => ls.length - (intOf i).toNat)
  case atStart => exact ⟨0, Nat.zero_le _, rfl, World.ownsRow_nil _ _ _ _, Below.refl _ _⟩
  case round =>
    obtain ⟨k, hk, rfl, hown, hb⟩ := hrel
    have HOWN := Lib.hid hown
    have HB := Lib.hid hb
    clear hown hb
    by_cases hlt : k < ls.length
    · have hk0 : (0 : Int) ≤ (k : Int) := Int.natCast_nonneg _
      have hk1 : (k : Int) < (ls.length : Int) := by omega
      have hmemk : ls.getD k [] ∈ ls := by simp [List.getD, List.getElem?_eq_getElem hlt]
      have HMK := Lib.hid hmemk
      have HRK := Lib.hid (ranks_at ls k hlt)
      clear hmemk
      obtain ⟨x, hx⟩ : ∃ x, ls.getD k [] = x := ⟨_, rfl⟩
      rw [hx] at HMK HRK
      have HX := Lib.hid hx
      clear hx
      go_wp2
      go_loopw [5, 6] (fun m j w' => ∃ k2 : Nat, k2 ≤ ls.length ∧ j = .int .i64 k2 ∧ m = .int .i64 (1 + aheadK ls x k2) ∧ NumOwn w' w.heap.size u3 ((ForMath.ranks ls).take k) ∧ Below w.heap.size w w') (fun _ j _ => ls.length - (intOf j).toNat)
      case atStart => exact ⟨0, Nat.zero_le _, rfl, by simp [aheadK, ForMath.ahead], HOWN.out, HB.out⟩
      case round =>
        obtain ⟨k2, hk2, rfl, rfl, hown2, hb2⟩ := hrel
        have HOWN2 := Lib.hid hown2
        have HB2 := Lib.hid hb2
        clear hown2 hb2
        have hab := aheadK_bound ls x k2
        by_cases hlt2 : k2 < ls.length
        · obtain ⟨a, X, cx, rfl, d0, _, _, dx⟩ := (HLS.out.keep HB2.out) k hlt
          obtain ⟨a', Y, cy, ha', e0, _, _, dy⟩ := (HLS.out.keep HB2.out) k2 hlt2
          cases ha'
          rw [HX.out] at d0 dx
          have HT := Lib.hid (aheadK_succ ls x k2 hlt2)
          have hmem2 : ls.getD k2 [] ∈ ls := by simp [List.getD, List.getElem?_eq_getElem hlt2]
          have HC := Lib.hid (refCountback_any Y X cy cx (ls.getD k2 []) x wr.drew dy dx (by rw [HAL.out.len _ hmem2, HAL.out.len _ HMK.out]) (by rw [HAL.out.len _ hmem2]; exact HAL.out.pos) (by rw [HAL.out.len _ hmem2]; exact HAL.out.most) (HAL.out.small _ hmem2) (HAL.out.small _ HMK.out))
          have HO : Hid (one (ls.getD k2 []) x = if ForMath.cback (ls.getD k2 []) x < 0 then 1 else 0) := Lib.hid rfl
          clear hmem2 dx dy
          generalize one (ls.getD k2 []) x = o at HT HO
          generalize aheadK ls x k2 = t at HT hab ⊢
          generalize hcb : ForMath.cback (ls.getD k2 []) x = q at HC HO
          clear hcb
          generalize ls.getD k2 [] = y at e0 HC
          have hj0 : (0 : Int) ≤ (k2 : Int) := Int.natCast_nonneg _
          have hj1 : (k2 : Int) < (ls.length : Int) := by omega
          go_wp2
          refine region_still_tail 8 (by kernel_rfl) (by kernel_rfl) ?_
          simp only [List.take_succ_cons, List.take_zero, List.drop_succ_cons, List.drop_zero]
          iterate 8 still_step
          refine wpStill_nil ?_
          go_wp2_with fail
          refine HC.out.mono ?_
          rintro e w2 ⟨rfl, hb3⟩
          have HB3 := Lib.hid (HB2.out.trans (((Below.refl _ _).drew.trans hb3).mono HB2.out.size))
          have HOWN3 : Hid (NumOwn w2 w.heap.size u3 ((ForMath.ranks ls).take k)) := Lib.hid (HOWN2.out.below ((Below.refl _ _).drew.trans hb3))
          clear hb3
          cases hq : decide (q < 0)
          · have hq2 : ¬ q < 0 := of_decide_eq_false hq
            have HO2 := Lib.hid (by have := HO.out; rwa [if_neg hq2] at this)
            clear hq2
            go_wp2
            go_roundw
            case rel => exact ⟨k2 + 1, by omega, by go_num, by rw [HT.out, HO2.out, Int.add_zero], HOWN3.out, HB3.out⟩
            case measure => simp [intOf]; omega
          · have HO2 := Lib.hid (by have := HO.out; rwa [if_pos (of_decide_eq_true hq)] at this)
            have hwr : IntKind.i64.wrap (1 + t + 1) = 1 + t + 1 := IntWalk.i64_in _ (by omega)
            go_wp2
            go_roundw
            case rel => exact ⟨k2 + 1, by omega, by go_num, by rw [HT.out, HO2.out, Int.add_assoc], HOWN3.out, HB3.out⟩
            case measure => simp [intOf]; omega
        · have hke : (1 + aheadK ls x k2) = (ForMath.ranks ls).getD k 0 := by
            rw [HRK.out]
            unfold rankOf aheadK
            rw [List.take_of_length_le (by omega)]
          rw [hke]
          clear hke hab
          have hkr : k < (ForMath.ranks ls).length := by rw [HRL.out]; exact hlt
          have HTK : Hid ((ForMath.ranks ls).take (k + 1) = (ForMath.ranks ls).take k ++ [(ForMath.ranks ls).getD k 0]) := Lib.hid (by
            rw [List.take_succ_eq_append_getElem hkr]; simp [List.getD, List.getElem?_eq_getElem hkr])
          have ho : wr.ownsRow w.heap.size 3 1 u3 k (((ForMath.ranks ls).take k).map (Value.int .i64)) := by
            have := HOWN2.out
            unfold NumOwn at this
            rwa [List.length_take, Nat.min_eq_left (Nat.le_of_lt hkr)] at this
          generalize (ForMath.ranks ls).getD k 0 = r at HTK ⊢
          obtain ⟨v', w2, hrun, h2, hb2⟩ := append_gen w.heap.size 35 3 (.int .i64 0) 1 8 Tryz.underlying35 info_int rfl (by decide) [.int .i64 r] rfl (by simp [Value.oneCell']) wr u3 k _ HB2.out.size (by omega) (by omega) ho
          have HB3 := Lib.hid (HB2.out.trans hb2)
          have HO : Hid (NumOwn w2 w.heap.size v' ((ForMath.ranks ls).take (k + 1))) := Lib.hid (by
            unfold NumOwn
            rw [List.length_take, Nat.min_eq_left (by omega), HTK.out, List.map_append]
            exact h2)
          have HRUN := Lib.hid hrun
          clear h2 hb2 ho hrun hkr
          go_wp2_with (at_builtin; refine wpList_append_run rfl _ _ 35 rfl _ _ v' w2 rfl rfl HRUN.out ?_)
          go_roundw
          case rel => exact ⟨k + 1, by omega, by go_num, HO.out, HB3.out⟩
          case measure => simp [intOf]; omega
    · have HK : Hid ((ForMath.ranks ls).take k = ForMath.ranks ls) := Lib.hid (List.take_of_length_le (by rw [HRL.out]; omega))
      go_wp2
      go_ret
      exact ⟨_, rfl, by have := HOWN.out; rwa [HK.out] at this, HB.out⟩
end Go.Proofs.YtfpehblofokheaaGreatDoor
