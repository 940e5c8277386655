/- slices.SortStableFunc of at most 19 leaders: an insertion sort, which leaves the classes of the ranks. -/
import Derived.Test.YtfpehblofokheaaGreatDoorLedR
import Derived.Test.YtfpehblofokheaaGreatDoorMgE
import Derived.IntWalk
import Derived.BigQuiet
import Derived.Deep.QuietTactic
import Derived.Outline
set_option linter.unusedVariables false
set_option linter.unusedSimpArgs false
namespace Go.Proofs.YtfpehblofokheaaGreatDoor
open Go.RowKit

set_option maxHeartbeats 1000000 in
theorem cmpLed_any (p1 r1 p2 r2 : Int) (w : World) :
    Calls Tryz.prog 87 #[.agg #[.int .i64 p1, .int .i64 r1], .agg #[.int .i64 p2, .int .i64 r2]] w fun e w' => e = .returned (.int .i64 (cmpI r1 r2)) ∧ Below w.heap.size w w' := by
  go_enter Tryz.func87, Tryz.ntmps87
  go_wp2_with fail
  refine (compareInt_any _ _ _).mono ?_
  rintro e w1 ⟨rfl, rfl⟩
  go_wp2
  go_ret
  exact ⟨rfl, ((Below.refl _ _).alloc (Nat.le_refl _) _).alloc (by simp) _⟩

theorem belowQ {B : Nat} {a w : World} (h : Below B a w) (k : Nat) : Below B a (w.drewN k) := ⟨h.os, h.tape, h.output, h.size, h.block⟩

set_option maxRecDepth 100000 in
set_option maxHeartbeats 4000000 in
theorem insertLed_any (g cap B : Nat) (l : List (Int × Int)) (rest : List Value) (w : World) (h : LdR w g l rest) (h1 : 1 ≤ l.length) (hl : l.length ≤ 19) (hr : ∀ y ∈ l, 1 ≤ y.2 ∧ y.2 ≤ ((l.length : Nat) : Int)) (hB : B ≤ g) :
    Calls Tryz.prog 170 #[.slice (some ⟨g, 0, none⟩) l.length cap, .int .i64 0, .int .i64 (l.length : Int), .func (.func 87) #[] #[]] w fun e w' => e = .returned (.tuple #[]) ∧ LdR w' g (clsL l.length l) rest ∧ Below B w w' := by
  have HROW := Lib.hid h
  have HR0 := Lib.hid hr
  have HBG := Lib.hid hB
  have HBW : Hid (B ≤ w.heap.size) := Lib.hid (by have := h.lt; omega)
  clear h hr
  go_enter Tryz.func170, Tryz.ntmps170
  go_wp2
  go_loopw [8, 9] (fun iv _ w' => ∃ i : Nat, 1 ≤ i ∧ i ≤ l.length ∧ iv = .int .i64 i ∧ LdR w' g (clsL l.length (l.take i) ++ l.drop i) rest ∧ Below B w w') (fun iv _ _ => l.length - (intOf iv).toNat)
  case atStart => exact ⟨1, Nat.le_refl _, h1, rfl, HROW.out.eq_ (cls_start l.length l HR0.out).symm, Below.refl _ _⟩
  case round =>
    obtain ⟨i, hi1, hi2, rfl, hr, hb⟩ := hrel
    have HR := Lib.hid hr
    have HB := Lib.hid hb
    clear hr hb HROW
    have hi0 : (0 : Int) ≤ (i : Int) := Int.natCast_nonneg _
    by_cases hlt : i < l.length
    · have hil : (i : Int) < (l.length : Int) := by omega
      have HPL := Lib.hid (cls_take l.length l HR0.out i (by omega))
      have HNX := Lib.hid (fun k => cls_next l.length l (0, 0) HR0.out i k hlt)
      have HTOP := Lib.hid (HR.out.eq_ (cls_top l.length l (0, 0) HR0.out i hlt))
      have HTL : Hid ((l.drop (i + 1)).length + (i + 1) = l.length) := Lib.hid (by simp; omega)
      clear HR
      generalize hP : clsL l.length (l.take i) = P at HPL HNX HTOP
      generalize hX : l.getD i (0, 0) = x at HNX HTOP
      generalize hT : l.drop (i + 1) = T at HNX HTOP HTL
      have HT := Lib.hid hT
      clear hT hP hX
      obtain ⟨px, rx⟩ := x
      simp only at HNX
      go_wp2
      go_loopw [9] (fun kv w' => ∃ k : Nat, k ≤ i ∧ kv = .int .i64 k ∧ LdR w' g (insQ P (px, rx) T k) rest ∧ (∀ y ∈ P.drop k, rx < y.2) ∧ Below B w w') (fun kv _ => (intOf kv).toNat)
      case atStart => exact ⟨i, Nat.le_refl _, rfl, HTOP.out.eq_ (by rw [← HPL.out]), by rw [List.drop_of_length_le (by rw [HPL.out]; omega)]; simp, HB.out⟩
      case round =>
        obtain ⟨k, hk, rfl, hr, hgt, hb⟩ := hrel
        have HR := Lib.hid hr
        have HB3 := Lib.hid hb
        have HGT := Lib.hid hgt
        clear hr hb hgt HTOP HB
        rcases Nat.eq_zero_or_pos k with hk0 | hk0
        · subst hk0
          have hg0 : decide ((0 : Int) < ((0 : Nat) : Int)) = false := rfl
          go_wp2
          go_quiet (fail)
          go_wp2
          go_round
          case rel => exact ⟨i + 1, by omega, by omega, by go_num, (HR.out.eq_ ((HNX.out 0 (Nat.zero_le _) HGT.out (.inl rfl)).trans (by rw [HT.out]))).drewN _, belowQ HB3.out _⟩
          case measure => simp [intOf]; omega
        · obtain ⟨m, rfl⟩ : ∃ m, k = m + 1 := ⟨k - 1, by omega⟩
          have hlen : (insQ P (px, rx) T (m + 1)).length = l.length := by rw [insQ_len, HPL.out]; have := HTL.out; omega
          obtain ⟨c1, c2⟩ := HR.out.cells (j := m + 1) (by omega)
          obtain ⟨c3, c4⟩ := HR.out.cells (j := m) (by omega)
          rw [insQ_at (0, 0) P (px, rx) T (m + 1) (by rw [HPL.out]; omega)] at c1 c2
          rw [insQ_below (0, 0) P (px, rx) T m (by rw [HPL.out]; omega)] at c3 c4
          have hp1 : (0 : Int) < ((m + 1 : Nat) : Int) := by omega
          have hd1 : decide ((0 : Int) < ((m + 1 : Nat) : Int)) = true := decide_eq_true hp1
          have hp2 : ((m + 1 : Nat) : Int) < (l.length : Int) := by omega
          have hp3 : (0 : Int) ≤ ((m + 1 : Nat) : Int) := by omega
          have hw1 : IntKind.i64.wrap (((m + 1 : Nat) : Int) - 1) = (m : Int) := by rw [IntWalk.i64_in _ (by omega)]; omega
          have hp4 : (0 : Int) ≤ (m : Int) := Int.natCast_nonneg _
          have hq3 : (0 : Int) ≤ (m : Int) + 1 := by omega
          have hq2 : (m : Int) + 1 < (l.length : Int) := by omega
          have hq1 : IntKind.i64.wrap ((m : Int) + 1 - 1) = (m : Int) := by rw [IntWalk.i64_in _ (by omega)]; omega
          have hq5 : IntKind.i64.wrap (m : Int) = (m : Int) := IntWalk.i64_in _ (by omega)
          have hp5 : (m : Int) < (l.length : Int) := by omega
          have HSE := Lib.hid (insQ_swap (0, 0) P (px, rx) T m (by rw [HPL.out]; omega))
          have HDR : Hid (∀ y ∈ P.drop m, y = P.getD m (0, 0) ∨ y ∈ P.drop (m + 1)) := Lib.hid (fun y hy => by
            rw [List.drop_eq_getElem_cons (by rw [HPL.out]; omega)] at hy
            rcases List.mem_cons.1 hy with rfl | h
            · left; simp [List.getD, List.getElem?_eq_getElem (show m < P.length by rw [HPL.out]; omega)]
            · exact .inr h)
          have HNX2 := Lib.hid (fun h => HNX.out (m + 1) hk HGT.out (.inr (by rw [Nat.add_sub_cancel]; exact h)))
          have HYD := Lib.hid (insQ_below (0, 0) P (px, rx) T m (by rw [HPL.out]; omega))
          have HXD := Lib.hid (insQ_at (0, 0) P (px, rx) T (m + 1) (by rw [HPL.out]; omega))
          generalize hY : P.getD m (0, 0) = y at c3 c4 HSE HDR HNX2 HYD
          clear hY
          obtain ⟨py, ry⟩ := y
          simp only at c1 c2 c3 c4 HNX2
          have HC := Lib.hid (fun W => cmpLed_any px rx py ry W)
          go_wp2
          refine region_still_tail 14 (by kernel_rfl) (by kernel_rfl) ?_
          simp only [List.take_succ_cons, List.take_zero, List.drop_succ_cons, List.drop_zero]
          iterate 14 still_step
          refine wpStill_nil ?_
          go_wp2_with fail
          refine (HC.out _).mono ?_
          rintro e w3 ⟨rfl, hb3⟩
          have hbq : Below wr.heap.size wr w3 := (Below.refl _ _).drew.trans hb3
          have HRQ := Lib.hid (HR.out.below hbq HR.out.lt)
          have HBQ := Lib.hid (HB3.out.trans (hbq.mono (Nat.le_trans HBW.out HB3.out.size)))
          clear hb3 hbq c1 c2 c3 c4
          by_cases hlt2 : rx < ry
          · have HGT2 : Hid (∀ y ∈ P.drop m, rx < y.2) := Lib.hid (fun y hy => by
              rcases HDR.out y hy with rfl | h
              · exact hlt2
              · exact HGT.out y h)
            have hcm : decide (cmpI rx ry < 0) = true := decide_eq_true (by unfold cmpI; rw [if_pos hlt2]; decide)
            generalize cmpI rx ry = z at hcm ⊢
            obtain ⟨e1, e2⟩ := HRQ.out.cells (j := m + 1) (by omega)
            obtain ⟨e3, e4⟩ := HRQ.out.cells (j := m) (by omega)
            rw [HXD.out] at e1 e2
            rw [HYD.out] at e3 e4
            simp only at e1 e2 e3 e4
            have f1 := HRQ.out.frozen ((m + 1) * 2)
            have f2 := HRQ.out.frozen ((m + 1) * 2 + 1)
            have f3 := HRQ.out.frozen (m * 2)
            have f4 := HRQ.out.frozen (m * 2 + 1)
            have HSW := Lib.hid ((HRQ.out.set (k := m + 1) (by omega) py ry).set (k := m) (by simp; omega) px rx)
            go_wp2
            go_region
            have HRS := Lib.hid (HSW.out.eq_ HSE.out).drew
            have HBS := Lib.hid ((((HBQ.out.setCell (p := ⟨g, (m + 1) * 2, none⟩) HBG.out (.int .i64 py)).setCell (p := ⟨g, (m + 1) * 2 + 1, none⟩) HBG.out (.int .i64 ry)).setCell (p := ⟨g, m * 2, none⟩) HBG.out (.int .i64 px)).setCell (p := ⟨g, m * 2 + 1, none⟩) HBG.out (.int .i64 rx)).drew
            generalize hWS : ((((w3.setCell ⟨g, (m + 1) * 2, none⟩ (.int .i64 py)).setCell ⟨g, (m + 1) * 2 + 1, none⟩ (.int .i64 ry)).setCell ⟨g, m * 2, none⟩ (.int .i64 px)).setCell ⟨g, m * 2 + 1, none⟩ (.int .i64 rx)).drew = WS at HRS HBS ⊢
            clear hWS
            go_wp2
            go_round
            case rel => exact ⟨m, by omega, by go_num, HRS.out, HGT2.out, HBS.out⟩
            case measure => simp [intOf]
          · have HNX3 := Lib.hid (HNX2.out (by omega))
            have hcm : decide (cmpI rx ry < 0) = false := decide_eq_false (by unfold cmpI; split <;> (try split) <;> omega)
            generalize cmpI rx ry = z at hcm ⊢
            go_wp2
            go_round
            case rel => exact ⟨i + 1, by omega, by omega, by go_num, HRQ.out.eq_ (HNX3.out.trans (by rw [HT.out])), HBQ.out⟩
            case measure => simp [intOf]; omega
    · have hil : ¬ (i : Int) < (l.length : Int) := by omega
      go_wp2
      refine bodyPost_end (results_none rfl _ _ _) rfl ?_
      exact ⟨rfl, HR.out.eq_ (cls_all l.length l i (by omega)), HB.out⟩

set_option maxRecDepth 100000 in
set_option maxHeartbeats 1000000 in
theorem sortLed_any (g cap B : Nat) (l : List (Int × Int)) (rest : List Value) (w : World) (h : LdR w g l rest) (h1 : 1 ≤ l.length) (hl : l.length ≤ 19) (hr : ∀ y ∈ l, 1 ≤ y.2 ∧ y.2 ≤ ((l.length : Nat) : Int)) (hB : B ≤ g) :
    Calls Tryz.prog 86 #[.slice (some ⟨g, 0, none⟩) l.length cap, .func (.func 87) #[] #[]] w fun e w' => e = .returned (.tuple #[]) ∧ LdR w' g (clsL l.length l) rest ∧ Below B w w' := by
  have HI := Lib.hid (insertLed_any g cap B l rest w h h1 hl hr hB)
  have HS : Hid (Calls Tryz.prog 140 #[.slice (some ⟨g, 0, none⟩) l.length cap, .int .i64 (l.length : Int), .func (.func 87) #[] #[]] w fun e w' => e = .returned (.tuple #[]) ∧ LdR w' g (clsL l.length l) rest ∧ Below B w w') := Lib.hid (by
    have hn1 : ¬ (20 : Int) ≤ (l.length : Int) := by omega
    have hn2 : ¬ (20 : Int) < (l.length : Int) := by omega
    clear h hr
    go_enter Tryz.func140, Tryz.ntmps140
    go_wp2
    go_loopw [7, 8] (fun u v w' => u = .int .i64 0 ∧ v = .int .i64 20 ∧ w = w') (fun _ _ _ => 0)
    case atStart => exact ⟨rfl, rfl, rfl⟩
    case round =>
      obtain ⟨rfl, rfl, rfl⟩ := hrel
      go_wp2_with fail
      refine HI.out.mono ?_
      rintro e w1 ⟨rfl, hrow, hb⟩
      have HROW := Lib.hid hrow
      have HB := Lib.hid hb
      clear hrow hb
      go_wp2
      go_loopw [6] (fun v w' => v = .int .i64 20 ∧ w1 = w') (fun _ _ => 0)
      case atStart => exact ⟨rfl, rfl⟩
      case round =>
        obtain ⟨rfl, rfl⟩ := hrel
        go_wp2
        refine bodyPost_end (results_none rfl _ _ _) rfl ?_
        exact ⟨rfl, HROW.out, HB.out⟩)
  clear h hr HI
  go_enter Tryz.func86, Tryz.ntmps86
  go_wp2_with fail
  refine HS.out.mono ?_
  rintro e w1 ⟨rfl, hrow, hb⟩
  have HROW := Lib.hid hrow
  have HB := Lib.hid hb
  clear hrow hb
  go_wp2
  refine bodyPost_end (results_none rfl _ _ _) rfl ?_
  exact ⟨rfl, HROW.out, HB.out⟩

set_option maxRecDepth 100000 in
set_option maxHeartbeats 1000000 in
theorem sortNil_any (A : Option Addr) (c : Nat) (w : World) :
    Calls Tryz.prog 86 #[.slice A 0 c, .func (.func 87) #[] #[]] w fun e w' => e = .returned (.tuple #[]) ∧ w = w' := by
  have HI : Hid (Calls Tryz.prog 170 #[.slice A 0 c, .int .i64 0, .int .i64 0, .func (.func 87) #[] #[]] w fun e w' => e = .returned (.tuple #[]) ∧ w = w') := Lib.hid (by
    go_enter Tryz.func170, Tryz.ntmps170
    go_wp2
    go_loopw [8] (fun v w' => v = .int .i64 1 ∧ w = w') (fun _ _ => 0)
    case atStart => exact ⟨rfl, rfl⟩
    case round =>
      obtain ⟨rfl, rfl⟩ := hrel
      go_wp2
      refine bodyPost_end (results_none rfl _ _ _) rfl ?_
      exact ⟨rfl, rfl⟩)
  have HS : Hid (Calls Tryz.prog 140 #[.slice A 0 c, .int .i64 0, .func (.func 87) #[] #[]] w fun e w' => e = .returned (.tuple #[]) ∧ w = w') := Lib.hid (by
    go_enter Tryz.func140, Tryz.ntmps140
    go_wp2
    go_loopw [7, 8] (fun u v w' => u = .int .i64 0 ∧ v = .int .i64 20 ∧ w = w') (fun _ _ _ => 0)
    case atStart => exact ⟨rfl, rfl, rfl⟩
    case round =>
      obtain ⟨rfl, rfl, rfl⟩ := hrel
      go_wp2_with fail
      refine HI.out.mono ?_
      rintro e w1 ⟨rfl, rfl⟩
      go_wp2
      go_loopw [6] (fun v w' => v = .int .i64 20 ∧ w = w') (fun _ _ => 0)
      case atStart => exact ⟨rfl, rfl⟩
      case round =>
        obtain ⟨rfl, rfl⟩ := hrel
        go_wp2
        refine bodyPost_end (results_none rfl _ _ _) rfl ?_
        exact ⟨rfl, rfl⟩)
  go_enter Tryz.func86, Tryz.ntmps86
  go_wp2_with fail
  refine HS.out.mono ?_
  rintro e w1 ⟨rfl, rfl⟩
  go_wp2
  refine bodyPost_end (results_none rfl _ _ _) rfl ?_
  exact ⟨rfl, rfl⟩
end Go.Proofs.YtfpehblofokheaaGreatDoor
