/- FormatTies: the law's walk: four ways, by both checks; and where the lists are too long. -/
import Derived.Test.YtndalbcmmdinhaaGreatDoorTieC
import Derived.Test.YtndalbcmmdinhaaGreatDoorAwkD
import Derived.Outline
set_option linter.unusedVariables false
set_option linter.unusedSimpArgs false
namespace Go.Proofs.YtndalbcmmdinhaaGreatDoor
open Go.RowKit

theorem shortT_len {ls : List (List Int)} (h : shortTB ls = true) : ls.length ≤ 203 ∧ ∀ y ∈ ls, y.length ≤ 39 := by
  unfold shortTB at h
  rw [Bool.and_eq_true] at h
  refine ⟨?_, shortL_len h.2⟩
  have := h.1
  simp at this
  omega
theorem cbI_zero {xa xb : List Int} (h : cbI xa xb = 0) : xa.length = xb.length ∧ 0 < xa.length ∧ xa.length ≤ 36 ∧ SmallI xa ∧ SmallI xb := by
  have h1 := numsI_zero (firstI_zero _ h (numsI xa 36) (by simp))
  have h2 := numsI_zero (firstI_zero _ h (numsI xb 36) (by simp))
  have h3 := firstI_zero _ h (unlessI (decide (xa.length = xb.length)) 2) (by simp)
  have h4 : xa.length = xb.length := by
    by_cases g : xa.length = xb.length
    · exact g
    · rw [decide_eq_false g] at h3; simp [unlessI] at h3
  exact ⟨h4, h1.1, by omega, h1.2.2, h2.2.2⟩


set_option maxRecDepth 100000 in
set_option maxHeartbeats 4000000 in
theorem ties_yy (A B L : Option Addr) (ca cb cl : Nat) (xa xb : List Int) (ls : List (List Int)) (w : World) (ha : IntsAt w w.heap.size A xa) (hb : IntsAt w w.heap.size B xb) (hca : xa.length ≤ ca) (hcb : xb.length ≤ cb) (hls : ListsR w L ls) (l1 : xa.length ≤ 39) (l2 : xb.length ≤ 39) (hs : shortTB ls = true) (h1 : cbI xa xb = 0) (h2 : ranksE ls = 0) :
    Calls Tryz.prog 6 #[.slice A xa.length ca, .slice B xb.length cb, .slice L ls.length cl] w fun e w' => e = .returned (.bool true) ∧ Below w.heap.size w w' := by
  have HSL := Lib.hid (shortT_len hs)
  have HS := Lib.hid (shortT_any L cl ls w hls)
  rw [hs] at HS
  have HCB := Lib.hid (fun W (hw : Below w.heap.size w W) => fmCountback_any A B ca cb xa xb W ((ha.below hw).mono hw.size) ((hb.below hw).mono hw.size) (by omega) (by omega) hca hcb)
  have HNA := Lib.hid (fun W (hw : Below w.heap.size w W) => refNumbers_any A ca W.heap.size xa 36 W ((ha.below hw).mono hw.size) (by omega))
  have HNB := Lib.hid (fun W (hw : Below w.heap.size w W) => refNumbers_any B cb W.heap.size xb 36 W ((hb.below hw).mono hw.size) (by omega))
  have HLS := Lib.hid (fun W (hw : Below w.heap.size w W) => refLists_any L cl ls W (hls.keep hw) (fun y hy => by have := HSL.out.2 y hy; omega))
  rw [show firstI [sizedI ls.length 200, listsI numsC ls] = ranksE ls from rfl] at HLS
  have HQ : Hid (firstI [numsI xa 36, numsI xb 36, unlessI (decide (xa.length = xb.length)) 2] = cbI xa xb) := Lib.hid rfl
  have he : ((xa.length : Int) != (xb.length : Int)) = !(decide (xa.length = xb.length)) := by
    by_cases g : xa.length = xb.length
    · rw [decide_eq_true g, g]; simp
    · rw [decide_eq_false g, Bool.not_false, bne_iff_ne]; omega
  have b1 : decide ((39 : Int) < (xa.length : Int)) = false := decide_eq_false (by omega)
  have b2 : decide ((39 : Int) < (xb.length : Int)) = false := decide_eq_false (by omega)
  obtain ⟨z3, z4, z5, z6, z7⟩ := cbI_zero h1
  have HRC := Lib.hid (fun W (hw : Below w.heap.size w W) => refCountback_any A B ca cb xa xb W ((ha.below hw).mono hw.size) ((hb.below hw).mono hw.size) z3 z4 (by omega) z6 z7)
  rw [show cbR xa xb = (ForMath.cback xa xb, 0) by unfold cbR; rw [if_pos h1]] at HCB
  dsimp only at HCB
  rw [h1] at HQ
  generalize ForMath.cback xa xb = cq at HCB HRC
  have hcq := bne_self_eq_false' cq
  clear z3 z4 z5 z6 z7 h1
  obtain ⟨y1, y2, y3, y4⟩ := ranksE_zero h2
  have HRY := Lib.hid (fun W (hw : Below w.heap.size w W) => fmRanks_yes L cl ls W (hls.keep hw) h2)
  have HRR := Lib.hid (fun W (hw : Below w.heap.size w W) => refRanks_any L cl _ ls W (hls.keep hw) y3 (by omega))
  have HRL := Lib.hid (ranks_len ls)
  rw [h2] at HLS
  generalize ForMath.ranks ls = rk at HRY HRR HRL
  clear y1 y2 y3 y4 h2
  clear ha hb hls hs hca hcb
  generalize decide (xa.length = xb.length) = eq at he HQ
  go_enter Tryz.func6, Tryz.ntmps6
  go_wp2_with fail
  refine HS.out.mono ?_
  rintro e w1 ⟨rfl, rfl⟩
  go_wp2_with fail
  refine (HCB.out _ (Below.refl _ _)).mono ?_
  rintro e w1 ⟨rfl, hb1⟩
  have HB1 := Lib.hid hb1
  clear hb1 HCB HS
  go_wp2_with fail
  refine (HRY.out _ HB1.out).mono ?_
  rintro e w2 ⟨g, rfl, hrow, hg, hb2⟩
  have HROW := Lib.hid hrow
  clear hrow hg HRY
  have HB2 := Lib.hid (HB1.out.trans (hb2.mono HB1.out.size))
  clear hb2 HB1
  go_wp2_with fail
  refine (HNA.out _ HB2.out).mono ?_
  rintro e w3 ⟨rfl, rfl⟩
  go_wp2_with fail
  refine (HNB.out _ HB2.out).mono ?_
  rintro e w3 ⟨rfl, rfl⟩
  go_wp2_with fail
  refine (lawWhen_any _ _ _).mono ?_
  rintro e w3 ⟨rfl, rfl⟩
  rw [Bool.not_not]
  go_wp2_with fail
  refine (lawFirst_any _ _ [_, _, _] _ (by simp) (Ints.three _ _ _ _ _ _ rfl)).mono ?_
  rintro e w3 ⟨rfl, rfl⟩
  rw [HQ.out]
  obtain ⟨w3, hW3⟩ : ∃ w3, w2.alloc (.cells #[.int .i64 (numsI xa 36), .int .i64 (numsI xb 36), .int .i64 (unlessI eq 2)] 3) = w3 := ⟨_, rfl⟩
  rw [hW3]
  have HC3 : Hid (Below w2.heap.size w2 w3) := Lib.hid (by subst hW3; exact (Below.refl _ _).alloc (Nat.le_refl _) _)
  have HB3 := Lib.hid (HB2.out.trans (HC3.out.mono HB2.out.size))
  clear hW3 HNA HNB HQ he
  go_wp2_with fail
  refine (HRC.out _ HB3.out).mono ?_
  rintro e w4 ⟨rfl, hb4⟩
  have HC4 := Lib.hid (HC3.out.trans (hb4.mono HC3.out.size))
  have HB4 := Lib.hid (HB2.out.trans (HC4.out.mono HB2.out.size))
  clear hb4 HRC HC3 HB3
  go_wp2_with fail
  refine (HLS.out _ HB4.out).mono ?_
  rintro e w9 ⟨rfl, n5, rfl⟩
  obtain ⟨w5, hW5⟩ : ∃ w5, w4.drewN n5 = w5 := ⟨_, rfl⟩
  rw [hW5]
  have HC5 : Hid (Below w2.heap.size w2 w5) := Lib.hid (by subst hW5; exact below_drewN HC4.out n5)
  have HB5 := Lib.hid (HB2.out.trans (HC5.out.mono HB2.out.size))
  clear hW5 HLS HC4 HB4
  go_wp2_with fail
  refine (HRR.out _ HB5.out).mono ?_
  rintro e w6 ⟨v, rfl, hown, hb6⟩
  have HC6 := Lib.hid (HC5.out.trans (hb6.mono HC5.out.size))
  have HB6 := Lib.hid (HB2.out.trans (HC6.out.mono HB2.out.size))
  obtain ⟨A6, c6, rfl, _, hints6⟩ := rows_ints hown
  have HI6 := Lib.hid hints6.ints
  have HG6 : Hid (Ints w6 (some ⟨g, 0, none⟩) rk) := Lib.hid ((HROW.out.below HC6.out HROW.out.lt).ints (RowI.lt (HROW.out.below HC6.out HROW.out.lt))).ints
  clear hown hb6 hints6 HRR HC5 HB5
  go_wp2_with fail
  refine (sameInts_any _ _ _ _ rk rk w6 HG6.out HI6.out (by have := HRL.out; have := HSL.out.1; omega)).mono ?_
  rw [decide_eq_true (rfl : rk = rk)]
  rintro e w9 ⟨rfl, n7, rfl⟩
  have HB7 := Lib.hid (below_drewN HB6.out n7)
  go_wp2_with fail
  refine (awake_any _).mono ?_
  rintro e w8 ⟨rfl, hb8⟩
  have HB8 := Lib.hid (HB7.out.trans (hb8.mono HB7.out.size))
  clear hb8
  go_wp2
  go_ret
  exact ⟨rfl, HB8.out⟩

set_option maxRecDepth 100000 in
set_option maxHeartbeats 4000000 in
theorem ties_yn (A B L : Option Addr) (ca cb cl : Nat) (xa xb : List Int) (ls : List (List Int)) (w : World) (ha : IntsAt w w.heap.size A xa) (hb : IntsAt w w.heap.size B xb) (hca : xa.length ≤ ca) (hcb : xb.length ≤ cb) (hls : ListsR w L ls) (l1 : xa.length ≤ 39) (l2 : xb.length ≤ 39) (hs : shortTB ls = true) (h1 : cbI xa xb = 0) (h2 : ranksE ls ≠ 0) :
    Calls Tryz.prog 6 #[.slice A xa.length ca, .slice B xb.length cb, .slice L ls.length cl] w fun e w' => e = .returned (.bool true) ∧ Below w.heap.size w w' := by
  have HSL := Lib.hid (shortT_len hs)
  have HS := Lib.hid (shortT_any L cl ls w hls)
  rw [hs] at HS
  have HCB := Lib.hid (fun W (hw : Below w.heap.size w W) => fmCountback_any A B ca cb xa xb W ((ha.below hw).mono hw.size) ((hb.below hw).mono hw.size) (by omega) (by omega) hca hcb)
  have HNA := Lib.hid (fun W (hw : Below w.heap.size w W) => refNumbers_any A ca W.heap.size xa 36 W ((ha.below hw).mono hw.size) (by omega))
  have HNB := Lib.hid (fun W (hw : Below w.heap.size w W) => refNumbers_any B cb W.heap.size xb 36 W ((hb.below hw).mono hw.size) (by omega))
  have HLS := Lib.hid (fun W (hw : Below w.heap.size w W) => refLists_any L cl ls W (hls.keep hw) (fun y hy => by have := HSL.out.2 y hy; omega))
  rw [show firstI [sizedI ls.length 200, listsI numsC ls] = ranksE ls from rfl] at HLS
  have HQ : Hid (firstI [numsI xa 36, numsI xb 36, unlessI (decide (xa.length = xb.length)) 2] = cbI xa xb) := Lib.hid rfl
  have he : ((xa.length : Int) != (xb.length : Int)) = !(decide (xa.length = xb.length)) := by
    by_cases g : xa.length = xb.length
    · rw [decide_eq_true g, g]; simp
    · rw [decide_eq_false g, Bool.not_false, bne_iff_ne]; omega
  have b1 : decide ((39 : Int) < (xa.length : Int)) = false := decide_eq_false (by omega)
  have b2 : decide ((39 : Int) < (xb.length : Int)) = false := decide_eq_false (by omega)
  obtain ⟨z3, z4, z5, z6, z7⟩ := cbI_zero h1
  have HRC := Lib.hid (fun W (hw : Below w.heap.size w W) => refCountback_any A B ca cb xa xb W ((ha.below hw).mono hw.size) ((hb.below hw).mono hw.size) z3 z4 (by omega) z6 z7)
  rw [show cbR xa xb = (ForMath.cback xa xb, 0) by unfold cbR; rw [if_pos h1]] at HCB
  dsimp only at HCB
  rw [h1] at HQ
  generalize ForMath.cback xa xb = cq at HCB HRC
  have hcq := bne_self_eq_false' cq
  clear z3 z4 z5 z6 z7 h1
  have HRN := Lib.hid (fun W (hw : Below w.heap.size w W) => fmRanks_no L cl ls W (hls.keep hw) (by have := HSL.out.1; omega) (fun y hy => by have := HSL.out.2 y hy; omega) h2)
  generalize ranksE ls = rq at HRN HLS h2
  have hrq := beq_self_eq_true rq
  have hrz : (rq == 0) = false := beq_eq_false_iff_ne.2 h2
  clear h2
  clear ha hb hls hs hca hcb
  generalize decide (xa.length = xb.length) = eq at he HQ
  go_enter Tryz.func6, Tryz.ntmps6
  go_wp2_with fail
  refine HS.out.mono ?_
  rintro e w1 ⟨rfl, rfl⟩
  go_wp2_with fail
  refine (HCB.out _ (Below.refl _ _)).mono ?_
  rintro e w1 ⟨rfl, hb1⟩
  have HB1 := Lib.hid hb1
  clear hb1 HCB HS
  go_wp2_with fail
  refine (HRN.out _ HB1.out).mono ?_
  rintro e w2 ⟨rfl, hb2⟩
  clear HRN
  have HB2 := Lib.hid (HB1.out.trans (hb2.mono HB1.out.size))
  clear hb2 HB1
  go_wp2_with fail
  refine (HNA.out _ HB2.out).mono ?_
  rintro e w3 ⟨rfl, rfl⟩
  go_wp2_with fail
  refine (HNB.out _ HB2.out).mono ?_
  rintro e w3 ⟨rfl, rfl⟩
  go_wp2_with fail
  refine (lawWhen_any _ _ _).mono ?_
  rintro e w3 ⟨rfl, rfl⟩
  rw [Bool.not_not]
  go_wp2_with fail
  refine (lawFirst_any _ _ [_, _, _] _ (by simp) (Ints.three _ _ _ _ _ _ rfl)).mono ?_
  rintro e w3 ⟨rfl, rfl⟩
  rw [HQ.out]
  obtain ⟨w3, hW3⟩ : ∃ w3, w2.alloc (.cells #[.int .i64 (numsI xa 36), .int .i64 (numsI xb 36), .int .i64 (unlessI eq 2)] 3) = w3 := ⟨_, rfl⟩
  rw [hW3]
  have HC3 : Hid (Below w2.heap.size w2 w3) := Lib.hid (by subst hW3; exact (Below.refl _ _).alloc (Nat.le_refl _) _)
  have HB3 := Lib.hid (HB2.out.trans (HC3.out.mono HB2.out.size))
  clear hW3 HNA HNB HQ he
  go_wp2_with fail
  refine (HRC.out _ HB3.out).mono ?_
  rintro e w4 ⟨rfl, hb4⟩
  have HC4 := Lib.hid (HC3.out.trans (hb4.mono HC3.out.size))
  have HB4 := Lib.hid (HB2.out.trans (HC4.out.mono HB2.out.size))
  clear hb4 HRC HC3 HB3
  go_wp2_with fail
  refine (HLS.out _ HB4.out).mono ?_
  rintro e w9 ⟨rfl, n5, rfl⟩
  obtain ⟨w5, hW5⟩ : ∃ w5, w4.drewN n5 = w5 := ⟨_, rfl⟩
  rw [hW5]
  have HC5 : Hid (Below w2.heap.size w2 w5) := Lib.hid (by subst hW5; exact below_drewN HC4.out n5)
  have HB5 := Lib.hid (HB2.out.trans (HC5.out.mono HB2.out.size))
  clear hW5 HLS HC4 HB4
  go_wp2_with fail
  refine (sameInts_any none none 0 0 [] [] w5 (fun j hj => absurd hj (Nat.not_lt_zero _)) (fun j hj => absurd hj (Nat.not_lt_zero _)) (by simp)).mono ?_
  rw [decide_eq_true (rfl : ([] : List Int) = [])]
  rintro e w9 ⟨rfl, n7, rfl⟩
  have HB7 := Lib.hid (below_drewN HB5.out n7)
  go_wp2_with fail
  refine (awake_any _).mono ?_
  rintro e w8 ⟨rfl, hb8⟩
  have HB8 := Lib.hid (HB7.out.trans (hb8.mono HB7.out.size))
  clear hb8
  go_wp2
  go_ret
  exact ⟨rfl, HB8.out⟩

set_option maxRecDepth 100000 in
set_option maxHeartbeats 4000000 in
theorem ties_ny (A B L : Option Addr) (ca cb cl : Nat) (xa xb : List Int) (ls : List (List Int)) (w : World) (ha : IntsAt w w.heap.size A xa) (hb : IntsAt w w.heap.size B xb) (hca : xa.length ≤ ca) (hcb : xb.length ≤ cb) (hls : ListsR w L ls) (l1 : xa.length ≤ 39) (l2 : xb.length ≤ 39) (hs : shortTB ls = true) (h1 : cbI xa xb ≠ 0) (h2 : ranksE ls = 0) :
    Calls Tryz.prog 6 #[.slice A xa.length ca, .slice B xb.length cb, .slice L ls.length cl] w fun e w' => e = .returned (.bool true) ∧ Below w.heap.size w w' := by
  have HSL := Lib.hid (shortT_len hs)
  have HS := Lib.hid (shortT_any L cl ls w hls)
  rw [hs] at HS
  have HCB := Lib.hid (fun W (hw : Below w.heap.size w W) => fmCountback_any A B ca cb xa xb W ((ha.below hw).mono hw.size) ((hb.below hw).mono hw.size) (by omega) (by omega) hca hcb)
  have HNA := Lib.hid (fun W (hw : Below w.heap.size w W) => refNumbers_any A ca W.heap.size xa 36 W ((ha.below hw).mono hw.size) (by omega))
  have HNB := Lib.hid (fun W (hw : Below w.heap.size w W) => refNumbers_any B cb W.heap.size xb 36 W ((hb.below hw).mono hw.size) (by omega))
  have HLS := Lib.hid (fun W (hw : Below w.heap.size w W) => refLists_any L cl ls W (hls.keep hw) (fun y hy => by have := HSL.out.2 y hy; omega))
  rw [show firstI [sizedI ls.length 200, listsI numsC ls] = ranksE ls from rfl] at HLS
  have HQ : Hid (firstI [numsI xa 36, numsI xb 36, unlessI (decide (xa.length = xb.length)) 2] = cbI xa xb) := Lib.hid rfl
  have he : ((xa.length : Int) != (xb.length : Int)) = !(decide (xa.length = xb.length)) := by
    by_cases g : xa.length = xb.length
    · rw [decide_eq_true g, g]; simp
    · rw [decide_eq_false g, Bool.not_false, bne_iff_ne]; omega
  have b1 : decide ((39 : Int) < (xa.length : Int)) = false := decide_eq_false (by omega)
  have b2 : decide ((39 : Int) < (xb.length : Int)) = false := decide_eq_false (by omega)
  rw [show cbR xa xb = (0, cbI xa xb) by unfold cbR; rw [if_neg h1]] at HCB
  dsimp only at HCB
  generalize cbI xa xb = cq at HCB HQ h1
  have hcq := bne_self_eq_false' cq
  have hcz : (cq == 0) = false := beq_eq_false_iff_ne.2 h1
  clear h1
  obtain ⟨y1, y2, y3, y4⟩ := ranksE_zero h2
  have HRY := Lib.hid (fun W (hw : Below w.heap.size w W) => fmRanks_yes L cl ls W (hls.keep hw) h2)
  have HRR := Lib.hid (fun W (hw : Below w.heap.size w W) => refRanks_any L cl _ ls W (hls.keep hw) y3 (by omega))
  have HRL := Lib.hid (ranks_len ls)
  rw [h2] at HLS
  generalize ForMath.ranks ls = rk at HRY HRR HRL
  clear y1 y2 y3 y4 h2
  clear ha hb hls hs hca hcb
  generalize decide (xa.length = xb.length) = eq at he HQ
  go_enter Tryz.func6, Tryz.ntmps6
  go_wp2_with fail
  refine HS.out.mono ?_
  rintro e w1 ⟨rfl, rfl⟩
  go_wp2_with fail
  refine (HCB.out _ (Below.refl _ _)).mono ?_
  rintro e w1 ⟨rfl, hb1⟩
  have HB1 := Lib.hid hb1
  clear hb1 HCB HS
  go_wp2_with fail
  refine (HRY.out _ HB1.out).mono ?_
  rintro e w2 ⟨g, rfl, hrow, hg, hb2⟩
  have HROW := Lib.hid hrow
  clear hrow hg HRY
  have HB2 := Lib.hid (HB1.out.trans (hb2.mono HB1.out.size))
  clear hb2 HB1
  go_wp2_with fail
  refine (HNA.out _ HB2.out).mono ?_
  rintro e w3 ⟨rfl, rfl⟩
  go_wp2_with fail
  refine (HNB.out _ HB2.out).mono ?_
  rintro e w3 ⟨rfl, rfl⟩
  go_wp2_with fail
  refine (lawWhen_any _ _ _).mono ?_
  rintro e w3 ⟨rfl, rfl⟩
  rw [Bool.not_not]
  go_wp2_with fail
  refine (lawFirst_any _ _ [_, _, _] _ (by simp) (Ints.three _ _ _ _ _ _ rfl)).mono ?_
  rintro e w3 ⟨rfl, rfl⟩
  rw [HQ.out]
  obtain ⟨w3, hW3⟩ : ∃ w3, w2.alloc (.cells #[.int .i64 (numsI xa 36), .int .i64 (numsI xb 36), .int .i64 (unlessI eq 2)] 3) = w3 := ⟨_, rfl⟩
  rw [hW3]
  have HC3 : Hid (Below w2.heap.size w2 w3) := Lib.hid (by subst hW3; exact (Below.refl _ _).alloc (Nat.le_refl _) _)
  have HB3 := Lib.hid (HB2.out.trans (HC3.out.mono HB2.out.size))
  clear hW3 HNA HNB HQ he
  go_wp2_with fail
  refine (HLS.out _ HB3.out).mono ?_
  rintro e w9 ⟨rfl, n5, rfl⟩
  obtain ⟨w5, hW5⟩ : ∃ w5, w3.drewN n5 = w5 := ⟨_, rfl⟩
  rw [hW5]
  have HC5 : Hid (Below w2.heap.size w2 w5) := Lib.hid (by subst hW5; exact below_drewN HC3.out n5)
  have HB5 := Lib.hid (HB2.out.trans (HC5.out.mono HB2.out.size))
  clear hW5 HLS HC3 HB3
  go_wp2_with fail
  refine (HRR.out _ HB5.out).mono ?_
  rintro e w6 ⟨v, rfl, hown, hb6⟩
  have HC6 := Lib.hid (HC5.out.trans (hb6.mono HC5.out.size))
  have HB6 := Lib.hid (HB2.out.trans (HC6.out.mono HB2.out.size))
  obtain ⟨A6, c6, rfl, _, hints6⟩ := rows_ints hown
  have HI6 := Lib.hid hints6.ints
  have HG6 : Hid (Ints w6 (some ⟨g, 0, none⟩) rk) := Lib.hid ((HROW.out.below HC6.out HROW.out.lt).ints (RowI.lt (HROW.out.below HC6.out HROW.out.lt))).ints
  clear hown hb6 hints6 HRR HC5 HB5
  go_wp2_with fail
  refine (sameInts_any _ _ _ _ rk rk w6 HG6.out HI6.out (by have := HRL.out; have := HSL.out.1; omega)).mono ?_
  rw [decide_eq_true (rfl : rk = rk)]
  rintro e w9 ⟨rfl, n7, rfl⟩
  have HB7 := Lib.hid (below_drewN HB6.out n7)
  go_wp2_with fail
  refine (awake_any _).mono ?_
  rintro e w8 ⟨rfl, hb8⟩
  have HB8 := Lib.hid (HB7.out.trans (hb8.mono HB7.out.size))
  clear hb8
  go_wp2
  go_ret
  exact ⟨rfl, HB8.out⟩

set_option maxRecDepth 100000 in
set_option maxHeartbeats 4000000 in
theorem ties_nn (A B L : Option Addr) (ca cb cl : Nat) (xa xb : List Int) (ls : List (List Int)) (w : World) (ha : IntsAt w w.heap.size A xa) (hb : IntsAt w w.heap.size B xb) (hca : xa.length ≤ ca) (hcb : xb.length ≤ cb) (hls : ListsR w L ls) (l1 : xa.length ≤ 39) (l2 : xb.length ≤ 39) (hs : shortTB ls = true) (h1 : cbI xa xb ≠ 0) (h2 : ranksE ls ≠ 0) :
    Calls Tryz.prog 6 #[.slice A xa.length ca, .slice B xb.length cb, .slice L ls.length cl] w fun e w' => e = .returned (.bool true) ∧ Below w.heap.size w w' := by
  have HSL := Lib.hid (shortT_len hs)
  have HS := Lib.hid (shortT_any L cl ls w hls)
  rw [hs] at HS
  have HCB := Lib.hid (fun W (hw : Below w.heap.size w W) => fmCountback_any A B ca cb xa xb W ((ha.below hw).mono hw.size) ((hb.below hw).mono hw.size) (by omega) (by omega) hca hcb)
  have HNA := Lib.hid (fun W (hw : Below w.heap.size w W) => refNumbers_any A ca W.heap.size xa 36 W ((ha.below hw).mono hw.size) (by omega))
  have HNB := Lib.hid (fun W (hw : Below w.heap.size w W) => refNumbers_any B cb W.heap.size xb 36 W ((hb.below hw).mono hw.size) (by omega))
  have HLS := Lib.hid (fun W (hw : Below w.heap.size w W) => refLists_any L cl ls W (hls.keep hw) (fun y hy => by have := HSL.out.2 y hy; omega))
  rw [show firstI [sizedI ls.length 200, listsI numsC ls] = ranksE ls from rfl] at HLS
  have HQ : Hid (firstI [numsI xa 36, numsI xb 36, unlessI (decide (xa.length = xb.length)) 2] = cbI xa xb) := Lib.hid rfl
  have he : ((xa.length : Int) != (xb.length : Int)) = !(decide (xa.length = xb.length)) := by
    by_cases g : xa.length = xb.length
    · rw [decide_eq_true g, g]; simp
    · rw [decide_eq_false g, Bool.not_false, bne_iff_ne]; omega
  have b1 : decide ((39 : Int) < (xa.length : Int)) = false := decide_eq_false (by omega)
  have b2 : decide ((39 : Int) < (xb.length : Int)) = false := decide_eq_false (by omega)
  rw [show cbR xa xb = (0, cbI xa xb) by unfold cbR; rw [if_neg h1]] at HCB
  dsimp only at HCB
  generalize cbI xa xb = cq at HCB HQ h1
  have hcq := bne_self_eq_false' cq
  have hcz : (cq == 0) = false := beq_eq_false_iff_ne.2 h1
  clear h1
  have HRN := Lib.hid (fun W (hw : Below w.heap.size w W) => fmRanks_no L cl ls W (hls.keep hw) (by have := HSL.out.1; omega) (fun y hy => by have := HSL.out.2 y hy; omega) h2)
  generalize ranksE ls = rq at HRN HLS h2
  have hrq := beq_self_eq_true rq
  have hrz : (rq == 0) = false := beq_eq_false_iff_ne.2 h2
  clear h2
  clear ha hb hls hs hca hcb
  generalize decide (xa.length = xb.length) = eq at he HQ
  go_enter Tryz.func6, Tryz.ntmps6
  go_wp2_with fail
  refine HS.out.mono ?_
  rintro e w1 ⟨rfl, rfl⟩
  go_wp2_with fail
  refine (HCB.out _ (Below.refl _ _)).mono ?_
  rintro e w1 ⟨rfl, hb1⟩
  have HB1 := Lib.hid hb1
  clear hb1 HCB HS
  go_wp2_with fail
  refine (HRN.out _ HB1.out).mono ?_
  rintro e w2 ⟨rfl, hb2⟩
  clear HRN
  have HB2 := Lib.hid (HB1.out.trans (hb2.mono HB1.out.size))
  clear hb2 HB1
  go_wp2_with fail
  refine (HNA.out _ HB2.out).mono ?_
  rintro e w3 ⟨rfl, rfl⟩
  go_wp2_with fail
  refine (HNB.out _ HB2.out).mono ?_
  rintro e w3 ⟨rfl, rfl⟩
  go_wp2_with fail
  refine (lawWhen_any _ _ _).mono ?_
  rintro e w3 ⟨rfl, rfl⟩
  rw [Bool.not_not]
  go_wp2_with fail
  refine (lawFirst_any _ _ [_, _, _] _ (by simp) (Ints.three _ _ _ _ _ _ rfl)).mono ?_
  rintro e w3 ⟨rfl, rfl⟩
  rw [HQ.out]
  obtain ⟨w3, hW3⟩ : ∃ w3, w2.alloc (.cells #[.int .i64 (numsI xa 36), .int .i64 (numsI xb 36), .int .i64 (unlessI eq 2)] 3) = w3 := ⟨_, rfl⟩
  rw [hW3]
  have HC3 : Hid (Below w2.heap.size w2 w3) := Lib.hid (by subst hW3; exact (Below.refl _ _).alloc (Nat.le_refl _) _)
  have HB3 := Lib.hid (HB2.out.trans (HC3.out.mono HB2.out.size))
  clear hW3 HNA HNB HQ he
  go_wp2_with fail
  refine (HLS.out _ HB3.out).mono ?_
  rintro e w9 ⟨rfl, n5, rfl⟩
  obtain ⟨w5, hW5⟩ : ∃ w5, w3.drewN n5 = w5 := ⟨_, rfl⟩
  rw [hW5]
  have HC5 : Hid (Below w2.heap.size w2 w5) := Lib.hid (by subst hW5; exact below_drewN HC3.out n5)
  have HB5 := Lib.hid (HB2.out.trans (HC5.out.mono HB2.out.size))
  clear hW5 HLS HC3 HB3
  go_wp2_with fail
  refine (sameInts_any none none 0 0 [] [] w5 (fun j hj => absurd hj (Nat.not_lt_zero _)) (fun j hj => absurd hj (Nat.not_lt_zero _)) (by simp)).mono ?_
  rw [decide_eq_true (rfl : ([] : List Int) = [])]
  rintro e w9 ⟨rfl, n7, rfl⟩
  have HB7 := Lib.hid (below_drewN HB5.out n7)
  go_wp2_with fail
  refine (awake_any _).mono ?_
  rintro e w8 ⟨rfl, hb8⟩
  have HB8 := Lib.hid (HB7.out.trans (hb8.mono HB7.out.size))
  clear hb8
  go_wp2
  go_ret
  exact ⟨rfl, HB8.out⟩

set_option maxRecDepth 100000 in
set_option maxHeartbeats 2000000 in
theorem ties_wrong (A B L : Option Addr) (ca cb cl : Nat) (xa xb : List Int) (ls : List (List Int)) (w : World) (hls : ListsR w L ls) (hn : ¬ (xa.length ≤ 39 ∧ xb.length ≤ 39 ∧ shortTB ls = true)) :
    Calls Tryz.prog 6 #[.slice A xa.length ca, .slice B xb.length cb, .slice L ls.length cl] w fun e w' => e = .returned (.bool true) ∧ Below w.heap.size w w' := by
  have HS := Lib.hid (shortT_any L cl ls w hls)
  clear hls
  by_cases h1 : xa.length ≤ 39
  · have b1 : decide ((39 : Int) < (xa.length : Int)) = false := decide_eq_false (by omega)
    by_cases h2 : xb.length ≤ 39
    · have b2 : decide ((39 : Int) < (xb.length : Int)) = false := decide_eq_false (by omega)
      have h3 : shortTB ls = false := by
        cases g : shortTB ls
        · rfl
        · exact absurd ⟨h1, h2, g⟩ hn
      rw [h3] at HS
      clear hn h3
      go_enter Tryz.func6, Tryz.ntmps6
      go_wp2_with fail
      refine HS.out.mono ?_
      rintro e w1 ⟨rfl, rfl⟩
      go_wp2_with fail
      refine (awake_any _).mono ?_
      rintro e w4 ⟨rfl, hb4⟩
      have HB4 := Lib.hid hb4
      clear hb4
      go_wp2
      go_ret
      exact ⟨rfl, HB4.out⟩
    · have b2 : decide ((39 : Int) < (xb.length : Int)) = true := decide_eq_true (by omega)
      clear hn
      go_enter Tryz.func6, Tryz.ntmps6
      go_wp2_with fail
      refine (awake_any _).mono ?_
      rintro e w4 ⟨rfl, hb4⟩
      have HB4 := Lib.hid hb4
      clear hb4
      go_wp2
      go_ret
      exact ⟨rfl, HB4.out⟩
  · have b1 : decide ((39 : Int) < (xa.length : Int)) = true := decide_eq_true (by omega)
    clear hn
    go_enter Tryz.func6, Tryz.ntmps6
    go_wp2_with fail
    refine (awake_any _).mono ?_
    rintro e w4 ⟨rfl, hb4⟩
    have HB4 := Lib.hid hb4
    clear hb4
    go_wp2
    go_ret
    exact ⟨rfl, HB4.out⟩

theorem ties_any (A B L : Option Addr) (ca cb cl : Nat) (xa xb : List Int) (ls : List (List Int)) (w : World) (ha : IntsAt w w.heap.size A xa) (hb : IntsAt w w.heap.size B xb) (hca : xa.length ≤ ca) (hcb : xb.length ≤ cb) (hls : ListsR w L ls) :
    Calls Tryz.prog 6 #[.slice A xa.length ca, .slice B xb.length cb, .slice L ls.length cl] w fun e w' => e = .returned (.bool true) ∧ Below w.heap.size w w' := by
  by_cases hn : xa.length ≤ 39 ∧ xb.length ≤ 39 ∧ shortTB ls = true
  · obtain ⟨l1, l2, hs⟩ := hn
    by_cases h1 : cbI xa xb = 0
    · by_cases h2 : ranksE ls = 0
      · exact ties_yy A B L ca cb cl xa xb ls w ha hb hca hcb hls l1 l2 hs h1 h2
      · exact ties_yn A B L ca cb cl xa xb ls w ha hb hca hcb hls l1 l2 hs h1 h2
    · by_cases h2 : ranksE ls = 0
      · exact ties_ny A B L ca cb cl xa xb ls w ha hb hca hcb hls l1 l2 hs h1 h2
      · exact ties_nn A B L ca cb cl xa xb ls w ha hb hca hcb hls l1 l2 hs h1 h2
  · exact ties_wrong A B L ca cb cl xa xb ls w hls hn
end Go.Proofs.YtndalbcmmdinhaaGreatDoor
