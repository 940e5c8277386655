/- FormatGives: the law's walk: holes that are right, or not; none; too many. -/
import Derived.Test.YtndalbcmmdinhaaGreatDoorGivA
import Derived.Test.YtndalbcmmdinhaaGreatDoorGivB
import Derived.Test.YtndalbcmmdinhaaGreatDoorMgH
import Derived.Test.YtndalbcmmdinhaaGreatDoorAwkD
import Derived.Outline
set_option linter.unusedVariables false
set_option linter.unusedSimpArgs false
namespace Go.Proofs.YtndalbcmmdinhaaGreatDoor
open Go.RowKit


set_option maxRecDepth 100000 in
set_option maxHeartbeats 4000000 in
theorem gives_many (A : Option Addr) (c : Nat) (hs : List (Int × Int)) (h : Int) (w : World) (hf : fewB hs.length [] = false) :
    Calls Tryz.prog 3 #[.slice A hs.length c, .int .i64 h] w fun e w' => e = .returned (.bool true) ∧ Below w.heap.size w w' := by
  have HF := Lib.hid hf
  clear hf
  go_enter Tryz.func3, Tryz.ntmps3
  go_wp2_with fail
  refine (few_any none A 0 c hs.length [] w (fun j hj => absurd hj (Nat.not_lt_zero _)) (by simp)).mono ?_
  rintro e w1 ⟨rfl, hb1⟩
  rw [HF.out]
  have HB1 := Lib.hid hb1
  clear hb1
  go_wp2_with fail
  refine (awake_any _).mono ?_
  rintro e w8 ⟨rfl, hb8⟩
  have HB8 := Lib.hid (HB1.out.trans (hb8.mono HB1.out.size))
  clear hb8
  go_wp2
  go_ret
  exact ⟨rfl, HB8.out⟩


set_option maxRecDepth 100000 in
set_option maxHeartbeats 4000000 in
theorem gives_yes (A : Option Addr) (c : Nat) (hs : List (Int × Int)) (h : Int) (w : World) (hr : HolesR w A hs) (hbl : ∀ a, A = some a → a.block < w.heap.size) (hf : fewB hs.length [] = true) (hn : givenE hs h = 0) :
    Calls Tryz.prog 3 #[.slice A hs.length c, .int .i64 h] w fun e w' => e = .returned (.bool true) ∧ Below w.heap.size w w' := by
  have hz := firstI_zero _ hn (holesI hs) (by simp)
  have hz2 := firstI_zero _ hn (withinI h (-99) 99) (by simp)
  obtain ⟨z1, z2, z3, _⟩ := holesI_zero hz
  have hh : -99 ≤ h ∧ h ≤ 99 := by
    unfold withinI at hz2
    by_cases g : -99 ≤ h ∧ h ≤ 99
    · exact g
    · rw [if_neg g] at hz2; omega
  have HF := Lib.hid hf
  have HGV := Lib.hid (fun W (hb : Below w.heap.size w W) => fmGiven_yes A c hs h W (hr.keep hbl hb) (fun a ha => Nat.lt_of_lt_of_le (hbl a ha) hb.size) hn)
  have HCK := Lib.hid (fun W (hb : Below w.heap.size w W) => refGivenC_any A c hs h W (hr.keep hbl hb) (by omega))
  have HRG := Lib.hid (fun W (hb : Below w.heap.size w W) => refGiven_any A c hs h W (hr.keep hbl hb) (fun a ha => Nat.lt_of_lt_of_le (hbl a ha) hb.size) z1 (by omega) hh.1 hh.2 (fun x hx => (z3 x hx).2.2))
  rw [hn] at HCK
  have HL : Hid ((givenL (h / (hs.length : Int)) (h % (hs.length : Int)) hs).length ≤ 36) := Lib.hid (by rw [givenL_len]; exact z2)
  clear hr hbl hf hn hz hz2 z1 z2 z3 hh
  generalize givenL (h / (hs.length : Int)) (h % (hs.length : Int)) hs = l at HGV HRG HL
  go_enter Tryz.func3, Tryz.ntmps3
  go_wp2_with fail
  refine (few_any none A 0 c hs.length [] w (fun j hj => absurd hj (Nat.not_lt_zero _)) (by simp)).mono ?_
  rintro e w1 ⟨rfl, hb1⟩
  rw [HF.out]
  have HB1 := Lib.hid hb1
  clear hb1
  go_wp2_with fail
  refine (HGV.out _ HB1.out).mono ?_
  rintro e w2 ⟨g, rfl, hrow, hg, hb2⟩
  have HROW := Lib.hid hrow
  have HB2 := Lib.hid (HB1.out.trans (hb2.mono HB1.out.size))
  clear hrow hg hb2 HGV HB1
  go_wp2_with fail
  refine (HCK.out _ HB2.out).mono ?_
  rintro e w9 ⟨rfl, n3, rfl⟩
  obtain ⟨w3, hW3⟩ : ∃ w3, w2.drewN n3 = w3 := ⟨_, rfl⟩
  rw [hW3]
  have HC3 : Hid (Below w2.heap.size w2 w3) := Lib.hid (by subst hW3; exact below_drewN (Below.refl _ _) n3)
  have HB3 := Lib.hid (HB2.out.trans (HC3.out.mono HB2.out.size))
  clear hW3 HCK
  go_wp2_with fail
  refine (HRG.out _ HB3.out).mono ?_
  rintro e w4 ⟨g2, rfl, hrow2, hg2, hb4⟩
  have HC4 := Lib.hid (HC3.out.trans (hb4.mono HC3.out.size))
  have HB4 := Lib.hid (HB2.out.trans (HC4.out.mono HB2.out.size))
  have HI2 := Lib.hid (hrow2.ints hrow2.lt).ints
  have HI1 := Lib.hid ((HROW.out.below HC4.out HROW.out.lt).ints (RowI.lt (HROW.out.below HC4.out HROW.out.lt))).ints
  clear hrow2 hg2 hb4 HRG HC3 HB3
  go_wp2_with fail
  refine (sameInts_any _ _ _ _ l l w4 HI1.out HI2.out (by have := HL.out; omega)).mono ?_
  rw [decide_eq_true (rfl : l = l)]
  rintro e w9 ⟨rfl, n7, rfl⟩
  have HB7 := Lib.hid (below_drewN HB4.out n7)
  go_wp2_with fail
  refine (awake_any _).mono ?_
  rintro e w8 ⟨rfl, hb8⟩
  have HB8 := Lib.hid (HB7.out.trans (hb8.mono HB7.out.size))
  clear hb8
  go_wp2
  go_ret
  exact ⟨rfl, HB8.out⟩


set_option maxRecDepth 100000 in
set_option maxHeartbeats 4000000 in
theorem gives_no (A : Option Addr) (c : Nat) (hs : List (Int × Int)) (h : Int) (w : World) (hr : HolesR w A hs) (hbl : ∀ a, A = some a → a.block < w.heap.size) (hf : fewB hs.length [] = true) (hn : givenE hs h ≠ 0) :
    Calls Tryz.prog 3 #[.slice A hs.length c, .int .i64 h] w fun e w' => e = .returned (.bool true) ∧ Below w.heap.size w w' := by
  have hl : hs.length ≤ 39 := by
    unfold fewB at hf
    simpa using hf
  have HF := Lib.hid hf
  have HGV := Lib.hid (fun W (hb : Below w.heap.size w W) => fmGiven_no A c hs h W (hr.keep hbl hb) (fun a ha => Nat.lt_of_lt_of_le (hbl a ha) hb.size) (by omega) hn)
  have HCK := Lib.hid (fun W (hb : Below w.heap.size w W) => refGivenC_any A c hs h W (hr.keep hbl hb) (by omega))
  clear hr hbl hf
  generalize givenE hs h = q at HGV HCK hn
  have hqq := beq_self_eq_true q
  have hqz : (q == 0) = false := beq_eq_false_iff_ne.2 hn
  clear hn hl
  go_enter Tryz.func3, Tryz.ntmps3
  go_wp2_with fail
  refine (few_any none A 0 c hs.length [] w (fun j hj => absurd hj (Nat.not_lt_zero _)) (by simp)).mono ?_
  rintro e w1 ⟨rfl, hb1⟩
  rw [HF.out]
  have HB1 := Lib.hid hb1
  clear hb1
  go_wp2_with fail
  refine (HGV.out _ HB1.out).mono ?_
  rintro e w2 ⟨rfl, hb2⟩
  have HB2 := Lib.hid (HB1.out.trans (hb2.mono HB1.out.size))
  clear hb2 HGV HB1
  go_wp2_with fail
  refine (HCK.out _ HB2.out).mono ?_
  rintro e w9 ⟨rfl, n3, rfl⟩
  obtain ⟨w3, hW3⟩ : ∃ w3, w2.drewN n3 = w3 := ⟨_, rfl⟩
  rw [hW3]
  have HB3 : Hid (Below w.heap.size w w3) := Lib.hid (by subst hW3; exact below_drewN HB2.out n3)
  clear hW3 HCK
  go_wp2_with fail
  refine (sameInts_any none none 0 0 [] [] _ (fun j hj => absurd hj (Nat.not_lt_zero _)) (fun j hj => absurd hj (Nat.not_lt_zero _)) (by simp)).mono ?_
  rw [decide_eq_true (rfl : ([] : List Int) = [])]
  rintro e w9 ⟨rfl, n7, rfl⟩
  have HB7 := Lib.hid (below_drewN HB3.out n7)
  go_wp2_with fail
  refine (awake_any _).mono ?_
  rintro e w8 ⟨rfl, hb8⟩
  have HB8 := Lib.hid (HB7.out.trans (hb8.mono HB7.out.size))
  clear hb8
  go_wp2
  go_ret
  exact ⟨rfl, HB8.out⟩


set_option maxRecDepth 100000 in
set_option maxHeartbeats 4000000 in
theorem gives_none (A : Option Addr) (c : Nat) (h : Int) (w : World) :
    Calls Tryz.prog 3 #[.slice A ([] : List (Int × Int)).length c, .int .i64 h] w fun e w' => e = .returned (.bool true) ∧ Below w.heap.size w w' := by
  have HF : Hid (fewB ([] : List (Int × Int)).length [] = true) := Lib.hid rfl
  have HGV := Lib.hid (fun W (hb : Below w.heap.size w W) => fmGiven_none A c h W)
  have HCK := Lib.hid (fun W (hb : Below w.heap.size w W) => refGivenC_any A c [] h W (fun j hj => absurd hj (Nat.not_lt_zero _)) (by simp))
  rw [show givenE [] h = 12 from rfl] at HCK
  have hqq : ((12 : Int) == 12) = true := rfl
  have hqz : ((12 : Int) == 0) = false := rfl
  go_enter Tryz.func3, Tryz.ntmps3
  go_wp2_with fail
  refine (few_any none A 0 c ([] : List (Int × Int)).length [] w (fun j hj => absurd hj (Nat.not_lt_zero _)) (by simp)).mono ?_
  rintro e w1 ⟨rfl, hb1⟩
  rw [HF.out]
  have HB1 := Lib.hid hb1
  clear hb1
  go_wp2_with fail
  refine (HGV.out _ HB1.out).mono ?_
  rintro e w2 ⟨rfl, hb2⟩
  have HB2 := Lib.hid (HB1.out.trans (hb2.mono HB1.out.size))
  clear hb2 HGV HB1
  go_wp2_with fail
  refine (HCK.out _ HB2.out).mono ?_
  rintro e w9 ⟨rfl, n3, rfl⟩
  obtain ⟨w3, hW3⟩ : ∃ w3, w2.drewN n3 = w3 := ⟨_, rfl⟩
  rw [hW3]
  have HB3 : Hid (Below w.heap.size w w3) := Lib.hid (by subst hW3; exact below_drewN HB2.out n3)
  clear hW3 HCK
  go_wp2_with fail
  refine (sameInts_any none none 0 0 [] [] _ (fun j hj => absurd hj (Nat.not_lt_zero _)) (fun j hj => absurd hj (Nat.not_lt_zero _)) (by simp)).mono ?_
  rw [decide_eq_true (rfl : ([] : List Int) = [])]
  rintro e w9 ⟨rfl, n7, rfl⟩
  have HB7 := Lib.hid (below_drewN HB3.out n7)
  go_wp2_with fail
  refine (awake_any _).mono ?_
  rintro e w8 ⟨rfl, hb8⟩
  have HB8 := Lib.hid (HB7.out.trans (hb8.mono HB7.out.size))
  clear hb8
  go_wp2
  go_ret
  exact ⟨rfl, HB8.out⟩


theorem gives_any (A : Option Addr) (c : Nat) (hs : List (Int × Int)) (h : Int) (w : World) (hr : HolesR w A hs) (hbl : hs = [] ∨ ∀ a, A = some a → a.block < w.heap.size) :
    Calls Tryz.prog 3 #[.slice A hs.length c, .int .i64 h] w fun e w' => e = .returned (.bool true) ∧ Below w.heap.size w w' := by
  cases hf : fewB hs.length []
  · exact gives_many A c hs h w hf
  · rcases hbl with rfl | hbl
    · exact gives_none A c h w
    · by_cases hn : givenE hs h = 0
      · exact gives_yes A c hs h w hr hbl hf hn
      · exact gives_no A c hs h w hr hbl hf hn
end Go.Proofs.YtndalbcmmdinhaaGreatDoor
