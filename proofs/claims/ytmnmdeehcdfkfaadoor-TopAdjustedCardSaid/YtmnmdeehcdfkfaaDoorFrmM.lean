/- Nets, Given. -/
import Derived.Test.YtmnmdeehcdfkfaaDoorFrmL
namespace Go.Proofs.YtmnmdeehcdfkfaaDoor
open Go.RowKit

/-- The error of Given. -/
def givenE (hs : List (Int × Int)) (h : Int) : Int := firstI [holesI hs, withinI h (-99) 99]
set_option maxRecDepth 100000 in
set_option maxHeartbeats 1000000 in
theorem fmGiven_yes (A : Option Addr) (c : Nat) (hs : List (Int × Int)) (h : Int) (w : World) (hr : HolesR w A hs) (hbl : ∀ a, A = some a → a.block < w.heap.size) (hn : givenE hs h = 0) :
    Calls Tryd.prog 11 #[.slice A hs.length c, .int .i64 h] w (RowOut (givenL (h / (hs.length : Int)) (h % (hs.length : Int)) hs) w) := by
  have hz := firstI_zero _ hn (holesI hs) (by simp)
  have hz2 := firstI_zero _ hn (withinI h (-99) 99) (by simp)
  have hZ := holesI_zero hz
  have hw : -99 ≤ h ∧ h ≤ 99 := by
    unfold withinI at hz2
    by_cases g : -99 ≤ h ∧ h ≤ 99
    · exact g
    · rw [if_neg g] at hz2; omega
  have HH := Lib.hid (fun W (hb : Below w.heap.size w W) => checkHoles_any A c hs W (hr.keep hbl hb) (fun a ha => Nat.lt_of_lt_of_le (hbl a ha) hb.size) (by have := hZ.2.1; omega))
  have HC := Lib.hid (fun W (hb : Below w.heap.size w W) => given_any A c hs h W (hr.keep hbl hb) (fun a ha => Nat.lt_of_lt_of_le (hbl a ha) hb.size) hZ.1 (by have := hZ.2.1; omega) hw.1 hw.2)
  have HN := Lib.hid hn
  clear hr hbl hn hz hz2 hZ hw
  generalize givenL (h / (hs.length : Int)) (h % (hs.length : Int)) hs = q at HC ⊢
  go_enter Tryd.func11, Tryd.ntmps11
  go_wp2_with fail
  refine (HH.out _ (Below.refl _ _)).mono ?_
  rintro e w1 ⟨rfl, hb1⟩
  have HB1 := Lib.hid hb1
  clear hb1
  go_wp2_with fail
  refine (fmCheckHandicap_any _ _).mono ?_
  rintro e w2 ⟨rfl, rfl⟩
  go_wp2_with fail
  refine (fmFirst_any _ _ [_, _] _ (by simp) (Ints.two _ _ _ _ _ rfl)).mono ?_
  rintro e w2 ⟨rfl, rfl⟩
  rw [show firstI [holesI hs, withinI h (-99) 99] = 0 from HN.out]
  go_wp2_with fail
  refine (HC.out _ (HB1.out.alloc HB1.out.size _)).mono ?_
  rintro e w2 ⟨g, rfl, hrow, hg, hb2⟩
  have HROW := Lib.hid hrow
  have HG : Hid (w.heap.size ≤ g) := Lib.hid (by have := HB1.out.size; simp at hg; omega)
  have HB2 := Lib.hid ((HB1.out.alloc HB1.out.size (.cells #[.int .i64 (holesI hs), .int .i64 (withinI h (-99) 99)] 35)).trans (hb2.mono (by have := HB1.out.size; simp; omega)))
  clear hb2 hrow hg HC
  go_wp2
  go_ret2
  exact ⟨g, rfl, HROW.out, HG.out, HB2.out⟩

set_option maxRecDepth 100000 in
set_option maxHeartbeats 1000000 in
theorem fmGiven_no (A : Option Addr) (c : Nat) (hs : List (Int × Int)) (h : Int) (w : World) (hr : HolesR w A hs) (hbl : ∀ a, A = some a → a.block < w.heap.size) (hl : hs.length ≤ 4611686018427387904) (hn : givenE hs h ≠ 0) :
    Calls Tryd.prog 11 #[.slice A hs.length c, .int .i64 h] w fun e w' => e = .returned (.tuple #[.slice none 0 0, .int .i64 (givenE hs h)]) ∧ Below w.heap.size w w' := by
  have HH := Lib.hid (fun W (hb : Below w.heap.size w W) => checkHoles_any A c hs W (hr.keep hbl hb) (fun a ha => Nat.lt_of_lt_of_le (hbl a ha) hb.size) hl)
  have hnb : (givenE hs h != 0) = true := by simpa using hn
  have HQ : Hid (firstI [holesI hs, withinI h (-99) 99] = givenE hs h) := Lib.hid rfl
  clear hr hbl hn
  generalize givenE hs h = q at hnb HQ ⊢
  go_enter Tryd.func11, Tryd.ntmps11
  go_wp2_with fail
  refine (HH.out _ (Below.refl _ _)).mono ?_
  rintro e w1 ⟨rfl, hb1⟩
  have HB1 := Lib.hid hb1
  clear hb1
  go_wp2_with fail
  refine (fmCheckHandicap_any _ _).mono ?_
  rintro e w2 ⟨rfl, rfl⟩
  go_wp2_with fail
  refine (fmFirst_any _ _ [_, _] _ (by simp) (Ints.two _ _ _ _ _ rfl)).mono ?_
  rintro e w2 ⟨rfl, rfl⟩
  rw [HQ.out]
  go_wp2
  go_ret2
  exact ⟨rfl, HB1.out.alloc HB1.out.size _⟩

end Go.Proofs.YtmnmdeehcdfkfaaDoor
