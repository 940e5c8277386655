/- Sides: the states, or the error. -/
import Derived.Test.YtkhhkicfeaeddaaGreatDoorSidA
import Derived.Test.YtkhhkicfeaeddaaGreatDoorMgF
import Derived.Outline
set_option linter.unusedVariables false
set_option linter.unusedSimpArgs false
namespace Go.Proofs.YtkhhkicfeaeddaaGreatDoor
open Go.RowKit

set_option maxRecDepth 100000 in
set_option maxHeartbeats 2000000 in
theorem fmSides_yes (A B : Option Addr) (c d : Nat) (xa xb : List (Int × ByteArray)) (w : World) (ha : EntriesR w A xa) (hb : EntriesR w B xb) (hE : sidesE xa xb = 0) :
    Calls Tryz.prog 9 #[.slice A xa.length c, .slice B xb.length d] w (MatchOut (statesL xa xb) w) := by
  obtain ⟨ea, eb, hab⟩ := sidesE_zero hE
  have la := (netsI_zero ea).2.1
  have lb := (netsI_zero eb).2.1
  have HE : Hid (firstI [netsI xa, netsI xb, unlessI (decide (xa.length = xb.length)) 2] = 0) := Lib.hid hE
  have HA := Lib.hid ha
  have HB := Lib.hid hb
  have HAB := Lib.hid hab
  have HC : Hid (∀ W, Below w.heap.size w W → Calls Tryz.prog 46 #[.slice A xa.length c] W fun e w' => e = .returned (.int .i64 (netsI xa)) ∧ Below W.heap.size W w') := Lib.hid (fun W hW => checkNets_any A c xa W (by omega) (ha.keep hW))
  have HD : Hid (∀ W, Below w.heap.size w W → Calls Tryz.prog 46 #[.slice B xb.length d] W fun e w' => e = .returned (.int .i64 (netsI xb)) ∧ Below W.heap.size W w') := Lib.hid (fun W hW => checkNets_any B d xb W (by omega) (hb.keep hW))
  have hbe : ((xa.length : Int) == (xb.length : Int)) = decide (xa.length = xb.length) := by
    rw [hab, beq_self_eq_true, decide_eq_true rfl]
  have HST := Lib.hid (fun W (hW : Below w.heap.size w W) => states_any A B c d xa xb W (by omega) hab (ha.keep hW) (hb.keep hW))
  clear ha hb hE hab ea eb
  generalize statesL xa xb = sl at HST ⊢
  generalize netsI xa = ea at HC HE
  generalize netsI xb = eb at HD HE
  go_enter Tryz.func9, Tryz.ntmps9
  go_wp2_with fail
  refine (HC.out _ (Below.refl _ _)).mono ?_; rintro e w1 ⟨rfl, hb1⟩
  have HB1 := Lib.hid hb1
  clear hb1
  go_wp2_with fail
  refine (HD.out _ HB1.out).mono ?_; rintro e w2 ⟨rfl, hb2⟩
  have HB2 := Lib.hid (HB1.out.trans (hb2.mono HB1.out.size))
  clear hb2
  go_wp2_with fail
  refine (fmUnless_any _ _ _).mono ?_; rintro e w3 ⟨rfl, rfl⟩
  go_wp2_with fail
  refine (fmFirst_any _ _ [_, _, _] _ (by simp) (Ints.three _ _ _ _ _ _ rfl)).mono ?_; rintro e w3 ⟨rfl, rfl⟩
  rw [HE.out]
  go_wp2_with fail
  refine (HST.out _ (HB2.out.alloc HB2.out.size _)).mono ?_; rintro e w4 ⟨A4, c4, rfl, hst, hge, hb4⟩
  have HB4 := Lib.hid ((HB2.out.alloc HB2.out.size _).trans (hb4.mono (by have := HB2.out.size; simp; omega)))
  have HS4 := Lib.hid hst
  have HG4 := Lib.hid (fun a (ha : A4 = some a) => Nat.le_trans (show w.heap.size ≤ _ by have := HB2.out.size; simp; omega) (hge a ha))
  clear hst hge hb4
  go_wp2
  go_ret2
  exact ⟨A4, c4, rfl, HS4.out, HG4.out, HB4.out⟩

set_option maxRecDepth 100000 in
set_option maxHeartbeats 2000000 in
theorem fmSides_no (A B : Option Addr) (c d : Nat) (xa xb : List (Int × ByteArray)) (w : World) (ha : EntriesR w A xa) (hb : EntriesR w B xb) (la : xa.length ≤ 1000) (lb : xb.length ≤ 1000) (z : Int) (hz : sidesE xa xb = z) (hn : z ≠ 0) :
    Calls Tryz.prog 9 #[.slice A xa.length c, .slice B xb.length d] w fun e w' => e = .returned (.tuple #[.slice none 0 0, .int .i64 z]) ∧ Below w.heap.size w w' := by
  have HE : Hid (firstI [netsI xa, netsI xb, unlessI (decide (xa.length = xb.length)) 2] = z) := Lib.hid hz
  have HC : Hid (∀ W, Below w.heap.size w W → Calls Tryz.prog 46 #[.slice A xa.length c] W fun e w' => e = .returned (.int .i64 (netsI xa)) ∧ Below W.heap.size W w') := Lib.hid (fun W hW => checkNets_any A c xa W (by omega) (ha.keep hW))
  have HD : Hid (∀ W, Below w.heap.size w W → Calls Tryz.prog 46 #[.slice B xb.length d] W fun e w' => e = .returned (.int .i64 (netsI xb)) ∧ Below W.heap.size W w') := Lib.hid (fun W hW => checkNets_any B d xb W (by omega) (hb.keep hW))
  have hbe : ((xa.length : Int) == (xb.length : Int)) = decide (xa.length = xb.length) := by
    by_cases g : xa.length = xb.length
    · rw [g, beq_self_eq_true, decide_eq_true rfl]
    · rw [decide_eq_false g, beq_eq_false_iff_ne]; omega
  have hzb : (z != 0) = true := by simpa using hn
  clear ha hb hz hn
  generalize netsI xa = ea at HC HE
  generalize netsI xb = eb at HD HE
  generalize decide (xa.length = xb.length) = q at hbe HE
  have HQ := Lib.hid hbe
  clear hbe
  go_enter Tryz.func9, Tryz.ntmps9
  go_wp2_with fail
  refine (HC.out _ (Below.refl _ _)).mono ?_; rintro e w1 ⟨rfl, hb1⟩
  have HB1 := Lib.hid hb1
  clear hb1
  go_wp2_with fail
  refine (HD.out _ HB1.out).mono ?_; rintro e w2 ⟨rfl, hb2⟩
  have HB2 := Lib.hid (HB1.out.trans (hb2.mono HB1.out.size))
  clear hb2
  go_wp2_with fail
  refine (fmUnless_any _ _ _).mono ?_; rintro e w3 ⟨rfl, rfl⟩
  rw [HQ.out]
  go_wp2_with fail
  refine (fmFirst_any _ _ [_, _, _] _ (by simp) (Ints.three _ _ _ _ _ _ rfl)).mono ?_; rintro e w3 ⟨rfl, rfl⟩
  rw [HE.out]
  go_wp2
  go_ret2
  exact ⟨rfl, HB2.out.alloc HB2.out.size _⟩
end Go.Proofs.YtkhhkicfeaeddaaGreatDoor
