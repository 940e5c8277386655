/- FormatTurned: the law where its premises fail. -/
import Derived.Test.YtkhhkicfeaeddaaGreatDoorTurA
import Derived.Test.YtkhhkicfeaeddaaGreatDoorSidB
import Derived.Test.YtkhhkicfeaeddaaGreatDoorMatA
import Derived.Test.YtkhhkicfeaeddaaGreatDoorAwkD
import Derived.Deep.DeepCutAuto
import Derived.Outline
set_option linter.unusedVariables false
set_option linter.unusedSimpArgs false
namespace Go.Proofs.YtkhhkicfeaeddaaGreatDoor
open Go.RowKit


set_option maxRecDepth 100000 in
set_option maxHeartbeats 4000000 in
theorem turned_w1 (A B : Option Addr) (c d : Nat) (xa xb : List (Int × ByteArray)) (r0 r1 : Int) (w : World) (ha : EntriesR w A xa) (hb : EntriesR w B xb) (la : xa.length ≤ 4611686018427387904) (lb : xb.length ≤ 4611686018427387904) (h1 : briefB xa = false) :
    Calls Tryz.prog 5 #[.slice A xa.length c, .slice B xb.length d, .agg #[.int .i64 r0, .int .i64 r1]] w fun e w' => e = .returned (.bool true) ∧ Below w.heap.size w w' := by
  have HA := Lib.hid ha
  have HB := Lib.hid hb
  have HW : Hid (Below w.heap.size w (w.alloc (.cells #[.int .i64 r0, .int .i64 r1] 67))) := Lib.hid ((Below.refl _ _).alloc (Nat.le_refl _) _)
  have H1 : Hid (briefB xa = false) := Lib.hid h1
  clear ha hb
  go_enter Tryz.func5, Tryz.ntmps5
  go_wp2_with fail
  refine (brief_any _ _ xa _ (HA.out.keep HW.out) (by omega)).mono ?_
  rintro e w1 ⟨rfl, hb1⟩
  have HB1 := Lib.hid (HW.out.trans (hb1.mono HW.out.size))
  clear hb1
  rw [H1.out]
  go_wp2_with fail
  refine (awake_any _).mono ?_
  rintro e wz ⟨rfl, hbz⟩
  have HBZ := Lib.hid (HB1.out.trans (hbz.mono HB1.out.size))
  clear hbz
  go_wp2
  go_ret
  exact ⟨rfl, HBZ.out⟩

set_option maxRecDepth 100000 in
set_option maxHeartbeats 4000000 in
theorem turned_w2 (A B : Option Addr) (c d : Nat) (xa xb : List (Int × ByteArray)) (r0 r1 : Int) (w : World) (ha : EntriesR w A xa) (hb : EntriesR w B xb) (la : xa.length ≤ 4611686018427387904) (lb : xb.length ≤ 4611686018427387904) (h1 : briefB xa = true) (h2 : briefB xb = false) :
    Calls Tryz.prog 5 #[.slice A xa.length c, .slice B xb.length d, .agg #[.int .i64 r0, .int .i64 r1]] w fun e w' => e = .returned (.bool true) ∧ Below w.heap.size w w' := by
  have HA := Lib.hid ha
  have HB := Lib.hid hb
  have HW : Hid (Below w.heap.size w (w.alloc (.cells #[.int .i64 r0, .int .i64 r1] 67))) := Lib.hid ((Below.refl _ _).alloc (Nat.le_refl _) _)
  have H1 : Hid (briefB xa = true) := Lib.hid h1
  have H2 : Hid (briefB xb = false) := Lib.hid h2
  clear ha hb
  go_enter Tryz.func5, Tryz.ntmps5
  go_wp2_with fail
  refine (brief_any _ _ xa _ (HA.out.keep HW.out) (by omega)).mono ?_
  rintro e w1 ⟨rfl, hb1⟩
  have HB1 := Lib.hid (HW.out.trans (hb1.mono HW.out.size))
  clear hb1
  rw [H1.out]
  go_wp2_with fail
  refine (brief_any _ _ xb _ (HB.out.keep HB1.out) (by omega)).mono ?_
  rintro e w2 ⟨rfl, hb2⟩
  have HB2 := Lib.hid (HB1.out.trans (hb2.mono HB1.out.size))
  clear hb2
  rw [H2.out]
  go_wp2_with fail
  refine (awake_any _).mono ?_
  rintro e wz ⟨rfl, hbz⟩
  have HBZ := Lib.hid (HB2.out.trans (hbz.mono HB2.out.size))
  clear hbz
  go_wp2
  go_ret
  exact ⟨rfl, HBZ.out⟩

set_option maxRecDepth 100000 in
set_option maxHeartbeats 4000000 in
theorem turned_w3 (A B : Option Addr) (c d : Nat) (xa xb : List (Int × ByteArray)) (r0 r1 : Int) (w : World) (ha : EntriesR w A xa) (hb : EntriesR w B xb) (la : xa.length ≤ 4611686018427387904) (lb : xb.length ≤ 4611686018427387904) (h1 : briefB xa = true) (h2 : briefB xb = true) (z3 : Int) (h3 : netsI xa = z3) (g3 : z3 ≠ 0) :
    Calls Tryz.prog 5 #[.slice A xa.length c, .slice B xb.length d, .agg #[.int .i64 r0, .int .i64 r1]] w fun e w' => e = .returned (.bool true) ∧ Below w.heap.size w w' := by
  have HA := Lib.hid ha
  have HB := Lib.hid hb
  have HW : Hid (Below w.heap.size w (w.alloc (.cells #[.int .i64 r0, .int .i64 r1] 67))) := Lib.hid ((Below.refl _ _).alloc (Nat.le_refl _) _)
  have H1 : Hid (briefB xa = true) := Lib.hid h1
  have H2 : Hid (briefB xb = true) := Lib.hid h2
  have HAL : Hid (xa.length ≤ 39) := Lib.hid (briefB_len h1)
  have HBL : Hid (xb.length ≤ 39) := Lib.hid (briefB_len h2)
  have HZ3 : Hid (netsI xa = z3) := Lib.hid h3
  have hn3 : (z3 != 0) = true := by simpa using g3
  clear ha hb
  go_enter Tryz.func5, Tryz.ntmps5
  go_wp2_with fail
  refine (brief_any _ _ xa _ (HA.out.keep HW.out) (by omega)).mono ?_
  rintro e w1 ⟨rfl, hb1⟩
  have HB1 := Lib.hid (HW.out.trans (hb1.mono HW.out.size))
  clear hb1
  rw [H1.out]
  go_wp2_with fail
  refine (brief_any _ _ xb _ (HB.out.keep HB1.out) (by omega)).mono ?_
  rintro e w2 ⟨rfl, hb2⟩
  have HB2 := Lib.hid (HB1.out.trans (hb2.mono HB1.out.size))
  clear hb2
  rw [H2.out]
  go_wp2_with fail
  refine (lawNets_any _ _ xa _ (HA.out.keep HB2.out) (by have := HAL.out; omega)).mono ?_
  rintro e w3 ⟨v3, rfl, ho3, hb3⟩
  obtain ⟨A3, c3, rfl, he3⟩ := ho3.entries
  have HE3 := Lib.hid he3
  have HB3 := Lib.hid (HB2.out.trans (hb3.mono HB2.out.size))
  clear ho3 he3 hb3
  go_wp2_with fail
  refine (refCheckNets_any _ _ xa _ (by have := HAL.out; omega) HE3.out).mono ?_
  rintro e w9 ⟨rfl, rfl⟩
  rw [HZ3.out]
  go_wp2_with fail
  refine (awake_any _).mono ?_
  rintro e wz ⟨rfl, hbz⟩
  have HBZ := Lib.hid (HB3.out.trans (hbz.mono HB3.out.size))
  clear hbz
  go_wp2
  go_ret
  exact ⟨rfl, HBZ.out⟩

set_option maxRecDepth 100000 in
set_option maxHeartbeats 4000000 in
theorem turned_w4 (A B : Option Addr) (c d : Nat) (xa xb : List (Int × ByteArray)) (r0 r1 : Int) (w : World) (ha : EntriesR w A xa) (hb : EntriesR w B xb) (la : xa.length ≤ 4611686018427387904) (lb : xb.length ≤ 4611686018427387904) (h1 : briefB xa = true) (h2 : briefB xb = true) (h3 : netsI xa = 0) (z4 : Int) (h4 : netsI xb = z4) (g4 : z4 ≠ 0) :
    Calls Tryz.prog 5 #[.slice A xa.length c, .slice B xb.length d, .agg #[.int .i64 r0, .int .i64 r1]] w fun e w' => e = .returned (.bool true) ∧ Below w.heap.size w w' := by
  have HA := Lib.hid ha
  have HB := Lib.hid hb
  have HW : Hid (Below w.heap.size w (w.alloc (.cells #[.int .i64 r0, .int .i64 r1] 67))) := Lib.hid ((Below.refl _ _).alloc (Nat.le_refl _) _)
  have H1 : Hid (briefB xa = true) := Lib.hid h1
  have H2 : Hid (briefB xb = true) := Lib.hid h2
  have HAL : Hid (xa.length ≤ 39) := Lib.hid (briefB_len h1)
  have HBL : Hid (xb.length ≤ 39) := Lib.hid (briefB_len h2)
  have HZ3 : Hid (netsI xa = 0) := Lib.hid h3
  have HZ4 : Hid (netsI xb = z4) := Lib.hid h4
  have hn4 : (z4 != 0) = true := by simpa using g4
  clear ha hb
  go_enter Tryz.func5, Tryz.ntmps5
  go_wp2_with fail
  refine (brief_any _ _ xa _ (HA.out.keep HW.out) (by omega)).mono ?_
  rintro e w1 ⟨rfl, hb1⟩
  have HB1 := Lib.hid (HW.out.trans (hb1.mono HW.out.size))
  clear hb1
  rw [H1.out]
  go_wp2_with fail
  refine (brief_any _ _ xb _ (HB.out.keep HB1.out) (by omega)).mono ?_
  rintro e w2 ⟨rfl, hb2⟩
  have HB2 := Lib.hid (HB1.out.trans (hb2.mono HB1.out.size))
  clear hb2
  rw [H2.out]
  go_wp2_with fail
  refine (lawNets_any _ _ xa _ (HA.out.keep HB2.out) (by have := HAL.out; omega)).mono ?_
  rintro e w3 ⟨v3, rfl, ho3, hb3⟩
  obtain ⟨A3, c3, rfl, he3⟩ := ho3.entries
  have HE3 := Lib.hid he3
  have HB3 := Lib.hid (HB2.out.trans (hb3.mono HB2.out.size))
  clear ho3 he3 hb3
  go_wp2_with fail
  refine (refCheckNets_any _ _ xa _ (by have := HAL.out; omega) HE3.out).mono ?_
  rintro e w9 ⟨rfl, rfl⟩
  rw [HZ3.out]
  go_wp2_with fail
  refine (lawNets_any _ _ xb _ (HB.out.keep HB3.out) (by have := HBL.out; omega)).mono ?_
  rintro e w4 ⟨v4, rfl, ho4, hb4⟩
  obtain ⟨A4, c4, rfl, he4⟩ := ho4.entries
  have HE4 := Lib.hid he4
  have HB4 := Lib.hid (HB3.out.trans (hb4.mono HB3.out.size))
  clear ho4 he4 hb4
  go_wp2_with fail
  refine (refCheckNets_any _ _ xb _ (by have := HBL.out; omega) HE4.out).mono ?_
  rintro e w9 ⟨rfl, rfl⟩
  rw [HZ4.out]
  go_wp2_with fail
  refine (awake_any _).mono ?_
  rintro e wz ⟨rfl, hbz⟩
  have HBZ := Lib.hid (HB4.out.trans (hbz.mono HB4.out.size))
  clear hbz
  go_wp2
  go_ret
  exact ⟨rfl, HBZ.out⟩

set_option maxRecDepth 100000 in
set_option maxHeartbeats 4000000 in
theorem turned_w5 (A B : Option Addr) (c d : Nat) (xa xb : List (Int × ByteArray)) (r0 r1 : Int) (w : World) (ha : EntriesR w A xa) (hb : EntriesR w B xb) (la : xa.length ≤ 4611686018427387904) (lb : xb.length ≤ 4611686018427387904) (h1 : briefB xa = true) (h2 : briefB xb = true) (h3 : netsI xa = 0) (h4 : netsI xb = 0) (h5 : xa.length ≠ xb.length) :
    Calls Tryz.prog 5 #[.slice A xa.length c, .slice B xb.length d, .agg #[.int .i64 r0, .int .i64 r1]] w fun e w' => e = .returned (.bool true) ∧ Below w.heap.size w w' := by
  have HA := Lib.hid ha
  have HB := Lib.hid hb
  have HW : Hid (Below w.heap.size w (w.alloc (.cells #[.int .i64 r0, .int .i64 r1] 67))) := Lib.hid ((Below.refl _ _).alloc (Nat.le_refl _) _)
  have H1 : Hid (briefB xa = true) := Lib.hid h1
  have H2 : Hid (briefB xb = true) := Lib.hid h2
  have HAL : Hid (xa.length ≤ 39) := Lib.hid (briefB_len h1)
  have HBL : Hid (xb.length ≤ 39) := Lib.hid (briefB_len h2)
  have HZ3 : Hid (netsI xa = 0) := Lib.hid h3
  have HZ4 : Hid (netsI xb = 0) := Lib.hid h4
  have hl5 : ((xa.length : Int) != (xb.length : Int)) = true := by rw [bne_iff_ne]; omega
  clear ha hb
  go_enter Tryz.func5, Tryz.ntmps5
  go_wp2_with fail
  refine (brief_any _ _ xa _ (HA.out.keep HW.out) (by omega)).mono ?_
  rintro e w1 ⟨rfl, hb1⟩
  have HB1 := Lib.hid (HW.out.trans (hb1.mono HW.out.size))
  clear hb1
  rw [H1.out]
  go_wp2_with fail
  refine (brief_any _ _ xb _ (HB.out.keep HB1.out) (by omega)).mono ?_
  rintro e w2 ⟨rfl, hb2⟩
  have HB2 := Lib.hid (HB1.out.trans (hb2.mono HB1.out.size))
  clear hb2
  rw [H2.out]
  go_wp2_with fail
  refine (lawNets_any _ _ xa _ (HA.out.keep HB2.out) (by have := HAL.out; omega)).mono ?_
  rintro e w3 ⟨v3, rfl, ho3, hb3⟩
  obtain ⟨A3, c3, rfl, he3⟩ := ho3.entries
  have HE3 := Lib.hid he3
  have HB3 := Lib.hid (HB2.out.trans (hb3.mono HB2.out.size))
  clear ho3 he3 hb3
  go_wp2_with fail
  refine (refCheckNets_any _ _ xa _ (by have := HAL.out; omega) HE3.out).mono ?_
  rintro e w9 ⟨rfl, rfl⟩
  rw [HZ3.out]
  go_wp2_with fail
  refine (lawNets_any _ _ xb _ (HB.out.keep HB3.out) (by have := HBL.out; omega)).mono ?_
  rintro e w4 ⟨v4, rfl, ho4, hb4⟩
  obtain ⟨A4, c4, rfl, he4⟩ := ho4.entries
  have HE4 := Lib.hid he4
  have HB4 := Lib.hid (HB3.out.trans (hb4.mono HB3.out.size))
  clear ho4 he4 hb4
  go_wp2_with fail
  refine (refCheckNets_any _ _ xb _ (by have := HBL.out; omega) HE4.out).mono ?_
  rintro e w9 ⟨rfl, rfl⟩
  rw [HZ4.out]
  go_wp2_with fail
  refine (awake_any _).mono ?_
  rintro e wz ⟨rfl, hbz⟩
  have HBZ := Lib.hid (HB4.out.trans (hbz.mono HB4.out.size))
  clear hbz
  go_wp2
  go_ret
  exact ⟨rfl, HBZ.out⟩

end Go.Proofs.YtkhhkicfeaeddaaGreatDoor
