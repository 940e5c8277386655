/- FormatSides: the law's walk, its ways. -/
import Derived.Test.YtkhhkicfeaeddaaGreatDoorSidB
import Derived.Test.YtkhhkicfeaeddaaGreatDoorSidE
import Derived.Test.YtkhhkicfeaeddaaGreatDoorAwkD
import Derived.Deep.DeepCutAuto
import Derived.Outline
set_option linter.unusedVariables false
set_option linter.unusedSimpArgs false
namespace Go.Proofs.YtkhhkicfeaeddaaGreatDoor
open Go.RowKit

set_option maxHeartbeats 400000 in
theorem lawWhen_any (b : Bool) (n : Int) (w : World) :
    Calls Tryz.prog 13 #[.bool b, .int .i64 n] w fun e w' => e = .returned (.int .i64 (unlessI (!b) n)) ∧ w = w' := by
  cases b
  all_goals
    go_enter Tryz.func13, Tryz.ntmps13
    go_wp2
    go_ret
    exact ⟨rfl, rfl⟩

set_option maxHeartbeats 400000 in
theorem lawFirst_any (A : Option Addr) (c : Nat) (xs : List Int) (w : World) (hl : xs.length ≤ 4611686018427387904) (h : Ints w A xs) :
    Calls Tryz.prog 11 #[.slice A xs.length c] w fun e w' => e = .returned (.int .i64 (firstI xs)) ∧ w = w' := by
  have H := Lib.hid h
  clear h
  go_enter Tryz.func11, Tryz.ntmps11
  go_wp2
  go_loop [7] (fun i => ∃ k : Nat, k ≤ xs.length ∧ i = .int .i64 k ∧ firstI (xs.drop k) = firstI xs) (fun i => xs.length - (intOf i).toNat)
  case atStart => exact ⟨0, Nat.zero_le _, rfl, rfl⟩
  case round =>
    obtain ⟨k, hk, rfl, hd⟩ := hrel
    have HD := Lib.hid hd
    clear hd
    by_cases hlt : k < xs.length
    · obtain ⟨a, rfl, hc⟩ := H.out k hlt
      have hs := Lib.hid (firstI_drop xs k hlt)
      generalize xs.getD k 0 = x at hc hs
      by_cases hx : x = 0
      · subst hx
        go_wp2
        go_round
        case rel => exact ⟨k + 1, by omega, by go_num, by have := hs.out; simp at this; rw [← this]; exact HD.out⟩
        case measure => simp [intOf]; omega
      · have hxb : (x != 0) = true := by simpa using hx
        go_wp2
        go_ret
        have := hs.out
        rw [if_neg hx] at this
        exact ⟨by rw [← this, HD.out]; rfl, rfl⟩
    · have : k = xs.length := by omega
      go_wp2
      go_ret
      have hd := HD.out
      rw [List.drop_eq_nil_of_le (by omega)] at hd
      exact ⟨by rw [← hd]; rfl, rfl⟩


set_option maxRecDepth 100000 in
set_option maxHeartbeats 4000000 in
theorem sides_w1 (A B : Option Addr) (c d : Nat) (xa xb : List (Int × ByteArray)) (u t : Int) (o : Bool) (w : World) (ha : EntriesR w A xa) (hb : EntriesR w B xb) (la : xa.length ≤ 4611686018427387904) (lb : xb.length ≤ 4611686018427387904) (h1 : briefB xa = false) :
    Calls Tryz.prog 3 #[.slice A xa.length c, .slice B xb.length d, .agg #[.int .i64 u, .int .i64 t, .bool o]] w fun e w' => e = .returned (.bool true) ∧ Below w.heap.size w w' := by
  have HA := Lib.hid ha
  have HB := Lib.hid hb
  have H1 := Lib.hid h1
  clear ha hb h1
  go_enter Tryz.func3, Tryz.ntmps3
  go_wp2_with fail
  generalize hW0 : w.alloc (.cells #[.int .i64 u, .int .i64 t, .bool o] 24) = W0
  obtain ⟨a1, a2, a3⟩ := one_alloc w _ _ hW0
  have HLOW : Hid (∀ W, Below W0.heap.size W0 W → Below w.heap.size w W) := Lib.hid (fun W hW => a2.trans (hW.mono a2.size))
  have HBOX : Hid (∀ W, Below W0.heap.size W0 W → BlkV W w.heap.size 24 #[.int .i64 u, .int .i64 t, .bool o]) := Lib.hid (fun W hW => a1.below hW a1.lt)
  have HB0 : Hid (Below W0.heap.size W0 W0) := Lib.hid (Below.refl _ _)
  clear hW0 a1 a2 a3
  refine (brief_any _ _ xa _ (HA.out.keep (HLOW.out _ HB0.out)) (by omega)).mono ?_
  rintro e w1 ⟨rfl, hb1⟩
  have HB1 := Lib.hid (HB0.out.trans (hb1.mono HB0.out.size))
  clear hb1
  rw [H1.out]
  go_wp2_with fail
  refine (awake_any _).mono ?_
  rintro e wz ⟨rfl, hbz⟩
  have HBZ := Lib.hid (HB1.out.trans (hbz.mono HB1.out.size))
  clear hbz
  go_wp2
  go_ret
  exact ⟨rfl, HLOW.out _ HBZ.out⟩

set_option maxRecDepth 100000 in
set_option maxHeartbeats 4000000 in
theorem sides_w2 (A B : Option Addr) (c d : Nat) (xa xb : List (Int × ByteArray)) (u t : Int) (o : Bool) (w : World) (ha : EntriesR w A xa) (hb : EntriesR w B xb) (la : xa.length ≤ 4611686018427387904) (lb : xb.length ≤ 4611686018427387904) (h1 : briefB xa = true) (h2 : briefB xb = false) :
    Calls Tryz.prog 3 #[.slice A xa.length c, .slice B xb.length d, .agg #[.int .i64 u, .int .i64 t, .bool o]] w fun e w' => e = .returned (.bool true) ∧ Below w.heap.size w w' := by
  have HA := Lib.hid ha
  have HB := Lib.hid hb
  have H1 := Lib.hid h1
  have H2 := Lib.hid h2
  clear ha hb h1 h2
  go_enter Tryz.func3, Tryz.ntmps3
  go_wp2_with fail
  generalize hW0 : w.alloc (.cells #[.int .i64 u, .int .i64 t, .bool o] 24) = W0
  obtain ⟨a1, a2, a3⟩ := one_alloc w _ _ hW0
  have HLOW : Hid (∀ W, Below W0.heap.size W0 W → Below w.heap.size w W) := Lib.hid (fun W hW => a2.trans (hW.mono a2.size))
  have HBOX : Hid (∀ W, Below W0.heap.size W0 W → BlkV W w.heap.size 24 #[.int .i64 u, .int .i64 t, .bool o]) := Lib.hid (fun W hW => a1.below hW a1.lt)
  have HB0 : Hid (Below W0.heap.size W0 W0) := Lib.hid (Below.refl _ _)
  clear hW0 a1 a2 a3
  refine (brief_any _ _ xa _ (HA.out.keep (HLOW.out _ HB0.out)) (by omega)).mono ?_
  rintro e w1 ⟨rfl, hb1⟩
  have HB1 := Lib.hid (HB0.out.trans (hb1.mono HB0.out.size))
  clear hb1
  rw [H1.out]
  go_wp2_with fail
  refine (brief_any _ _ xb _ (HB.out.keep (HLOW.out _ HB1.out)) (by omega)).mono ?_
  rintro e w2 ⟨rfl, hb2⟩
  have HB2 := Lib.hid (HB1.out.trans (hb2.mono HB1.out.size))
  clear hb2
  rw [H2.out]
  go_wp2_with fail
  refine (awake_any _).mono ?_
  rintro e wz ⟨rfl, hbz⟩
  have HBZ := Lib.hid (HB2.out.trans (hbz.mono HB2.out.size))
  clear hbz
  go_wp2
  go_ret
  exact ⟨rfl, HLOW.out _ HBZ.out⟩

set_option maxRecDepth 100000 in
set_option maxHeartbeats 4000000 in
theorem sides_yy (A B : Option Addr) (c d : Nat) (xa xb : List (Int × ByteArray)) (u t : Int) (o : Bool) (w : World) (ha : EntriesR w A xa) (hb : EntriesR w B xb) (la : xa.length ≤ 4611686018427387904) (lb : xb.length ≤ 4611686018427387904) (h1 : briefB xa = true) (h2 : briefB xb = true) (hz : sidesE xa xb = 0) (hy : stI u t o = 0) :
    Calls Tryz.prog 3 #[.slice A xa.length c, .slice B xb.length d, .agg #[.int .i64 u, .int .i64 t, .bool o]] w fun e w' => e = .returned (.bool true) ∧ Below w.heap.size w w' := by
  have HA := Lib.hid ha
  have HB := Lib.hid hb
  have l1 := briefB_len h1
  have l2 := briefB_len h2
  have H1 := Lib.hid h1
  have H2 := Lib.hid h2
  have HZ : Hid (firstI [netsI xa, netsI xb, unlessI (!((xa.length : Int) != (xb.length : Int))) 2] = 0) := Lib.hid (by
    rw [← hz]
    unfold sidesE
    congr 3
    by_cases g : xa.length = xb.length
    · rw [g, bne_self_eq_false', decide_eq_true rfl]; rfl
    · rw [decide_eq_false g, show ((xa.length : Int) != (xb.length : Int)) = true from by rw [bne_iff_ne]; omega]; rfl)
  have HCA := Lib.hid (fun W (E : Option Addr) (f : Nat) (he : EntriesR W E xa) => refCheckNets_any E f xa W (by omega) he)
  have HCB := Lib.hid (fun W (E : Option Addr) (f : Nat) (he : EntriesR W E xb) => refCheckNets_any E f xb W (by omega) he)
  obtain ⟨g3, g4, hab⟩ := sidesE_zero hz
  have fa := (netsI_zero g3).2.2.1
  have fb := (netsI_zero g4).2.2.1
  have HS := Lib.hid (fun W (hW : Below w.heap.size w W) => fmSides_yes A B c d xa xb W (ha.keep hW) (hb.keep hW) hz)
  have HR := Lib.hid (fun W (E G : Option Addr) (f g : Nat) (he : EntriesR W E xa) (hg : EntriesR W G xb) => refSides_any E G f g xa xb W he hg (by omega) hab fa fb)
  have HSL : Hid ((statesL xa xb).length ≤ 1000) := Lib.hid (by have := states_len xa xb; omega)
  generalize statesL xa xb = S at HS HR HSL
  have HD := Lib.hid (fun W => describe_any u t o W)
  have HC := Lib.hid (fun W => refState_any u t o W)
  rw [hy] at HD HC
  have hin : (0 ≤ t ∧ t ≤ 36) ∧ (-36 ≤ u ∧ u ≤ 36) := by
    unfold stI at hy
    by_cases g : (0 ≤ t ∧ t ≤ 36) ∧ (-36 ≤ u ∧ u ≤ 36)
    · exact g
    · rw [if_neg g] at hy; omega
  have HW := Lib.hid (fun W => refDesc_any u t o W hin.2 hin.1)
  rw [show descS 0 u t = wordsB u t from if_pos rfl] at HD
  generalize wordsB u t = x at HD HW
  have hxx : (x.toList == x.toList) = true := beq_self_eq_true _
  clear hin
  clear ha hb h1 h2 hz hy g3 g4 fa fb hab
  generalize netsI xa = ea at HCA HZ
  generalize netsI xb = eb at HCB HZ
  go_enter Tryz.func3, Tryz.ntmps3
  go_wp2_with fail
  generalize hW0 : w.alloc (.cells #[.int .i64 u, .int .i64 t, .bool o] 24) = W0
  obtain ⟨a1, a2, a3⟩ := one_alloc w _ _ hW0
  have HLOW : Hid (∀ W, Below W0.heap.size W0 W → Below w.heap.size w W) := Lib.hid (fun W hW => a2.trans (hW.mono a2.size))
  have HBOX : Hid (∀ W, Below W0.heap.size W0 W → BlkV W w.heap.size 24 #[.int .i64 u, .int .i64 t, .bool o]) := Lib.hid (fun W hW => a1.below hW a1.lt)
  have HB0 : Hid (Below W0.heap.size W0 W0) := Lib.hid (Below.refl _ _)
  clear hW0 a1 a2 a3
  refine (brief_any _ _ xa _ (HA.out.keep (HLOW.out _ HB0.out)) (by omega)).mono ?_
  rintro e w1 ⟨rfl, hb1⟩
  have HB1 := Lib.hid (HB0.out.trans (hb1.mono HB0.out.size))
  clear hb1
  rw [H1.out]
  go_wp2_with fail
  refine (brief_any _ _ xb _ (HB.out.keep (HLOW.out _ HB1.out)) (by omega)).mono ?_
  rintro e w2 ⟨rfl, hb2⟩
  have HB2 := Lib.hid (HB1.out.trans (hb2.mono HB1.out.size))
  clear hb2
  rw [H2.out]
  go_wp2_with fail
  refine (lawNets_any A c xa _ (HA.out.keep (HLOW.out _ HB2.out)) (by omega)).mono ?_
  rintro e w3 ⟨v3, rfl, ho3, hb3⟩
  have HB3 := Lib.hid (HB2.out.trans (hb3.mono HB2.out.size))
  clear hb3
  obtain ⟨A3, c3, rfl, he3⟩ := ho3.entries
  have HE3 := Lib.hid he3
  clear ho3 he3
  go_wp2_with fail
  refine (lawNets_any B d xb _ (HB.out.keep (HLOW.out _ HB3.out)) (by omega)).mono ?_
  rintro e w4 ⟨v4, rfl, ho4, hb4⟩
  have HB4 := Lib.hid (HB3.out.trans (hb4.mono HB3.out.size))
  have HK := hb4
  clear hb4
  obtain ⟨A4, c4, rfl, he4⟩ := ho4.entries
  have HE4 := Lib.hid he4
  have HE34 := Lib.hid (HE3.out.keep HK)
  clear ho4 he4 HE3
  go_wp2_with fail
  refine (HS.out _ (HLOW.out _ HB4.out)).mono ?_
  rintro e w5 ⟨A5, c5, rfl, hs5, _, hb5⟩
  have HB5 := Lib.hid (HB4.out.trans (hb5.mono HB4.out.size))
  have HS5 := Lib.hid hs5
  have HEA := Lib.hid (HE34.out.keep hb5)
  have HEB := Lib.hid (HE4.out.keep hb5)
  clear hb5 hs5 HE34 HE4
  have hbx5 := HBOX.out _ HB5.out
  have k0 := hbx5.cell 0
  have k1 := hbx5.cell 1
  have k2 := hbx5.cell 2
  simp only [List.getElem?_toArray, List.getElem?_cons_zero, List.getElem?_cons_succ] at k0 k1 k2
  clear hbx5
  go_wp2_with fail
  refine (HD.out _).mono ?_
  rintro e w6 ⟨rfl, hb6⟩
  clear k0 k1 k2
  have HB6 := Lib.hid (HB5.out.trans (hb6.mono HB5.out.size))
  have HEA6 := Lib.hid (HEA.out.keep hb6)
  have HEB6 := Lib.hid (HEB.out.keep hb6)
  have HS6 := Lib.hid (HS5.out.keep hb6)
  clear hb6 HEA HEB
  go_wp2_with fail
  refine (HCA.out _ A3 c3 HEA6.out).mono ?_
  rintro e w9 ⟨rfl, rfl⟩
  go_wp2_with fail
  refine (HCB.out _ A4 c4 HEB6.out).mono ?_
  rintro e w9 ⟨rfl, rfl⟩
  go_wp2_with fail
  refine (lawWhen_any _ _ _).mono ?_
  rintro e w9 ⟨rfl, rfl⟩
  go_wp2_with fail
  refine (lawFirst_any _ _ [_, _, _] _ (by simp) (Ints.three _ _ _ _ _ _ rfl)).mono ?_
  rintro e w9 ⟨rfl, rfl⟩
  rw [HZ.out]
  have hbi := (Below.refl w6.heap.size w6).alloc (Nat.le_refl _) (.cells #[.int .i64 ea, .int .i64 eb, .int .i64 (unlessI (!((xa.length : Int) != (xb.length : Int))) 2)] 3)
  have HB7 := Lib.hid (HB6.out.trans (hbi.mono HB6.out.size))
  have HEA7 := Lib.hid (HEA6.out.keep hbi)
  have HEB7 := Lib.hid (HEB6.out.keep hbi)
  have HS7 := Lib.hid (HS6.out.keep hbi)
  clear hbi HEA6 HEB6 HS6
  go_wp2_with fail
  refine (HR.out _ A3 A4 c3 c4 HEA7.out HEB7.out).mono ?_
  rintro e w8 ⟨v8, rfl, ho8, hb8⟩
  obtain ⟨A8, c8, rfl, hs8⟩ := ho8.states
  have HB8 := Lib.hid (HB7.out.trans (hb8.mono HB7.out.size))
  have HS8 := Lib.hid hs8
  have HS78 := Lib.hid (HS7.out.keep hb8)
  clear hb8 ho8 hs8 HS7
  go_wp2_with fail
  refine (lawStates_any A5 c5 S _ HS78.out HSL.out).mono ?_
  rintro e w9 ⟨v9, rfl, ho9, hb9⟩
  obtain ⟨A9, c9, rfl, hs9⟩ := ho9.states
  have HB9 := Lib.hid (HB8.out.trans (hb9.mono HB8.out.size))
  have HS9 := Lib.hid hs9
  have HS89 := Lib.hid (HS8.out.keep hb9)
  clear hb9 ho9 hs9
  go_wp2_with fail
  refine (sameStates_any A9 A8 c9 c8 S _ HS9.out HS89.out HSL.out).mono ?_
  rintro e w10 ⟨rfl, hb10⟩
  have HB10 := Lib.hid (HB9.out.trans (hb10.mono HB9.out.size))
  clear hb10
  have hbx10 := HBOX.out _ HB10.out
  have k0 := hbx10.cell 0
  have k1 := hbx10.cell 1
  have k2 := hbx10.cell 2
  simp only [List.getElem?_toArray, List.getElem?_cons_zero, List.getElem?_cons_succ] at k0 k1 k2
  clear hbx10
  go_wp2_with fail
  refine (HC.out _).mono ?_
  rintro e w11 ⟨rfl, hb11⟩
  clear k0 k1 k2
  have HB11 := Lib.hid (HB10.out.trans (hb11.mono HB10.out.size))
  clear hb11
  have hbx11 := HBOX.out _ HB11.out
  have k0 := hbx11.cell 0
  have k1 := hbx11.cell 1
  have k2 := hbx11.cell 2
  simp only [List.getElem?_toArray, List.getElem?_cons_zero, List.getElem?_cons_succ] at k0 k1 k2
  clear hbx11
  go_wp2_with fail
  refine (HW.out _).mono ?_
  rintro e w12 ⟨rfl, hb12⟩
  clear k0 k1 k2
  have HB12 := Lib.hid (HB11.out.trans (hb12.mono HB11.out.size))
  clear hb12
  go_wp2_with fail
  refine (awake_any _).mono ?_
  rintro e wz ⟨rfl, hbz⟩
  have HBZ := Lib.hid (HB12.out.trans (hbz.mono HB12.out.size))
  clear hbz
  go_wp2
  go_ret
  exact ⟨rfl, HLOW.out _ HBZ.out⟩

set_option maxRecDepth 100000 in
set_option maxHeartbeats 4000000 in
theorem sides_yn (A B : Option Addr) (c d : Nat) (xa xb : List (Int × ByteArray)) (u t : Int) (o : Bool) (w : World) (ha : EntriesR w A xa) (hb : EntriesR w B xb) (la : xa.length ≤ 4611686018427387904) (lb : xb.length ≤ 4611686018427387904) (h1 : briefB xa = true) (h2 : briefB xb = true) (hz : sidesE xa xb = 0) (y : Int) (hy : stI u t o = y) (gy : y ≠ 0) :
    Calls Tryz.prog 3 #[.slice A xa.length c, .slice B xb.length d, .agg #[.int .i64 u, .int .i64 t, .bool o]] w fun e w' => e = .returned (.bool true) ∧ Below w.heap.size w w' := by
  have HA := Lib.hid ha
  have HB := Lib.hid hb
  have l1 := briefB_len h1
  have l2 := briefB_len h2
  have H1 := Lib.hid h1
  have H2 := Lib.hid h2
  have HZ : Hid (firstI [netsI xa, netsI xb, unlessI (!((xa.length : Int) != (xb.length : Int))) 2] = 0) := Lib.hid (by
    rw [← hz]
    unfold sidesE
    congr 3
    by_cases g : xa.length = xb.length
    · rw [g, bne_self_eq_false', decide_eq_true rfl]; rfl
    · rw [decide_eq_false g, show ((xa.length : Int) != (xb.length : Int)) = true from by rw [bne_iff_ne]; omega]; rfl)
  have HCA := Lib.hid (fun W (E : Option Addr) (f : Nat) (he : EntriesR W E xa) => refCheckNets_any E f xa W (by omega) he)
  have HCB := Lib.hid (fun W (E : Option Addr) (f : Nat) (he : EntriesR W E xb) => refCheckNets_any E f xb W (by omega) he)
  obtain ⟨g3, g4, hab⟩ := sidesE_zero hz
  have fa := (netsI_zero g3).2.2.1
  have fb := (netsI_zero g4).2.2.1
  have HS := Lib.hid (fun W (hW : Below w.heap.size w W) => fmSides_yes A B c d xa xb W (ha.keep hW) (hb.keep hW) hz)
  have HR := Lib.hid (fun W (E G : Option Addr) (f g : Nat) (he : EntriesR W E xa) (hg : EntriesR W G xb) => refSides_any E G f g xa xb W he hg (by omega) hab fa fb)
  have HSL : Hid ((statesL xa xb).length ≤ 1000) := Lib.hid (by have := states_len xa xb; omega)
  generalize statesL xa xb = S at HS HR HSL
  have HD := Lib.hid (fun W => describe_any u t o W)
  have HC := Lib.hid (fun W => refState_any u t o W)
  rw [hy] at HD HC
  rw [show descS y u t = (⟨#[]⟩ : ByteArray) from if_neg gy] at HD
  have hyb : (y == 0) = false := beq_eq_false_iff_ne.2 gy
  have hyy : (y == y) = true := beq_self_eq_true _
  clear ha hb h1 h2 hz hy g3 g4 fa fb hab gy
  generalize netsI xa = ea at HCA HZ
  generalize netsI xb = eb at HCB HZ
  go_enter Tryz.func3, Tryz.ntmps3
  go_wp2_with fail
  generalize hW0 : w.alloc (.cells #[.int .i64 u, .int .i64 t, .bool o] 24) = W0
  obtain ⟨a1, a2, a3⟩ := one_alloc w _ _ hW0
  have HLOW : Hid (∀ W, Below W0.heap.size W0 W → Below w.heap.size w W) := Lib.hid (fun W hW => a2.trans (hW.mono a2.size))
  have HBOX : Hid (∀ W, Below W0.heap.size W0 W → BlkV W w.heap.size 24 #[.int .i64 u, .int .i64 t, .bool o]) := Lib.hid (fun W hW => a1.below hW a1.lt)
  have HB0 : Hid (Below W0.heap.size W0 W0) := Lib.hid (Below.refl _ _)
  clear hW0 a1 a2 a3
  refine (brief_any _ _ xa _ (HA.out.keep (HLOW.out _ HB0.out)) (by omega)).mono ?_
  rintro e w1 ⟨rfl, hb1⟩
  have HB1 := Lib.hid (HB0.out.trans (hb1.mono HB0.out.size))
  clear hb1
  rw [H1.out]
  go_wp2_with fail
  refine (brief_any _ _ xb _ (HB.out.keep (HLOW.out _ HB1.out)) (by omega)).mono ?_
  rintro e w2 ⟨rfl, hb2⟩
  have HB2 := Lib.hid (HB1.out.trans (hb2.mono HB1.out.size))
  clear hb2
  rw [H2.out]
  go_wp2_with fail
  refine (lawNets_any A c xa _ (HA.out.keep (HLOW.out _ HB2.out)) (by omega)).mono ?_
  rintro e w3 ⟨v3, rfl, ho3, hb3⟩
  have HB3 := Lib.hid (HB2.out.trans (hb3.mono HB2.out.size))
  clear hb3
  obtain ⟨A3, c3, rfl, he3⟩ := ho3.entries
  have HE3 := Lib.hid he3
  clear ho3 he3
  go_wp2_with fail
  refine (lawNets_any B d xb _ (HB.out.keep (HLOW.out _ HB3.out)) (by omega)).mono ?_
  rintro e w4 ⟨v4, rfl, ho4, hb4⟩
  have HB4 := Lib.hid (HB3.out.trans (hb4.mono HB3.out.size))
  have HK := hb4
  clear hb4
  obtain ⟨A4, c4, rfl, he4⟩ := ho4.entries
  have HE4 := Lib.hid he4
  have HE34 := Lib.hid (HE3.out.keep HK)
  clear ho4 he4 HE3
  go_wp2_with fail
  refine (HS.out _ (HLOW.out _ HB4.out)).mono ?_
  rintro e w5 ⟨A5, c5, rfl, hs5, _, hb5⟩
  have HB5 := Lib.hid (HB4.out.trans (hb5.mono HB4.out.size))
  have HS5 := Lib.hid hs5
  have HEA := Lib.hid (HE34.out.keep hb5)
  have HEB := Lib.hid (HE4.out.keep hb5)
  clear hb5 hs5 HE34 HE4
  have hbx5 := HBOX.out _ HB5.out
  have k0 := hbx5.cell 0
  have k1 := hbx5.cell 1
  have k2 := hbx5.cell 2
  simp only [List.getElem?_toArray, List.getElem?_cons_zero, List.getElem?_cons_succ] at k0 k1 k2
  clear hbx5
  go_wp2_with fail
  refine (HD.out _).mono ?_
  rintro e w6 ⟨rfl, hb6⟩
  clear k0 k1 k2
  have HB6 := Lib.hid (HB5.out.trans (hb6.mono HB5.out.size))
  have HEA6 := Lib.hid (HEA.out.keep hb6)
  have HEB6 := Lib.hid (HEB.out.keep hb6)
  have HS6 := Lib.hid (HS5.out.keep hb6)
  clear hb6 HEA HEB
  go_wp2_with fail
  refine (HCA.out _ A3 c3 HEA6.out).mono ?_
  rintro e w9 ⟨rfl, rfl⟩
  go_wp2_with fail
  refine (HCB.out _ A4 c4 HEB6.out).mono ?_
  rintro e w9 ⟨rfl, rfl⟩
  go_wp2_with fail
  refine (lawWhen_any _ _ _).mono ?_
  rintro e w9 ⟨rfl, rfl⟩
  go_wp2_with fail
  refine (lawFirst_any _ _ [_, _, _] _ (by simp) (Ints.three _ _ _ _ _ _ rfl)).mono ?_
  rintro e w9 ⟨rfl, rfl⟩
  rw [HZ.out]
  have hbi := (Below.refl w6.heap.size w6).alloc (Nat.le_refl _) (.cells #[.int .i64 ea, .int .i64 eb, .int .i64 (unlessI (!((xa.length : Int) != (xb.length : Int))) 2)] 3)
  have HB7 := Lib.hid (HB6.out.trans (hbi.mono HB6.out.size))
  have HEA7 := Lib.hid (HEA6.out.keep hbi)
  have HEB7 := Lib.hid (HEB6.out.keep hbi)
  have HS7 := Lib.hid (HS6.out.keep hbi)
  clear hbi HEA6 HEB6 HS6
  go_wp2_with fail
  refine (HR.out _ A3 A4 c3 c4 HEA7.out HEB7.out).mono ?_
  rintro e w8 ⟨v8, rfl, ho8, hb8⟩
  obtain ⟨A8, c8, rfl, hs8⟩ := ho8.states
  have HB8 := Lib.hid (HB7.out.trans (hb8.mono HB7.out.size))
  have HS8 := Lib.hid hs8
  have HS78 := Lib.hid (HS7.out.keep hb8)
  clear hb8 ho8 hs8 HS7
  go_wp2_with fail
  refine (lawStates_any A5 c5 S _ HS78.out HSL.out).mono ?_
  rintro e w9 ⟨v9, rfl, ho9, hb9⟩
  obtain ⟨A9, c9, rfl, hs9⟩ := ho9.states
  have HB9 := Lib.hid (HB8.out.trans (hb9.mono HB8.out.size))
  have HS9 := Lib.hid hs9
  have HS89 := Lib.hid (HS8.out.keep hb9)
  clear hb9 ho9 hs9
  go_wp2_with fail
  refine (sameStates_any A9 A8 c9 c8 S _ HS9.out HS89.out HSL.out).mono ?_
  rintro e w10 ⟨rfl, hb10⟩
  have HB10 := Lib.hid (HB9.out.trans (hb10.mono HB9.out.size))
  clear hb10
  have hbx10 := HBOX.out _ HB10.out
  have k0 := hbx10.cell 0
  have k1 := hbx10.cell 1
  have k2 := hbx10.cell 2
  simp only [List.getElem?_toArray, List.getElem?_cons_zero, List.getElem?_cons_succ] at k0 k1 k2
  clear hbx10
  go_wp2_with fail
  refine (HC.out _).mono ?_
  rintro e w11 ⟨rfl, hb11⟩
  clear k0 k1 k2
  have HB11 := Lib.hid (HB10.out.trans (hb11.mono HB10.out.size))
  clear hb11
  go_wp2_with fail
  refine (awake_any _).mono ?_
  rintro e wz ⟨rfl, hbz⟩
  have HBZ := Lib.hid (HB11.out.trans (hbz.mono HB11.out.size))
  clear hbz
  go_wp2
  go_ret
  exact ⟨rfl, HLOW.out _ HBZ.out⟩

set_option maxRecDepth 100000 in
set_option maxHeartbeats 4000000 in
theorem sides_ny (A B : Option Addr) (c d : Nat) (xa xb : List (Int × ByteArray)) (u t : Int) (o : Bool) (w : World) (ha : EntriesR w A xa) (hb : EntriesR w B xb) (la : xa.length ≤ 4611686018427387904) (lb : xb.length ≤ 4611686018427387904) (h1 : briefB xa = true) (h2 : briefB xb = true) (z : Int) (hz : sidesE xa xb = z) (gz : z ≠ 0) (hy : stI u t o = 0) :
    Calls Tryz.prog 3 #[.slice A xa.length c, .slice B xb.length d, .agg #[.int .i64 u, .int .i64 t, .bool o]] w fun e w' => e = .returned (.bool true) ∧ Below w.heap.size w w' := by
  have HA := Lib.hid ha
  have HB := Lib.hid hb
  have l1 := briefB_len h1
  have l2 := briefB_len h2
  have H1 := Lib.hid h1
  have H2 := Lib.hid h2
  have HZ : Hid (firstI [netsI xa, netsI xb, unlessI (!((xa.length : Int) != (xb.length : Int))) 2] = z) := Lib.hid (by
    rw [← hz]
    unfold sidesE
    congr 3
    by_cases g : xa.length = xb.length
    · rw [g, bne_self_eq_false', decide_eq_true rfl]; rfl
    · rw [decide_eq_false g, show ((xa.length : Int) != (xb.length : Int)) = true from by rw [bne_iff_ne]; omega]; rfl)
  have HCA := Lib.hid (fun W (E : Option Addr) (f : Nat) (he : EntriesR W E xa) => refCheckNets_any E f xa W (by omega) he)
  have HCB := Lib.hid (fun W (E : Option Addr) (f : Nat) (he : EntriesR W E xb) => refCheckNets_any E f xb W (by omega) he)
  have HS := Lib.hid (fun W (hW : Below w.heap.size w W) => fmSides_no A B c d xa xb W (ha.keep hW) (hb.keep hW) (by omega) (by omega) z hz gz)
  have hzb : (z == 0) = false := beq_eq_false_iff_ne.2 gz
  have hzz : (z != z) = false := bne_self_eq_false' _
  have HD := Lib.hid (fun W => describe_any u t o W)
  have HC := Lib.hid (fun W => refState_any u t o W)
  rw [hy] at HD HC
  have hin : (0 ≤ t ∧ t ≤ 36) ∧ (-36 ≤ u ∧ u ≤ 36) := by
    unfold stI at hy
    by_cases g : (0 ≤ t ∧ t ≤ 36) ∧ (-36 ≤ u ∧ u ≤ 36)
    · exact g
    · rw [if_neg g] at hy; omega
  have HW := Lib.hid (fun W => refDesc_any u t o W hin.2 hin.1)
  rw [show descS 0 u t = wordsB u t from if_pos rfl] at HD
  generalize wordsB u t = x at HD HW
  have hxx : (x.toList == x.toList) = true := beq_self_eq_true _
  clear hin
  clear ha hb h1 h2 hz hy gz
  generalize netsI xa = ea at HCA HZ
  generalize netsI xb = eb at HCB HZ
  go_enter Tryz.func3, Tryz.ntmps3
  go_wp2_with fail
  generalize hW0 : w.alloc (.cells #[.int .i64 u, .int .i64 t, .bool o] 24) = W0
  obtain ⟨a1, a2, a3⟩ := one_alloc w _ _ hW0
  have HLOW : Hid (∀ W, Below W0.heap.size W0 W → Below w.heap.size w W) := Lib.hid (fun W hW => a2.trans (hW.mono a2.size))
  have HBOX : Hid (∀ W, Below W0.heap.size W0 W → BlkV W w.heap.size 24 #[.int .i64 u, .int .i64 t, .bool o]) := Lib.hid (fun W hW => a1.below hW a1.lt)
  have HB0 : Hid (Below W0.heap.size W0 W0) := Lib.hid (Below.refl _ _)
  clear hW0 a1 a2 a3
  refine (brief_any _ _ xa _ (HA.out.keep (HLOW.out _ HB0.out)) (by omega)).mono ?_
  rintro e w1 ⟨rfl, hb1⟩
  have HB1 := Lib.hid (HB0.out.trans (hb1.mono HB0.out.size))
  clear hb1
  rw [H1.out]
  go_wp2_with fail
  refine (brief_any _ _ xb _ (HB.out.keep (HLOW.out _ HB1.out)) (by omega)).mono ?_
  rintro e w2 ⟨rfl, hb2⟩
  have HB2 := Lib.hid (HB1.out.trans (hb2.mono HB1.out.size))
  clear hb2
  rw [H2.out]
  go_wp2_with fail
  refine (lawNets_any A c xa _ (HA.out.keep (HLOW.out _ HB2.out)) (by omega)).mono ?_
  rintro e w3 ⟨v3, rfl, ho3, hb3⟩
  have HB3 := Lib.hid (HB2.out.trans (hb3.mono HB2.out.size))
  clear hb3
  obtain ⟨A3, c3, rfl, he3⟩ := ho3.entries
  have HE3 := Lib.hid he3
  clear ho3 he3
  go_wp2_with fail
  refine (lawNets_any B d xb _ (HB.out.keep (HLOW.out _ HB3.out)) (by omega)).mono ?_
  rintro e w4 ⟨v4, rfl, ho4, hb4⟩
  have HB4 := Lib.hid (HB3.out.trans (hb4.mono HB3.out.size))
  have HK := hb4
  clear hb4
  obtain ⟨A4, c4, rfl, he4⟩ := ho4.entries
  have HE4 := Lib.hid he4
  have HE34 := Lib.hid (HE3.out.keep HK)
  clear ho4 he4 HE3
  go_wp2_with fail
  refine (HS.out _ (HLOW.out _ HB4.out)).mono ?_
  rintro e w5 ⟨rfl, hb5⟩
  have HB5 := Lib.hid (HB4.out.trans (hb5.mono HB4.out.size))
  have HEA := Lib.hid (HE34.out.keep hb5)
  have HEB := Lib.hid (HE4.out.keep hb5)
  clear hb5 HE34 HE4
  have hbx5 := HBOX.out _ HB5.out
  have k0 := hbx5.cell 0
  have k1 := hbx5.cell 1
  have k2 := hbx5.cell 2
  simp only [List.getElem?_toArray, List.getElem?_cons_zero, List.getElem?_cons_succ] at k0 k1 k2
  clear hbx5
  go_wp2_with fail
  refine (HD.out _).mono ?_
  rintro e w6 ⟨rfl, hb6⟩
  clear k0 k1 k2
  have HB6 := Lib.hid (HB5.out.trans (hb6.mono HB5.out.size))
  have HEA6 := Lib.hid (HEA.out.keep hb6)
  have HEB6 := Lib.hid (HEB.out.keep hb6)
  clear hb6 HEA HEB
  go_wp2_with fail
  refine (HCA.out _ A3 c3 HEA6.out).mono ?_
  rintro e w9 ⟨rfl, rfl⟩
  go_wp2_with fail
  refine (HCB.out _ A4 c4 HEB6.out).mono ?_
  rintro e w9 ⟨rfl, rfl⟩
  go_wp2_with fail
  refine (lawWhen_any _ _ _).mono ?_
  rintro e w9 ⟨rfl, rfl⟩
  go_wp2_with fail
  refine (lawFirst_any _ _ [_, _, _] _ (by simp) (Ints.three _ _ _ _ _ _ rfl)).mono ?_
  rintro e w9 ⟨rfl, rfl⟩
  rw [HZ.out]
  have hbi := (Below.refl w6.heap.size w6).alloc (Nat.le_refl _) (.cells #[.int .i64 ea, .int .i64 eb, .int .i64 (unlessI (!((xa.length : Int) != (xb.length : Int))) 2)] 3)
  have HB7 := Lib.hid (HB6.out.trans (hbi.mono HB6.out.size))
  clear hbi HEA6 HEB6
  go_wp2_with fail
  refine (lawStates_any none 0 [] _ (fun j hj => absurd hj (Nat.not_lt_zero _)) (by simp)).mono ?_
  rintro e w9 ⟨v9, rfl, ho9, hb9⟩
  obtain ⟨A9, c9, rfl, hs9⟩ := ho9.states
  have HB9 := Lib.hid (HB7.out.trans (hb9.mono HB7.out.size))
  have HS9 := Lib.hid hs9
  clear hb9 ho9 hs9
  go_wp2_with fail
  refine (sameStates_any A9 none c9 0 [] _ HS9.out (fun j hj => absurd hj (Nat.not_lt_zero _)) (by simp)).mono ?_
  rintro e w10 ⟨rfl, hb10⟩
  have HB10 := Lib.hid (HB9.out.trans (hb10.mono HB9.out.size))
  clear hb10
  have hbx10 := HBOX.out _ HB10.out
  have k0 := hbx10.cell 0
  have k1 := hbx10.cell 1
  have k2 := hbx10.cell 2
  simp only [List.getElem?_toArray, List.getElem?_cons_zero, List.getElem?_cons_succ] at k0 k1 k2
  clear hbx10
  go_wp2_with fail
  refine (HC.out _).mono ?_
  rintro e w11 ⟨rfl, hb11⟩
  clear k0 k1 k2
  have HB11 := Lib.hid (HB10.out.trans (hb11.mono HB10.out.size))
  clear hb11
  have hbx11 := HBOX.out _ HB11.out
  have k0 := hbx11.cell 0
  have k1 := hbx11.cell 1
  have k2 := hbx11.cell 2
  simp only [List.getElem?_toArray, List.getElem?_cons_zero, List.getElem?_cons_succ] at k0 k1 k2
  clear hbx11
  go_wp2_with fail
  refine (HW.out _).mono ?_
  rintro e w12 ⟨rfl, hb12⟩
  clear k0 k1 k2
  have HB12 := Lib.hid (HB11.out.trans (hb12.mono HB11.out.size))
  clear hb12
  go_wp2_with fail
  refine (awake_any _).mono ?_
  rintro e wz ⟨rfl, hbz⟩
  have HBZ := Lib.hid (HB12.out.trans (hbz.mono HB12.out.size))
  clear hbz
  go_wp2
  go_ret
  exact ⟨rfl, HLOW.out _ HBZ.out⟩

set_option maxRecDepth 100000 in
set_option maxHeartbeats 4000000 in
theorem sides_nn (A B : Option Addr) (c d : Nat) (xa xb : List (Int × ByteArray)) (u t : Int) (o : Bool) (w : World) (ha : EntriesR w A xa) (hb : EntriesR w B xb) (la : xa.length ≤ 4611686018427387904) (lb : xb.length ≤ 4611686018427387904) (h1 : briefB xa = true) (h2 : briefB xb = true) (z : Int) (hz : sidesE xa xb = z) (gz : z ≠ 0) (y : Int) (hy : stI u t o = y) (gy : y ≠ 0) :
    Calls Tryz.prog 3 #[.slice A xa.length c, .slice B xb.length d, .agg #[.int .i64 u, .int .i64 t, .bool o]] w fun e w' => e = .returned (.bool true) ∧ Below w.heap.size w w' := by
  have HA := Lib.hid ha
  have HB := Lib.hid hb
  have l1 := briefB_len h1
  have l2 := briefB_len h2
  have H1 := Lib.hid h1
  have H2 := Lib.hid h2
  have HZ : Hid (firstI [netsI xa, netsI xb, unlessI (!((xa.length : Int) != (xb.length : Int))) 2] = z) := Lib.hid (by
    rw [← hz]
    unfold sidesE
    congr 3
    by_cases g : xa.length = xb.length
    · rw [g, bne_self_eq_false', decide_eq_true rfl]; rfl
    · rw [decide_eq_false g, show ((xa.length : Int) != (xb.length : Int)) = true from by rw [bne_iff_ne]; omega]; rfl)
  have HCA := Lib.hid (fun W (E : Option Addr) (f : Nat) (he : EntriesR W E xa) => refCheckNets_any E f xa W (by omega) he)
  have HCB := Lib.hid (fun W (E : Option Addr) (f : Nat) (he : EntriesR W E xb) => refCheckNets_any E f xb W (by omega) he)
  have HS := Lib.hid (fun W (hW : Below w.heap.size w W) => fmSides_no A B c d xa xb W (ha.keep hW) (hb.keep hW) (by omega) (by omega) z hz gz)
  have hzb : (z == 0) = false := beq_eq_false_iff_ne.2 gz
  have hzz : (z != z) = false := bne_self_eq_false' _
  have HD := Lib.hid (fun W => describe_any u t o W)
  have HC := Lib.hid (fun W => refState_any u t o W)
  rw [hy] at HD HC
  rw [show descS y u t = (⟨#[]⟩ : ByteArray) from if_neg gy] at HD
  have hyb : (y == 0) = false := beq_eq_false_iff_ne.2 gy
  have hyy : (y == y) = true := beq_self_eq_true _
  clear ha hb h1 h2 hz hy gz gy
  generalize netsI xa = ea at HCA HZ
  generalize netsI xb = eb at HCB HZ
  go_enter Tryz.func3, Tryz.ntmps3
  go_wp2_with fail
  generalize hW0 : w.alloc (.cells #[.int .i64 u, .int .i64 t, .bool o] 24) = W0
  obtain ⟨a1, a2, a3⟩ := one_alloc w _ _ hW0
  have HLOW : Hid (∀ W, Below W0.heap.size W0 W → Below w.heap.size w W) := Lib.hid (fun W hW => a2.trans (hW.mono a2.size))
  have HBOX : Hid (∀ W, Below W0.heap.size W0 W → BlkV W w.heap.size 24 #[.int .i64 u, .int .i64 t, .bool o]) := Lib.hid (fun W hW => a1.below hW a1.lt)
  have HB0 : Hid (Below W0.heap.size W0 W0) := Lib.hid (Below.refl _ _)
  clear hW0 a1 a2 a3
  refine (brief_any _ _ xa _ (HA.out.keep (HLOW.out _ HB0.out)) (by omega)).mono ?_
  rintro e w1 ⟨rfl, hb1⟩
  have HB1 := Lib.hid (HB0.out.trans (hb1.mono HB0.out.size))
  clear hb1
  rw [H1.out]
  go_wp2_with fail
  refine (brief_any _ _ xb _ (HB.out.keep (HLOW.out _ HB1.out)) (by omega)).mono ?_
  rintro e w2 ⟨rfl, hb2⟩
  have HB2 := Lib.hid (HB1.out.trans (hb2.mono HB1.out.size))
  clear hb2
  rw [H2.out]
  go_wp2_with fail
  refine (lawNets_any A c xa _ (HA.out.keep (HLOW.out _ HB2.out)) (by omega)).mono ?_
  rintro e w3 ⟨v3, rfl, ho3, hb3⟩
  have HB3 := Lib.hid (HB2.out.trans (hb3.mono HB2.out.size))
  clear hb3
  obtain ⟨A3, c3, rfl, he3⟩ := ho3.entries
  have HE3 := Lib.hid he3
  clear ho3 he3
  go_wp2_with fail
  refine (lawNets_any B d xb _ (HB.out.keep (HLOW.out _ HB3.out)) (by omega)).mono ?_
  rintro e w4 ⟨v4, rfl, ho4, hb4⟩
  have HB4 := Lib.hid (HB3.out.trans (hb4.mono HB3.out.size))
  have HK := hb4
  clear hb4
  obtain ⟨A4, c4, rfl, he4⟩ := ho4.entries
  have HE4 := Lib.hid he4
  have HE34 := Lib.hid (HE3.out.keep HK)
  clear ho4 he4 HE3
  go_wp2_with fail
  refine (HS.out _ (HLOW.out _ HB4.out)).mono ?_
  rintro e w5 ⟨rfl, hb5⟩
  have HB5 := Lib.hid (HB4.out.trans (hb5.mono HB4.out.size))
  have HEA := Lib.hid (HE34.out.keep hb5)
  have HEB := Lib.hid (HE4.out.keep hb5)
  clear hb5 HE34 HE4
  have hbx5 := HBOX.out _ HB5.out
  have k0 := hbx5.cell 0
  have k1 := hbx5.cell 1
  have k2 := hbx5.cell 2
  simp only [List.getElem?_toArray, List.getElem?_cons_zero, List.getElem?_cons_succ] at k0 k1 k2
  clear hbx5
  go_wp2_with fail
  refine (HD.out _).mono ?_
  rintro e w6 ⟨rfl, hb6⟩
  clear k0 k1 k2
  have HB6 := Lib.hid (HB5.out.trans (hb6.mono HB5.out.size))
  have HEA6 := Lib.hid (HEA.out.keep hb6)
  have HEB6 := Lib.hid (HEB.out.keep hb6)
  clear hb6 HEA HEB
  go_wp2_with fail
  refine (HCA.out _ A3 c3 HEA6.out).mono ?_
  rintro e w9 ⟨rfl, rfl⟩
  go_wp2_with fail
  refine (HCB.out _ A4 c4 HEB6.out).mono ?_
  rintro e w9 ⟨rfl, rfl⟩
  go_wp2_with fail
  refine (lawWhen_any _ _ _).mono ?_
  rintro e w9 ⟨rfl, rfl⟩
  go_wp2_with fail
  refine (lawFirst_any _ _ [_, _, _] _ (by simp) (Ints.three _ _ _ _ _ _ rfl)).mono ?_
  rintro e w9 ⟨rfl, rfl⟩
  rw [HZ.out]
  have hbi := (Below.refl w6.heap.size w6).alloc (Nat.le_refl _) (.cells #[.int .i64 ea, .int .i64 eb, .int .i64 (unlessI (!((xa.length : Int) != (xb.length : Int))) 2)] 3)
  have HB7 := Lib.hid (HB6.out.trans (hbi.mono HB6.out.size))
  clear hbi HEA6 HEB6
  go_wp2_with fail
  refine (lawStates_any none 0 [] _ (fun j hj => absurd hj (Nat.not_lt_zero _)) (by simp)).mono ?_
  rintro e w9 ⟨v9, rfl, ho9, hb9⟩
  obtain ⟨A9, c9, rfl, hs9⟩ := ho9.states
  have HB9 := Lib.hid (HB7.out.trans (hb9.mono HB7.out.size))
  have HS9 := Lib.hid hs9
  clear hb9 ho9 hs9
  go_wp2_with fail
  refine (sameStates_any A9 none c9 0 [] _ HS9.out (fun j hj => absurd hj (Nat.not_lt_zero _)) (by simp)).mono ?_
  rintro e w10 ⟨rfl, hb10⟩
  have HB10 := Lib.hid (HB9.out.trans (hb10.mono HB9.out.size))
  clear hb10
  have hbx10 := HBOX.out _ HB10.out
  have k0 := hbx10.cell 0
  have k1 := hbx10.cell 1
  have k2 := hbx10.cell 2
  simp only [List.getElem?_toArray, List.getElem?_cons_zero, List.getElem?_cons_succ] at k0 k1 k2
  clear hbx10
  go_wp2_with fail
  refine (HC.out _).mono ?_
  rintro e w11 ⟨rfl, hb11⟩
  clear k0 k1 k2
  have HB11 := Lib.hid (HB10.out.trans (hb11.mono HB10.out.size))
  clear hb11
  go_wp2_with fail
  refine (awake_any _).mono ?_
  rintro e wz ⟨rfl, hbz⟩
  have HBZ := Lib.hid (HB11.out.trans (hbz.mono HB11.out.size))
  clear hbz
  go_wp2
  go_ret
  exact ⟨rfl, HLOW.out _ HBZ.out⟩

theorem sidesLaw_any (A B : Option Addr) (c d : Nat) (xa xb : List (Int × ByteArray)) (u t : Int) (o : Bool) (w : World) (ha : EntriesR w A xa) (hb : EntriesR w B xb) (la : xa.length ≤ 4611686018427387904) (lb : xb.length ≤ 4611686018427387904) :
    Calls Tryz.prog 3 #[.slice A xa.length c, .slice B xb.length d, .agg #[.int .i64 u, .int .i64 t, .bool o]] w fun e w' => e = .returned (.bool true) ∧ Below w.heap.size w w' := by
  cases h1 : briefB xa
  · exact sides_w1 A B c d xa xb u t o w ha hb la lb h1
  · cases h2 : briefB xb
    · exact sides_w2 A B c d xa xb u t o w ha hb la lb h1 h2
    · by_cases hz : sidesE xa xb = 0 <;> by_cases hy : stI u t o = 0
      · exact sides_yy A B c d xa xb u t o w ha hb la lb h1 h2 hz hy
      · exact sides_yn A B c d xa xb u t o w ha hb la lb h1 h2 hz _ rfl hy
      · exact sides_ny A B c d xa xb u t o w ha hb la lb h1 h2 _ rfl hz hy
      · exact sides_nn A B c d xa xb u t o w ha hb la lb h1 h2 _ rfl hz _ rfl hy
end Go.Proofs.YtkhhkicfeaeddaaGreatDoor
