/- FormatTurned: the law's walk where its premises hold. -/
import Derived.Test.YtkhhkicfeaeddaaGreatDoorTurB
import Derived.Test.YtkhhkicfeaeddaaGreatDoorSidB
import Derived.Test.YtkhhkicfeaeddaaGreatDoorMatA
import Derived.Test.YtkhhkicfeaeddaaGreatDoorAwkD
import Derived.Test.YtkhhkicfeaeddaaGreatDoorLexK
import Derived.BigQuiet
import Derived.Deep.QuietTactic
import Derived.Outline
set_option linter.unusedVariables false
set_option linter.unusedSimpArgs false
namespace Go.Proofs.YtkhhkicfeaeddaaGreatDoor
open Go.RowKit Go.BigFrame

theorem describe_over (u t : Int) (w : World) (ho : overI u t = true) (ht : 0 ≤ t ∧ t ≤ 36) (hu : -36 ≤ u ∧ u ≤ 36) :
    Calls Tryz.prog 10 #[.agg #[.int .i64 u, .int .i64 t, .bool true]] w fun e w' => e = .returned (.tuple #[.string (wordsB u t), .int .i64 0]) ∧ Below w.heap.size w w' := by
  have h := describe_of u t true (overI u t) w (Lib.hid (fun W => stateOf_any u t W (by omega)))
  rw [desc_over ho ht hu] at h
  exact h

set_option maxRecDepth 100000 in
set_option maxHeartbeats 16000000 in
theorem turned_yes (A B : Option Addr) (c d : Nat) (xa xb : List (Int × ByteArray)) (r0 r1 : Int) (w : World) (ha : EntriesR w A xa) (hb : EntriesR w B xb) (h1 : briefB xa = true) (h2 : briefB xb = true) (hE : sidesE xa xb = 0) :
    Calls Tryz.prog 5 #[.slice A xa.length c, .slice B xb.length d, .agg #[.int .i64 r0, .int .i64 r1]] w fun e w' => e = .returned (.bool true) ∧ Below w.heap.size w w' := by
  obtain ⟨h3, h4, hab⟩ := sidesE_zero hE
  obtain ⟨p0, p36, fa, ba⟩ := netsI_zero h3
  obtain ⟨q0, q36, fb, bb⟩ := netsI_zero h4
  have H1 : Hid (briefB xa = true) := Lib.hid h1
  have H2 : Hid (briefB xb = true) := Lib.hid h2
  have HZ3 : Hid (netsI xa = 0) := Lib.hid h3
  have HZ4 : Hid (netsI xb = 0) := Lib.hid h4
  have HA := Lib.hid ha
  have HB := Lib.hid hb
  have HAB := Lib.hid hab
  have hl5 : ((xa.length : Int) != (xb.length : Int)) = false := by rw [hab]; exact bne_self_eq_false' _
  have HS1 := Lib.hid (fun W (hW : Below w.heap.size w W) => fmSides_yes A B c d xa xb W (ha.keep hW) (hb.keep hW) hE)
  have HS2 := Lib.hid (fun W (hW : Below w.heap.size w W) => fmSides_yes B A d c xb xa W (hb.keep hW) (ha.keep hW) (sidesE_of h4 h3 hab.symm))
  have HS3 := Lib.hid (fun W (hW : Below w.heap.size w W) => fmSides_yes A A c c xa xa W (ha.keep hW) (ha.keep hW) (sidesE_of h3 h3 rfl))
  have HS4 := Lib.hid (fun (k : Nat) (r : Int) (A' B' : Option Addr) (c' d' : Nat) W (g1 : netsI (riseL k r xa) = 0) (g2 : netsI (riseL k r xb) = 0) (e1 : EntriesR W A' (riseL k r xa)) (e2 : EntriesR W B' (riseL k r xb)) => by
    have := fmSides_yes A' B' c' d' _ _ W e1 e2 (sidesE_of g1 g2 (by rw [riseL_len, riseL_len, hab]))
    rwa [states_rise k r hab fa fb] at this)
  have HU1 := Lib.hid (fun (bk br k : Nat) (r : Int) W (hW : Below w.heap.size w W) hk hr hbk hbr => up_any A c bk br k r xa W (ha.keep hW) hk hr ba p36 hbk hbr)
  have HU2 := Lib.hid (fun (bk br k : Nat) (r : Int) W (hW : Below w.heap.size w W) hk hr hbk hbr => up_any B d bk br k r xb W (hb.keep hW) hk hr bb q36 hbk hbr)
  have HSF := Lib.hid (fun i hi => state_facts xa xb i hi)
  have HSU := Lib.hid (fun i hi => state_up xa xb i hi)
  have HSL := Lib.hid (states_len xa xb)
  have HTA := Lib.hid (fun i hi => turned_at hab i hi)
  have htl : (statesL xb xa).length = (statesL xa xb).length := turned_len hab
  have HOF := Lib.hid (fun i hi => own_facts xa i hi)
  have HOL := Lib.hid (states_len xa xa)
  have HRL : Hid (∀ k r, (riseL k r xa).length = xa.length) := Lib.hid (fun k r => riseL_len k r xa)
  have HRL2 : Hid (∀ k r, (riseL k r xb).length = xb.length) := Lib.hid (fun k r => riseL_len k r xb)
  have hsl : (statesL xa xb).length ≤ xa.length := states_len xa xb
  clear ha hb hE h1 h2 h3 h4 fa fb ba bb
  generalize statesL xa xb = S at HS1 HS4 HSF HSU HSL HTA htl hsl
  generalize statesL xb xa = T at HS2 HTA htl
  generalize statesL xa xa = O at HS3 HOF HOL
  have hts : ((S.length : Int) != (T.length : Int)) = false := by rw [htl]; exact bne_self_eq_false' _
  have HTL := Lib.hid htl
  have hss2 : (xa.length < S.length) = False := by simp; omega
  have hss : decide ((xa.length : Int) < (S.length : Int)) = false := decide_eq_false (by omega)
  have hd0 : ¬ (xa.length : Int) = 0 := by omega
  have hdb : ((xa.length : Int) == 0) = false := by simpa using hd0
  obtain ⟨k1, hk1⟩ : ∃ k1, r0.tmod (xa.length : Int) = k1 := ⟨_, rfl⟩
  have kb1 : -(xa.length : Int) < k1 ∧ k1 < (xa.length : Int) := by rw [← hk1]; exact tmod_bound r0 _ (by omega)
  have hwk : IntKind.i64.wrap (k1 + (xa.length : Int)) = k1 + (xa.length : Int) := IntWalk.i64_in _ (by omega)
  obtain ⟨k2, hk2⟩ : ∃ k2 : Nat, (k1 + (xa.length : Int)).tmod (xa.length : Int) = (k2 : Int) := ⟨((k1 + (xa.length : Int)).tmod (xa.length : Int)).toNat, by have := Int.tmod_nonneg (xa.length : Int) (show 0 ≤ k1 + (xa.length : Int) by omega); omega⟩
  have kb2 : (k2 : Int) < (xa.length : Int) := by rw [← hk2]; exact Int.tmod_lt_of_pos _ (by omega)
  obtain ⟨rr, hrr⟩ : ∃ rr, r1.tmod 50 = rr := ⟨_, rfl⟩
  have rb : -50 < rr ∧ rr < 50 := by rw [← hrr]; exact tmod_bound r1 50 (by omega)
  have HK2 : Hid (k2 < xa.length) := Lib.hid (by omega)
  have HRB : Hid (-50 ≤ rr ∧ rr ≤ 50) := Lib.hid (by omega)
  clear htl hab q0 q36
  go_enter Tryz.func5, Tryz.ntmps5
  go_wp2_with fail
  generalize hW0 : w.alloc (.cells #[.int .i64 r0, .int .i64 r1] 67) = W0
  obtain ⟨a1, a2, a3⟩ := one_alloc w _ _ hW0
  have HBX := Lib.hid a1
  have HLOW : Hid (∀ W, Below W0.heap.size W0 W → Below w.heap.size w W) := Lib.hid (fun W hW => a2.trans (hW.mono a2.size))
  have HBOX : Hid (∀ W, Below W0.heap.size W0 W → BlkV W w.heap.size 67 #[.int .i64 r0, .int .i64 r1]) := Lib.hid (fun W hW => a1.below hW a1.lt)
  have HB0 : Hid (Below W0.heap.size W0 W0) := Lib.hid (Below.refl _ _)
  clear hW0 a1 a2 a3 HBX
  refine (brief_any _ _ xa _ (HA.out.keep (HLOW.out _ HB0.out)) (by have := HAB.out; omega)).mono ?_
  rintro e w1 ⟨rfl, hb1⟩
  have HB1 := Lib.hid (HB0.out.trans (hb1.mono HB0.out.size))
  clear hb1
  rw [H1.out]
  go_wp2_with fail
  refine (brief_any _ _ xb _ (HB.out.keep (HLOW.out _ HB1.out)) (by have := HAB.out; omega)).mono ?_
  rintro e w2 ⟨rfl, hb2⟩
  have HB2 := Lib.hid (HB1.out.trans (hb2.mono HB1.out.size))
  clear hb2
  rw [H2.out]
  go_wp2_with fail
  refine (lawNets_any _ _ xa _ (HA.out.keep (HLOW.out _ HB2.out)) (by omega)).mono ?_
  rintro e w3 ⟨v3, rfl, ho3, hb3⟩
  obtain ⟨A3, c3, rfl, he3⟩ := ho3.entries
  have HE3 := Lib.hid he3
  have HB3 := Lib.hid (HB2.out.trans (hb3.mono HB2.out.size))
  clear ho3 he3 hb3
  go_wp2_with fail
  refine (refCheckNets_any _ _ xa _ (by omega) HE3.out).mono ?_
  rintro e w9 ⟨rfl, rfl⟩
  rw [HZ3.out]
  go_wp2_with fail
  refine (lawNets_any _ _ xb _ (HB.out.keep (HLOW.out _ HB3.out)) (by have := HAB.out; omega)).mono ?_
  rintro e w4 ⟨v4, rfl, ho4, hb4⟩
  obtain ⟨A4, c4, rfl, he4⟩ := ho4.entries
  have HE4 := Lib.hid he4
  have HB4 := Lib.hid (HB3.out.trans (hb4.mono HB3.out.size))
  clear ho4 he4 hb4
  go_wp2_with fail
  refine (refCheckNets_any _ _ xb _ (by have := HAB.out; omega) HE4.out).mono ?_
  rintro e w9 ⟨rfl, rfl⟩
  rw [HZ4.out]
  go_wp2_with fail
  refine (HS1.out _ (HLOW.out _ HB4.out)).mono ?_
  rintro e w5 ⟨AS, cS, rfl, hs5, _, hb5⟩
  have HB5 := Lib.hid (HB4.out.trans (hb5.mono HB4.out.size))
  have HS5 := Lib.hid hs5
  clear hb5 hs5
  go_wp2_with fail
  refine (HS2.out _ (HLOW.out _ HB5.out)).mono ?_
  rintro e w6 ⟨AT, cT, rfl, ht6, _, hb6⟩
  have HB6 := Lib.hid (HB5.out.trans (hb6.mono HB5.out.size))
  have HT6 := Lib.hid ht6
  have HS6 := Lib.hid (HS5.out.keep hb6)
  clear hb6 ht6 HS5 HE3 HE4 HB1 HB2 HB3 HB4 HB5 HS1 HS2 H1 H2
  go_wp2
  go_loopw [11, 90] (fun lv kv w' => ∃ (k : Nat) (last : Int), k ≤ S.length ∧ kv = .int .i64 k ∧ lv = .int .i64 last ∧ last = (if k = 0 then 0 else (S.getD (k - 1) (0, 0, false)).1) ∧ Below w6.heap.size w6 w') (fun _ kv _ => S.length - (intOf kv).toNat)
  case atStart => exact ⟨0, 0, Nat.zero_le _, rfl, rfl, rfl, Below.refl _ _⟩
  case round =>
    obtain ⟨k, last, hk, rfl, rfl, hla, hb⟩ := hrel
    have HBR := Lib.hid hb
    have HB7 := Lib.hid (HB6.out.trans (hb.mono HB6.out.size))
    clear hb
    have hk0 : (0 : Int) ≤ (k : Int) := Int.natCast_nonneg _
    by_cases hlt : k < S.length
    · have hki : (k : Int) < (S.length : Int) := by omega
      have hkt : (k : Int) < (T.length : Int) := by have := HTL.out; omega
      obtain ⟨f1, f2, f3, f4⟩ := HSF.out k hlt
      have f5 := HSU.out k hlt
      rw [← hla] at f3
      have HNX : Hid ((S.getD k (0, 0, false)).1 = (if k + 1 = 0 then 0 else (S.getD (k + 1 - 1) (0, 0, false)).1)) := Lib.hid (by rw [if_neg (by omega), Nat.add_sub_cancel])
      obtain ⟨a, rfl, d0, d1, d2, _⟩ := (HS6.out.keep HBR.out) k hlt
      obtain ⟨b, rfl, e0, e1, e2, _⟩ := (HT6.out.keep HBR.out) k (by have := HTL.out; omega)
      rw [HTA.out k hlt] at e0 e1 e2
      clear hla
      generalize S.getD k (0, 0, false) = st at f1 f2 f3 f4 f5 d0 d1 d2 e0 e1 e2 HNX
      obtain ⟨u, t, o⟩ := st
      simp only [negS] at f1 f2 f3 f4 f5 d0 d1 d2 e0 e1 e2 HNX
      obtain ⟨v, hv⟩ : ∃ v, v = -u := ⟨_, rfl⟩
      rw [← hv] at e0
      have hng : IntKind.i64.wrap (-v) = u := by rw [hv, Int.neg_neg]; exact IntWalk.i64_in _ (by omega)
      have hu1 : (u != u) = false := bne_self_eq_false' _
      have ht1 : (t != t) = false := bne_self_eq_false' _
      have hw1 : IntKind.i64.wrap ((xa.length : Int) - (k : Int)) = (xa.length : Int) - (k : Int) := IntWalk.i64_in _ (by omega)
      have hw2 : IntKind.i64.wrap ((xa.length : Int) - (k : Int) - 1) = t := by rw [IntWalk.i64_in _ (by omega)]; omega
      have hw3 : IntKind.i64.wrap ((S.length : Int) - 1) = (S.length : Int) - 1 := IntWalk.i64_in _ (by omega)
      have hw4 : IntKind.i64.wrap (u - last) = u - last := IntWalk.i64_in _ (by omega)
      have hw5 : IntKind.i64.wrap (last - u) = last - u := IntWalk.i64_in _ (by omega)
      have hd4 : decide (1 < u - last) = false := decide_eq_false (by omega)
      have hd5 : decide (1 < last - u) = false := decide_eq_false (by omega)
      have htb : 0 ≤ t ∧ t ≤ 36 := by omega
      have hub : -36 ≤ u ∧ u ≤ 36 := by omega
      have HTB := Lib.hid htb
      have HUB := Lib.hid hub
      have HV := Lib.hid hv
      have F2 := Lib.hid f2
      clear f1 f2 f3 f5 hv htb
      go_wp2
      dsimp only [List.append]
      refine wp_region_quiet_lit (by kernel_rfl) (lex_local 93 (by kernel_rfl) (by kernel_rfl)) ?_
      by_cases hkl : k + 1 = S.length
      · have hkb : ((k : Int) == (S.length : Int) - 1) = true := by rw [beq_iff_eq]; omega
        have HOV := Lib.hid (fun W => still_of (refIsOver_any u t W (by omega)))
        rw [← F2.out] at HOV
        cases o
        · repeat (go_big_quiet_step ((go_at_call 29; exact Calls.quiet_of_same (HOV.out _))))
          refine wpQuiet_nil ?_
          intro _ hw'
          obtain ⟨nq, hw''⟩ := hw'
          subst hw''
          go_wp2
          go_roundw
          case rel => first | exact ⟨k + 1, u, by omega, by go_num, rfl, HNX.out, below_drewN HBR.out _⟩ | ((repeat refine Exists.intro _ ?_); exact ⟨⟨k + 1, u, by omega, by go_num, rfl, HNX.out, below_drewN HBR.out _⟩, rfl⟩)
          case measure => simp [intOf]; omega
        · have hdd : ∃ x y : ByteArray, (∀ W, Calls Tryz.prog 10 #[.agg #[.int .i64 u, .int .i64 t, .bool true]] W fun e w' => e = .returned (.tuple #[.string x, .int .i64 0]) ∧ Below W.heap.size W w') ∧
              (∀ W, Calls Tryz.prog 10 #[.agg #[.int .i64 v, .int .i64 t, .bool true]] W fun e w' => e = .returned (.tuple #[.string y, .int .i64 0]) ∧ Below W.heap.size W w') ∧ ((x.toList == y.toList) = (u == 0)) :=
            ⟨wordsB u t, wordsB v t, fun W => describe_over u t W F2.out.symm HTB.out HUB.out, fun W => describe_over v t W (by rw [HV.out, over_neg]; exact F2.out.symm) HTB.out (by have := HV.out; have := HUB.out; omega), by rw [HV.out]; exact words_turned u t⟩
          obtain ⟨x, y, hd1, hd2, hxy0⟩ := hdd
          have HD1 := Lib.hid hd1
          have HD2 := Lib.hid hd2
          have HXY := Lib.hid hxy0
          clear hd1 hd2 hxy0
          repeat (go_big_quiet_step ((go_at_call 29; exact Calls.quiet_of_same (HOV.out _))))
          refine wpQuiet_nil ?_
          intro _ hw'
          obtain ⟨nq, hw''⟩ := hw'
          subst hw''
          obtain ⟨W7, hW7⟩ : ∃ W7, wr.drewN nq = W7 := ⟨_, rfl⟩
          rw [hW7]
          have hbq : Below w6.heap.size w6 W7 := by subst hW7; exact below_drewN HBR.out _
          have HBQ := Lib.hid hbq
          rw [show wr.cell? = W7.cell? from by subst hW7; rfl] at d0 d1 d2 e0 e1 e2
          clear hW7 hbq
          go_wp2_with fail
          refine (HD1.out _).mono ?_
          rintro e w8 ⟨rfl, hb8⟩
          have HB8 := Lib.hid (HBQ.out.trans (hb8.mono HBQ.out.size))
          rw [← hb8.cell (World.block_lt_of_cell? _ _ d0)] at d0
          rw [← hb8.cell (World.block_lt_of_cell? _ _ d1)] at d1
          rw [← hb8.cell (World.block_lt_of_cell? _ _ d2)] at d2
          rw [← hb8.cell (World.block_lt_of_cell? _ _ e0)] at e0
          rw [← hb8.cell (World.block_lt_of_cell? _ _ e1)] at e1
          rw [← hb8.cell (World.block_lt_of_cell? _ _ e2)] at e2
          clear hb8
          go_wp2_with fail
          refine (HD2.out _).mono ?_
          rintro e w9 ⟨rfl, hb9⟩
          have HB9 := Lib.hid (HB8.out.trans (hb9.mono HB8.out.size))
          rw [← hb9.cell (World.block_lt_of_cell? _ _ d0)] at d0
          clear hb9 d1 d2 e0 e1 e2
          cases hu0 : (u == 0)
          all_goals
            have hxy : (x.toList == y.toList) = (u == 0) := HXY.out
            rw [hu0] at hxy
            go_wp2
            go_roundw
            case rel => first | exact ⟨k + 1, u, by omega, by go_num, rfl, HNX.out, HB9.out⟩ | ((repeat refine Exists.intro _ ?_); exact ⟨⟨k + 1, u, by omega, by go_num, rfl, HNX.out, HB9.out⟩, rfl⟩)
            case measure => simp [intOf]; omega
      · have hkf : ((k : Int) == (S.length : Int) - 1) = false := by rw [beq_eq_false_iff_ne]; omega
        have ho := f4 (by omega)
        subst ho
        repeat (go_big_quiet_step (fail))
        refine wpQuiet_nil ?_
        intro _ hw'
        obtain ⟨nq, hw''⟩ := hw'
        subst hw''
        go_wp2
        go_roundw
        case rel => first | exact ⟨k + 1, u, by omega, by go_num, rfl, HNX.out, below_drewN HBR.out _⟩ | ((repeat refine Exists.intro _ ?_); exact ⟨⟨k + 1, u, by omega, by go_num, rfl, HNX.out, below_drewN HBR.out _⟩, rfl⟩)
        case measure => simp [intOf]; omega
    · clear hla
      have hbx := HBOX.out _ HB7.out
      have k0 := hbx.cell 0
      have k1' := (hbx.alloc (.cells #[.int .i64 (k2 : Int)] 3)).cell 1
      simp only [List.getElem?_toArray, List.getElem?_cons_zero, List.getElem?_cons_succ] at k0 k1'
      clear hbx
      go_wp2_with fail
      generalize hW8 : (wr.alloc (.cells #[.int .i64 (k2 : Int)] 3)).alloc (.cells #[.int .i64 rr] 3) = W8
      obtain ⟨a1, a2, a3, _⟩ := two_allocs wr _ _ _ _ hW8
      have HB8 := Lib.hid (HB7.out.trans (a3.mono HB7.out.size))
      have HS8 := Lib.hid ((HS6.out.keep HBR.out).keep a3)
      have c0 := a1.cell 0
      have c1' := a2.cell 0
      simp only [List.getElem?_toArray, List.getElem?_cons_zero, List.getElem?_cons_succ] at c0 c1'
      have HA1 := Lib.hid a1
      have HA2 := Lib.hid a2
      clear hW8 a1 a2 a3 k0 k1'
      refine (HU1.out wr.heap.size (wr.heap.size + 1) k2 rr W8 (HLOW.out _ HB8.out) HK2.out HRB.out c0 c1').mono ?_
      clear c0 c1'
      rintro e w9 ⟨g9, c9, rfl, he9, _, hb9⟩
      have HB9 := Lib.hid (HB8.out.trans (hb9.mono HB8.out.size))
      have HS9 := Lib.hid (HS8.out.keep hb9)
      have HE9 := Lib.hid he9
      have c0 := (HA1.out.below hb9 HA1.out.lt).cell 0
      have c1' := (HA2.out.below hb9 HA2.out.lt).cell 0
      simp only [List.getElem?_toArray, List.getElem?_cons_zero, List.getElem?_cons_succ] at c0 c1'
      clear hb9 he9 HS8
      go_wp2_with fail
      refine (HU2.out wr.heap.size (wr.heap.size + 1) k2 rr w9 (HLOW.out _ HB9.out) (by have := HK2.out; have := HAB.out; omega) HRB.out c0 c1').mono ?_
      clear c0 c1'
      rintro e w10 ⟨g10, c10, rfl, he10, _, hb10⟩
      have HB10 := Lib.hid (HB9.out.trans (hb10.mono HB9.out.size))
      have HS10 := Lib.hid (HS9.out.keep hb10)
      have HE910 := Lib.hid (HE9.out.keep hb10)
      have HE10 := Lib.hid he10
      clear hb10 he10 HE9 HS9 HA1 HA2
      have hr1 := HRL.out k2 rr
      have hr2 := HRL2.out k2 rr
      have HS4' := Lib.hid (fun (A' B' : Option Addr) (c' d' : Nat) W => HS4.out k2 rr A' B' c' d' W)
      have hlb : xb.length ≤ 36 := by have := HAB.out; omega
      generalize riseL k2 rr xa = L1 at HE910 HS4' hr1
      generalize riseL k2 rr xb = L2 at HE10 HS4' hr2
      have HC1 := Lib.hid (fun W (E : Option Addr) (f : Nat) (he : EntriesR W E L1) => refCheckNets_any E f L1 W (by omega) he)
      have HC2 := Lib.hid (fun W (E : Option Addr) (f : Nat) (he : EntriesR W E L2) => refCheckNets_any E f L2 W (by omega) he)
      have hn1 : L1.length ≤ 1000 := by omega
      have hn2 : L2.length ≤ 1000 := by omega
      have HN1 := Lib.hid hn1
      have HN2 := Lib.hid hn2
      clear hr1 hr2 hlb hn1 hn2
      generalize netsI L1 = z1 at HC1 HS4'
      generalize netsI L2 = z2 at HC2 HS4'
      go_wp2_with fail
      refine (lawNets_any _ _ L1 _ HE910.out HN1.out).mono ?_
      rintro e w11 ⟨v11, rfl, ho11, hb11⟩
      obtain ⟨A11, c11, rfl, he11⟩ := ho11.entries
      have HE11 := Lib.hid he11
      have HB11 := Lib.hid (HB10.out.trans (hb11.mono HB10.out.size))
      have HS11 := Lib.hid (HS10.out.keep hb11)
      have HP1 := Lib.hid (HE910.out.keep hb11)
      have HP2 := Lib.hid (HE10.out.keep hb11)
      clear ho11 he11 hb11 HS10 HE910 HE10
      by_cases hz1 : z1 = 0
      · subst hz1
        go_wp2_with fail
        refine (HC1.out _ A11 c11 HE11.out).mono ?_
        rintro e wq ⟨rfl, rfl⟩
        go_wp2_with fail
        refine (lawNets_any _ _ L2 _ HP2.out HN2.out).mono ?_
        rintro e w12 ⟨v12, rfl, ho12, hb12⟩
        obtain ⟨A12, c12, rfl, he12⟩ := ho12.entries
        have HE12 := Lib.hid he12
        have HB12 := Lib.hid (HB11.out.trans (hb12.mono HB11.out.size))
        have HS12 := Lib.hid (HS11.out.keep hb12)
        have HQ1 := Lib.hid (HP1.out.keep hb12)
        have HQ2 := Lib.hid (HP2.out.keep hb12)
        clear ho12 he12 hb12 HS11 HP1 HP2
        by_cases hz2 : z2 = 0
        · subst hz2
          go_wp2_with fail
          refine (HC2.out _ A12 c12 HE12.out).mono ?_
          rintro e wq ⟨rfl, rfl⟩
          go_wp2_with fail
          refine (HS4'.out (some ⟨g9, 0, none⟩) (some ⟨g10, 0, none⟩) c9 c10 _ (by simp) (by simp) HQ1.out HQ2.out).mono ?_
          rintro e w13 ⟨A13, c13, rfl, hs13, _, hb13⟩
          have HB13 := Lib.hid (HB12.out.trans (hb13.mono HB12.out.size))
          have HS13 := Lib.hid (HS12.out.keep hb13)
          have HU13 := Lib.hid hs13
          clear hs13 hb13 HS12 HQ1 HQ2
          go_wp2_with fail
          refine (HS3.out _ (HLOW.out _ HB13.out)).mono ?_
          rintro e w14 ⟨A14, c14, rfl, ho14, _, hb14⟩
          have HB14 := Lib.hid (HB13.out.trans (hb14.mono HB13.out.size))
          have HS14 := Lib.hid (HS13.out.keep hb14)
          have HU14 := Lib.hid (HU13.out.keep hb14)
          have HO14 := Lib.hid ho14
          clear ho14 hb14 HS13 HU13
          go_wp2_with fail
          refine (lawStates_any A13 c13 S _ HU14.out (by have := HSL.out; omega)).mono ?_
          rintro e w15 ⟨v15, rfl, ho15, hb15⟩
          obtain ⟨A15, c15, rfl, hs15⟩ := ho15.states
          have HB15 := Lib.hid (HB14.out.trans (hb15.mono HB14.out.size))
          have HS15 := Lib.hid (HS14.out.keep hb15)
          have HO15 := Lib.hid (HO14.out.keep hb15)
          have HX15 := Lib.hid hs15
          clear ho15 hs15 hb15 HS14 HU14 HO14
          go_wp2_with fail
          refine (lawStates_any AS cS S _ HS15.out (by have := HSL.out; omega)).mono ?_
          rintro e w16 ⟨v16, rfl, ho16, hb16⟩
          obtain ⟨A16, c16, rfl, hs16⟩ := ho16.states
          have HB16 := Lib.hid (HB15.out.trans (hb16.mono HB15.out.size))
          have HX16 := Lib.hid (HX15.out.keep hb16)
          have HO16 := Lib.hid (HO15.out.keep hb16)
          have HY16 := Lib.hid hs16
          clear ho16 hs16 hb16 HS15 HX15 HO15
          go_wp2_with fail
          refine (sameStates_any A15 A16 c15 c16 S _ HX16.out HY16.out (by have := HSL.out; omega)).mono ?_
          rintro e w17 ⟨rfl, hb17⟩
          have HB17 := Lib.hid (HB16.out.trans (hb17.mono HB16.out.size))
          have HO17 := Lib.hid (HO16.out.keep hb17)
          clear hb17 HX16 HY16 HO16
          go_wp2
          go_loopw [295] (fun kv w' => ∃ j : Nat, j ≤ O.length ∧ kv = .int .i64 j ∧ Below w17.heap.size w17 w') (fun kv _ => O.length - (intOf kv).toNat)
          case atStart => exact ⟨0, Nat.zero_le _, rfl, Below.refl _ _⟩
          case round =>
            rename_i wl _
            obtain ⟨j, hj, rfl, hbl⟩ := hrel
            have HBL := Lib.hid hbl
            clear hbl
            have hol := HOL.out
            have hj0 : (0 : Int) ≤ (j : Int) := Int.natCast_nonneg _
            by_cases hlt : j < O.length
            · have hji : (j : Int) < (O.length : Int) := by omega
              obtain ⟨o1, o2⟩ := HOF.out j hlt
              obtain ⟨a, rfl, d0, d1, d2, _⟩ := (HO17.out.keep HBL.out) j hlt
              generalize O.getD j (0, 0, false) = st at o1 o2 d0 d1 d2
              obtain ⟨u, t, o⟩ := st
              simp only at o1 o2 d0 d1 d2
              subst o1
              have hw6 : IntKind.i64.wrap ((xa.length : Int) - 1) = (xa.length : Int) - 1 := IntWalk.i64_in _ (by omega)
              have hii : ((j : Int) == (xa.length : Int) - 1) = o := by
                rw [o2]
                by_cases g : (j : Int) = (xa.length : Int) - 1
                · rw [decide_eq_true g, beq_iff_eq]; exact g
                · rw [decide_eq_false g, beq_eq_false_iff_ne]; exact g
              clear o2
              cases o
              all_goals
                go_wp2
                go_roundw
                case rel => first | exact ⟨j + 1, by omega, by go_num, HBL.out.alloc HBL.out.size _⟩ | ((repeat refine Exists.intro _ ?_); exact ⟨⟨j + 1, by omega, by go_num, HBL.out.alloc HBL.out.size _⟩, rfl⟩)
                case measure => simp [intOf]; omega
            · have HB18 := Lib.hid (HB17.out.trans (HBL.out.mono HB17.out.size))
              go_wp2_with fail
              refine (awake_any _).mono ?_
              rintro e wz ⟨rfl, hbz⟩
              have HBZ := Lib.hid (HB18.out.trans (hbz.mono HB18.out.size))
              clear hbz
              go_wp2
              go_ret
              exact ⟨rfl, HLOW.out _ HBZ.out⟩
        · have hzb : (z2 != 0) = true := by simpa using hz2
          go_wp2_with fail
          refine (HC2.out _ A12 c12 HE12.out).mono ?_
          rintro e wq ⟨rfl, rfl⟩
          go_wp2_with fail
          refine (awake_any _).mono ?_
          rintro e wz ⟨rfl, hbz⟩
          have HBZ := Lib.hid (HB12.out.trans (hbz.mono HB12.out.size))
          clear hbz
          go_wp2
          go_ret
          exact ⟨rfl, HLOW.out _ HBZ.out⟩
      · have hzb : (z1 != 0) = true := by simpa using hz1
        go_wp2_with fail
        refine (HC1.out _ A11 c11 HE11.out).mono ?_
        rintro e wq ⟨rfl, rfl⟩
        go_wp2_with fail
        refine (awake_any _).mono ?_
        rintro e wz ⟨rfl, hbz⟩
        have HBZ := Lib.hid (HB11.out.trans (hbz.mono HB11.out.size))
        clear hbz
        go_wp2
        go_ret
        exact ⟨rfl, HLOW.out _ HBZ.out⟩
end Go.Proofs.YtkhhkicfeaeddaaGreatDoor
