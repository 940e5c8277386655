/- TopLinksRaised: the law's walk. -/
import Derived.Test.YtbckfkopdojggaaGreatDoorRaiT
import Derived.Test.YtbckfkopdojggaaGreatDoorNotV
import Derived.Test.YtbckfkopdojggaaGreatDoorMgE
import Derived.Deep.RegionHeld3
import Derived.Deep.DeepCutAuto
import Derived.Deep.CutBlock
import Derived.Outline
set_option linter.unusedVariables false
set_option linter.unusedSimpArgs false
namespace Go.Proofs.YtbckfkopdojggaaGreatDoor
open Go.RowKit

set_option maxRecDepth 100000 in
set_option maxHeartbeats 16000000 in
theorem raised_few (X A0 : Option Addr) (ch c0 nh np : Nat) (r : Int) (w : World) (fq : Bool) (hn : fq = false ∨ (fq = true ∧ np < 2))
    (kF : ∀ W, Below w.heap.size w W → Calls Tryz.prog 19 #[.agg #[.slice X nh ch, .slice A0 np c0]] W fun e w' => e = .returned (.bool fq) ∧ Below W.heap.size W w')
    (kL : ∀ W, Below w.heap.size w W → Calls Tryz.prog 20 #[] W fun e w' => e = .returned (.bool true) ∧ Below W.heap.size W w') :
    Calls Tryz.prog 5 #[.agg #[.slice X nh ch, .slice A0 np c0], .int .i8 r] w fun e w' => e = .returned (.bool true) ∧ Below w.heap.size w w' := by
  have HKF := Lib.hid kF
  have HKL := Lib.hid kL
  clear kF kL
  have hlt : fq = true → decide ((np : Int) < 2) = true := fun h => by
    rcases hn with h2 | ⟨_, h2⟩
    · rw [h] at h2; cases h2
    · exact decide_eq_true (by omega)
  clear hn
  go_enter Tryz.func5, Tryz.ntmps5
  go_wp2_with fail
  generalize hW0 : w.alloc (.cells #[.slice X nh ch, .slice A0 np c0] 25) = W0
  obtain ⟨a1, a2, a3⟩ := one_alloc w _ _ hW0
  have HBX := Lib.hid a1
  have HB0 := Lib.hid a2
  clear hW0 a1 a2 a3
  refine (HKF.out W0 HB0.out).mono ?_
  rintro e w1 ⟨rfl, hb1⟩
  have hbx := HBX.out.below hb1 HBX.out.lt
  have x0 := hbx.cell 0
  have x1 := hbx.cell 1
  simp only [List.getElem?_toArray, List.getElem?_cons_zero, List.getElem?_cons_succ] at x0 x1
  have HB1 := Lib.hid (HB0.out.trans (hb1.mono HB0.out.size))
  clear hbx hb1
  cases fq
  · go_wp2_with fail
    refine (HKL.out _ HB1.out).mono ?_
    rintro e w2 ⟨rfl, hb2⟩
    have HB2 := Lib.hid (HB1.out.trans (hb2.mono HB1.out.size))
    clear hb2
    go_wp2
    go_ret
    exact ⟨rfl, HB2.out⟩
  · have hlt2 := hlt rfl
    clear hlt
    go_wp2_with fail
    refine (HKL.out _ HB1.out).mono ?_
    rintro e w2 ⟨rfl, hb2⟩
    have HB2 := Lib.hid (HB1.out.trans (hb2.mono HB1.out.size))
    clear hb2
    go_wp2
    go_ret
    exact ⟨rfl, HB2.out⟩

set_option maxRecDepth 100000 in
set_option maxHeartbeats 16000000 in
theorem raised_main (X : Option Addr) (a0 : Addr) (ch c0 nh np : Nat) (a b : Pl) (A B : Option Addr) (c d : Nat) (r m : Int) (w : World) (h2 : 2 ≤ np) (hr : -128 ≤ r ∧ r ≤ 127) (hnh : nh ≤ 36) (hm : m = r * (nh : Int)) (hah : -99 ≤ a.h ∧ a.h ≤ 99) (hbh : -99 ≤ b.h ∧ b.h ≤ 99)
    (p0 : w.cell? a0 = some (.string a.nm)) (p1 : w.cell? ⟨a0.block, a0.off + 1, none⟩ = some (.slice A a.l.length c)) (p2 : w.cell? ⟨a0.block, a0.off + 2, none⟩ = some (.int .i64 a.h)) (p9 : a0.block < w.heap.size)
    (p3 : w.cell? ⟨a0.block, a0.off + 3, none⟩ = some (.string b.nm)) (p4 : w.cell? ⟨a0.block, a0.off + 3 + 1, none⟩ = some (.slice B b.l.length d)) (p5 : w.cell? ⟨a0.block, a0.off + 3 + 2, none⟩ = some (.int .i64 b.h))
    (kF : ∀ W, Below w.heap.size w W → Calls Tryz.prog 19 #[.agg #[.slice X nh ch, .slice (some a0) np c0]] W fun e w' => e = .returned (.bool true) ∧ Below W.heap.size W w')
    (kL : ∀ W, Below w.heap.size w W → Calls Tryz.prog 20 #[] W fun e w' => e = .returned (.bool true) ∧ Below W.heap.size W w')
    (gl : List Int) (st : List St) (hgl : gl.length = nh) (hgb : ∀ z ∈ gl, -1000 ≤ z ∧ z ≤ 1000) (hsl : st.length ≤ 36)
    (kG : ∀ W, Below w.heap.size w W → Calls Tryz.prog 26 #[.slice X nh ch, .int .i64 a.h] W (RowOut gl W))
    (kG2 : -99 ≤ a.h + m → a.h + m ≤ 99 → ∀ W, Below w.heap.size w W → Calls Tryz.prog 26 #[.slice X nh ch, .int .i64 (a.h + m)] W (RowOut (gl.map (· + r)) W))
    (kM : ∀ W, Below w.heap.size w W → Calls Tryz.prog 27 #[.slice X nh ch, .agg #[.string a.nm, .slice A a.l.length c, .int .i64 a.h], .agg #[.string b.nm, .slice B b.l.length d, .int .i64 b.h]] W (MatchOut st W))
    (kM2 : -99 ≤ a.h + m ∧ a.h + m ≤ 99 ∧ -99 ≤ b.h + m ∧ b.h + m ≤ 99 → ∀ W, Below w.heap.size w W → Calls Tryz.prog 27 #[.slice X nh ch, .agg #[.string a.nm, .slice A a.l.length c, .int .i64 (a.h + m)], .agg #[.string b.nm, .slice B b.l.length d, .int .i64 (b.h + m)]] W (MatchOut st W))
    (kUA : ∀ W, Below w.heap.size w W → Calls Tryz.prog 28 #[.agg #[.string a.nm, .slice A a.l.length c, .int .i64 a.h]] W (RaisedOut a.nm a.l a.h A c W))
    (kUB : ∀ W, Below w.heap.size w W → Calls Tryz.prog 28 #[.agg #[.string b.nm, .slice B b.l.length d, .int .i64 b.h]] W (RaisedOut b.nm b.l b.h B d W))
    (kM3 : ∀ W g1 c1 g2 c2, Below w.heap.size w W → EntriesR W (some ⟨g1, 0, none⟩) (a.l.map upE) → EntriesR W (some ⟨g2, 0, none⟩) (b.l.map upE) → roomL a.l → roomL b.l → Calls Tryz.prog 27 #[.slice X nh ch, .agg #[.string a.nm, .slice (some ⟨g1, 0, none⟩) a.l.length c1, .int .i64 a.h], .agg #[.string b.nm, .slice (some ⟨g2, 0, none⟩) b.l.length c2, .int .i64 b.h]] W (MatchOut st W)) :
    Calls Tryz.prog 5 #[.agg #[.slice X nh ch, .slice (some a0) np c0], .int .i8 r] w fun e w' => e = .returned (.bool true) ∧ Below w.heap.size w w' := by
  have HKF := Lib.hid kF
  have HKL := Lib.hid kL
  have HG := Lib.hid kG
  have HG2R := Lib.hid kG2
  have HMT := Lib.hid kM
  have HM2R := Lib.hid kM2
  have HUA := Lib.hid kUA
  have HUB := Lib.hid kUB
  have HM3 := Lib.hid kM3
  have HGB := Lib.hid hgb
  clear kF kL kG kG2 kM kM2 kUA kUB kM3 hgb
  subst hgl
  have hlt : decide ((np : Int) < 2) = false := decide_eq_false (by omega)
  have hp0 : (0 : Int) < (np : Int) := by omega
  have hp1 : (1 : Int) < (np : Int) := by omega
  have hmb : -4608 ≤ m ∧ m ≤ 4608 := by
    have h1 : (gl.length : Int) ≤ 36 := by omega
    have h3 : (0 : Int) ≤ (gl.length : Int) := by omega
    rw [hm]
    constructor
    · have : (-128) * (gl.length : Int) ≤ r * (gl.length : Int) := Int.mul_le_mul_of_nonneg_right hr.1 h3
      omega
    · have : r * (gl.length : Int) ≤ 127 * (gl.length : Int) := Int.mul_le_mul_of_nonneg_right hr.2 h3
      omega
  have hw0 : IntKind.i64.wrap r = r := IntWalk.i64_in _ (by omega)
  have hw1 : IntKind.i64.wrap (r * (gl.length : Int)) = m := by rw [← hm]; exact IntWalk.i64_in _ (by omega)
  have HM := Lib.hid hm
  clear hm h2
  obtain ⟨ah2, ha2⟩ : ∃ ah2, a.h + m = ah2 := ⟨_, rfl⟩
  obtain ⟨bh2, hb2⟩ : ∃ bh2, b.h + m = bh2 := ⟨_, rfl⟩
  have hw2 : IntKind.i64.wrap (a.h + m) = ah2 := by rw [← ha2]; exact IntWalk.i64_in _ (by omega)
  have hw3 : IntKind.i64.wrap (b.h + m) = bh2 := by rw [← hb2]; exact IntWalk.i64_in _ (by omega)
  have HA2 := Lib.hid ha2
  have HB2 := Lib.hid hb2
  clear ha2 hb2
  have HPW : Hid (∀ W, Below w.heap.size w W → W.cell? a0 = some (.string a.nm) ∧ W.cell? ⟨a0.block, a0.off + 1, none⟩ = some (.slice A a.l.length c) ∧ W.cell? ⟨a0.block, a0.off + 2, none⟩ = some (.int .i64 a.h) ∧
      W.cell? ⟨a0.block, a0.off + 3, none⟩ = some (.string b.nm) ∧ W.cell? ⟨a0.block, a0.off + 3 + 1, none⟩ = some (.slice B b.l.length d) ∧ W.cell? ⟨a0.block, a0.off + 3 + 2, none⟩ = some (.int .i64 b.h)) := Lib.hid (fun W h =>
    ⟨(h.cell p9).trans p0, (h.cell (p := ⟨_, _, none⟩) p9).trans p1, (h.cell (p := ⟨_, _, none⟩) p9).trans p2, (h.cell (p := ⟨_, _, none⟩) p9).trans p3, (h.cell (p := ⟨_, _, none⟩) p9).trans p4, (h.cell (p := ⟨_, _, none⟩) p9).trans p5⟩)
  clear p0 p1 p2 p3 p4 p5
  go_enter Tryz.func5, Tryz.ntmps5
  go_wp2_with fail
  generalize hW0 : w.alloc (.cells #[.slice X gl.length ch, .slice (some a0) np c0] 25) = W0
  obtain ⟨a1, a2, a3⟩ := one_alloc w _ _ hW0
  have HBX := Lib.hid a1
  have HB0 := Lib.hid a2
  clear hW0 a1 a2 a3
  refine (HKF.out W0 HB0.out).mono ?_
  rintro e w1 ⟨rfl, hb1⟩
  have hbx := HBX.out.below hb1 HBX.out.lt
  have x0 := hbx.cell 0
  have x1 := hbx.cell 1
  simp only [List.getElem?_toArray, List.getElem?_cons_zero, List.getElem?_cons_succ] at x0 x1
  have HX1 := Lib.hid hbx
  have HB1 := Lib.hid (HB0.out.trans (hb1.mono HB0.out.size))
  clear hbx hb1
  obtain ⟨q0, q1, q2, q3, q4, q5⟩ := HPW.out _ HB1.out
  have hz0 : w.heap.size < w1.heap.size := HX1.out.lt
  have hz1 : a0.block < w1.heap.size := Nat.lt_of_lt_of_le p9 HB1.out.size
  have hn0 : 0 < np := by omega
  have hn1 : 1 < np := by omega
  go_upto_region 3 with fail
  go_cut [5, 6] (fun v5 v6 wx => ∃ x y, v5 = .pointer (some ⟨x, 0, none⟩) ∧ v6 = .pointer (some ⟨y, 0, none⟩) ∧ HeldR w.heap.size x y X (some a0) ch c0 gl.length np a b A B c d w wx)
  case first =>
    go_region
    all_goals
      go_wp2_with fail
      go_meet
      first
        | (obtain ⟨m1, m2, m3, _⟩ := two_allocs w1 55 55 #[.string a.nm, .slice A a.l.length c, .int .i64 a.h] #[.string b.nm, .slice B b.l.length d, .int .i64 b.h] rfl
           exact ⟨_, _, rfl, rfl, (HX1.out.below m3 HX1.out.lt).drew, m1.drew, m2.drew, (HB1.out.trans (m3.mono HB1.out.size)).drew⟩)
        | (obtain ⟨m1, m2, m3, _⟩ := two_allocs w1 55 55 #[.string b.nm, .slice B b.l.length d, .int .i64 b.h] #[.string a.nm, .slice A a.l.length c, .int .i64 a.h] rfl
           exact ⟨_, _, rfl, rfl, (HX1.out.below m3 HX1.out.lt).drew, m2.drew, m1.drew, (HB1.out.trans (m3.mono HB1.out.size)).drew⟩)
  case rest =>
    obtain ⟨x, y, rfl, rfl, hx⟩ := hcut
    have HX := Lib.hid hx
    clear hx hz0 hz1 hn0 hn1 q0 q1 q2 q3 q4 q5 x0 x1 HX1 HB1 HBX HB0 HKF HPW
    obtain ⟨s0, s1, s2, s3, s4, s5, s6, s7⟩ := HX.out.s8
    cases t0 : decide (ah2 < -99)
    · cases t1 : decide (99 < ah2)
      · cases t2 : decide (bh2 < -99)
        · cases t3 : decide (99 < bh2)
          · have hra : -99 ≤ a.h + m ∧ a.h + m ≤ 99 ∧ -99 ≤ b.h + m ∧ b.h + m ≤ 99 := by
              rw [HA2.out, HB2.out]
              have := of_decide_eq_false t0
              have := of_decide_eq_false t1
              have := of_decide_eq_false t2
              have := of_decide_eq_false t3
              omega
            have HG2 := Lib.hid (HG2R.out hra.1 hra.2.1)
            have HMT2 := Lib.hid (HM2R.out hra)
            rw [HA2.out] at HG2 HMT2
            rw [HB2.out] at HMT2
            clear hra HG2R HM2R
            go_wp2_with fail
            refine (HG.out _ HX.out.low).mono ?_
            rintro e w2 ⟨g1, rfl, hrow1, _, hb2⟩
            have HR1 := Lib.hid hrow1
            have HX2 := Lib.hid (HX.out.below hb2)
            clear hrow1 hb2 HX HG s0 s1 s2 s3 s4 s5 s6 s7
            obtain ⟨s0, s1, s2, s3, s4, s5, s6, s7⟩ := HX2.out.s8
            go_wp2_with fail
            refine (HG2.out _ HX2.out.low).mono ?_
            rintro e w3 ⟨g2, rfl, hrow2, _, hb3⟩
            rw [List.length_map]
            have HR2 := Lib.hid hrow2
            have HR13 := Lib.hid (HR1.out.below hb3 HR1.out.lt)
            have HX3 := Lib.hid (HX2.out.below hb3)
            clear hrow2 hb3 HX2 HG2 HR1 s0 s1 s2 s3 s4 s5 s6 s7
            obtain ⟨s0, s1, s2, s3, s4, s5, s6, s7⟩ := HX3.out.s8
            go_wp2_with fail
            refine (HMT.out _ HX3.out.low).mono ?_
            rintro e w4 ⟨A4, c4, rfl, hst4, _, hb4⟩
            have HS4 := Lib.hid hst4
            have HR14 := Lib.hid (HR13.out.below hb4 HR13.out.lt)
            have HR24 := Lib.hid (HR2.out.below hb4 HR2.out.lt)
            have HX4 := Lib.hid (HX3.out.below hb4)
            clear hst4 hb4 HX3 HMT HR13 HR2 s0 s1 s2 s3 s4 s5 s6 s7
            obtain ⟨s0, s1, s2, s3, s4, s5, s6, s7⟩ := HX4.out.s8
            have hz2 : x < w4.heap.size := HX4.out.2.1.lt
            have hz3 : y < w4.heap.size := HX4.out.2.2.1.lt
            go_upto_region 10 with fail
            go_cut [14, 15] (fun v14 v15 wx => ∃ x2 y2, v14 = .pointer (some ⟨x2, 0, none⟩) ∧ v15 = .pointer (some ⟨y2, 0, none⟩) ∧ BlkV wx x2 55 #[.string a.nm, .slice A a.l.length c, .int .i64 a.h] ∧ BlkV wx y2 55 #[.string b.nm, .slice B b.l.length d, .int .i64 b.h] ∧ x2 ≠ y2 ∧ w4.heap.size ≤ x2 ∧ w4.heap.size ≤ y2 ∧ Below w4.heap.size w4 wx)
            case first =>
              go_region
              all_goals
                go_wp2_with fail
                go_meet
                first
                  | (obtain ⟨m1, m2, m3, _⟩ := two_allocs w4 55 55 #[.string a.nm, .slice A a.l.length c, .int .i64 a.h] #[.string b.nm, .slice B b.l.length d, .int .i64 b.h] rfl
                     exact ⟨_, _, rfl, rfl, m1.drew, m2.drew, by omega, by omega, by omega, m3.drew⟩)
                  | (obtain ⟨m1, m2, m3, _⟩ := two_allocs w4 55 55 #[.string b.nm, .slice B b.l.length d, .int .i64 b.h] #[.string a.nm, .slice A a.l.length c, .int .i64 a.h] rfl
                     exact ⟨_, _, rfl, rfl, m2.drew, m1.drew, by omega, by omega, by omega, m3.drew⟩)
            case rest =>
              obtain ⟨x2, y2, rfl, rfl, hx2, hy2, hne, hl2, hl3, hb5⟩ := hcut
              have z0 := hx2.cell 2
              have z1 := hx2.frozen 2
              have hx3 := hx2.set 2 (.int .i64 ah2)
              have hy3 := hy2.far (p := ⟨x2, 2, none⟩) (fun e => hne e.symm) (.int .i64 ah2)
              have z2 := hy3.cell 2
              have z3 := hy3.frozen 2
              have hx4 := hx3.far (p := ⟨y2, 2, none⟩) hne (.int .i64 bh2)
              have hy4 := hy3.set 2 (.int .i64 bh2)
              simp only [List.getElem?_toArray, List.getElem?_cons_zero, List.getElem?_cons_succ] at z0 z2
              obtain ⟨W5, hW5⟩ : ∃ W5, (wc.setCell ⟨x2, 2, none⟩ (.int .i64 ah2)).setCell ⟨y2, 2, none⟩ (.int .i64 bh2) = W5 := ⟨_, rfl⟩
              rw [hW5] at hx4 hy4
              have hb5W : Below w4.heap.size w4 W5 := by rw [← hW5]; exact (hb5.setCell (p := ⟨x2, 2, none⟩) hl2 _).setCell (p := ⟨y2, 2, none⟩) hl3 _
              have u0 : W5.cell? ⟨x2, 0, none⟩ = some (.string a.nm) := hx4.cell 0
              have u1 : W5.cell? ⟨x2, 1, none⟩ = some (.slice A a.l.length c) := hx4.cell 1
              have u2 : W5.cell? ⟨x2, 2, none⟩ = some (.int .i64 ah2) := hx4.cell 2
              have v0 : W5.cell? ⟨y2, 0, none⟩ = some (.string b.nm) := hy4.cell 0
              have v1 : W5.cell? ⟨y2, 1, none⟩ = some (.slice B b.l.length d) := hy4.cell 1
              have v2 : W5.cell? ⟨y2, 2, none⟩ = some (.int .i64 bh2) := hy4.cell 2
              have HX5 := Lib.hid (HX4.out.below hb5W)
              have HS5 := Lib.hid (HS4.out.keep hb5W)
              have HR15 := Lib.hid (HR14.out.below hb5W HR14.out.lt)
              have HR25 := Lib.hid (HR24.out.below hb5W HR24.out.lt)
              have HW5 := Lib.hid hW5
              have y0 := hx2.cell 2
              clear s0 s1 s2 s3 s4 s5 s6 s7
              have HXc := Lib.hid (HX4.out.below hb5)
              obtain ⟨s0, s1, s2, s3, s4, s5, s6, s7⟩ := HXc.out.s8
              clear hx2 hy2 hx3 hy3 hx4 hy4 hb5W hb5 hW5 HX4 HS4 HR14 HR24 HXc hz2 hz3 hl2 hl3
              go_upto_region 13 with fail
              rw [HW5.out]
              clear s0 s1 s2 s3 s4 s5 s6 s7 z0 z1 z2 z3 y0 HW5 hne
              obtain ⟨s0, s1, s2, s3, s4, s5, s6, s7⟩ := HX5.out.s8
              go_cut [16, 17] (fun v16 v17 wx => ∃ A6 c6, v16 = .slice A6 st.length c6 ∧ v17 = .int .i64 0 ∧ StatesR wx A6 st ∧ Below W5.heap.size W5 wx)
              case first =>
                go_wp2_with fail
                refine (HMT2.out _ HX5.out.low).mono ?_
                rintro e w6 ⟨A6, c6, rfl, hst6, _, hb6⟩
                have HS66 := Lib.hid hst6
                have HB6 := Lib.hid hb6
                clear hst6 hb6
                go_wp2_with fail
                go_meet
                exact ⟨A6, c6, rfl, rfl, HS66.out, HB6.out⟩
              case rest =>
                obtain ⟨A6, c6, rfl, rfl, hst6, hb6⟩ := hcut
                apply_assumption
                exact raised_tailA w.heap.size x y X (some a0) A4 ch c0 c4 gl.length np a b A B c d r gl st g1 g2 c6 A6 w _ rfl hnh HGB.out hr hsl (HX5.out.below hb6) (HS5.out.keep hb6) hst6 (HR15.out.below hb6 HR15.out.lt) (HR25.out.below hb6 HR25.out.lt) HKL.out HUA.out HUB.out HM3.out
          · go_wp2_with fail
            refine (HKL.out _ HX.out.low).mono ?_
            rintro e wz3 ⟨rfl, hbz3⟩
            have HBZ3 := Lib.hid ((HX.out.low).trans (hbz3.mono (HX.out.low).size))
            clear hbz3
            go_wp2
            go_ret
            exact ⟨rfl, HBZ3.out⟩
        · go_wp2_with fail
          refine (HKL.out _ HX.out.low).mono ?_
          rintro e wz2 ⟨rfl, hbz2⟩
          have HBZ2 := Lib.hid ((HX.out.low).trans (hbz2.mono (HX.out.low).size))
          clear hbz2
          go_wp2
          go_ret
          exact ⟨rfl, HBZ2.out⟩
      · go_wp2_with fail
        refine (HKL.out _ HX.out.low).mono ?_
        rintro e wz1 ⟨rfl, hbz1⟩
        have HBZ1 := Lib.hid ((HX.out.low).trans (hbz1.mono (HX.out.low).size))
        clear hbz1
        go_wp2
        go_ret
        exact ⟨rfl, HBZ1.out⟩
    · go_wp2_with fail
      refine (HKL.out _ HX.out.low).mono ?_
      rintro e wz0 ⟨rfl, hbz0⟩
      have HBZ0 := Lib.hid ((HX.out.low).trans (hbz0.mono (HX.out.low).size))
      clear hbz0
      go_wp2
      go_ret
      exact ⟨rfl, HBZ0.out⟩
end Go.Proofs.YtbckfkopdojggaaGreatDoor
