/- The law TopAdjusted where its premises hold: the whole walk. -/
import Derived.Test.YtmnmdeehcdfkfaaDoorHapF
import Derived.Outline
namespace Go.Proofs.YtmnmdeehcdfkfaaDoor
open Go.RowKit

theorem dash_iff (m : ByteArray) : (m.toList == [45]) = decide (markK m = 3) := by
  rcases mark_cases m with ⟨h1, h2, h3, h4, h5⟩ | ⟨h1, h2, h3, h4, h5⟩ | ⟨h1, h2, h3, h4, h5⟩ | ⟨h1, h2, h3, h4, h5⟩ | ⟨h1, h2, h3, h4, h5⟩
  all_goals rw [h4, h5]; rfl
theorem x_iff (m : ByteArray) : (m.toList == [120]) = decide (markK m = 2) := by
  rcases mark_cases m with ⟨h1, h2, h3, h4, h5⟩ | ⟨h1, h2, h3, h4, h5⟩ | ⟨h1, h2, h3, h4, h5⟩ | ⟨h1, h2, h3, h4, h5⟩ | ⟨h1, h2, h3, h4, h5⟩
  all_goals rw [h3, h5]; rfl

set_option maxRecDepth 100000 in
set_option maxHeartbeats 16000000 in
theorem law_main (A B : Option Addr) (c d : Nat) (hs : List (Int × Int)) (nm : ByteArray) (l : List (Int × ByteArray)) (h : Int) (w : World) (hr : HolesR w A hs) (hbl : ∀ a, A = some a → a.block < w.heap.size)
    (he : EntriesR w B l) (hl2 : l.length ≤ 4611686018427387904)
    (h1 : ¬ 18 < hs.length) (h2 : holesI hs = 0) (h3 : cardI hs nm l = 0) (h4 : -20 ≤ h ∧ h ≤ 60) :
    Calls Tryd.prog 3 #[.slice A hs.length c, .agg #[.string nm, .slice B l.length d], .int .i64 h] w fun e w' => e = .returned (.bool true) ∧ Below w.heap.size w w' := by
  have HR := Lib.hid hr
  have HBL := Lib.hid hbl
  have HE := Lib.hid he
  have HL2 := Lib.hid hl2
  have hn : playerI hs nm l h = 0 := by
    have h5 : withinI h (-99) 99 = 0 := by unfold withinI; rw [if_pos (by omega)]
    unfold playerI
    simp [firstI, h2, h3, h5]
  have F := Lib.hid (fit_of hn)
  have HP := Lib.hid (holesI_zero h2).2.2.1
  have hgv : givenE hs h = 0 := by
    have h5 := firstI_zero _ hn (withinI h (-99) 99) (by simp)
    unfold givenE
    simp [firstI, h2, h5]
  have HA := Lib.hid (fun W (hb : Below w.heap.size w W) => hcAdjusted_yes A B c d hs nm l h W (hr.keep hbl hb) (fun a ha => Nat.lt_of_lt_of_le (hbl a ha) hb.size) (he.keep hb) hn)
  have HPT := Lib.hid (fun W (hb : Below w.heap.size w W) => fmPoints_yes A B c d hs nm l h W (hr.keep hbl hb) (fun a ha => Nat.lt_of_lt_of_le (hbl a ha) hb.size) (he.keep hb) hn)
  have HGR := Lib.hid (fun W (hb : Below w.heap.size w W) => fmGross_any A B c d hs nm l h W (hr.keep hbl hb) (fun a ha => Nat.lt_of_lt_of_le (hbl a ha) hb.size) (by omega) (he.keep hb) hl2)
  have HSC := Lib.hid (fun W (hb : Below w.heap.size w W) => fmScore_any A B c d hs nm l h W (hr.keep hbl hb) (fun a ha => Nat.lt_of_lt_of_le (hbl a ha) hb.size) (by omega) (he.keep hb) hl2)
  have HGV := Lib.hid (fun W (hb : Below w.heap.size w W) => fmGiven_yes A c hs h W (hr.keep hbl hb) (fun a ha => Nat.lt_of_lt_of_le (hbl a ha) hb.size) hgv)
  have HF := Lib.hid (fun h3 => law_facts (hs := hs) (nm := nm) (l := l) (h := h) hn h3)
  have HPB := Lib.hid (pts_bound hn)
  have HQ := Lib.hid (div_small h hs.length F.out.lo F.out.hi F.out.pos)
  have h1i : (hs.length : Int) ≤ 18 := by omega
  have hlen : l.length = hs.length := F.out.len
  have HSB : Hid (-10000000 ≤ sumS l ∧ sumS l ≤ 10000000) := Lib.hid (by
    have := sumI_take_bound (firsts l) l.length (by rw [firsts_len]; omega) F.out.small
    rwa [List.take_of_length_le (by rw [firsts_len]; omega)] at this)
  clear hr hbl he hl2 hn hgv
  generalize adjS hs h l = na at HA HF
  generalize hpt : parL pointsF 0 hs (netsOf hs h l) = pts at HPT HF HPB
  have HPL : Hid (pts.length = hs.length) := Lib.hid (by rw [← hpt, parL_len _ _ _ _ F.out.netsLen, F.out.netsLen])
  clear hpt
  generalize grossR hs nm l h = gr at HGR HF
  generalize scoreR hs nm l h = sc at HSC HF
  generalize sumS l = S at HF HSB
  generalize h / (hs.length : Int) = q at HGV HF HQ
  generalize h % (hs.length : Int) = r at HGV HF
  have HGL := Lib.hid (givenL_len q r hs)
  have HLEN := Lib.hid hlen
  clear hlen
  obtain ⟨h41, h42⟩ := h4
  go_enter Tryd.func3, Tryd.ntmps3
  go_wp2_with fail
  refine (refCheckHoles_any A c hs _ (HR.out.keep HBL.out ((Below.refl _ _).alloc (Nat.le_refl _) _))).mono ?_
  rintro e w1 ⟨rfl, n1, rfl⟩
  rw [h2]
  generalize hW1 : (w.alloc (.cells #[.string nm, .slice B l.length d] 25)).drewN n1 = W1
  have hblk : BlkV W1 w.heap.size 25 #[.string nm, .slice B l.length d] := by subst hW1; exact BlkV.new _ _ _
  have hB1 : Below w.heap.size w W1 := by subst hW1; exact below_drewN ((Below.refl _ _).alloc (Nat.le_refl _) _) n1
  have HBLK := Lib.hid hblk
  have HB1 := Lib.hid hB1
  have k0 := hblk.cell 0
  have k1 := hblk.cell 1
  simp only [List.getElem?_toArray, List.getElem?_cons_zero, List.getElem?_cons_succ] at k0 k1
  clear hW1 hblk hB1
  go_wp2_with fail
  refine (refCheckCard_any A B c d hs nm l _ (HR.out.keep HBL.out HB1.out) (fun a ha => Nat.lt_of_lt_of_le (HBL.out a ha) HB1.out.size) (by omega) (HE.out.keep HB1.out) HL2.out).mono ?_
  rintro e w2 ⟨rfl, hb2⟩
  have HB2 := Lib.hid (HB1.out.trans (hb2.mono HB1.out.size))
  have HBLK2 := Lib.hid (HBLK.out.below hb2 HBLK.out.lt)
  clear hb2 k0 k1
  rw [h3]
  have k0 := HBLK2.out.cell 0
  have k1 := HBLK2.out.cell 1
  simp only [List.getElem?_toArray, List.getElem?_cons_zero, List.getElem?_cons_succ] at k0 k1
  go_wp2
  go_loop [7, 8, 50] (fun a p i => ∃ k : Nat, k ≤ hs.length ∧ i = .int .i64 k ∧ a = .bool (allB (l.take k)) ∧ p = .int .i64 (ForMath.sumI ((parsL hs).take k)) ∧ ∀ e ∈ l.take k, markK e.2 ≠ 3) (fun _ _ i => hs.length - (intOf i).toNat)
  case atStart => exact ⟨0, Nat.zero_le _, rfl, rfl, rfl, fun e he => by simp at he⟩
  case round =>
    obtain ⟨k, hk, rfl, rfl, rfl, hm⟩ := hrel
    have HM := Lib.hid hm
    clear hm
    by_cases hlt : k < hs.length
    · have hkl : k < l.length := by have := HLEN.out; omega
      obtain ⟨b, rfl, d0, d1, _⟩ := (HE.out.keep HB2.out) k hkl
      obtain ⟨a, rfl, g0, g1⟩ := (HR.out.keep HBL.out HB2.out) k hlt
      have HAT := Lib.hid (allB_take l k hkl)
      have HMT := Lib.hid (fun h => mem_take_succ (0, ByteArray.empty) (P := fun e => markK e.2 ≠ 3) hkl HM.out h)
      have HST := Lib.hid (sumI_take (parsL hs) k (by rw [parsL_len]; exact hlt))
      rw [parsL_at hs k hlt] at HST
      have hpar : 3 ≤ (hs.getD k (0, 0)).1 ∧ (hs.getD k (0, 0)).1 ≤ 6 := by
        have := HP.out _ (List.getElem_mem hlt)
        simp only [List.getD, List.getElem?_eq_getElem hlt, Option.getD_some]
        omega
      have hsb := sumI_take_bound (parsL hs) k (by rw [parsL_len]; omega) (fun x hx => by
        obtain ⟨y, hy, rfl⟩ := List.mem_map.1 hx
        have := HP.out y hy
        omega)
      generalize l.getD k (0, ByteArray.empty) = en at d0 d1 HAT HMT
      generalize hs.getD k (0, 0) = ho at g0 g1 HST hpar
      obtain ⟨s, m⟩ := en
      obtain ⟨p, x⟩ := ho
      simp only at d0 d1 HAT HMT g0 g1 HST hpar
      have HD := dash_iff m
      have HX := x_iff m
      generalize hd : (m.toList == [45]) = dash at HD
      have hx2 : (m.toList != [120]) = !(m.toList == [120]) := rfl
      generalize hx : (m.toList == [120]) = xx at HX hx2
      rw [decide_not, ← HX] at HAT
      generalize ForMath.sumI ((parsL hs).take k) = t at hsb HST
      generalize hal : allB (l.take k) = al at HAT
      have hwr : IntKind.i64.wrap (t + p) = t + p := IntWalk.i64_in _ (by omega)
      have hk0 : (0 : Int) ≤ (k : Int) := Int.natCast_nonneg _
      have hk1 : (k : Int) < (hs.length : Int) := by omega
      have hk2 : (k : Int) < (l.length : Int) := by omega
      have HDH := Lib.hid HD
      clear HD HX hal
      cases dash
      · have HMS := Lib.hid (HMT.out (of_decide_eq_false HDH.out.symm))
        cases al <;> cases xx
        all_goals
          simp only [Bool.not_true, Bool.not_false] at hx2
          go_wp2
          go_round
          case rel => exact ⟨k + 1, by omega, by go_num, by rw [HAT.out]; rfl, by rw [HST.out], HMS.out⟩
          case measure => simp [intOf]; omega
      · go_wp2_with fail
        refine (caddiePoints_any _).mono ?_
        rintro e w3 ⟨rfl, hb3⟩
        have HB3 := Lib.hid (HB2.out.trans (hb3.mono HB2.out.size))
        clear hb3
        go_wp2
        go_ret
        exact ⟨rfl, HB3.out⟩
    · have hlk : l.take k = l := List.take_of_length_le (by have := HLEN.out; omega)
      have hpk : (parsL hs).take k = parsL hs := List.take_of_length_le (by rw [parsL_len]; omega)
      have HF2 := Lib.hid (HF.out (fun e he => HM.out e (by rw [hlk]; exact he)))
      have hsb := sumI_take_bound (parsL hs) k (by rw [parsL_len]; omega) (fun x hx => by
        obtain ⟨y, hy, rfl⟩ := List.mem_map.1 hx
        have := HP.out y hy
        omega)
      have hpb := sumI_take_bound pts pts.length (by rw [HPL.out]; omega) HPB.out
      rw [List.take_of_length_le (Nat.le_refl _)] at hpb
      have hsum : na + ForMath.sumI pts = ForMath.sumI ((parsL hs).take k) + 2 * (hs.length : Int) + h := by rw [hpk]; exact HF2.out.1
      have HF3 : Hid (allB (l.take k) = true → gr = (S, 0) ∧ sc = (S - h, 0) ∧ na ≤ S ∧ (na = S ↔ worseB q r hs l = false)) := Lib.hid (by rw [hlk]; exact HF2.out.2)
      generalize allB (l.take k) = al at HF3
      generalize ForMath.sumI ((parsL hs).take k) = pa at hsb hsum
      clear HF HF2 HM hlk hpk
      generalize hps : ForMath.sumI pts = ps at hpb hsum
      have HPS := Lib.hid hps
      clear hps
      have hw1 : IntKind.i64.wrap (na + ps) = na + ps := IntWalk.i64_in _ (by omega)
      have hw2 : IntKind.i64.wrap (2 * (hs.length : Int)) = 2 * (hs.length : Int) := IntWalk.i64_in _ (by omega)
      have hw3 : IntKind.i64.wrap (pa + 2 * (hs.length : Int)) = pa + 2 * (hs.length : Int) := IntWalk.i64_in _ (by omega)
      have hw4 : IntKind.i64.wrap (pa + 2 * (hs.length : Int) + h) = pa + 2 * (hs.length : Int) + h := IntWalk.i64_in _ (by omega)
      have hne : (na + ps != pa + 2 * (hs.length : Int) + h) = false := by rw [hsum]; exact bne_self_eq_false' _
      have hnab : -100000000 ≤ na ∧ na ≤ 100000000 := by omega
      have HSUM := Lib.hid hsum
      clear hsum
      have hxb : BlkV (w2.alloc (.cells #[.string nm, .slice B l.length d, .int .i64 h] 34)) w.heap.size 25 #[.string nm, .slice B l.length d] := HBLK2.out.alloc _
      have x0 := hxb.cell 0
      have x1 := hxb.cell 1
      simp only [List.getElem?_toArray, List.getElem?_cons_zero, List.getElem?_cons_succ] at x0 x1
      clear hxb
      go_wp2_with fail
      generalize hW3 : w2.alloc (.cells #[.string nm, .slice B l.length d, .int .i64 h] 34) = W3
      have hbx : BlkV W3 w.heap.size 25 #[.string nm, .slice B l.length d] := by subst hW3; exact HBLK2.out.alloc _
      have hpl : BlkV W3 w2.heap.size 34 #[.string nm, .slice B l.length d, .int .i64 h] := by subst hW3; exact BlkV.new _ _ _
      have hB3 : Below w.heap.size w W3 := by subst hW3; exact HB2.out.alloc HB2.out.size _
      have HBX3 := Lib.hid hbx
      have HPL3 := Lib.hid hpl
      have HB3 := Lib.hid hB3
      clear hW3 hbx hpl hB3 x0 x1 k0 k1 HBLK2 HBLK HB1
      refine (HA.out W3 HB3.out).mono ?_
      rintro e w4 ⟨rfl, hb4⟩
      have hpl := HPL3.out.below hb4 HPL3.out.lt
      have hbx := HBX3.out.below hb4 HBX3.out.lt
      have HB4 := Lib.hid (HB3.out.trans (hb4.mono HB3.out.size))
      have p0 := hpl.cell 0
      have p1 := hpl.cell 1
      have p2 := hpl.cell 2
      simp only [List.getElem?_toArray, List.getElem?_cons_zero, List.getElem?_cons_succ] at p0 p1 p2
      have HPL4 := Lib.hid hpl
      have HBX4 := Lib.hid hbx
      clear hb4 hpl hbx HA HPL3 HBX3
      go_wp2_with fail
      refine (HPT.out w4 HB4.out).mono ?_
      rintro e w5 ⟨g, rfl, hrow, hg, hb5⟩
      have hpl := HPL4.out.below hb5 HPL4.out.lt
      have hbx := HBX4.out.below hb5 HBX4.out.lt
      have HB5 := Lib.hid (HB4.out.trans (hb5.mono HB4.out.size))
      have HROW := Lib.hid hrow
      have HPL5 := Lib.hid hpl
      have HBX5 := Lib.hid hbx
      clear hb5 hpl hbx hrow hg HPT HPL4 HBX4 p0 p1 p2
      rw [HPL.out]
      have hbn := bne_self_eq_false' (hs.length : Int)
      go_wp2
      go_loop [15, 108] (fun t i => ∃ k : Nat, k ≤ hs.length ∧ i = .int .i64 k ∧ t = .int .i64 (ForMath.sumI (pts.take k))) (fun _ i => hs.length - (intOf i).toNat)
      case atStart => exact ⟨0, Nat.zero_le _, rfl, rfl⟩
      case round =>
        obtain ⟨k2, hk2, rfl, rfl⟩ := hrel
        by_cases hlt : k2 < hs.length
        · have hl2 : k2 < pts.length := by rw [HPL.out]; exact hlt
          have r0 := HROW.out.cell hl2
          have HST := Lib.hid (sumI_take pts k2 hl2)
          have hsb2 := sumI_take_bound pts k2 (by rw [HPL.out]; omega) HPB.out
          have hyb : -10000 ≤ pts.getD k2 0 ∧ pts.getD k2 0 ≤ 10000 := by
            have := HPB.out _ (List.getElem_mem hl2)
            simpa only [List.getD, List.getElem?_eq_getElem hl2, Option.getD_some] using this
          generalize pts.getD k2 0 = y at r0 HST hyb
          generalize ForMath.sumI (pts.take k2) = t at hsb2 HST
          have hwr : IntKind.i64.wrap (t + y) = t + y := IntWalk.i64_in _ (by omega)
          have hk0 : (0 : Int) ≤ (k2 : Int) := Int.natCast_nonneg _
          have hk1 : (k2 : Int) < (hs.length : Int) := by omega
          clear hl2
          go_wp2
          go_round
          case rel => exact ⟨k2 + 1, by omega, by go_num, by rw [HST.out]⟩
          case measure => simp [intOf]; omega
        · have HPK : Hid (ForMath.sumI (pts.take k2) = ps) := Lib.hid (by rw [List.take_of_length_le (by rw [HPL.out]; omega), HPS.out])
          rw [HPK.out]
          cases al
          · go_wp2_with fail
            refine (caddiePoints_any _).mono ?_
            rintro e w9 ⟨rfl, hb9⟩
            have HB9 := Lib.hid (HB5.out.trans (hb9.mono HB5.out.size))
            clear hb9
            go_wp2
            go_ret
            exact ⟨rfl, HB9.out⟩
          · obtain ⟨rfl, rfl, hle, hiff⟩ := HF3.out rfl
            have HIFF := Lib.hid hiff
            dsimp only at HGR HSC
            clear hiff HF3
            have p0 := HPL5.out.cell 0
            have p1 := HPL5.out.cell 1
            have p2 := HPL5.out.cell 2
            simp only [List.getElem?_toArray, List.getElem?_cons_zero, List.getElem?_cons_succ] at p0 p1 p2
            go_wp2_with fail
            refine (HGR.out w5 HB5.out).mono ?_
            rintro e w6 ⟨rfl, hb6⟩
            have hpl := HPL5.out.below hb6 HPL5.out.lt
            have hbx := HBX5.out.below hb6 HBX5.out.lt
            have HB6 := Lib.hid (HB5.out.trans (hb6.mono HB5.out.size))
            clear p0 p1 p2
            have p0 := hpl.cell 0
            have p1 := hpl.cell 1
            have p2 := hpl.cell 2
            simp only [List.getElem?_toArray, List.getElem?_cons_zero, List.getElem?_cons_succ] at p0 p1 p2
            have HBX6 := Lib.hid hbx
            clear hb6 hpl hbx HGR HPL5 HBX5
            go_wp2_with fail
            refine (HSC.out w6 HB6.out).mono ?_
            rintro e w7 ⟨rfl, hb7⟩
            have hbx := HBX6.out.below hb7 HBX6.out.lt
            have HB7 := Lib.hid (HB6.out.trans (hb7.mono HB6.out.size))
            have HBX7 := Lib.hid hbx
            clear p0 p1 p2 hb7 hbx HSC HBX6
            go_wp2_with fail
            refine (HGV.out w7 HB7.out).mono ?_
            rintro e w8 ⟨g2, rfl, hrow2, hg2, hb8⟩
            have hbx := HBX7.out.below hb8 HBX7.out.lt
            have HB8 := Lib.hid (HB7.out.trans (hb8.mono HB7.out.size))
            have HROW2 := Lib.hid hrow2
            have x0 := hbx.cell 0
            have x1 := hbx.cell 1
            simp only [List.getElem?_toArray, List.getElem?_cons_zero, List.getElem?_cons_succ] at x0 x1
            clear hb8 hbx hrow2 hg2 HGV HBX7
            rw [HGL.out]
            have hsb := HSB.out
            have hwS : IntKind.i64.wrap (S - h) = S - h := IntWalk.i64_in _ (by omega)
            have hbS := bne_self_eq_false' (S - h)
            go_wp2
            go_loopw [23, 177] (fun t i w' => ∃ k n : Nat, k ≤ hs.length ∧ w' = w8.drewN n ∧ i = .int .i64 k ∧ t = .bool (worseT q r hs l k)) (fun _ i _ => hs.length - (intOf i).toNat)
            case atStart => exact ⟨0, 0, Nat.zero_le _, rfl, rfl, by rw [worseT_zero]⟩
            case round =>
              obtain ⟨k3, n, hk3, rfl, rfl, rfl⟩ := hrel
              by_cases hlt3 : k3 < hs.length
              · have hkl : k3 < l.length := by have := HLEN.out; omega
                obtain ⟨b, rfl, d0, d1, _⟩ := (HE.out.keep HB8.out) k3 hkl
                obtain ⟨a, rfl, g0, g1⟩ := (HR.out.keep HBL.out HB8.out) k3 hlt3
                have r0 := HROW2.out.cell (j := k3) (by rw [HGL.out]; exact hlt3)
                rw [givenL_at q r hs k3 hlt3] at r0
                have HWS := Lib.hid (worseT_succ q r hs l k3 hlt3 hkl)
                have hpar : 3 ≤ (hs.getD k3 (0, 0)).1 ∧ (hs.getD k3 (0, 0)).1 ≤ 6 := by
                  have := HP.out _ (List.getElem_mem hlt3)
                  simp only [List.getD, List.getElem?_eq_getElem hlt3, Option.getD_some]
                  omega
                have hst : 0 ≤ (l.getD k3 (0, ByteArray.empty)).1 ∧ (l.getD k3 (0, ByteArray.empty)).1 ≤ 99 := by
                  have := F.out.strokes _ (List.getElem_mem hkl)
                  simpa only [List.getD, List.getElem?_eq_getElem hkl, Option.getD_some] using this
                have hyb : -1000 ≤ addI q r (hs.getD k3 (0, 0)).2 ∧ addI q r (hs.getD k3 (0, 0)).2 ≤ 1001 := by
                  have := HQ.out
                  unfold addI
                  split <;> omega
                generalize addI q r (hs.getD k3 (0, 0)).2 = y at r0 HWS hyb
                generalize l.getD k3 (0, ByteArray.empty) = en at d0 d1 HWS hst
                generalize hs.getD k3 (0, 0) = ho at g0 g1 HWS hpar
                obtain ⟨s, m⟩ := en
                obtain ⟨p, x⟩ := ho
                simp only at d0 d1 HWS hst g0 g1 hpar
                have hwa : IntKind.i64.wrap (s - y) = s - y := IntWalk.i64_in _ (by omega)
                have hwb : IntKind.i64.wrap (p + 2) = p + 2 := IntWalk.i64_in _ (by omega)
                have hk0 : (0 : Int) ≤ (k3 : Int) := Int.natCast_nonneg _
                have hk1 : (k3 : Int) < (hs.length : Int) := by omega
                have hk2 : (k3 : Int) < (l.length : Int) := by omega
                clear hkl
                generalize worseT q r hs l k3 = wt at HWS
                cases wt
                · cases hdd : decide (p + 2 < s - y)
                  all_goals
                    have HDD := Lib.hid hdd
                    go_wp2
                    go_quiet (fail)
                    go_wp2
                    go_roundw
                    case rel => exact ⟨k3 + 1, _, by omega, rfl, by go_num, by rw [HWS.out, HDD.out]; rfl⟩
                    case measure => simp [intOf]; omega
                · go_wp2
                  go_quiet (fail)
                  go_wp2
                  go_roundw
                  case rel => exact ⟨k3 + 1, _, by omega, rfl, by go_num, by rw [HWS.out]; rfl⟩
                  case measure => simp [intOf]; omega
              · have hwe := worseT_all q r hs l k3 (by omega)
                have HI := HIFF.out
                rw [← hwe] at HI
                generalize worseT q r hs l k3 = wt at HI
                clear hwe
                have HB9 := Lib.hid (below_drewN HB8.out n)
                cases wt
                · have hns : (na == S) = true := by rw [beq_iff_eq]; exact HI.2 rfl
                  clear HI
                  go_wp2_with fail
                  refine (caddiePoints_any _).mono ?_
                  rintro e w9 ⟨rfl, hb9⟩
                  have HBA := Lib.hid (HB9.out.trans (hb9.mono HB9.out.size))
                  clear hb9
                  go_wp2
                  go_ret
                  exact ⟨rfl, HBA.out⟩
                · have hns : (na == S) = false := by rw [beq_eq_false_iff_ne]; exact fun e => by have := HI.1 e; cases this
                  clear HI
                  go_wp2_with fail
                  refine (caddiePoints_any _).mono ?_
                  rintro e w9 ⟨rfl, hb9⟩
                  have HBA := Lib.hid (HB9.out.trans (hb9.mono HB9.out.size))
                  clear hb9
                  go_wp2
                  go_ret
                  exact ⟨rfl, HBA.out⟩
end Go.Proofs.YtmnmdeehcdfkfaaDoor
