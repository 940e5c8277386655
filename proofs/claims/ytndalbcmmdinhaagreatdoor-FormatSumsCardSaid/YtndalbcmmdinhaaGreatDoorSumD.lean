/- The law FormatSums where its premises hold: the whole walk. -/
import Derived.Test.YtndalbcmmdinhaaGreatDoorSumC
import Derived.Test.YtndalbcmmdinhaaGreatDoorMgE
set_option linter.unusedVariables false
set_option linter.unusedSimpArgs false
namespace Go.Proofs.YtndalbcmmdinhaaGreatDoor
open Go.RowKit

theorem all_takeS {α : Type} (f : α → Bool) (l : List α) (k : Nat) (d : α) (h : k < l.length) : (l.take (k + 1)).all f = ((l.take k).all f && f (l.getD k d)) := by
  rw [List.take_succ_eq_append_getElem h, List.all_append]
  simp [List.getD, List.getElem?_eq_getElem h]
def parsM (hs : List (Int × Int)) : List Int := hs.map (·.1)
theorem parsM_len (hs : List (Int × Int)) : (parsM hs).length = hs.length := by simp [parsM]
theorem parsM_at (hs : List (Int × Int)) (k : Nat) (h : k < hs.length) : (parsM hs).getD k 0 = (hs.getD k (0, 0)).1 := by
  simp [parsM, List.getD, List.getElem?_eq_getElem h]
theorem at_bound {l : List Int} {k : Nat} (h : k < l.length) (hb : ∀ y ∈ l, -10000 ≤ y ∧ y ≤ 10000) : -10000 ≤ l.getD k 0 ∧ l.getD k 0 ≤ 10000 := by
  have := hb _ (List.getElem_mem h)
  simpa only [List.getD, List.getElem?_eq_getElem h, Option.getD_some] using this
theorem given_bound {q r : Int} (hq : -1000 ≤ q ∧ q ≤ 1000) (hs : List (Int × Int)) : ∀ y ∈ givenL q r hs, -10000 ≤ y ∧ y ≤ 10000 := fun y hy => by
  unfold givenL at hy
  obtain ⟨x, _, rfl⟩ := List.mem_map.1 hy
  unfold addI
  split <;> omega
theorem pts_boundS {hs : List (Int × Int)} {nm : ByteArray} {l : List (Int × ByteArray)} {h : Int} (hn : playerI hs nm l h = 0) : ∀ y ∈ parL pointsF 0 hs (netsOf hs h l), -10000 ≤ y ∧ y ≤ 10000 := fun y hy => by
  have F := fit_of hn
  have HZ := holesI_zero (player_holes hn)
  unfold parL at hy
  obtain ⟨⟨x, e⟩, hz, rfl⟩ := List.mem_map.1 hy
  have h1 := List.of_mem_zip hz
  have h2 := HZ.2.2.1 x h1.1
  have h3 : -1200 ≤ e.1 ∧ e.1 ≤ 1200 := by
    have he := h1.2
    unfold netsOf netsL at he
    obtain ⟨⟨g, e0⟩, hz2, rfl⟩ := List.mem_map.1 he
    have h4 := List.of_mem_zip hz2
    have h5 := F.strokes e0 h4.2
    have hg : -1001 ≤ g ∧ g ≤ 1001 := by
      have := h4.1
      unfold givenL at this
      obtain ⟨x0, _, rfl⟩ := List.mem_map.1 this
      have := div_small h hs.length F.lo F.hi F.pos
      unfold addI
      split <;> omega
    simp only
    unfold netV
    split
    · simp
    · simp only; omega
  simp only
  unfold parV pointsF
  split <;> omega
set_option maxRecDepth 100000 in
set_option maxHeartbeats 16000000 in
theorem sums_main (A B : Option Addr) (c d : Nat) (hs : List (Int × Int)) (nm : ByteArray) (l : List (Int × ByteArray)) (h : Int) (w : World) (hr : HolesR w A hs) (hbl : ∀ a, A = some a → a.block < w.heap.size) (he : EntriesR w B l) (hf : fewB hs.length [⟨nm, l, h⟩] = true)
    (hn : playerI hs nm l h = 0) :
    Calls Tryz.prog 7 #[.slice A hs.length c, .agg #[.string nm, .slice B l.length d, .int .i64 h]] w fun e w' => e = .returned (.bool true) ∧ Below w.heap.size w w' := by
  have HR := Lib.hid hr
  have HBL := Lib.hid hbl
  have HE := Lib.hid he
  have HF := Lib.hid hf
  have F := Lib.hid (fit_of hn)
  have hmost : hs.length ≤ 36 := F.out.most
  have hlen : l.length = hs.length := F.out.len
  have HP := Lib.hid (holesI_zero (player_holes hn)).2.2.1
  have hgv : givenE hs h = 0 := by
    have h2 := player_holes hn
    have h5 := firstI_zero _ hn (withinI h (-99) 99) (by simp)
    unfold givenE
    simp [firstI, h2, h5]
  have HC := Lib.hid (fun W (hb : Below w.heap.size w W) => refPlayer_any A B c d hs nm l h W (hr.keep hbl hb) (fun a ha => Nat.lt_of_lt_of_le (hbl a ha) hb.size) (by omega) (he.keep hb) (by omega))
  rw [hn] at HC
  have HPT := Lib.hid (fun W (hb : Below w.heap.size w W) => fmPoints_yes A B c d hs nm l h W (hr.keep hbl hb) (fun a ha => Nat.lt_of_lt_of_le (hbl a ha) hb.size) (he.keep hb) hn)
  have HGR := Lib.hid (fun W (hb : Below w.heap.size w W) => fmGross_any A B c d hs nm l h W (hr.keep hbl hb) (fun a ha => Nat.lt_of_lt_of_le (hbl a ha) hb.size) (by omega) (he.keep hb) (by omega))
  have HSC := Lib.hid (fun W (hb : Below w.heap.size w W) => fmScore_any A B c d hs nm l h W (hr.keep hbl hb) (fun a ha => Nat.lt_of_lt_of_le (hbl a ha) hb.size) (by omega) (he.keep hb) (by omega))
  have HGV := Lib.hid (fun W (hb : Below w.heap.size w W) => fmGiven_yes A c hs h W (hr.keep hbl hb) (fun a ha => Nat.lt_of_lt_of_le (hbl a ha) hb.size) hgv)
  have HS := Lib.hid (sums_scores hn)
  have HPQ := Lib.hid (sums_points hn)
  have HPB := Lib.hid (pts_boundS hn)
  have HSM : Hid (ForMath.sumI (givenL (h / (hs.length : Int)) (h % (hs.length : Int)) hs) = h) := Lib.hid (given_sum hs h (player_holes hn))
  have hqb := div_small h hs.length F.out.lo F.out.hi F.out.pos
  have hlo : -99 ≤ h := F.out.lo
  have hhi : h ≤ 99 := F.out.hi
  have HSB : Hid (-10000000 ≤ sumS l ∧ sumS l ≤ 10000000) := Lib.hid (by
    have := sumI_take_bound (firsts l) l.length (by rw [firsts_len]; omega) F.out.small
    rwa [List.take_of_length_le (by rw [firsts_len]; omega)] at this)
  generalize hpt : parL pointsF 0 hs (netsOf hs h l) = pts at HPT HPQ HPB
  have HPL : Hid (pts.length = hs.length) := Lib.hid (by rw [← hpt, parL_len _ _ _ _ F.out.netsLen, F.out.netsLen])
  clear hpt hr hbl he hf hn hgv F hlen
  generalize grossR hs nm l h = gr at HGR HS
  generalize scoreR hs nm l h = sc at HSC HS
  generalize sumS (netsOf hs h l) = NS at HS HPQ
  generalize allCount (netsOf hs h l) = ac at HS HPQ
  generalize sumS l = S at HS HSB
  generalize h / (hs.length : Int) = q at HGV HSM hqb
  generalize h % (hs.length : Int) = r at HGV HSM
  have HGL := Lib.hid (givenL_len q r hs)
  have HGB := Lib.hid (given_bound (r := r) hqb hs)
  clear hqb
  go_enter Tryz.func7, Tryz.ntmps7
  go_wp2_with fail
  generalize hW1 : (w.alloc (.cells #[.string nm, .slice B l.length d, .int .i64 h] 37)).alloc (.cells #[.string nm, .slice B l.length d, .int .i64 h] 37) = w1
  obtain ⟨a1, a2, a3, a4⟩ := two_allocs w _ _ _ _ hW1
  have HB1 := Lib.hid a3
  refine (few_any _ _ 1 c hs.length [⟨nm, l, h⟩] w1 (PlayersR.one a2 (HE.out.keep a3)) (by simp)).mono ?_
  rintro e w2 ⟨rfl, hb2⟩
  rw [HF.out]
  have HBX2 := Lib.hid (a1.below hb2 a1.lt)
  have HB2 := Lib.hid (HB1.out.trans (hb2.mono HB1.out.size))
  clear hW1 a1 a2 a3 a4 hb2
  have k0 := HBX2.out.cell 0
  have k1 := HBX2.out.cell 1
  have k2 := HBX2.out.cell 2
  simp only [List.getElem?_toArray, List.getElem?_cons_zero, List.getElem?_cons_succ] at k0 k1 k2
  go_wp2_with fail
  refine (HC.out w2 HB2.out).mono ?_
  rintro e w3 ⟨rfl, hb3⟩
  have HBX3 := Lib.hid (HBX2.out.below hb3 HBX2.out.lt)
  have HB3 := Lib.hid (HB2.out.trans (hb3.mono HB2.out.size))
  clear hb3 k0 k1 k2 HC HBX2
  have k0 := HBX3.out.cell 0
  have k1 := HBX3.out.cell 1
  have k2 := HBX3.out.cell 2
  simp only [List.getElem?_toArray, List.getElem?_cons_zero, List.getElem?_cons_succ] at k0 k1 k2
  go_wp2_with fail
  refine (HGV.out w3 HB3.out).mono ?_
  rintro e w4 ⟨gG, rfl, hrowG, hgG, hb4⟩
  have HBX4 := Lib.hid (HBX3.out.below hb4 HBX3.out.lt)
  have HB4 := Lib.hid (HB3.out.trans (hb4.mono HB3.out.size))
  have HROWG := Lib.hid hrowG
  have HLTG : Hid (gG < w4.heap.size) := Lib.hid hrowG.lt
  clear hb4 k0 k1 k2 HGV HBX3 hrowG hgG
  have k0 := HBX4.out.cell 0
  have k1 := HBX4.out.cell 1
  have k2 := HBX4.out.cell 2
  simp only [List.getElem?_toArray, List.getElem?_cons_zero, List.getElem?_cons_succ] at k0 k1 k2
  rw [HGL.out]
  go_wp2_with fail
  refine (HPT.out w4 HB4.out).mono ?_
  rintro e w5 ⟨gP, rfl, hrowP, hgP, hb5⟩
  have HBX5 := Lib.hid (HBX4.out.below hb5 HBX4.out.lt)
  have HB5 := Lib.hid (HB4.out.trans (hb5.mono HB4.out.size))
  have HROWP := Lib.hid hrowP
  have HROWG5 := Lib.hid (HROWG.out.below hb5 HLTG.out)
  clear hb5 k0 k1 k2 HPT HBX4 hrowP hgP HROWG HLTG
  rw [HPL.out]
  have hbn := bne_self_eq_false' (hs.length : Int)
  go_wp2
  go_loopw [9, 10, 11, 12, 66] (fun s p t a i w' => ∃ k n : Nat, k ≤ hs.length ∧ w' = w5.drewN n ∧ i = .int .i64 k ∧ s = .int .i64 (ForMath.sumI ((givenL q r hs).take k)) ∧ p = .int .i64 (ForMath.sumI ((parsM hs).take k)) ∧ t = .int .i64 (ForMath.sumI (pts.take k)) ∧ a = .bool ((pts.take k).all fun y => decide (0 < y))) (fun _ _ _ _ i _ => hs.length - (intOf i).toNat)
  case atStart => exact ⟨0, 0, Nat.zero_le _, rfl, rfl, rfl, rfl, rfl, rfl⟩
  case round =>
    obtain ⟨k, n, hk, rfl, rfl, rfl, rfl, rfl, rfl⟩ := hrel
    have sbG := sumI_take_bound (givenL q r hs) k (by rw [HGL.out]; omega) HGB.out
    have sbM := sumI_take_bound (parsM hs) k (by rw [parsM_len]; omega) (fun x hx => by
      obtain ⟨y, hy, rfl⟩ := List.mem_map.1 hx
      have := HP.out y hy
      omega)
    have sbP := sumI_take_bound pts k (by rw [HPL.out]; omega) HPB.out
    by_cases hlt : k < hs.length
    · obtain ⟨a, rfl, g0, g1⟩ := (HR.out.keep HBL.out HB5.out) k hlt
      have hkG : k < (givenL q r hs).length := by rw [HGL.out]; exact hlt
      have hkP : k < pts.length := by rw [HPL.out]; exact hlt
      have r0 := HROWG5.out.cell hkG
      have r1 := HROWP.out.cell hkP
      have HSG := Lib.hid (sumI_take (givenL q r hs) k hkG)
      have HST := Lib.hid (sumI_take (parsM hs) k (by rw [parsM_len]; exact hlt))
      have HSP := Lib.hid (sumI_take pts k hkP)
      have HAL := Lib.hid (all_takeS (fun y => decide (0 < y)) pts k 0 hkP)
      have byb := at_bound hkG HGB.out
      have bzb := at_bound hkP HPB.out
      have NEAR := Lib.hid (fun b => given_near q r (hs.getD k (0, 0)).2 b)
      rw [parsM_at hs k hlt] at HST
      rw [givenL_at q r hs k hlt] at r0 HSG byb
      have hpar : 3 ≤ (hs.getD k (0, 0)).1 ∧ (hs.getD k (0, 0)).1 ≤ 6 := by
        have := HP.out _ (List.getElem_mem hlt)
        simp only [List.getD, List.getElem?_eq_getElem hlt, Option.getD_some]
        omega
      generalize hs.getD k (0, 0) = ho at g0 g1 r0 HST HSG byb hpar NEAR
      obtain ⟨p1, x1⟩ := ho
      simp only at g0 g1 r0 HST HSG byb hpar NEAR
      generalize addI q r x1 = y1 at r0 HSG byb NEAR
      generalize pts.getD k 0 = z at r1 HSP HAL bzb
      generalize ForMath.sumI ((givenL q r hs).take k) = tG at sbG HSG
      generalize ForMath.sumI ((parsM hs).take k) = tM at sbM HST
      generalize ForMath.sumI (pts.take k) = tP at sbP HSP
      generalize (pts.take k).all (fun y => decide (0 < y)) = al at HAL
      have hw1 : IntKind.i64.wrap (tG + y1) = tG + y1 := IntWalk.i64_in _ (by omega)
      have hw2 : IntKind.i64.wrap (tM + p1) = tM + p1 := IntWalk.i64_in _ (by omega)
      have hw3 : IntKind.i64.wrap (tP + z) = tP + z := IntWalk.i64_in _ (by omega)
      have hk0 : (0 : Int) ≤ (k : Int) := Int.natCast_nonneg _
      have hk1 : (k : Int) < (hs.length : Int) := by omega
      have hdz : decide (0 < z) = decide (0 < z) := rfl
      generalize hzz : decide (0 < z) = zz at HAL
      clear hkG hkP hdz
      cases al <;> cases zz
      all_goals
        simp only [Bool.and_true, Bool.and_false, Bool.true_and, Bool.false_and] at HAL
        go_wp2
        go_loopw [98] (fun j w'' => ∃ k2 m : Nat, k2 ≤ hs.length ∧ w'' = w5.drewN m ∧ j = .int .i64 k2) (fun j _ => hs.length - (intOf j).toNat)
        case atStart => exact ⟨0, n, Nat.zero_le _, rfl, rfl⟩
        case round =>
          obtain ⟨j, m, hj, rfl, rfl⟩ := hrel
          by_cases hlt2 : j < hs.length
          · obtain ⟨a2, ha2, e0, e1⟩ := (HR.out.keep HBL.out HB5.out) j hlt2
            cases ha2
            have r2 := HROWG5.out.cell (j := j) (by rw [HGL.out]; exact hlt2)
            rw [givenL_at q r hs j hlt2] at r2
            have NE := NEAR.out (hs.getD j (0, 0)).2
            have hby2 := at_bound (l := givenL q r hs) (k := j) (by rw [HGL.out]; exact hlt2) HGB.out
            rw [givenL_at q r hs j hlt2] at hby2
            generalize hs.getD j (0, 0) = ho2 at e0 e1 r2 NE hby2
            obtain ⟨p2, x2⟩ := ho2
            simp only at e0 e1 r2 NE hby2
            generalize addI q r x2 = y2 at r2 NE hby2
            have hwd : IntKind.i64.wrap (y1 - y2) = y1 - y2 := IntWalk.i64_in _ (by omega)
            have hd1 : decide ((1 : Int) < y1 - y2) = false := decide_eq_false (by omega)
            have hj0 : (0 : Int) ≤ (j : Int) := Int.natCast_nonneg _
            have hj1 : (j : Int) < (hs.length : Int) := by omega
            cases hxx : decide (x1 < x2)
            · clear NE
              go_wp2
              go_quiet (fail)
              go_wp2
              go_roundw
              case rel => exact ⟨j + 1, _, by omega, rfl, by go_num⟩
              case measure => simp [intOf]; omega
            · have hd2 : decide (y1 < y2) = false := decide_eq_false (by have := NE.2 (of_decide_eq_true hxx); omega)
              clear NE
              go_wp2
              go_quiet (fail)
              go_wp2
              go_roundw
              case rel => exact ⟨j + 1, _, by omega, rfl, by go_num⟩
              case measure => simp [intOf]; omega
          · go_wp2
            go_roundw
            case rel => exact ⟨k + 1, m, by omega, rfl, by go_num, by rw [HSG.out], by rw [HST.out], by rw [HSP.out], by rw [HAL.out]⟩
            case measure => simp [intOf]; omega
    · have hlk : k = hs.length := by omega
      subst hlk
      have HB6 := Lib.hid (below_drewN HB5.out n)
      have HBX6 : Hid (BlkV (w5.drewN n) w.heap.size 37 #[.string nm, .slice B l.length d, .int .i64 h]) := Lib.hid HBX5.out
      generalize w5.drewN n = w6 at HB6 HBX6
      rw [List.take_of_length_le (by rw [HGL.out]; exact Nat.le_refl _)] at sbG
      rw [List.take_of_length_le (by rw [parsM_len]; exact Nat.le_refl _)] at sbM
      rw [List.take_of_length_le (by rw [HPL.out]; exact Nat.le_refl _)] at sbP
      have hps := HSM.out
      have hpa : ForMath.sumI (parsM hs) = parsS hs := rfl
      have HPA : Hid ((pts.take hs.length).all (fun y => decide (0 < y)) = true → ac = true ∧ ForMath.sumI pts = 2 * (hs.length : Int) + parsS hs - NS) := Lib.hid (by
        rw [List.take_of_length_le (by rw [HPL.out]; exact Nat.le_refl _)]; exact HPQ.out)
      generalize (pts.take hs.length).all (fun y => decide (0 < y)) = al at HPA
      rw [List.take_of_length_le (by rw [HGL.out]; exact Nat.le_refl _), List.take_of_length_le (by rw [parsM_len]; exact Nat.le_refl _), List.take_of_length_le (by rw [HPL.out]; exact Nat.le_refl _), hps, hpa]
      rw [hpa] at sbM
      generalize parsS hs = pa at HPA sbM
      generalize ForMath.sumI pts = tp at HPA sbP
      clear sbG hps hpa HPQ
      have p0 := HBX6.out.cell 0
      have p1 := HBX6.out.cell 1
      have p2 := HBX6.out.cell 2
      simp only [List.getElem?_toArray, List.getElem?_cons_zero, List.getElem?_cons_succ] at p0 p1 p2
      have HSBB := Lib.hid sbM
      have HSBP := Lib.hid sbP
      clear sbM sbP
      have hbh := bne_self_eq_false' h
      rcases HS.out with ⟨rfl, rfl, rfl, hns⟩ | ⟨rfl, rfl, rfl⟩
      · dsimp only at HGR HSC
        have HNS := Lib.hid hns
        clear hns HS
        go_wp2_with fail
        refine (HGR.out w6 HB6.out).mono ?_
        rintro e w7 ⟨rfl, hb7⟩
        have HBX7 := Lib.hid (HBX6.out.below hb7 HBX6.out.lt)
        have HB7 := Lib.hid (HB6.out.trans (hb7.mono HB6.out.size))
        clear hb7 HGR p0 p1 p2
        have p0 := HBX7.out.cell 0
        have p1 := HBX7.out.cell 1
        have p2 := HBX7.out.cell 2
        simp only [List.getElem?_toArray, List.getElem?_cons_zero, List.getElem?_cons_succ] at p0 p1 p2
        go_wp2_with fail
        refine (HSC.out w7 HB7.out).mono ?_
        rintro e w8 ⟨rfl, hb8⟩
        have HBX8 := Lib.hid (HBX7.out.below hb8 HBX7.out.lt)
        have HB8 := Lib.hid (HB7.out.trans (hb8.mono HB7.out.size))
        clear hb8 HSC p0 p1 p2
        have p0 := HBX8.out.cell 0
        have p1 := HBX8.out.cell 1
        have p2 := HBX8.out.cell 2
        simp only [List.getElem?_toArray, List.getElem?_cons_zero, List.getElem?_cons_succ] at p0 p1 p2
        have hsS := HSB.out
        have hns := HNS.out
        have hbm := HSBB.out
        have hbp := HSBP.out
        have hv1 : IntKind.i64.wrap (S - h) = S - h := IntWalk.i64_in _ (by omega)
        have hv2 : (NS == S - h) = true := by rw [hns]; exact beq_self_eq_true _
        have hv3 : IntKind.i64.wrap (2 * (hs.length : Int)) = 2 * (hs.length : Int) := IntWalk.i64_in _ (by omega)
        have hv4 : IntKind.i64.wrap (2 * (hs.length : Int) + pa) = 2 * (hs.length : Int) + pa := IntWalk.i64_in _ (by omega)
        have hv5 : IntKind.i64.wrap (2 * (hs.length : Int) + pa - NS) = 2 * (hs.length : Int) + pa - NS := IntWalk.i64_in _ (by omega)
        clear hsS hns hbm hbp
        cases al
        · go_wp2_with fail
          refine (awake_any _).mono ?_
          rintro e w9 ⟨rfl, hb9⟩
          have HB9 := Lib.hid (HB8.out.trans (hb9.mono HB8.out.size))
          clear hb9
          go_wp2
          go_ret
          exact ⟨rfl, HB9.out⟩
        · have hv6 : (tp == 2 * (hs.length : Int) + pa - NS) = true := by rw [(HPA.out rfl).2]; exact beq_self_eq_true _
          go_wp2_with fail
          refine (awake_any _).mono ?_
          rintro e w9 ⟨rfl, hb9⟩
          have HB9 := Lib.hid (HB8.out.trans (hb9.mono HB8.out.size))
          clear hb9
          go_wp2
          go_ret
          exact ⟨rfl, HB9.out⟩
      · dsimp only at HGR HSC
        clear HS
        cases al
        · go_wp2_with fail
          refine (HGR.out w6 HB6.out).mono ?_
          rintro e w7 ⟨rfl, hb7⟩
          have HBX7 := Lib.hid (HBX6.out.below hb7 HBX6.out.lt)
          have HB7 := Lib.hid (HB6.out.trans (hb7.mono HB6.out.size))
          clear hb7 HGR p0 p1 p2
          have p0 := HBX7.out.cell 0
          have p1 := HBX7.out.cell 1
          have p2 := HBX7.out.cell 2
          simp only [List.getElem?_toArray, List.getElem?_cons_zero, List.getElem?_cons_succ] at p0 p1 p2
          go_wp2_with fail
          refine (HSC.out w7 HB7.out).mono ?_
          rintro e w8 ⟨rfl, hb8⟩
          have HBX8 := Lib.hid (HBX7.out.below hb8 HBX7.out.lt)
          have HB8 := Lib.hid (HB7.out.trans (hb8.mono HB7.out.size))
          clear hb8 HSC p0 p1 p2
          have p0 := HBX8.out.cell 0
          have p1 := HBX8.out.cell 1
          have p2 := HBX8.out.cell 2
          simp only [List.getElem?_toArray, List.getElem?_cons_zero, List.getElem?_cons_succ] at p0 p1 p2
          go_wp2_with fail
          refine (awake_any _).mono ?_
          rintro e w9 ⟨rfl, hb9⟩
          have HB9 := Lib.hid (HB8.out.trans (hb9.mono HB8.out.size))
          clear hb9
          go_wp2
          go_ret
          exact ⟨rfl, HB9.out⟩
        · exact absurd (HPA.out rfl).1 (by simp)
end Go.Proofs.YtndalbcmmdinhaaGreatDoor
