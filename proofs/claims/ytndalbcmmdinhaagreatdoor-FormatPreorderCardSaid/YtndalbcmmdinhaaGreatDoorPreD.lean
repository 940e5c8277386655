/- FormatPreorder: the whole walk where its premises hold. -/
import Derived.Test.YtndalbcmmdinhaaGreatDoorPreC
import Derived.Test.YtndalbcmmdinhaaGreatDoorAwkD
import Derived.Test.YtndalbcmmdinhaaGreatDoorMgJ
import Derived.StillTailTactics
import Derived.Outline
set_option linter.unusedVariables false
set_option linter.unusedSimpArgs false
namespace Go.Proofs.YtndalbcmmdinhaaGreatDoor
open Go.RowKit

theorem cbR_two {ls : List (List Int)} (h : ranksE ls = 0) {i k : Nat} (hi : i < ls.length) (hk : k < ls.length) : cbR (ls.getD i []) (ls.getD k []) = (ForMath.cback (ls.getD i []) (ls.getD k []), 0) := by
  have h2 := firstI_zero _ h (listsI numsC ls) (by simp)
  have a1 := listsI_zero h2 _ (mem_getD [] hi)
  have a2 := listsI_zero h2 _ (mem_getD [] hk)
  have e : cbI (ls.getD i []) (ls.getD k []) = 0 := by
    unfold cbI
    rw [show numsI (ls.getD i []) 36 = 0 from a1.1, show numsI (ls.getD k []) 36 = 0 from a2.1, decide_eq_true (a1.2.trans a2.2.symm)]
    rfl
  unfold cbR
  rw [if_pos e]

set_option maxRecDepth 100000 in
set_option maxHeartbeats 16000000 in
theorem pre_main (A : Option Addr) (c : Nat) (ls : List (List Int)) (w : World) (h : ListsR w A ls) (h1 : ls.length ≤ 6) (h2 : shortLB ls = true) (h3 : ranksE ls = 0) :
    Calls Tryz.prog 8 #[.slice A ls.length c] w fun e w' => e = .returned (.bool true) ∧ Below w.heap.size w w' := by
  obtain ⟨z1, _, z3, z4⟩ := ranksE_zero h3
  have HLS := Lib.hid h
  have HS := Lib.hid (shortL_any A c ls w h (by omega))
  rw [h2] at HS
  have HC := Lib.hid (refLists_any A c ls w h (fun y hy => by have := shortL_len h2 y hy; omega))
  rw [show firstI [sizedI ls.length 200, listsI numsC ls] = ranksE ls from rfl, h3] at HC
  have HRY := Lib.hid (fun W (hb : Below w.heap.size w W) => fmRanks_yes A c ls W (h.keep hb) h3)
  have HRL := Lib.hid (ranks_len ls)
  have HCB := Lib.hid (fun i k (hi : i < ls.length) (hk : k < ls.length) => cbR_two h3 hi hk)
  have HLT := Lib.hid (fun i k (hi : i < ls.length) (hk : k < ls.length) => pre_lt _ ls z3.len i k hi hk)
  have HTWO := Lib.hid (fun i k (hi : i < ls.length) (hk : k < ls.length) => pre_two _ ls z3.len i k hi hk)
  have HTHREE := Lib.hid (fun i k m (hi : i < ls.length) (hk : k < ls.length) => pre_three _ ls z3.len i k m hi hk)
  have HALL := Lib.hid (fun i k (hi : i < ls.length) (hk : ls.length ≤ k) => lessT_all _ ls z3.len i k hi hk)
  have HLEN : Hid (∀ y ∈ ls, y.length ≤ 36) := Lib.hid (fun y hy => by have := z3.len y hy; omega)
  have hmk := make_rows ls.length (by omega)
  have hbn := bne_self_eq_false' (ls.length : Int)
  have b1 : decide ((6 : Int) < (ls.length : Int)) = false := decide_eq_false (by omega)
  clear h h2 h3 z3 z4
  go_enter Tryz.func8, Tryz.ntmps8
  go_wp2_with fail
  refine HS.out.mono ?_
  rintro e w1 ⟨rfl, rfl⟩
  go_wp2_with fail
  refine HC.out.mono ?_
  rintro e w9 ⟨rfl, n2, rfl⟩
  obtain ⟨w2, hW2⟩ : ∃ w2, w.drewN n2 = w2 := ⟨_, rfl⟩
  rw [hW2]
  have HB2 : Hid (Below w.heap.size w w2) := Lib.hid (by subst hW2; exact below_drewN (Below.refl _ _) n2)
  clear hW2 HS HC
  go_wp2_with fail
  refine (HRY.out _ HB2.out).mono ?_
  rintro e w3 ⟨gR, rfl, hrow, hgR, hb3⟩
  have HB3 := Lib.hid (HB2.out.trans (hb3.mono HB2.out.size))
  have HGR : Hid (gR < w3.heap.size) := Lib.hid hrow.lt
  have HROW3 := Lib.hid hrow
  clear hrow hgR hb3 HRY
  rw [HRL.out]
  go_wp2
  obtain ⟨gC, hgC⟩ : ∃ gC, w3.heap.size = gC := ⟨_, rfl⟩
  rw [hgC]
  have HGC := Lib.hid (hgC ▸ HB3.out.size : w.heap.size ≤ gC)
  have HGRC := Lib.hid (hgC ▸ HGR.out : gR < gC)
  have HB4 : Hid (Below w.heap.size w (w3.alloc (.cells (noRows ls.length).toArray 25))) := Lib.hid (HB3.out.alloc HB3.out.size _)
  have HBLK4 : Hid (BlkV (w3.alloc (.cells (noRows ls.length).toArray 25)) gC 25 (noRows ls.length).toArray) := Lib.hid (by rw [← hgC]; exact BlkV.new w3 _ _)
  have HROW4 := Lib.hid (HROW3.out.alloc (.cells (noRows ls.length).toArray 25))
  have HSZ4 : Hid (gC < (w3.alloc (.cells (noRows ls.length).toArray 25)).heap.size) := Lib.hid (by simp; omega)
  generalize w3.alloc (.cells (noRows ls.length).toArray 25) = w4 at HB4 HBLK4 HROW4 HSZ4 ⊢
  clear hgC HB3 HROW3 HGR HB2 hmk
  go_loopw [47] (fun iv w' => ∃ (i : Nat) (cs : List Value), i ≤ ls.length ∧ iv = .int .i64 i ∧ BlkV w' gC 25 cs.toArray ∧ cs.length = ls.length ∧ TabR w' gC w'.heap.size ls.length (rowM ls) i cs ∧ (∀ j, i ≤ j → j < ls.length → cs[j]? = some (.slice none 0 0)) ∧ RowI w' gR (ForMath.ranks ls) ∧ Below w.heap.size w w' ∧ gC < w'.heap.size) (fun iv _ => ls.length - (intOf iv).toNat)
  case atStart => exact ⟨0, noRows ls.length, Nat.zero_le _, rfl, HBLK4.out, by simp [noRows], fun j hj => absurd hj (Nat.not_lt_zero _), fun j _ hj => by simp [noRows, hj], HROW4.out, HB4.out, HSZ4.out⟩
  case round =>
    obtain ⟨i, cs, hi, rfl, hblk, hcl, htab, hnil, hrow, hb, hsz⟩ := hrel
    have HBLK := Lib.hid hblk
    have HCL := Lib.hid hcl
    have HTAB := Lib.hid htab
    have HNIL := Lib.hid hnil
    have HROW := Lib.hid hrow
    have HB := Lib.hid hb
    have HSZ := Lib.hid hsz
    clear hblk hcl htab hnil hrow hb hsz
    have hi0 : (0 : Int) ≤ (i : Int) := Int.natCast_nonneg _
    by_cases hil : i < ls.length
    · have hi1 : (i : Int) < (ls.length : Int) := by omega
      have him := mem_getD (l := ls) [] hil
      have HIM := Lib.hid him
      clear him
      obtain ⟨B, hB⟩ : ∃ B, wr.heap.size = B := ⟨_, rfl⟩
      have HSB : Hid (gC < B) := Lib.hid (hB ▸ HSZ.out)
      have HBB : Hid (B ≤ wr.heap.size) := Lib.hid (by omega)
      have HTB : Hid (TabR wr gC B ls.length (rowM ls) i cs) := Lib.hid (hB ▸ HTAB.out)
      clear hB HTAB HSZ
      go_wp2
      go_loopw [52] (fun kv w' => ∃ (k : Nat) (cs : List Value) (v : Value), k ≤ ls.length ∧ kv = .int .i64 k ∧ BlkV w' gC 25 cs.toArray ∧ cs.length = ls.length ∧ cs[i]? = some v ∧ w'.ownsRow B 3 1 v k (((rowM ls i).take k).map (Value.int .i64)) ∧ TabR w' gC B ls.length (rowM ls) i cs ∧ (∀ j, i < j → j < ls.length → cs[j]? = some (.slice none 0 0)) ∧ RowI w' gR (ForMath.ranks ls) ∧ Below w.heap.size w w' ∧ B ≤ w'.heap.size) (fun kv _ => ls.length - (intOf kv).toNat)
      case atStart => exact ⟨0, cs, .slice none 0 0, Nat.zero_le _, rfl, HBLK.out, HCL.out, HNIL.out i (Nat.le_refl _) hil, World.ownsRow_nil _ _ _ _, HTB.out, fun j hj1 hj2 => HNIL.out j (by omega) hj2, HROW.out, HB.out, HBB.out⟩
      case round =>
        clear HBLK HCL HTB HNIL HROW HB HBB
        obtain ⟨k, cs2, v, hk, rfl, hblk, hcl, hv, hown, htab, hnil, hrow, hb, hsz⟩ := hrel
        have HBLK := Lib.hid hblk
        have HCL := Lib.hid hcl
        have HV := Lib.hid hv
        have HOWN := Lib.hid hown
        have HTAB := Lib.hid htab
        have HNIL := Lib.hid hnil
        have HROW := Lib.hid hrow
        have HB := Lib.hid hb
        have HSZ := Lib.hid hsz
        clear hblk hcl hv hown htab hnil hrow hb hsz
        have hk0 : (0 : Int) ≤ (k : Int) := Int.natCast_nonneg _
        by_cases hkl : k < ls.length
        · have hk1 : (k : Int) < (ls.length : Int) := by omega
          have hkm := mem_getD (l := ls) [] hkl
          obtain ⟨a, X, cx, rfl, d0, _, hcx, dx⟩ := (HLS.out.keep HB.out) i hil
          obtain ⟨a', Y, cy, ha', e0, _, hcy, dy⟩ := (HLS.out.keep HB.out) k hkl
          cases ha'
          have l1 := HLEN.out _ HIM.out
          have l2 := HLEN.out _ hkm
          have HCC := Lib.hid (fmCountback_any X Y cx cy (ls.getD i []) (ls.getD k []) wr.drew dx dy (by omega) (by omega) hcx hcy)
          rw [HCB.out i k hil hkl] at HCC
          dsimp only at HCC
          have hqr := ForMath.cback_range (ls.getD i []) (ls.getD k [])
          have hself : (i = k ∧ (ForMath.cback (ls.getD i []) (ls.getD k []) != 0) = false) ∨ ((i : Int) == (k : Int)) = false := by
            by_cases g : i = k
            · left
              subst g
              rw [ForMath.cback_self]
              simp
            · right
              rw [beq_eq_false_iff_ne]; omega
          have HTK := Lib.hid (rowM_take ls i k hkl)
          clear dx dy hcx hcy l1 l2 hkm
          generalize ForMath.cback (ls.getD i []) (ls.getD k []) = q at HCC hqr hself HTK
          generalize ls.getD i [] = x at d0 HCC
          generalize ls.getD k [] = y at e0 HCC
          have hq1 : decide (q < -1) = false := decide_eq_false (by omega)
          have hq2 : decide ((1 : Int) < q) = false := decide_eq_false (by omega)
          go_wp2
          go_region_with (go_at_call 40; refine HCC.out.mono ?_; rintro e w5 ⟨rfl, hb5⟩)
          all_goals
            have hb6 : Below wr.heap.size wr w5 := (Below.refl _ _).drew.trans hb5
            have HB5 := Lib.hid (HB.out.trans (hb6.mono HB.out.size))
            have HSZ5 : Hid (B ≤ w5.heap.size) := Lib.hid (Nat.le_trans HSZ.out hb6.size)
            have HBLK5 := Lib.hid (HBLK.out.below hb6 HBLK.out.lt)
            have HROW5 := Lib.hid (HROW.out.below hb6 HROW.out.lt)
            have HTAB5 := Lib.hid (HTAB.out.below (hb6.mono HSZ.out))
            have hown5 := own_far HOWN.out hb6
            clear hb5 hb6 HCC d0 e0 hqr
            obtain ⟨v', w6, hrun, h6, hb7⟩ := append_gen B 25 3 (.int .i64 0) 1 8 Tryz.underlying25 info_int rfl (by decide) [.int .i64 q] rfl (by simp [Value.oneCell']) w5 v k _ HSZ5.out (by omega) (by omega) hown5
            obtain ⟨Av, mv, cv, rfl⟩ := ownsRow_slice h6
            have HRUN := Lib.hid hrun
            have HB6 := Lib.hid (HB5.out.trans (hb7.mono (Nat.le_trans HGC.out (Nat.le_of_lt HSB.out))))
            have HBLK6 := Lib.hid (HBLK5.out.below hb7 HSB.out)
            have HROW6 := Lib.hid (HROW5.out.below hb7 (Nat.lt_trans HGRC.out HSB.out))
            have HTAB6 := Lib.hid (HTAB5.out.below hb7)
            have HSZ6 : Hid (B ≤ w6.heap.size) := Lib.hid (Nat.le_trans HSZ5.out hb7.size)
            have HOWN6 : Hid (w6.ownsRow B 3 1 (.slice Av mv cv) (k + 1) (((rowM ls i).take (k + 1)).map (Value.int .i64))) := Lib.hid (by rw [HTK.out, List.map_append]; exact h6)
            have c5 := HBLK5.out.cell i
            have c6 := HBLK6.out.cell i
            have f6 := HBLK6.out.frozen i
            rw [List.getElem?_toArray, HV.out] at c5 c6
            clear hrun h6 hb7 hown5 HTK HOWN HTAB HROW HBLK
            rcases hself with ⟨rfl, g2⟩ | g1
            · go_wp2_with (at_builtin; refine wpList_append_run rfl _ _ 25 rfl _ _ (.slice Av mv cv) w6 rfl rfl HRUN.out ?_)
              go_roundw
              case rel =>
                refine ⟨i + 1, cs2.set i (.slice Av mv cv), .slice Av mv cv, by omega, by go_num, ?_, by rw [List.length_set]; exact HCL.out, by rw [List.getElem?_set_self (by rw [HCL.out]; exact hil)], ownsRow_setCell_below HOWN6.out (show gC < B from HSB.out) _, (HTAB6.out.set i (.slice Av mv cv)).put (.slice Av mv cv), fun j hj1 hj2 => by rw [List.getElem?_set_ne (by omega)]; exact HNIL.out j hj1 hj2, HROW6.out.far (by have := HGRC.out; show gR ≠ gC; omega) _, HB6.out.setCell (show w.heap.size ≤ gC from HGC.out) _, by simpa [World.setCell] using HSZ6.out⟩
                have := BlkV.set HBLK6.out i (.slice Av mv cv)
                rwa [List.setIfInBounds_toArray] at this
              case measure => simp [intOf]; omega
            · go_wp2_with (at_builtin; refine wpList_append_run rfl _ _ 25 rfl _ _ (.slice Av mv cv) w6 rfl rfl HRUN.out ?_)
              go_roundw
              case rel =>
                refine ⟨k + 1, cs2.set i (.slice Av mv cv), .slice Av mv cv, by omega, by go_num, ?_, by rw [List.length_set]; exact HCL.out, by rw [List.getElem?_set_self (by rw [HCL.out]; exact hil)], ownsRow_setCell_below HOWN6.out (show gC < B from HSB.out) _, (HTAB6.out.set i (.slice Av mv cv)).put (.slice Av mv cv), fun j hj1 hj2 => by rw [List.getElem?_set_ne (by omega)]; exact HNIL.out j hj1 hj2, HROW6.out.far (by have := HGRC.out; show gR ≠ gC; omega) _, HB6.out.setCell (show w.heap.size ≤ gC from HGC.out) _, by simpa [World.setCell] using HSZ6.out⟩
                have := BlkV.set HBLK6.out i (.slice Av mv cv)
                rwa [List.setIfInBounds_toArray] at this
              case measure => simp [intOf]; omega
        · have hke : k = ls.length := by omega
          have HFULL : Hid (wr.ownsRow B 3 1 v (rowM ls i).length ((rowM ls i).map (Value.int .i64))) := Lib.hid (by
            have := HOWN.out
            rwa [List.take_of_length_le (by rw [rowM_len]; omega), hke, ← rowM_len ls i] at this)
          have HNEXT := Lib.hid (HTAB.out.next z1 HSB.out HSZ.out HV.out (rowM_len ls i) HFULL.out)
          have HSZ2 : Hid (gC < wr.heap.size) := Lib.hid (Nat.lt_of_lt_of_le HSB.out HSZ.out)
          clear hke
          go_wp2
          go_roundw
          case rel => exact ⟨i + 1, cs2, by omega, by go_num, HBLK.out, HCL.out, HNEXT.out, fun j hj1 hj2 => HNIL.out j (by omega) hj2, HROW.out, HB.out, HSZ2.out⟩
          case measure => simp [intOf]; omega
    · have hie : i = ls.length := by omega
      subst hie
      have HT : Hid (∀ j, j < ls.length → ∃ a cc, wr.cell? ⟨gC, j, none⟩ = some (.slice (some a) ls.length cc) ∧ ∀ m, m < ls.length → wr.cell? (a.add m) = some (.int .i64 (ForMath.cback (ls.getD j []) (ls.getD m [])))) := Lib.hid (fun j hj => by
        obtain ⟨a, cc, g1, _, _, g4⟩ := HTAB.out j hj
        refine ⟨a, cc, ?_, fun m hm => by rw [← rowM_at ls j m hm]; exact g4 m hm⟩
        rw [HBLK.out.cell j, List.getElem?_toArray, g1])
      clear HBLK HCL HTAB HNIL HSZ
      generalize wr = w5 at HT HROW HB ⊢
      go_wp2
      go_loopw [100] (fun iv w' => ∃ i n : Nat, i ≤ ls.length ∧ w' = w5.drewN n ∧ iv = .int .i64 i) (fun iv _ => ls.length - (intOf iv).toNat)
      case atStart => exact ⟨0, 0, Nat.zero_le _, rfl, rfl⟩
      case round =>
        obtain ⟨i, n, hi, rfl, rfl⟩ := hrel
        have hi0 : (0 : Int) ≤ (i : Int) := Int.natCast_nonneg _
        by_cases hil : i < ls.length
        · have hi1 : (i : Int) < (ls.length : Int) := by omega
          obtain ⟨ai, ci, ti, ui⟩ := HT.out i hil
          have UI := Lib.hid ui
          have hri : i < (ForMath.ranks ls).length := by rw [HRL.out]; exact hil
          have r0 := HROW.out.cell hri
          have HALLI := Lib.hid (HALL.out i ls.length hil (Nat.le_refl _))
          have HLTI := Lib.hid (fun k hk => HLT.out i k hil hk)
          have HSUCC := Lib.hid (fun k hk => lessT_succ ls ((ForMath.ranks ls).getD i 0) k hk)
          have HZERO := Lib.hid (lessT_zero ls ((ForMath.ranks ls).getD i 0))
          have HBD := Lib.hid (fun k => lessT_bound ls ((ForMath.ranks ls).getD i 0) k)
          generalize (ForMath.ranks ls).getD i 0 = x at r0 HALLI HLTI HSUCC HZERO HBD
          have hxx := bne_self_eq_false' x
          clear ui hri
          go_wp2
          go_loopw [11, 105] (fun lv kv w' => ∃ k n : Nat, k ≤ ls.length ∧ w' = w5.drewN n ∧ kv = .int .i64 k ∧ lv = .int .i64 (lessT ls x k)) (fun _ kv _ => ls.length - (intOf kv).toNat)
          case atStart => exact ⟨0, n, Nat.zero_le _, rfl, rfl, by rw [HZERO.out]⟩
          case round =>
            obtain ⟨k, n3, hk, rfl, rfl, rfl⟩ := hrel
            have hk0 : (0 : Int) ≤ (k : Int) := Int.natCast_nonneg _
            by_cases hkl : k < ls.length
            · have hk1 : (k : Int) < (ls.length : Int) := by omega
              obtain ⟨ak, ck, tk, uk⟩ := HT.out k hkl
              have UK := Lib.hid uk
              have p0 := UI.out k hkl
              have q0 := uk i hil
              have hrk : k < (ForMath.ranks ls).length := by rw [HRL.out]; exact hkl
              have r1 := HROW.out.cell hrk
              have hlt := HLTI.out k hkl
              have hsucc := HSUCC.out k hkl
              have hbd := HBD.out k
              have htwo := HTWO.out i k hil hkl
              have hqr := ForMath.cback_range (ls.getD i []) (ls.getD k [])
              have HTH := Lib.hid (fun m => HTHREE.out i k m hil hkl)
              clear uk hrk
              generalize (ForMath.ranks ls).getD k 0 = y at r1 hlt hsucc
              generalize ForMath.cback (ls.getD k []) (ls.getD i []) = q at q0 htwo
              have HPM := Lib.hid (fun m hm => UI.out m hm)
              have HSM := Lib.hid (fun m hm => UK.out m hm)
              generalize hp : ForMath.cback (ls.getD i []) (ls.getD k []) = p at p0 hlt htwo hqr HTH
              clear hp
              have hneg : IntKind.i64.wrap (-q) = p := by rw [IntWalk.i64_in _ (by omega)]; omega
              have hpp := bne_self_eq_false' p
              generalize lessT ls x k = t at hsucc hbd
              have hwt : IntKind.i64.wrap (t + 1) = t + 1 := IntWalk.i64_in _ (by omega)
              have HSU := Lib.hid hsucc
              clear htwo hqr hbd hsucc
              cases hb0 : decide (p < 0)
              all_goals
                rw [hb0] at hlt
                cases hyx : decide (y < x)
                all_goals
                  have HS1 := Lib.hid HSU.out
                  have HYX := Lib.hid hyx
                  go_wp2
                  go_quiet (fail)
                  go_wp2
                  go_quiet (fail)
                  go_wp2
                  clear hneg hpp hwt hlt hb0 hyx q0 r1
                  go_loopw [157] (fun mv w' => ∃ m n : Nat, m ≤ ls.length ∧ w' = w5.drewN n ∧ mv = .int .i64 m) (fun mv _ => ls.length - (intOf mv).toNat)
                  case atStart => exact ⟨0, _, Nat.zero_le _, rfl, rfl⟩
                  case round =>
                    obtain ⟨m, n4, hm, rfl, rfl⟩ := hrel
                    have hm0 : (0 : Int) ≤ (m : Int) := Int.natCast_nonneg _
                    by_cases hml : m < ls.length
                    · have hm1 : (m : Int) < (ls.length : Int) := by omega
                      have s0 := HSM.out m hml
                      have t0 := HPM.out m hml
                      have hth := HTH.out m
                      generalize ForMath.cback (ls.getD k []) (ls.getD m []) = s at s0 hth
                      generalize ForMath.cback (ls.getD i []) (ls.getD m []) = u at t0 hth
                      cases g1 : decide (p ≤ 0)
                      · clear hth
                        go_wp2
                        go_roundw
                        case rel => exact ⟨m + 1, _, by omega, rfl, by go_num⟩
                        case measure => simp [intOf]; omega
                      · cases g2 : decide (s ≤ 0)
                        · clear hth
                          go_wp2
                          go_roundw
                          case rel => exact ⟨m + 1, _, by omega, rfl, by go_num⟩
                          case measure => simp [intOf]; omega
                        · have g3 : decide (0 < u) = false := decide_eq_false (by have := hth (of_decide_eq_true g1) (of_decide_eq_true g2); omega)
                          clear hth
                          go_wp2
                          go_roundw
                          case rel => exact ⟨m + 1, _, by omega, rfl, by go_num⟩
                          case measure => simp [intOf]; omega
                    · go_wp2
                      go_roundw
                      case rel =>
                        refine ⟨k + 1, n4, by omega, rfl, by go_num, ?_⟩
                        rw [HS1.out]
                        first
                          | rw [if_pos (of_decide_eq_true HYX.out)]
                          | rw [if_neg (of_decide_eq_false HYX.out)]
                      case measure => simp [intOf]; omega
            · have hke : lessT ls x k = x := by rw [show k = ls.length by omega]; exact HALLI.out
              rw [hke]
              clear hke
              go_wp2
              go_roundw
              case rel => exact ⟨i + 1, n3, by omega, rfl, by go_num⟩
              case measure => simp [intOf]; omega
        · have HB6 := Lib.hid (below_drewN HB.out n)
          go_wp2_with fail
          refine (awake_any _).mono ?_
          rintro e w7 ⟨rfl, hb7⟩
          have HB7 := Lib.hid (HB6.out.trans (hb7.mono HB6.out.size))
          clear hb7
          go_wp2
          go_ret
          exact ⟨rfl, HB7.out⟩
end Go.Proofs.YtndalbcmmdinhaaGreatDoor
