/- FormatFourballs: the law's walk, further ways. -/
import Derived.Test.YtkhhkicfeaeddaaGreatDoorFbaD
import Derived.Deep.RegionHeld3
import Derived.Deep.DeepCutAuto
import Derived.Deep.CutBlock
import Derived.Outline
set_option linter.unusedVariables false
set_option linter.unusedSimpArgs false
namespace Go.Proofs.YtkhhkicfeaeddaaGreatDoor
open Go.RowKit

set_option maxRecDepth 100000 in
set_option maxHeartbeats 16000000 in
theorem fba_Fok_ok (H A : Option Addr) (ch c : Nat) (hs : List (Int × Int)) (ps : List Pl) (w : World) (hp : PlayersR w A ps) (hl : ps.length ≤ 4611686018427387904) (h6 : ps.length ≤ 6) (hf : fewB hs.length ps = true)
    (kCH : ∀ W, Below w.heap.size w W → Calls Tryz.prog 22 #[.slice H hs.length ch] W fun e w' => e = .returned (.int .i64 (holesI hs)) ∧ ∃ n, w' = W.drewN n)
    (kF : ∀ W, Below w.heap.size w W → Calls Tryz.prog 21 #[.slice H hs.length ch, .slice A ps.length c] W (HolesOut (joinedL minM hs ps) W))
    (kCP : ∀ W X x, Below w.heap.size w W → PlayersR W X ps → Calls Tryz.prog 23 #[.slice H hs.length ch, .slice X ps.length x] W fun e w' => e = .returned (.int .i64 0) ∧ Below W.heap.size W w')
    (kRF : ∀ W X x, Below w.heap.size w W → PlayersR W X ps → Calls Tryz.prog 24 #[.slice H hs.length ch, .slice X ps.length x] W fun e w' => ∃ v, e = .returned v ∧ PairsOwn w' W.heap.size 91 v (joinedL minM hs ps) ∧ Below W.heap.size W w')
    (hq : firstI [holesI hs, unlessI (!decide ((ps.length : Int) < 2) && !decide (4 < (ps.length : Int))) 2] = 0) (hlh : hs.length ≤ 1000) (h2 : 2 ≤ ps.length) (p0 p1 : Pl) (hp0 : ps.getD 0 plD = p0) (hp1 : ps.getD 1 plD = p1) (c0 c1 z2 : Int)
    (kC0 : ∀ W, Below w.heap.size w W → ∀ B d, EntriesR W B p0.l → Calls Tryz.prog 27 #[.slice H hs.length ch, .agg #[.string p0.nm, .slice B p0.l.length d, .int .i64 p0.h]] W fun e w' => e = .returned (.int .i64 c0) ∧ Below W.heap.size W w')
    (kC1 : ∀ W, Below w.heap.size w W → ∀ B d, EntriesR W B p1.l → Calls Tryz.prog 27 #[.slice H hs.length ch, .agg #[.string p1.nm, .slice B p1.l.length d, .int .i64 p1.h]] W fun e w' => e = .returned (.int .i64 c1) ∧ Below W.heap.size W w')
    (hq2 : firstI [c0, c1, unlessI (!decide (p0.nm = p1.nm)) 9] = z2)
    (nl : List Nt) (hnl : nl.length ≤ 1000) (hz2 : z2 = 0) (kA : ∀ W, Below w.heap.size w W → ∀ B0 d0 B1 d1, EntriesR W B0 p0.l → EntriesR W B1 p1.l → Calls Tryz.prog 26 #[.slice H hs.length ch, .agg #[.string p0.nm, .slice B0 p0.l.length d0, .int .i64 p0.h], .agg #[.string p1.nm, .slice B1 p1.l.length d1, .int .i64 p1.h]] W (HolesOut nl W))
    (kRA : ∀ W, Below w.heap.size w W → ∀ B0 d0 B1 d1, EntriesR W B0 p0.l → EntriesR W B1 p1.l → Calls Tryz.prog 28 #[.slice H hs.length ch, .agg #[.string p0.nm, .slice B0 p0.l.length d0, .int .i64 p0.h], .agg #[.string p1.nm, .slice B1 p1.l.length d1, .int .i64 p1.h]] W fun e w' => ∃ v, e = .returned v ∧ PairsOwn w' W.heap.size 91 v nl ∧ Below W.heap.size W w') :
    Calls Tryz.prog 4 #[.slice H hs.length ch, .slice A ps.length c] w fun e w' => e = .returned (.bool true) ∧ Below w.heap.size w w' := by
  have HP := Lib.hid hp
  have HQ2 := Lib.hid hq2
  have HKA := Lib.hid kA
  have HC0 := Lib.hid kC0
  have HC1 := Lib.hid kC1
  have HH2 := Lib.hid h2
  have HP0 := Lib.hid hp0
  have HP1 := Lib.hid hp1
  have HRA := Lib.hid kRA
  have HNLL := Lib.hid hnl
  subst hz2
  clear kRA hnl
  clear hq2 kA kC0 kC1 hp0 hp1
  have h6i : (ps.length : Int) ≤ 6 := by omega
  have HF := Lib.hid hf
  have HCH := Lib.hid kCH
  have HFB := Lib.hid kF
  have HQ := Lib.hid hq
  have h2i : (2 : Int) ≤ (ps.length : Int) := by omega
  have HCP := Lib.hid kCP
  have HRF := Lib.hid kRF
  have HJL : Hid ((joinedL minM hs ps).length ≤ 1000) := Lib.hid (by rw [joinedL_len]; exact hlh)
  clear kRF hlh
  generalize joinedL minM hs ps = jl at HFB HRF HJL
  clear hp hf kCH kF hq kCP
  generalize holesI hs = hz at HCH HQ
  go_enter Tryz.func4, Tryz.ntmps4
  go_wp2_with fail
  refine (few_any A H c ch hs.length ps _ HP.out hl).mono ?_
  rintro e w1 ⟨rfl, hb1⟩
  have HB1 := Lib.hid hb1
  rw [HF.out]
  clear hb1
  go_wp2_with fail
  refine (lawPlayers_any A c ps _ (HP.out.keep HB1.out) (by omega)).mono ?_
  rintro e w2 ⟨X, x, rfl, hx, hb2⟩
  have HB2 := Lib.hid (HB1.out.trans (hb2.mono HB1.out.size))
  have HX2 := Lib.hid hx
  clear hx hb2
  go_wp2_with fail
  refine (HFB.out _ HB2.out).mono ?_
  rintro e w3 ⟨gf, rfl, hn3, _, hb3⟩
  have HN3 := Lib.hid hn3.entries
  have HB3 := Lib.hid (HB2.out.trans (hb3.mono HB2.out.size))
  have HX3 := Lib.hid (HX2.out.keep hb3)
  clear hn3 hb3 HX2
  go_wp2_with fail
  refine (HCH.out _ HB3.out).mono ?_
  rintro e w4 ⟨rfl, n4, rfl⟩
  have hb4 : Below w3.heap.size w3 (w3.drewN n4) := below_drewN (Below.refl _ _) n4
  have HB4 := Lib.hid (HB3.out.trans (hb4.mono HB3.out.size))
  have HX4 := Lib.hid (HX3.out.keep hb4)
  have HN4 := Lib.hid (HN3.out.keep hb4)
  clear hb4
  generalize w3.drewN n4 = w4 at HB4 HX4 HN4 ⊢
  go_wp2_with fail
  refine (lawWhen_any _ _ _).mono ?_
  rintro e w9 ⟨rfl, rfl⟩
  go_wp2_with fail
  refine (lawFirst_any _ _ [_, _] _ (by simp) (Ints.two _ _ _ _ _ rfl)).mono ?_
  rintro e w9 ⟨rfl, rfl⟩
  rw [HQ.out]
  obtain ⟨W5, hW5⟩ : ∃ W5, w4.alloc (.cells #[.int .i64 hz, .int .i64 (unlessI (!decide ((ps.length : Int) < 2) && !decide (4 < (ps.length : Int))) 2)] 3) = W5 := ⟨_, rfl⟩
  rw [hW5]
  have hb5 : Below w4.heap.size w4 W5 := by subst hW5; exact (Below.refl _ _).alloc (Nat.le_refl _) _
  have HB5 := Lib.hid (HB4.out.trans (hb5.mono HB4.out.size))
  have HX5 := Lib.hid (HX4.out.keep hb5)
  have HN5 := Lib.hid (HN4.out.keep hb5)
  clear hb5 hW5
  go_wp2_with fail
  refine (HCP.out _ X x HB5.out HX5.out).mono ?_
  rintro e w6 ⟨rfl, hb6⟩
  have HB6 := Lib.hid (HB5.out.trans (hb6.mono HB5.out.size))
  have HX6 := Lib.hid (HX5.out.keep hb6)
  have HN6 := Lib.hid (HN5.out.keep hb6)
  clear hb6
  go_wp2_with fail
  refine (HRF.out _ X x HB6.out HX6.out).mono ?_
  rintro e w7 ⟨v7, rfl, ho7, hb7⟩
  obtain ⟨A7, c7, rfl, he7⟩ := ho7.entries
  have HB7 := Lib.hid (HB6.out.trans (hb7.mono HB6.out.size))
  have HX7 := Lib.hid (HX6.out.keep hb7)
  have HN7 := Lib.hid (HN6.out.keep hb7)
  have HR7 := Lib.hid he7
  clear ho7 he7 hb7
  go_wp2_with fail
  refine (lawNets_any (some ⟨gf, 0, none⟩) jl.length jl _ HN7.out HJL.out).mono ?_
  rintro e w8 ⟨v8, rfl, ho8, hb8⟩
  obtain ⟨A8, c8, rfl, he8⟩ := ho8.entries
  have HB8 := Lib.hid (HB7.out.trans (hb8.mono HB7.out.size))
  have HX8 := Lib.hid (HX7.out.keep hb8)
  have HR8 := Lib.hid (HR7.out.keep hb8)
  have HE8 := Lib.hid he8
  clear ho8 he8 hb8
  go_wp2_with fail
  refine (sameNets_any A8 A7 c8 c7 jl _ HE8.out HR8.out HJL.out).mono ?_
  rintro e w9 ⟨rfl, n9, rfl⟩
  have hb9 : Below w8.heap.size w8 (w8.drewN n9) := below_drewN (Below.refl _ _) n9
  have HB9 := Lib.hid (HB8.out.trans (hb9.mono HB8.out.size))
  have HX9 := Lib.hid (HX8.out.keep hb9)
  clear hb9 HE8 HR8 HX3 HX4 HX5 HX6 HX7 HX8 HN3 HN4 HN5 HN6 HN7 HR7 HB1 HB2 HB3 HB4 HB5 HB6 HB7 HB8
  generalize w8.drewN n9 = w9 at HB9 HX9 ⊢
  obtain ⟨al, B0, d0, B1, d1, rfl, x0, x1, x2, y0, y1, y2, e0, e1⟩ := players_two_cells (HP.out.keep HB9.out) HH2.out
  obtain ⟨ax, E0, f0, E1, f1, rfl, _, _, _, _, _, _, _, _⟩ := players_two_cells HX9.out HH2.out
  rw [HP0.out] at x0 x1 x2 e0
  rw [HP1.out] at y0 y1 y2 e1
  have h0i : (0 : Int) < (ps.length : Int) := by have := HH2.out; omega
  have h0n : 0 < ps.length := by have := HH2.out; omega
  have h1i : (1 : Int) < (ps.length : Int) := by have := HH2.out; omega
  have HAG := Lib.hid (fun W (hW : Below w9.heap.size w9 W) => HKA.out W (HB9.out.trans (hW.mono HB9.out.size)) B0 d0 B1 d1 (e0.keep hW) (e1.keep hW))
  clear e0 e1 HKA
  go_upto_region 15 with fail
  go_cut [10, 11] (fun va ve wx => ∃ ga, va = .slice (some ⟨ga, 0, none⟩) nl.length nl.length ∧ ve = .int .i64 0 ∧ EntriesR wx (some ⟨ga, 0, none⟩) nl ∧ Below w9.heap.size w9 wx)
  case first =>
    go_region_with (go_at_call 26; refine (HAG.out _ (Below.refl _ _).drew).mono ?_; rintro e w10 ⟨ga, rfl, hn10, _, hb10⟩)
    all_goals
      go_wp2_with fail
      go_meet
      exact ⟨ga, rfl, rfl, hn10.entries, (Below.refl _ _).drew.trans hb10⟩
  case rest =>
    rename World => w10
    obtain ⟨ga, rfl, rfl, hn10, hb10⟩ := hcut
    have HN10 := Lib.hid hn10
    have HB10 := Lib.hid (HB9.out.trans (hb10.mono HB9.out.size))
    have HX10 := Lib.hid (HX9.out.keep hb10)
    clear hb10 x0 x1 x2 y0 y1 y2 HAG HX9 HB9
    obtain ⟨al', B0', d0', B1', d1', eal, l0, _, _, l1, _, _, _, _⟩ := players_two_cells (HP.out.keep HB10.out) HH2.out
    injection eal with eal
    subst eal
    obtain ⟨ax', E0', f0', E1', f1', eax, x0, x1, x2, y0, y1, y2, e0, e1⟩ := players_two_cells HX10.out HH2.out
    injection eax with eax
    subst eax
    rw [HP0.out] at x0 x1 x2 e0 l0
    rw [HP1.out] at y0 y1 y2 e1 l1
    have HCA := Lib.hid (fun W (hW : Below w10.heap.size w10 W) => HC0.out W (HB10.out.trans (hW.mono HB10.out.size)) E0' f0' (e0.keep hW))
    have HCB := Lib.hid (fun W (hW : Below w10.heap.size w10 W) => HC1.out W (HB10.out.trans (hW.mono HB10.out.size)) E1' f1' (e1.keep hW))
    have hsm := name_same p0.nm p1.nm
    have HE0 := Lib.hid e0
    have HE1 := Lib.hid e1
    clear HC0 HC1 e0 e1
    generalize decide (p0.nm = p1.nm) = eqb at hsm HQ2
    have HS0 := Lib.hid (show w10.drew.cell? ax = some (.string p0.nm) ∧ w10.drew.cell? ⟨ax.block, ax.off + 1, none⟩ = some (.slice E0' p0.l.length f0') ∧ w10.drew.cell? ⟨ax.block, ax.off + 2, none⟩ = some (.int .i64 p0.h) ∧ w10.drew.cell? ⟨ax.block, ax.off + 3, none⟩ = some (.string p1.nm) ∧ w10.drew.cell? ⟨ax.block, ax.off + 3 + 1, none⟩ = some (.slice E1' p1.l.length f1') ∧ w10.drew.cell? ⟨ax.block, ax.off + 3 + 2, none⟩ = some (.int .i64 p1.h) ∧ w10.drew.cell? al = some (.string p0.nm) ∧ w10.drew.cell? ⟨al.block, al.off + 3, none⟩ = some (.string p1.nm) ∧ Hid (Below w10.heap.size w10 w10.drew) from ⟨x0, x1, x2, y0, y1, y2, l0, l1, Lib.hid (Below.refl _ _).drew⟩)
    go_upto_region 16 with fail
    go_cut [8] (fun v wx => v = .int .i64 0 ∧ Below w10.heap.size w10 wx)
    case first =>
      go_region_held3 (fun W => W.cell? ax = some (.string p0.nm) ∧ W.cell? ⟨ax.block, ax.off + 1, none⟩ = some (.slice E0' p0.l.length f0') ∧ W.cell? ⟨ax.block, ax.off + 2, none⟩ = some (.int .i64 p0.h) ∧ W.cell? ⟨ax.block, ax.off + 3, none⟩ = some (.string p1.nm) ∧ W.cell? ⟨ax.block, ax.off + 3 + 1, none⟩ = some (.slice E1' p1.l.length f1') ∧ W.cell? ⟨ax.block, ax.off + 3 + 2, none⟩ = some (.int .i64 p1.h) ∧ W.cell? al = some (.string p0.nm) ∧ W.cell? ⟨al.block, al.off + 3, none⟩ = some (.string p1.nm) ∧ Hid (Below w10.heap.size w10 W))
        ((first | with_reducible assumption | with_reducible exact keep8 hb11 (by with_reducible assumption) (Nat.le_refl _) | with_reducible exact keep8 hb12 (by with_reducible assumption) (Nat.le_refl _) | with_reducible exact keep8 ((Below.refl _ _).alloc (Nat.le_refl _) _) (by with_reducible assumption) (Nat.le_refl _) | with_reducible exact HS0.out))
        (first
          | (go_at_call 27; (with_reducible refine (HCA.out _ (held9 (by with_reducible assumption))).mono ?_); rintro e w11 ⟨rfl, hb11⟩)
          | (go_at_call 27; (with_reducible refine (HCB.out _ (held9 (by with_reducible assumption))).mono ?_); rintro e w12 ⟨rfl, hb12⟩)
          | (go_at_call 13; (with_reducible refine (lawWhen_any _ _ _).mono ?_); rintro e w13 ⟨rfl, rfl⟩)
          | (go_at_call 11; refine (lawFirst_any _ _ [_, _, _] _ (by simp) (Ints.three _ _ _ _ _ _ rfl)).mono ?_; rintro e w14 ⟨rfl, rfl⟩))
      all_goals
        go_wp2_with fail
        go_meet
        exact ⟨by rw [HQ2.out], held9 (by with_reducible assumption)⟩
    case rest =>
      rename World => w15
      obtain ⟨rfl, hb15⟩ := hcut
      have HB15 := Lib.hid (HB10.out.trans (hb15.mono HB10.out.size))
      have HN15 := Lib.hid (HN10.out.keep hb15)
      have x0' := (hb15.cell (World.block_lt_of_cell? _ _ x0)).trans x0
      have x1' := (hb15.cell (World.block_lt_of_cell? _ _ x1)).trans x1
      have x2' := (hb15.cell (World.block_lt_of_cell? _ _ x2)).trans x2
      have y0' := (hb15.cell (World.block_lt_of_cell? _ _ y0)).trans y0
      have y1' := (hb15.cell (World.block_lt_of_cell? _ _ y1)).trans y1
      have y2' := (hb15.cell (World.block_lt_of_cell? _ _ y2)).trans y2
      have HAR := Lib.hid (fun W (hW : Below w15.heap.size w15 W) => HRA.out W (HB15.out.trans (hW.mono HB15.out.size)) E0' f0' E1' f1' ((HE0.out.keep hb15).keep hW) ((HE1.out.keep hb15).keep hW))
      clear hb15 x0 x1 x2 y0 y1 y2 l0 l1 HS0 HCA HCB HRA HE0 HE1 HX10 HN10 hsm
      go_upto_region 19 with fail
      go_cut [9] (fun v wx => ∃ A2 c2, v = .slice A2 nl.length c2 ∧ EntriesR wx A2 nl ∧ Below w15.heap.size w15 wx)
      case first =>
        go_region_with (go_at_call 28; refine (HAR.out _ (Below.refl _ _).drew).mono ?_; rintro e w16 ⟨v16, rfl, ho16, hb16⟩; obtain ⟨A16, c16, rfl, he16⟩ := ho16.entries)
        all_goals
          go_wp2_with fail
          go_meet
          exact ⟨A16, c16, rfl, he16, (Below.refl _ _).drew.trans hb16⟩
      case rest =>
        rename World => w17
        obtain ⟨A2, c2, rfl, he17, hb17⟩ := hcut
        have HB17 := Lib.hid (HB15.out.trans (hb17.mono HB15.out.size))
        have HN17 := Lib.hid (HN15.out.keep hb17)
        have HR17 := Lib.hid he17
        clear hb17 he17 HAR HN15 x0' x1' x2' y0' y1' y2'
        go_wp2_with fail
        refine (lawNets_any (some ⟨ga, 0, none⟩) nl.length nl _ HN17.out HNLL.out).mono ?_
        rintro e w18 ⟨v18, rfl, ho18, hb18⟩
        obtain ⟨A18, c18, rfl, he18⟩ := ho18.entries
        have HB18 := Lib.hid (HB17.out.trans (hb18.mono HB17.out.size))
        have HR18 := Lib.hid (HR17.out.keep hb18)
        have HE18 := Lib.hid he18
        clear ho18 he18 hb18
        go_wp2_with fail
        refine (sameNets_any A18 A2 c18 c2 nl _ HE18.out HR18.out HNLL.out).mono ?_
        rintro e w19 ⟨rfl, n19, rfl⟩
        have HB19 := Lib.hid (below_drewN HB18.out n19)
        go_wp2_with fail
        refine (awake_any _).mono ?_
        rintro e wz ⟨rfl, hbz⟩
        have HBZ := Lib.hid (HB19.out.trans (hbz.mono HB19.out.size))
        clear hbz
        go_wp2
        go_ret
        exact ⟨rfl, HBZ.out⟩

end Go.Proofs.YtkhhkicfeaeddaaGreatDoor
