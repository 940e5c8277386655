/- FormatLeads: the law's walk, its ways. -/
import Derived.Test.YtfpehblofokheaaGreatDoorLedG
import Derived.Test.YtfpehblofokheaaGreatDoorLedC
import Derived.Test.YtfpehblofokheaaGreatDoorLedD
import Derived.Test.YtfpehblofokheaaGreatDoorLedE
import Derived.Test.YtfpehblofokheaaGreatDoorLedF
import Derived.Test.YtfpehblofokheaaGreatDoorLedP
import Derived.Test.YtfpehblofokheaaGreatDoorTieS
import Derived.Test.YtfpehblofokheaaGreatDoorAwkD
import Derived.Test.YtfpehblofokheaaGreatDoorMgH
import Derived.Deep.RegionWith
import Derived.Deep.DeepCutAuto
import Derived.Deep.CutBlock
import Derived.Outline
set_option linter.unusedVariables false
set_option linter.unusedSimpArgs false
namespace Go.Proofs.YtfpehblofokheaaGreatDoor
open Go.RowKit

/-- What the law has made: the reference's field, in a box of its own. -/
def LeadX (w0 w : World) (b : Nat) (H A' : Option Addr) (nh ch c' : Nat) (ps : List Pl) : Prop :=
  BlkV w w0.heap.size 25 #[.slice H nh ch, .slice A' ps.length c'] ∧ True
theorem strokes99 {ls : List (List Int)} (h : playE ls = 0) : ∀ k (x : Fin ls.length), strokesF ls.length ls k x ≤ 99 := fun k x => by
  have h3 := firstI_zero _ h (listsI playC ls) (by simp)
  have hy := (listsI_zero h3 _ (show ls.getD x.val [] ∈ ls by simp [List.getD, List.getElem?_eq_getElem x.isLt])).1
  rw [strokesF_at]
  by_cases g : k < (ls.getD x.val []).length
  · have := eachI_zero (firstI_zero _ hy (eachI (ls.getD x.val []) 1 99) (by simp)) _ (List.getElem_mem g)
    rw [List.getD, List.getElem?_eq_getElem g]
    exact this.2
  · rw [List.getD, List.getElem?_eq_none (by omega)]; decide
theorem ref_play {ls : List (List Int)} (h : playE ls = 0) : refGo ls.length ls (ls.getD 0 []).length 0 (finL ls.length) = playGo ls.length ls (ls.getD 0 []).length 0 (finL ls.length) :=
  refGo_play ls.length ls (strokes99 h) _ 0 _ (by rw [finL_len]; have := (playE_zero h).least; omega)
theorem PlOwn.players2 {w0 w : World} {base : Nat} {A : Option Addr} {n c : Nat} {ps : List Pl} (h : PlOwn w0 w base (.slice A n c) ps) (hb : Below w0.heap.size w0 w) : PlayersR w A ps := by
  obtain ⟨A', c', e, hp⟩ := h.players hb
  injection e with e1 e2 e3
  subst e1
  exact hp
structure LeadK (w : World) (H A : Option Addr) (ch c : Nat) (hs : List (Int × Int)) (ps : List Pl) (X Y : List Int) (z : Int) : Prop where
  field : ∀ W, Below w.heap.size w W → Calls Tryz.prog 11 #[.agg #[.slice H hs.length ch, .slice A ps.length c]] W fun e w' => e = .returned (.int .i64 z) ∧ Below W.heap.size W w'
  rfield : ∀ W A' c', Below w.heap.size w W → PlayersR W A' ps → Calls Tryz.prog 9 #[.agg #[.slice H hs.length ch, .slice A' ps.length c']] W fun e w' => e = .returned (.int .i64 z) ∧ Below W.heap.size W w'
  leads : z = 0 → ∀ W, Below w.heap.size w W → Calls Tryz.prog 10 #[.agg #[.slice H hs.length ch, .slice A ps.length c]] W (LeadsOut X Y W)
  leadsN : z ≠ 0 → ∀ W, Below w.heap.size w W → Calls Tryz.prog 10 #[.agg #[.slice H hs.length ch, .slice A ps.length c]] W fun e w' => e = .returned (.tuple #[.slice none 0 0, .slice none 0 0, .int .i64 z]) ∧ Below W.heap.size W w'
  rleads : z = 0 → ∀ W A' c', Below w.heap.size w W → PlayersR W A' ps → Calls Tryz.prog 12 #[.agg #[.slice H hs.length ch, .slice A' ps.length c']] W (LeadOut X Y W)
  lx : X.length ≤ 1000
  ly : Y.length ≤ 1000
/-- What a play-off leaves: the same for both. -/
def PlayTwo (V : List Int) (n : Int) (w : World) (e : Ending) (w' : World) : Prop := ∃ A c, e = .returned (.tuple #[.slice A V.length c, .int .i64 n]) ∧ IntsAt w' w'.heap.size A V ∧ Below w.heap.size w w'
def PlayThree (V : List Int) (n : Int) (w : World) (e : Ending) (w' : World) : Prop := ∃ A c, e = .returned (.tuple #[.slice A V.length c, .int .i64 n, .int .i64 0]) ∧ IntsAt w' w'.heap.size A V ∧ Below w.heap.size w w'
structure PlayK (w : World) (L : Option Addr) (cl : Nat) (ls : List (List Int)) (V : List Int) (n y : Int) : Prop where
  play : y = 0 → ∀ W, Below w.heap.size w W → Calls Tryz.prog 14 #[.slice L ls.length cl] W (PlayThree V n W)
  playN : y ≠ 0 → ∀ W, Below w.heap.size w W → Calls Tryz.prog 14 #[.slice L ls.length cl] W fun e w' => e = .returned (.tuple #[.slice none 0 0, .int .i64 0, .int .i64 y]) ∧ Below W.heap.size W w'
  chk : ∀ W, Below w.heap.size w W → Calls Tryz.prog 15 #[.slice L ls.length cl] W fun e w' => e = .returned (.int .i64 y) ∧ ∃ n, w' = W.drewN n
  rplay : y = 0 → ∀ W, Below w.heap.size w W → Calls Tryz.prog 16 #[.slice L ls.length cl] W (PlayTwo V n W)
  lv : V.length ≤ 1000
theorem nil_ints (w : World) : Ints w none [] := fun j hj => absurd hj (Nat.not_lt_zero _)
theorem cells2 {w : World} {g : Nat} {t : TypeId} {u v : Value} (h : BlkV w g t #[u, v]) : w.cell? ⟨g, 0, none⟩ = some u ∧ w.cell? ⟨g, 1, none⟩ = some v := ⟨h.cell 0, h.cell 1⟩

set_option maxRecDepth 100000 in
set_option maxHeartbeats 100000000 in
theorem leads_any (H A L : Option Addr) (ch c cl : Nat) (hs : List (Int × Int)) (ps : List Pl) (ls : List (List Int)) (w : World) (hp : PlayersR w A ps) (hls : ListsR w L ls) (hl : ps.length * 48 ≤ 140737488355328)
    (hKK : hs.length ≤ 39 → shortsB ps = true → ∃ X Y z, LeadK w H A ch c hs ps X Y z) (hQQ : shortTB ls = true → ∃ V n y, PlayK w L cl ls V n y) :
    Calls Tryz.prog 3 #[.agg #[.slice H hs.length ch, .slice A ps.length c], .slice L ls.length cl] w fun e w' => e = .returned (.bool true) ∧ Below w.heap.size w w' := by
  have HPL := Lib.hid (fun W0 W (hb : Below w.heap.size w W0) (hb2 : Below W0.heap.size W0 W) => lawPlayersB_any A c ps W0 W hb2 (hp.keep hb) hl)
  have HLS := Lib.hid (fun W (hb : Below w.heap.size w W) => hls.keep hb)
  clear hp hls
  go_enter Tryz.func3, Tryz.ntmps3
  go_upto_region 1 with fail
  generalize hW0 : w.alloc (.cells #[.slice H hs.length ch, .slice A ps.length c] 25) = W0
  obtain ⟨a1, a2, a3⟩ := one_alloc w _ _ hW0
  have HBX0 := Lib.hid a1
  have HB0 := Lib.hid a2
  have y0 := a1.cell 0
  have y1 := a1.cell 1
  simp only [List.getElem?_toArray, List.getElem?_cons_zero, List.getElem?_cons_succ] at y0 y1
  have v0 : (W0.drew.alloc (.cells #[.slice none 0 0, .slice none 0 0] 30)).cell? ⟨w.heap.size, 0, none⟩ = some (.slice H hs.length ch) := (World.cell?_alloc_lt W0.drew _ ⟨w.heap.size, 0, none⟩ (World.block_lt_of_cell? W0 _ y0)).trans y0
  have v1 : (W0.drew.alloc (.cells #[.slice none 0 0, .slice none 0 0] 30)).cell? ⟨w.heap.size, 1, none⟩ = some (.slice A ps.length c) := (World.cell?_alloc_lt W0.drew _ ⟨w.heap.size, 1, none⟩ (World.block_lt_of_cell? W0 _ y1)).trans y1
  have v2 : (W0.alloc (.cells #[.slice none 0 0, .slice none 0 0] 30)).cell? ⟨w.heap.size, 0, none⟩ = some (.slice H hs.length ch) := (World.cell?_alloc_lt W0 _ ⟨w.heap.size, 0, none⟩ (World.block_lt_of_cell? W0 _ y0)).trans y0
  have v3 : (W0.alloc (.cells #[.slice none 0 0, .slice none 0 0] 30)).cell? ⟨w.heap.size, 1, none⟩ = some (.slice A ps.length c) := (World.cell?_alloc_lt W0 _ ⟨w.heap.size, 1, none⟩ (World.block_lt_of_cell? W0 _ y1)).trans y1
  have dd0 : W0.drew.cell? ⟨w.heap.size, 0, none⟩ = some (.slice H hs.length ch) := y0
  have dd1 : W0.drew.cell? ⟨w.heap.size, 1, none⟩ = some (.slice A ps.length c) := y1
  have da0 : (W0.alloc (.cells #[.slice none 0 0, .slice none 0 0] 30)).drew.cell? ⟨w.heap.size, 0, none⟩ = some (.slice H hs.length ch) := v2
  have da1 : (W0.alloc (.cells #[.slice none 0 0, .slice none 0 0] 30)).drew.cell? ⟨w.heap.size, 1, none⟩ = some (.slice A ps.length c) := v3
  clear hW0 a1 a2 a3
  go_cut [5] (fun v wx => ∃ b A' c', v = .pointer (some ⟨b, 0, none⟩) ∧ BlkV wx b 30 #[.slice H hs.length ch, .slice A' ps.length c'] ∧ PlayersR wx A' ps ∧ Below W0.heap.size W0 wx)
  case first =>
    go_region_with (first
      | (go_at_call 5; refine (HPL.out W0 _ HB0.out ((Below.refl _ _).drew)).mono ?_; rintro e w1 ⟨A', c', rfl, hpx, hb1⟩; have u0 := (hb1.cell (p := ⟨w.heap.size, 0, none⟩) (World.block_lt_of_cell? _ _ dd0)).trans dd0; have u1 := (hb1.cell (p := ⟨w.heap.size, 1, none⟩) (World.block_lt_of_cell? _ _ dd1)).trans dd1; have u2 := (World.cell?_alloc_lt w1 (.cells #[.slice none 0 0, .slice none 0 0] 30) ⟨w.heap.size, 0, none⟩ (World.block_lt_of_cell? _ _ u0)).trans u0; have u3 := (World.cell?_alloc_lt w1 (.cells #[.slice none 0 0, .slice none 0 0] 30) ⟨w.heap.size, 1, none⟩ (World.block_lt_of_cell? _ _ u1)).trans u1; have HPX := Lib.hid hpx; have HBP := Lib.hid hb1; clear hpx hb1)
      | (go_at_call 5; refine (HPL.out W0 _ HB0.out (((Below.refl _ _).alloc (Nat.le_refl _) _).drew)).mono ?_; rintro e w1 ⟨A', c', rfl, hpx, hb1⟩; have u0 := (hb1.cell (p := ⟨w.heap.size, 0, none⟩) (World.block_lt_of_cell? _ _ da0)).trans da0; have u1 := (hb1.cell (p := ⟨w.heap.size, 1, none⟩) (World.block_lt_of_cell? _ _ da1)).trans da1; have HPX := Lib.hid hpx; have hbk : BlkV w1 W0.heap.size 30 #[.slice none 0 0, .slice none 0 0] := (BlkV.new W0 30 #[.slice none 0 0, .slice none 0 0]).below hb1 (by show W0.heap.size < (W0.alloc _).heap.size; simp); have k0 := hbk.cell 0; have k1 := hbk.cell 1; have kf0 := hbk.frozen 0; have kf1 := hbk.frozen 1; simp only [List.getElem?_toArray, List.getElem?_cons_zero, List.getElem?_cons_succ] at k0 k1; have HBK := Lib.hid hbk; have HBP := Lib.hid hb1; clear hpx hb1 hbk)
      | (go_at_call 5; refine (HPL.out W0 _ HB0.out (((Below.refl _ _).drew).alloc (Nat.le_refl _) _)).mono ?_; rintro e w1 ⟨A', c', rfl, hpx, hb1⟩; have u0 := (hb1.cell (p := ⟨w.heap.size, 0, none⟩) (World.block_lt_of_cell? _ _ v0)).trans v0; have u1 := (hb1.cell (p := ⟨w.heap.size, 1, none⟩) (World.block_lt_of_cell? _ _ v1)).trans v1; have HPX := Lib.hid hpx; have hbk : BlkV w1 W0.heap.size 30 #[.slice none 0 0, .slice none 0 0] := (BlkV.new W0.drew 30 #[.slice none 0 0, .slice none 0 0]).below hb1 (by simp); have k0 := hbk.cell 0; have k1 := hbk.cell 1; have kf0 := hbk.frozen 0; have kf1 := hbk.frozen 1; simp only [List.getElem?_toArray, List.getElem?_cons_zero, List.getElem?_cons_succ] at k0 k1; have HBK := Lib.hid hbk; have HBP := Lib.hid hb1; clear hpx hb1 hbk))
    all_goals
      go_wp2_with fail
      go_meet
      first
      | exact ⟨_, A', c', rfl, BlkV.new w1 _ _, (HPX.out.below ((Below.refl _ _).alloc (Nat.le_refl _) _)).players2 (((Below.refl _ _).drew.trans HBP.out).alloc HBP.out.size _), ((Below.refl _ _).drew.trans HBP.out).alloc HBP.out.size _⟩
      | exact ⟨_, A', c', rfl, (HBK.out.set 0 _).set 1 _, ((HPX.out.far (p := ⟨W0.heap.size, 0, none⟩) (by show W0.heap.size < (W0.alloc _).heap.size; simp) _).far (p := ⟨W0.heap.size, 1, none⟩) (by show W0.heap.size < (W0.alloc _).heap.size; simp) _).players2 (((((Below.refl _ _).alloc (Nat.le_refl _) _).drew.trans (HBP.out.mono (by show W0.heap.size ≤ (W0.alloc _).heap.size; simp))).setCell (Nat.le_refl _) _).setCell (Nat.le_refl _) _), ((((Below.refl _ _).alloc (Nat.le_refl _) _).drew.trans (HBP.out.mono (by show W0.heap.size ≤ (W0.alloc _).heap.size; simp))).setCell (Nat.le_refl _) _).setCell (Nat.le_refl _) _⟩
  case rest =>
    rename World => w1
    obtain ⟨b, A', c', rfl, hblk, hpx, hbw⟩ := hcut
    have HB1 := Lib.hid (HB0.out.trans (hbw.mono HB0.out.size))
    have HC1 := Lib.hid (Below.refl w1.heap.size w1)
    have HPX := Lib.hid hpx
    have hbx1 := HBX0.out.below hbw HBX0.out.lt
    have HC4 : Hid (∀ W, Below w1.heap.size w1 W → W.cell? ⟨w.heap.size, 0, none⟩ = some (.slice H hs.length ch) ∧ W.cell? ⟨w.heap.size, 1, none⟩ = some (.slice A ps.length c) ∧ W.cell? ⟨b, 0, none⟩ = some (.slice H hs.length ch) ∧ W.cell? ⟨b, 1, none⟩ = some (.slice A' ps.length c')) := Lib.hid (fun W hW =>
      ⟨(cells2 (hbx1.below hW hbx1.lt)).1, (cells2 (hbx1.below hW hbx1.lt)).2, (cells2 (hblk.below hW hblk.lt)).1, (cells2 (hblk.below hW hblk.lt)).2⟩)
    clear hblk hpx hbw hbx1 y0 y1 v0 v1 v2 v3 dd0 dd1 da0 da1 HBX0 HPL
    by_cases h39 : 39 < hs.length
    · have d1 : decide ((39 : Int) < (hs.length : Int)) = true := decide_eq_true (by omega)
      obtain ⟨p0, p1, p2, p3⟩ := HC4.out w1 HC1.out
      go_wp2_with fail
      refine (awake_any _).mono ?_
      rintro e wz ⟨rfl, hbz⟩
      have HBZ := Lib.hid (HB1.out.trans (hbz.mono HB1.out.size))
      clear hbz
      go_wp2
      go_ret
      exact ⟨rfl, HBZ.out⟩
    · have d1 : decide ((39 : Int) < (hs.length : Int)) = false := decide_eq_false (by omega)
      cases hsh : shortsB ps
      · have HSH := Lib.hid hsh
        clear hsh
        obtain ⟨p0, p1, p2, p3⟩ := HC4.out w1 HC1.out
        go_wp2_with fail
        refine (refShorts_any A' c' ps _ HPX.out).mono ?_
        rintro e w2 ⟨rfl, hb2⟩
        have HB2 := Lib.hid (HB1.out.trans (hb2.mono HB1.out.size))
        have HC2 := Lib.hid (HC1.out.trans (hb2.mono HC1.out.size))
        clear hb2 p0 p1 p2 p3
        rw [HSH.out]
        obtain ⟨p0, p1, p2, p3⟩ := HC4.out w2 HC2.out
        go_wp2_with fail
        refine (awake_any _).mono ?_
        rintro e wz ⟨rfl, hbz⟩
        have HBZ := Lib.hid (HB2.out.trans (hbz.mono HB2.out.size))
        clear hbz
        go_wp2
        go_ret
        exact ⟨rfl, HBZ.out⟩
      · have HSH := Lib.hid hsh
        cases hst : shortTB ls
        · have HST := Lib.hid hst
          clear hst hsh
          obtain ⟨p0, p1, p2, p3⟩ := HC4.out w1 HC1.out
          go_wp2_with fail
          refine (refShorts_any A' c' ps _ HPX.out).mono ?_
          rintro e w2 ⟨rfl, hb2⟩
          have HB2 := Lib.hid (HB1.out.trans (hb2.mono HB1.out.size))
          have HC2 := Lib.hid (HC1.out.trans (hb2.mono HC1.out.size))
          clear hb2 p0 p1 p2 p3
          rw [HSH.out]
          obtain ⟨p0, p1, p2, p3⟩ := HC4.out w2 HC2.out
          go_wp2_with fail
          refine (shortT_any L cl ls _ (HLS.out _ HB2.out)).mono ?_
          rintro e w3 ⟨rfl, rfl⟩
          rw [HST.out]
          go_wp2_with fail
          refine (awake_any _).mono ?_
          rintro e wz ⟨rfl, hbz⟩
          have HBZ := Lib.hid (HB2.out.trans (hbz.mono HB2.out.size))
          clear hbz
          go_wp2
          go_ret
          exact ⟨rfl, HBZ.out⟩
        · have HST := Lib.hid hst
          obtain ⟨X, Y, z, hK⟩ := hKK (by omega) hsh
          obtain ⟨V, n, y, hQ⟩ := hQQ hst
          have K := Lib.hid hK
          have Q := Lib.hid hQ
          clear hst hsh hK hQ hKK hQQ
          by_cases hz : z = 0
          · have HZ := Lib.hid hz
            clear hz
            by_cases hy : y = 0
            · have HY := Lib.hid hy
              clear hy
              obtain ⟨p0, p1, p2, p3⟩ := HC4.out w1 HC1.out
              go_wp2_with fail
              refine (refShorts_any A' c' ps _ HPX.out).mono ?_
              rintro e w2 ⟨rfl, hb2⟩
              have HB2 := Lib.hid (HB1.out.trans (hb2.mono HB1.out.size))
              have HC2 := Lib.hid (HC1.out.trans (hb2.mono HC1.out.size))
              clear hb2 p0 p1 p2 p3
              rw [HSH.out]
              obtain ⟨p0, p1, p2, p3⟩ := HC4.out w2 HC2.out
              go_wp2_with fail
              refine (shortT_any L cl ls _ (HLS.out _ HB2.out)).mono ?_
              rintro e w3 ⟨rfl, rfl⟩
              rw [HST.out]
              go_wp2_with fail
              refine (K.out.rfield w2 A' c' HB2.out (HPX.out.keep HC2.out)).mono ?_
              rintro e w4 ⟨rfl, hb4⟩
              have HB4 := Lib.hid (HB2.out.trans (hb4.mono HB2.out.size))
              have HC4y := Lib.hid (HC2.out.trans (hb4.mono HC2.out.size))
              clear hb4 p0 p1 p2 p3
              obtain ⟨p0, p1, p2, p3⟩ := HC4.out w4 HC4y.out
              go_wp2_with fail
              refine (K.out.leads HZ.out w4 HB4.out).mono ?_
              rintro e w5 ⟨Ao, co, Ar, cr, rfl, hio, hir, hb5⟩
              have HIO := Lib.hid hio
              have HIR := Lib.hid hir
              have HB5 := Lib.hid (HB4.out.trans (hb5.mono HB4.out.size))
              have HC5 := Lib.hid (HC4y.out.trans (hb5.mono HC4y.out.size))
              clear hio hir hb5 p0 p1 p2 p3
              obtain ⟨p0, p1, p2, p3⟩ := HC4.out w5 HC5.out
              go_wp2_with fail
              refine (K.out.field w5 HB5.out).mono ?_
              rintro e w6 ⟨rfl, hb6⟩
              have HIO6 := Lib.hid (HIO.out.keep hb6)
              have HIR6 := Lib.hid (HIR.out.keep hb6)
              have HB6 := Lib.hid (HB5.out.trans (hb6.mono HB5.out.size))
              have HC6 := Lib.hid (HC5.out.trans (hb6.mono HC5.out.size))
              clear hb6 p0 p1 p2 p3
              obtain ⟨p0, p1, p2, p3⟩ := HC4.out w6 HC6.out
              have hz0 := HZ.out
              subst hz0
              go_wp2_with fail
              refine (K.out.rleads rfl w6 A' c' HB6.out (HPX.out.keep HC6.out)).mono ?_
              rintro e w7 ⟨Aq, cq, As, cs, rfl, hiq, his, hb7⟩
              have HIQ := Lib.hid hiq
              have HIS := Lib.hid his
              have HIO7 := Lib.hid (HIO6.out.keep hb7)
              have HIR7 := Lib.hid (HIR6.out.keep hb7)
              have HB7 := Lib.hid (HB6.out.trans (hb7.mono HB6.out.size))
              have HC7 := Lib.hid (HC6.out.trans (hb7.mono HC6.out.size))
              clear hiq his hb7 p0 p1 p2 p3
              go_wp2_with fail
              refine (sameInts_any Ao Aq co cq X X w7 HIO7.out.ints HIQ.out.ints (by have := K.out.lx; omega)).mono ?_
              rintro e w8 ⟨rfl, n8, rfl⟩
              rw [decide_eq_true (rfl : X = X)]
              go_wp2_with fail
              refine (sameInts_any Ar As cr cs Y Y _ (HIR7.out.keep (below_drewN (Below.refl _ _) n8)).ints (HIS.out.keep (below_drewN (Below.refl _ _) n8)).ints (by have := K.out.ly; omega)).mono ?_
              rintro e w9 ⟨rfl, n9, rfl⟩
              rw [decide_eq_true (rfl : Y = Y)]
              have HB9 := Lib.hid (below_drewN HB7.out (n8 + n9))
              go_wp2_with fail
              refine (Q.out.play HY.out _ HB9.out).mono ?_
              rintro e wa ⟨Ap, cp, rfl, hip, hba⟩
              have HIP := Lib.hid hip
              have HBA := Lib.hid (HB9.out.trans (hba.mono HB9.out.size))
              clear hip hba
              have hy0 := HY.out
              subst hy0
              go_wp2_with fail
              refine (Q.out.chk wa HBA.out).mono ?_
              rintro e wb ⟨rfl, nb, rfl⟩
              have HBB := Lib.hid (below_drewN HBA.out nb)
              have HIPB := Lib.hid (HIP.out.keep (below_drewN (Below.refl _ _) nb))
              go_wp2_with fail
              refine (Q.out.rplay rfl _ HBB.out).mono ?_
              rintro e wc ⟨Af, cf, rfl, hif, hbc⟩
              have HIF := Lib.hid hif
              have HIPC := Lib.hid (HIPB.out.keep hbc)
              have HBC := Lib.hid (HBB.out.trans (hbc.mono HBB.out.size))
              clear hif hbc
              go_wp2_with fail
              refine (sameInts_any Ap Af cp cf V V wc HIPC.out.ints HIF.out.ints (by have := Q.out.lv; omega)).mono ?_
              rintro e wd ⟨rfl, nd, rfl⟩
              rw [decide_eq_true (rfl : V = V)]
              have HBD := Lib.hid (below_drewN HBC.out nd)
              go_wp2_with fail
              refine (awake_any _).mono ?_
              rintro e wz ⟨rfl, hbz⟩
              have HBZ := Lib.hid (HBD.out.trans (hbz.mono HBD.out.size))
              clear hbz
              go_wp2
              go_ret
              exact ⟨rfl, HBZ.out⟩
            · have HY := Lib.hid hy
              clear hy
              obtain ⟨p0, p1, p2, p3⟩ := HC4.out w1 HC1.out
              go_wp2_with fail
              refine (refShorts_any A' c' ps _ HPX.out).mono ?_
              rintro e w2 ⟨rfl, hb2⟩
              have HB2 := Lib.hid (HB1.out.trans (hb2.mono HB1.out.size))
              have HC2 := Lib.hid (HC1.out.trans (hb2.mono HC1.out.size))
              clear hb2 p0 p1 p2 p3
              rw [HSH.out]
              obtain ⟨p0, p1, p2, p3⟩ := HC4.out w2 HC2.out
              go_wp2_with fail
              refine (shortT_any L cl ls _ (HLS.out _ HB2.out)).mono ?_
              rintro e w3 ⟨rfl, rfl⟩
              rw [HST.out]
              go_wp2_with fail
              refine (K.out.rfield w2 A' c' HB2.out (HPX.out.keep HC2.out)).mono ?_
              rintro e w4 ⟨rfl, hb4⟩
              have HB4 := Lib.hid (HB2.out.trans (hb4.mono HB2.out.size))
              have HC4y := Lib.hid (HC2.out.trans (hb4.mono HC2.out.size))
              clear hb4 p0 p1 p2 p3
              obtain ⟨p0, p1, p2, p3⟩ := HC4.out w4 HC4y.out
              go_wp2_with fail
              refine (K.out.leads HZ.out w4 HB4.out).mono ?_
              rintro e w5 ⟨Ao, co, Ar, cr, rfl, hio, hir, hb5⟩
              have HIO := Lib.hid hio
              have HIR := Lib.hid hir
              have HB5 := Lib.hid (HB4.out.trans (hb5.mono HB4.out.size))
              have HC5 := Lib.hid (HC4y.out.trans (hb5.mono HC4y.out.size))
              clear hio hir hb5 p0 p1 p2 p3
              obtain ⟨p0, p1, p2, p3⟩ := HC4.out w5 HC5.out
              go_wp2_with fail
              refine (K.out.field w5 HB5.out).mono ?_
              rintro e w6 ⟨rfl, hb6⟩
              have HIO6 := Lib.hid (HIO.out.keep hb6)
              have HIR6 := Lib.hid (HIR.out.keep hb6)
              have HB6 := Lib.hid (HB5.out.trans (hb6.mono HB5.out.size))
              have HC6 := Lib.hid (HC5.out.trans (hb6.mono HC5.out.size))
              clear hb6 p0 p1 p2 p3
              obtain ⟨p0, p1, p2, p3⟩ := HC4.out w6 HC6.out
              have hz0 := HZ.out
              subst hz0
              go_wp2_with fail
              refine (K.out.rleads rfl w6 A' c' HB6.out (HPX.out.keep HC6.out)).mono ?_
              rintro e w7 ⟨Aq, cq, As, cs, rfl, hiq, his, hb7⟩
              have HIQ := Lib.hid hiq
              have HIS := Lib.hid his
              have HIO7 := Lib.hid (HIO6.out.keep hb7)
              have HIR7 := Lib.hid (HIR6.out.keep hb7)
              have HB7 := Lib.hid (HB6.out.trans (hb7.mono HB6.out.size))
              have HC7 := Lib.hid (HC6.out.trans (hb7.mono HC6.out.size))
              clear hiq his hb7 p0 p1 p2 p3
              go_wp2_with fail
              refine (sameInts_any Ao Aq co cq X X w7 HIO7.out.ints HIQ.out.ints (by have := K.out.lx; omega)).mono ?_
              rintro e w8 ⟨rfl, n8, rfl⟩
              rw [decide_eq_true (rfl : X = X)]
              go_wp2_with fail
              refine (sameInts_any Ar As cr cs Y Y _ (HIR7.out.keep (below_drewN (Below.refl _ _) n8)).ints (HIS.out.keep (below_drewN (Below.refl _ _) n8)).ints (by have := K.out.ly; omega)).mono ?_
              rintro e w9 ⟨rfl, n9, rfl⟩
              rw [decide_eq_true (rfl : Y = Y)]
              have HB9 := Lib.hid (below_drewN HB7.out (n8 + n9))
              go_wp2_with fail
              refine (Q.out.playN HY.out _ HB9.out).mono ?_
              rintro e wa ⟨rfl, hba⟩
              have HBA := Lib.hid (HB9.out.trans (hba.mono HB9.out.size))
              clear hba
              have hyb : (y == 0) = false := beq_eq_false_iff_ne.2 HY.out
              go_wp2_with fail
              refine (Q.out.chk wa HBA.out).mono ?_
              rintro e wb ⟨rfl, nb, rfl⟩
              have HBB := Lib.hid (below_drewN HBA.out nb)
              go_wp2_with fail
              refine (sameInts_any none none 0 0 [] [] _ (nil_ints _) (nil_ints _) (by simp)).mono ?_
              rintro e wd ⟨rfl, nd, rfl⟩
              rw [decide_eq_true (rfl : ([] : List Int) = [])]
              have HBD := Lib.hid (below_drewN HBA.out (nb + nd))
              go_wp2_with fail
              refine (awake_any _).mono ?_
              rintro e wz ⟨rfl, hbz⟩
              have HBZ := Lib.hid (HBD.out.trans (hbz.mono HBD.out.size))
              clear hbz
              go_wp2
              go_ret
              exact ⟨rfl, HBZ.out⟩
          · have HZ := Lib.hid hz
            clear hz
            by_cases hy : y = 0
            · have HY := Lib.hid hy
              clear hy
              obtain ⟨p0, p1, p2, p3⟩ := HC4.out w1 HC1.out
              go_wp2_with fail
              refine (refShorts_any A' c' ps _ HPX.out).mono ?_
              rintro e w2 ⟨rfl, hb2⟩
              have HB2 := Lib.hid (HB1.out.trans (hb2.mono HB1.out.size))
              have HC2 := Lib.hid (HC1.out.trans (hb2.mono HC1.out.size))
              clear hb2 p0 p1 p2 p3
              rw [HSH.out]
              obtain ⟨p0, p1, p2, p3⟩ := HC4.out w2 HC2.out
              go_wp2_with fail
              refine (shortT_any L cl ls _ (HLS.out _ HB2.out)).mono ?_
              rintro e w3 ⟨rfl, rfl⟩
              rw [HST.out]
              go_wp2_with fail
              refine (K.out.rfield w2 A' c' HB2.out (HPX.out.keep HC2.out)).mono ?_
              rintro e w4 ⟨rfl, hb4⟩
              have HB4 := Lib.hid (HB2.out.trans (hb4.mono HB2.out.size))
              have HC4y := Lib.hid (HC2.out.trans (hb4.mono HC2.out.size))
              clear hb4 p0 p1 p2 p3
              obtain ⟨p0, p1, p2, p3⟩ := HC4.out w4 HC4y.out
              go_wp2_with fail
              refine (K.out.leadsN HZ.out w4 HB4.out).mono ?_
              rintro e w5 ⟨rfl, hb5⟩
              have HB5 := Lib.hid (HB4.out.trans (hb5.mono HB4.out.size))
              have HC5 := Lib.hid (HC4y.out.trans (hb5.mono HC4y.out.size))
              clear hb5 p0 p1 p2 p3
              obtain ⟨p0, p1, p2, p3⟩ := HC4.out w5 HC5.out
              go_wp2_with fail
              refine (K.out.field w5 HB5.out).mono ?_
              rintro e w6 ⟨rfl, hb6⟩
              have HB6 := Lib.hid (HB5.out.trans (hb6.mono HB5.out.size))
              have HC6 := Lib.hid (HC5.out.trans (hb6.mono HC5.out.size))
              clear hb6 p0 p1 p2 p3
              obtain ⟨p0, p1, p2, p3⟩ := HC4.out w6 HC6.out
              clear p0 p1 p2 p3
              have hzb : (z == 0) = false := beq_eq_false_iff_ne.2 HZ.out
              have hzz : (z != z) = false := bne_self_eq_false' z
              go_wp2_with fail
              refine (sameInts_any none none 0 0 [] [] w6 (nil_ints _) (nil_ints _) (by simp)).mono ?_
              rintro e w8 ⟨rfl, n8, rfl⟩
              rw [decide_eq_true (rfl : ([] : List Int) = [])]
              go_wp2_with fail
              refine (sameInts_any none none 0 0 [] [] _ (nil_ints _) (nil_ints _) (by simp)).mono ?_
              rintro e w9 ⟨rfl, n9, rfl⟩
              rw [decide_eq_true (rfl : ([] : List Int) = [])]
              have HB9 := Lib.hid (below_drewN HB6.out (n8 + n9))
              go_wp2_with fail
              refine (Q.out.play HY.out _ HB9.out).mono ?_
              rintro e wa ⟨Ap, cp, rfl, hip, hba⟩
              have HIP := Lib.hid hip
              have HBA := Lib.hid (HB9.out.trans (hba.mono HB9.out.size))
              clear hip hba
              have hy0 := HY.out
              subst hy0
              go_wp2_with fail
              refine (Q.out.chk wa HBA.out).mono ?_
              rintro e wb ⟨rfl, nb, rfl⟩
              have HBB := Lib.hid (below_drewN HBA.out nb)
              have HIPB := Lib.hid (HIP.out.keep (below_drewN (Below.refl _ _) nb))
              go_wp2_with fail
              refine (Q.out.rplay rfl _ HBB.out).mono ?_
              rintro e wc ⟨Af, cf, rfl, hif, hbc⟩
              have HIF := Lib.hid hif
              have HIPC := Lib.hid (HIPB.out.keep hbc)
              have HBC := Lib.hid (HBB.out.trans (hbc.mono HBB.out.size))
              clear hif hbc
              go_wp2_with fail
              refine (sameInts_any Ap Af cp cf V V wc HIPC.out.ints HIF.out.ints (by have := Q.out.lv; omega)).mono ?_
              rintro e wd ⟨rfl, nd, rfl⟩
              rw [decide_eq_true (rfl : V = V)]
              have HBD := Lib.hid (below_drewN HBC.out nd)
              go_wp2_with fail
              refine (awake_any _).mono ?_
              rintro e wz ⟨rfl, hbz⟩
              have HBZ := Lib.hid (HBD.out.trans (hbz.mono HBD.out.size))
              clear hbz
              go_wp2
              go_ret
              exact ⟨rfl, HBZ.out⟩
            · have HY := Lib.hid hy
              clear hy
              obtain ⟨p0, p1, p2, p3⟩ := HC4.out w1 HC1.out
              go_wp2_with fail
              refine (refShorts_any A' c' ps _ HPX.out).mono ?_
              rintro e w2 ⟨rfl, hb2⟩
              have HB2 := Lib.hid (HB1.out.trans (hb2.mono HB1.out.size))
              have HC2 := Lib.hid (HC1.out.trans (hb2.mono HC1.out.size))
              clear hb2 p0 p1 p2 p3
              rw [HSH.out]
              obtain ⟨p0, p1, p2, p3⟩ := HC4.out w2 HC2.out
              go_wp2_with fail
              refine (shortT_any L cl ls _ (HLS.out _ HB2.out)).mono ?_
              rintro e w3 ⟨rfl, rfl⟩
              rw [HST.out]
              go_wp2_with fail
              refine (K.out.rfield w2 A' c' HB2.out (HPX.out.keep HC2.out)).mono ?_
              rintro e w4 ⟨rfl, hb4⟩
              have HB4 := Lib.hid (HB2.out.trans (hb4.mono HB2.out.size))
              have HC4y := Lib.hid (HC2.out.trans (hb4.mono HC2.out.size))
              clear hb4 p0 p1 p2 p3
              obtain ⟨p0, p1, p2, p3⟩ := HC4.out w4 HC4y.out
              go_wp2_with fail
              refine (K.out.leadsN HZ.out w4 HB4.out).mono ?_
              rintro e w5 ⟨rfl, hb5⟩
              have HB5 := Lib.hid (HB4.out.trans (hb5.mono HB4.out.size))
              have HC5 := Lib.hid (HC4y.out.trans (hb5.mono HC4y.out.size))
              clear hb5 p0 p1 p2 p3
              obtain ⟨p0, p1, p2, p3⟩ := HC4.out w5 HC5.out
              go_wp2_with fail
              refine (K.out.field w5 HB5.out).mono ?_
              rintro e w6 ⟨rfl, hb6⟩
              have HB6 := Lib.hid (HB5.out.trans (hb6.mono HB5.out.size))
              have HC6 := Lib.hid (HC5.out.trans (hb6.mono HC5.out.size))
              clear hb6 p0 p1 p2 p3
              obtain ⟨p0, p1, p2, p3⟩ := HC4.out w6 HC6.out
              clear p0 p1 p2 p3
              have hzb : (z == 0) = false := beq_eq_false_iff_ne.2 HZ.out
              have hzz : (z != z) = false := bne_self_eq_false' z
              go_wp2_with fail
              refine (sameInts_any none none 0 0 [] [] w6 (nil_ints _) (nil_ints _) (by simp)).mono ?_
              rintro e w8 ⟨rfl, n8, rfl⟩
              rw [decide_eq_true (rfl : ([] : List Int) = [])]
              go_wp2_with fail
              refine (sameInts_any none none 0 0 [] [] _ (nil_ints _) (nil_ints _) (by simp)).mono ?_
              rintro e w9 ⟨rfl, n9, rfl⟩
              rw [decide_eq_true (rfl : ([] : List Int) = [])]
              have HB9 := Lib.hid (below_drewN HB6.out (n8 + n9))
              go_wp2_with fail
              refine (Q.out.playN HY.out _ HB9.out).mono ?_
              rintro e wa ⟨rfl, hba⟩
              have HBA := Lib.hid (HB9.out.trans (hba.mono HB9.out.size))
              clear hba
              have hyb : (y == 0) = false := beq_eq_false_iff_ne.2 HY.out
              go_wp2_with fail
              refine (Q.out.chk wa HBA.out).mono ?_
              rintro e wb ⟨rfl, nb, rfl⟩
              have HBB := Lib.hid (below_drewN HBA.out nb)
              go_wp2_with fail
              refine (sameInts_any none none 0 0 [] [] _ (nil_ints _) (nil_ints _) (by simp)).mono ?_
              rintro e wd ⟨rfl, nd, rfl⟩
              rw [decide_eq_true (rfl : ([] : List Int) = [])]
              have HBD := Lib.hid (below_drewN HBA.out (nb + nd))
              go_wp2_with fail
              refine (awake_any _).mono ?_
              rintro e wz ⟨rfl, hbz⟩
              have HBZ := Lib.hid (HBD.out.trans (hbz.mono HBD.out.size))
              clear hbz
              go_wp2
              go_ret
              exact ⟨rfl, HBZ.out⟩

end Go.Proofs.YtfpehblofokheaaGreatDoor
