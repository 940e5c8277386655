/- byPar: Points, Against. -/
import Derived.Test.YtmnmdeehcdfkfaaDoorFrmK
import Derived.Outline
namespace Go.Proofs.YtmnmdeehcdfkfaaDoor
open Go.RowKit

def parV (F : Int → Int) (o p : Int) (n : Int × ByteArray) : Int := if countsB n.2 then F (p - n.1) else o
def parL (F : Int → Int) (o : Int) (hs : List (Int × Int)) (nl : List (Int × ByteArray)) : List Int := (hs.zip nl).map fun x => parV F o x.1.1 x.2
theorem parL_len (F : Int → Int) (o : Int) (hs : List (Int × Int)) (nl : List (Int × ByteArray)) (h : nl.length = hs.length) : (parL F o hs nl).length = nl.length := by simp [parL, h]
theorem parL_at (F : Int → Int) (o : Int) (hs : List (Int × Int)) (nl : List (Int × ByteArray)) (k : Nat) (h1 : k < hs.length) (h2 : k < nl.length) :
    (parL F o hs nl).getD k 0 = parV F o (hs.getD k (0, 0)).1 (nl.getD k (0, ByteArray.empty)) := by
  have h3 : k < (hs.zip nl).length := by simp; omega
  simp [parL, List.getD, List.getElem?_eq_getElem h1, List.getElem?_eq_getElem h2, List.getElem?_eq_getElem h3]

/-- A row of numbers beside no error. -/
def RowOut (xs : List Int) (w : World) (e : Ending) (w' : World) : Prop :=
  ∃ g, e = .returned (.tuple #[.slice (some ⟨g, 0, none⟩) xs.length xs.length, .int .i64 0]) ∧ RowI w' g xs ∧ w.heap.size ≤ g ∧ Below w.heap.size w w'
/-- An empty row beside an error. -/
def RowNo (n : Int) (w : World) (e : Ending) (w' : World) : Prop :=
  ∃ g, e = .returned (.tuple #[.slice (some ⟨g, 0, none⟩) 0 0, .int .i64 n]) ∧ Below w.heap.size w w'

set_option maxRecDepth 100000 in
set_option maxHeartbeats 4000000 in
theorem byParPoints_yes (A B : Option Addr) (c d : Nat) (hs : List (Int × Int)) (nm : ByteArray) (l : List (Int × ByteArray)) (h o : Int) (w : World) (hr : HolesR w A hs) (hbl : ∀ a, A = some a → a.block < w.heap.size)
    (he : EntriesR w B l) (hn : playerI hs nm l h = 0) :
    Calls Tryd.prog 20 #[.slice A hs.length c, .agg #[.string nm, .slice B l.length d, .int .i64 h], .int .i64 o, .func (.func 21) #[] #[]] w (RowOut (parL pointsF o hs (netsOf hs h l)) w) := by
  have F := Lib.hid (fit_of hn)
  have HH := Lib.hid (holesI_zero (player_holes hn)).2.2.1
  have HC := Lib.hid (fun W (hb : Below w.heap.size w W) => readRound_yes A B c d hs nm l h W (hr.keep hbl hb) (fun a ha => Nat.lt_of_lt_of_le (hbl a ha) hb.size) (he.keep hb) hn)
  have HR := Lib.hid hr
  have HBL := Lib.hid hbl
  clear hr hbl hn he
  go_enter Tryd.func20, Tryd.ntmps20
  go_wp2_with fail
  refine (HC.out _ ((Below.refl _ _).alloc (Nat.le_refl _) _)).mono ?_
  rintro e w1 ⟨A', c', rfl, hent, hge, hb1⟩
  have HENT := Lib.hid hent
  have HB1 := Lib.hid (((Below.refl w.heap.size w).alloc (Nat.le_refl _) (.cells #[.string nm, .slice B l.length d, .int .i64 h] 34)).trans (hb1.mono (by simp)))
  have HS1 : Hid (w.heap.size < w1.heap.size) := Lib.hid (by have := hb1.size; simp at this; omega)
  clear hb1 HC hent hge
  have HNL := Lib.hid F.out.netsLen
  have HNS := Lib.hid F.out.netsSmall
  generalize hnle : netsOf hs h l = nl at HENT HNL HNS
  have HNLE := Lib.hid hnle
  clear hnle
  have HPL := Lib.hid (parL_len pointsF o hs nl HNL.out)
  have hnl : nl.length ≤ 1000 := by have := HNL.out; have := F.out.most; omega
  have hmk := make_ints nl.length (by omega)
  go_wp2
  go_loopw [28] (fun i w' => ∃ k : Nat, k ≤ nl.length ∧ i = .int .i64 k ∧ RowI w' (w1.heap.size + 1) (partI (parL pointsF o hs nl) k) ∧ Below w.heap.size w w' ∧ Below w1.heap.size w1 w') (fun i _ => nl.length - (intOf i).toNat)
  case atStart => exact ⟨0, Nat.zero_le _, rfl, by rw [partI_zero, HPL.out]; have := RowI.new (w1.alloc (.cells #[.slice B l.length d, .slice A' nl.length c'] 55)) (nils nl.length); simpa using this, (HB1.out.alloc HB1.out.size _).alloc (by have := HB1.out.size; simp; omega) _, ((Below.refl _ _).alloc (Nat.le_refl _) _).alloc (by simp) _⟩
  case round =>
    obtain ⟨k, hk, rfl, hrow, hb, hb1⟩ := hrel
    have HROW := Lib.hid hrow
    have HB := Lib.hid hb
    have HBB := Lib.hid hb1
    have hlt0 := hrow.lt
    clear hrow hb hb1
    by_cases hlt : k < nl.length
    · have hkh : k < hs.length := by have := HNL.out; omega
      obtain ⟨a, rfl, d0, d1, _⟩ := (HENT.out.keep HBB.out) k hlt
      obtain ⟨b, rfl, e0, e1⟩ := (HR.out.keep HBL.out HB.out) k hkh
      have HSN := Lib.hid (HNS.out.at k hlt)
      have HPN : Hid (3 ≤ (hs.getD k (0, 0)).1 ∧ (hs.getD k (0, 0)).1 ≤ 6) := Lib.hid (by
        have := HH.out _ (List.getElem_mem hkh)
        simp only [List.getD, List.getElem?_eq_getElem hkh, Option.getD_some]
        omega)
      have HAT := Lib.hid (parL_at pointsF o hs nl k hkh hlt)
      generalize nl.getD k (0, ByteArray.empty) = en at d0 d1 HSN HAT
      generalize hho : hs.getD k (0, 0) = ho at e0 e1 HPN HAT
      have HHO := Lib.hid hho
      clear hho
      obtain ⟨s, m⟩ := en
      obtain ⟨p, x⟩ := ho
      simp only at d0 d1 HSN e0 e1 HPN HAT
      have hsn := HSN.out
      have hpn := HPN.out
      have hkl : k < (partI (parL pointsF o hs nl) k).length := by rw [partI_len, HPL.out]; exact hlt
      have r0 := HROW.out.cell hkl
      have f0 := HROW.out.frozen k
      have hk0 : (0 : Int) ≤ (k : Int) := Int.natCast_nonneg _
      have hk1 : (k : Int) < (nl.length : Int) := by omega
      have hk2 : (k : Int) < (hs.length : Int) := by omega
      have HKL := Lib.hid hkl
      clear hkl
      go_wp2_with fail
      generalize hW2 : (wr.setCell ⟨w1.heap.size + 1, k, none⟩ (.int .i64 o)).alloc (.cells #[.int .i64 s, .string m] 68) = W2
      have hrow2 : RowI W2 (w1.heap.size + 1) ((partI (parL pointsF o hs nl) k).set k o) := by subst hW2; exact (HROW.out.set k o).alloc _
      have hblk2 : BlkV W2 wr.heap.size 68 #[.int .i64 s, .string m] := by
        subst hW2
        have := BlkV.new (wr.setCell ⟨w1.heap.size + 1, k, none⟩ (.int .i64 o)) 68 #[.int .i64 s, .string m]
        simpa using this
      have hB2 : Below w.heap.size w W2 := by subst hW2; exact (HB.out.setCell (by have := HS1.out; simp; omega) _).alloc (by have := HB.out.size; simpa using this) _
      have hBB2 : Below w1.heap.size w1 W2 := by subst hW2; exact (HBB.out.setCell (by simp) _).alloc (by have := HBB.out.size; simpa using this) _
      have hsz2 : W2.heap.size = wr.heap.size + 1 := by subst hW2; simp
      have HROW2 := Lib.hid hrow2
      have HBLK2 := Lib.hid hblk2
      have HB2 := Lib.hid hB2
      have HBB2 := Lib.hid hBB2
      have HSZ2 := Lib.hid hsz2
      clear hW2 hrow2 hblk2 hB2 hBB2 hsz2 r0 f0 d0 d1 e0 e1
      refine (netCounts_any _ _ W2).mono ?_
      rintro e w2 ⟨rfl, hb2⟩
      have HB3 := Lib.hid (HB2.out.trans (hb2.mono HB2.out.size))
      have HBB3 := Lib.hid (HBB2.out.trans (hb2.mono HBB2.out.size))
      have hrow3 := HROW2.out.below hb2 HROW2.out.lt
      have hblk3 := HBLK2.out.below hb2 HBLK2.out.lt
      have r0 := hrow3.cell (j := k) (by rw [List.length_set]; exact HKL.out)
      have f0 := hrow3.frozen k
      have b0 := hblk3.cell 0
      obtain ⟨b', hbb, e0, e1⟩ := (HR.out.keep HBL.out HB3.out) k hkh
      obtain rfl : b = b' := by injection hbb
      rw [show hs.getD k (0, 0) = (p, x) from HHO.out] at e0 e1
      simp only at e0 e1
      have HROW3 := Lib.hid hrow3
      clear hb2 hrow3 hblk3 hbb
      cases hc : countsB m
      · have HC := Lib.hid hc
        clear hc
        go_wp2
        go_roundw
        case rel =>
          refine ⟨k + 1, by omega, by go_num, ?_, HB3.out, HBB3.out⟩
          have hv : (parL pointsF o hs nl).getD k 0 = o := by rw [HAT.out]; unfold parV; rw [HC.out]; rfl
          exact HROW3.out.eq_ (by rw [← partI_set _ _ (by rw [HPL.out]; exact hlt), hv])
        case measure => simp [intOf]; omega
      · have HC := Lib.hid hc
        clear hc
        have hwr : IntKind.i64.wrap (p - s) = p - s := IntWalk.i64_in _ (by omega)
        go_wp2_with fail
        go_region_with (go_at_call 21; refine (points1_any _ _ (by omega)).mono ?_; rintro e w3 ⟨rfl, rfl⟩)
        all_goals
          go_wp2
          go_roundw
          case rel =>
            refine ⟨k + 1, by omega, by go_num, ?_, (HB3.out.drew).setCell (by have := HS1.out; simp; omega) _, (HBB3.out.drew).setCell (by simp) _⟩
            have hv : (parL pointsF o hs nl).getD k 0 = pointsF (p - s) := by rw [HAT.out]; unfold parV; rw [HC.out]; rfl
            exact (HROW3.out.drew.set k (pointsF (p - s))).eq_ (by rw [List.set_set, ← partI_set _ _ (by rw [HPL.out]; exact hlt), hv])
          case measure => simp [intOf]; omega
    · have hfull := HROW.out
      rw [partI_all _ _ (by rw [HPL.out]; omega)] at hfull
      have HF := Lib.hid hfull
      clear hfull
      go_wp2
      go_ret2
      rw [HNLE.out]
      exact ⟨w1.heap.size + 1, by rw [HPL.out]; rfl, HF.out, by have := HS1.out; omega, HB.out⟩

set_option maxRecDepth 100000 in
set_option maxHeartbeats 1000000 in
theorem byPar_no (A B : Option Addr) (c d : Nat) (hs : List (Int × Int)) (nm : ByteArray) (l : List (Int × ByteArray)) (h o : Int) (f : Value) (w : World) (hr : HolesR w A hs) (hbl : ∀ a, A = some a → a.block < w.heap.size)
    (hl : hs.length ≤ 4611686018427387904) (he : EntriesR w B l) (hl2 : l.length ≤ 4611686018427387904) (hn : playerI hs nm l h ≠ 0) :
    Calls Tryd.prog 20 #[.slice A hs.length c, .agg #[.string nm, .slice B l.length d, .int .i64 h], .int .i64 o, f] w (RowNo (playerI hs nm l h) w) := by
  have HC := Lib.hid (fun W (hb : Below w.heap.size w W) => readRound_no A B c d hs nm l h W (hr.keep hbl hb) (fun a ha => Nat.lt_of_lt_of_le (hbl a ha) hb.size) hl (he.keep hb) hl2 hn)
  have hmk : ∀ w, (Instr.makeSlice 38 (.int .i64 0) (.int .i64 0)).run Tryd.prog w = .ok (.slice (some ⟨w.heap.size, 0, none⟩) 0 0) (w.alloc (.cells (rowI (nils 0)) 3)) := make_ints 0 (by omega)
  clear hr hbl he hn
  generalize playerI hs nm l h = q at HC ⊢
  go_enter Tryd.func20, Tryd.ntmps20
  go_wp2_with fail
  refine (HC.out _ ((Below.refl _ _).alloc (Nat.le_refl _) _)).mono ?_
  rintro e w1 ⟨rfl, hb1⟩
  have HB1 := Lib.hid (((Below.refl w.heap.size w).alloc (Nat.le_refl _) (.cells #[.string nm, .slice B l.length d, .int .i64 h] 34)).trans (hb1.mono (by simp)))
  clear hb1 HC
  go_wp2
  go_loopw [28] (fun i w' => i = .int .i64 0 ∧ Below w.heap.size w w') (fun i _ => 0)
  case atStart => exact ⟨rfl, (HB1.out.alloc HB1.out.size _).alloc (by have := HB1.out.size; simp; omega) _⟩
  case round =>
    obtain ⟨rfl, hb⟩ := hrel
    have HB := Lib.hid hb
    clear hb
    go_wp2
    go_ret2
    exact ⟨w1.heap.size + 1, rfl, HB.out⟩

set_option maxRecDepth 100000 in
set_option maxHeartbeats 1000000 in
theorem fmPoints_yes (A B : Option Addr) (c d : Nat) (hs : List (Int × Int)) (nm : ByteArray) (l : List (Int × ByteArray)) (h : Int) (w : World) (hr : HolesR w A hs) (hbl : ∀ a, A = some a → a.block < w.heap.size)
    (he : EntriesR w B l) (hn : playerI hs nm l h = 0) :
    Calls Tryd.prog 8 #[.slice A hs.length c, .agg #[.string nm, .slice B l.length d, .int .i64 h]] w (RowOut (parL pointsF (0) hs (netsOf hs h l)) w) := by
  have HC := Lib.hid (fun W (hb : Below w.heap.size w W) => byParPoints_yes A B c d hs nm l h (0) W (hr.keep hbl hb) (fun a ha => Nat.lt_of_lt_of_le (hbl a ha) hb.size) (he.keep hb) hn)
  clear hr hbl he hn
  generalize parL pointsF (0) hs (netsOf hs h l) = q at HC ⊢
  go_enter Tryd.func8, Tryd.ntmps8
  go_wp2_with fail
  refine (HC.out _ ((Below.refl _ _).alloc (Nat.le_refl _) _)).mono ?_
  rintro e w1 ⟨g, rfl, hrow, hg, hb1⟩
  have HROW := Lib.hid hrow
  have HG : Hid (w.heap.size ≤ g) := Lib.hid (by simp at hg; omega)
  have HB1 := Lib.hid (((Below.refl w.heap.size w).alloc (Nat.le_refl _) (.cells #[.string nm, .slice B l.length d, .int .i64 h] 34)).trans (hb1.mono (by simp)))
  clear hb1 HC hrow hg
  go_wp2
  go_ret2
  exact ⟨g, rfl, HROW.out, HG.out, HB1.out⟩

set_option maxRecDepth 100000 in
set_option maxHeartbeats 1000000 in
theorem fmPoints_no (A B : Option Addr) (c d : Nat) (hs : List (Int × Int)) (nm : ByteArray) (l : List (Int × ByteArray)) (h : Int) (w : World) (hr : HolesR w A hs) (hbl : ∀ a, A = some a → a.block < w.heap.size)
    (hl : hs.length ≤ 4611686018427387904) (he : EntriesR w B l) (hl2 : l.length ≤ 4611686018427387904) (hn : playerI hs nm l h ≠ 0) :
    Calls Tryd.prog 8 #[.slice A hs.length c, .agg #[.string nm, .slice B l.length d, .int .i64 h]] w (RowNo (playerI hs nm l h) w) := by
  have HC := Lib.hid (fun W (hb : Below w.heap.size w W) f => byPar_no A B c d hs nm l h (0) f W (hr.keep hbl hb) (fun a ha => Nat.lt_of_lt_of_le (hbl a ha) hb.size) hl (he.keep hb) hl2 hn)
  clear hr hbl he hn
  generalize playerI hs nm l h = q at HC ⊢
  go_enter Tryd.func8, Tryd.ntmps8
  go_wp2_with fail
  refine (HC.out _ ((Below.refl _ _).alloc (Nat.le_refl _) _) _).mono ?_
  rintro e w1 ⟨g, rfl, hb1⟩
  have HB1 := Lib.hid (((Below.refl w.heap.size w).alloc (Nat.le_refl _) (.cells #[.string nm, .slice B l.length d, .int .i64 h] 34)).trans (hb1.mono (by simp)))
  clear hb1 HC
  go_wp2
  go_ret2
  exact ⟨g, rfl, HB1.out⟩

end Go.Proofs.YtmnmdeehcdfkfaaDoor
