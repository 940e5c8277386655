/- Merged: FrmK FrKA FrmL FrmM FrmN. -/
import Derived.Test.YtbckfkopdojggaaGreatDoorMgD
import Derived.Outline
/- byPar's closures: the points and the result against par of a hole. -/
set_option linter.unusedVariables false
set_option linter.unusedSimpArgs false
namespace Go.Proofs.YtbckfkopdojggaaGreatDoor
open Go.RowKit

theorem holesGo_zero (n : Nat) : ∀ (l : List (Int × Int)) (S : List Int), holesGo n S l = 0 → (∀ x ∈ l, 3 ≤ x.1 ∧ x.1 ≤ 6 ∧ 1 ≤ x.2 ∧ x.2 ≤ n ∧ x.2 ∉ S) ∧ (l.map (·.2)).Nodup
  | [], _, _ => ⟨(fun x hx => by cases hx), by simp⟩
  | (p, x) :: l, S, h => by
    unfold holesGo at h
    by_cases h1 : ¬ (3 ≤ p ∧ p ≤ 6) ∨ ¬ (1 ≤ x ∧ x ≤ (n : Int))
    · rw [if_pos h1] at h; omega
    · rw [if_neg h1] at h
      by_cases h2 : x ∈ S
      · rw [if_pos h2] at h; omega
      · rw [if_neg h2] at h
        obtain ⟨i1, i2⟩ := holesGo_zero n l (x :: S) h
        refine ⟨fun y hy => ?_, ?_⟩
        · rcases List.mem_cons.1 hy with rfl | hy
          · exact ⟨by simp only; omega, by simp only; omega, by simp only; omega, by simp only; omega, h2⟩
          · obtain ⟨a, b, c, d, e⟩ := i1 y hy
            exact ⟨a, b, c, d, fun hs => e (List.mem_cons_of_mem _ hs)⟩
        · rw [List.map_cons, List.nodup_cons]
          refine ⟨fun hm => ?_, i2⟩
          obtain ⟨y, hy, e⟩ := List.mem_map.1 hm
          exact (i1 y hy).2.2.2.2 (by rw [e]; exact List.mem_cons_self ..)
theorem holesI_zero {hs : List (Int × Int)} (h : holesI hs = 0) : 0 < hs.length ∧ hs.length ≤ 36 ∧ (∀ x ∈ hs, 3 ≤ x.1 ∧ x.1 ≤ 6 ∧ 1 ≤ x.2 ∧ x.2 ≤ hs.length) ∧ (hs.map (·.2)).Nodup := by
  unfold holesI at h
  split at h
  · omega
  · split at h
    · omega
    · obtain ⟨i1, i2⟩ := holesGo_zero hs.length hs [] h
      exact ⟨by omega, by omega, fun x hx => by have := i1 x hx; omega, i2⟩
theorem player_holes {hs : List (Int × Int)} {nm : ByteArray} {l : List (Int × ByteArray)} {h : Int} (e : playerI hs nm l h = 0) : holesI hs = 0 := firstI_zero _ e (holesI hs) (by simp)

def pointsF (u : Int) : Int := max 0 (2 + u)

set_option maxHeartbeats 400000 in
theorem points1_any (u : Int) (w : World) (h : -100000 ≤ u ∧ u ≤ 100000) :
    Calls Tryz.prog 74 #[.int .i64 u] w fun e w' => e = .returned (.int .i64 (pointsF u)) ∧ w = w' := by
  by_cases g : 2 + u ≤ 0
  all_goals
    go_enter Tryz.func74, Tryz.ntmps74
    go_wp2
    go_ret
    refine ⟨?_, rfl⟩
    first
      | rfl
      | (have e : pointsF u = 2 + u := by unfold pointsF; omega
         rw [e]; rfl)
      | (have e : pointsF u = 0 := by unfold pointsF; omega
         rw [e]; rfl)

end Go.Proofs.YtbckfkopdojggaaGreatDoor

/- cmp.Compare of numbers. -/
namespace Go.Proofs.YtbckfkopdojggaaGreatDoor
open Go.RowKit

set_option maxHeartbeats 400000 in
theorem isNaNInt_any (a : Int) (w : World) :
    Calls Tryz.prog 162 #[.int .i64 a] w fun e w' => e = .returned (.bool false) ∧ w = w' := by
  have h : (a != a) = false := by simp
  go_enter Tryz.func162, Tryz.ntmps162
  go_wp2
  go_ret
  exact ⟨rfl, rfl⟩
def cmpI (a b : Int) : Int := if a < b then -1 else if a = b then 0 else 1
set_option maxHeartbeats 400000 in
theorem compareInt_any (a b : Int) (w : World) :
    Calls Tryz.prog 102 #[.int .i64 a, .int .i64 b] w fun e w' => e = .returned (.int .i64 (cmpI a b)) ∧ w = w' := by
  by_cases g1 : a < b
  · go_enter Tryz.func102, Tryz.ntmps102
    go_wp2_with ((go_at_call 162; refine (isNaNInt_any _ _).mono ?_; rintro e w' ⟨rfl, rfl⟩))
    go_ret
    exact ⟨by rw [cmpI, if_pos g1]; rfl, rfl⟩
  · by_cases g2 : b < a
    all_goals
      go_enter Tryz.func102, Tryz.ntmps102
      go_wp2_with ((go_at_call 162; refine (isNaNInt_any _ _).mono ?_; rintro e w' ⟨rfl, rfl⟩))
      go_ret
    · exact ⟨by rw [cmpI, if_neg (by omega), if_neg (by omega)]; rfl, rfl⟩
    · exact ⟨by rw [cmpI, if_neg (by omega), if_pos (by omega)]; rfl, rfl⟩

end Go.Proofs.YtbckfkopdojggaaGreatDoor

/- byPar: Points, Against. -/
namespace Go.Proofs.YtbckfkopdojggaaGreatDoor
open Go.RowKit

def parV (F : Int → Int) (o p : Int) (n : Int × ByteArray) : Int := if countsB n.2 then F (p - n.1) else o
def parL (F : Int → Int) (o : Int) (hs : List (Int × Int)) (nl : List (Int × ByteArray)) : List Int := (hs.zip nl).map fun x => parV F o x.1.1 x.2
theorem parL_len (F : Int → Int) (o : Int) (hs : List (Int × Int)) (nl : List (Int × ByteArray)) (h : nl.length = hs.length) : (parL F o hs nl).length = nl.length := by simp [parL, h]
theorem parL_at (F : Int → Int) (o : Int) (hs : List (Int × Int)) (nl : List (Int × ByteArray)) (k : Nat) (h1 : k < hs.length) (h2 : k < nl.length) :
    (parL F o hs nl).getD k 0 = parV F o (hs.getD k (0, 0)).1 (nl.getD k (0, ByteArray.empty)) := by
  have h3 : k < (hs.zip nl).length := by simp; omega
  simp [parL, List.getD, List.getElem?_eq_getElem h1, List.getElem?_eq_getElem h2, List.getElem?_eq_getElem h3]

/-- A row of numbers beside no error. -/
def RowOut (xs : List Int) (w : World) (e : Ending) (w' : World) : Prop :=
  ∃ g, e = .returned (.tuple #[.slice (some ⟨g, 0, none⟩) xs.length xs.length, .int .i64 0]) ∧ RowI w' g xs ∧ w.heap.size ≤ g ∧ Below w.heap.size w w'
/-- An empty row beside an error. -/
def RowNo (n : Int) (w : World) (e : Ending) (w' : World) : Prop :=
  ∃ g, e = .returned (.tuple #[.slice (some ⟨g, 0, none⟩) 0 0, .int .i64 n]) ∧ Below w.heap.size w w'

set_option maxRecDepth 100000 in
set_option maxHeartbeats 4000000 in
theorem byParPoints_yes (A B : Option Addr) (c d : Nat) (hs : List (Int × Int)) (nm : ByteArray) (l : List (Int × ByteArray)) (h o : Int) (w : World) (hr : HolesR w A hs) (hbl : ∀ a, A = some a → a.block < w.heap.size)
    (he : EntriesR w B l) (hn : playerI hs nm l h = 0) :
    Calls Tryz.prog 73 #[.slice A hs.length c, .agg #[.string nm, .slice B l.length d, .int .i64 h], .int .i64 o, .func (.func 74) #[] #[]] w (RowOut (parL pointsF o hs (netsOf hs h l)) w) := by
  have F := Lib.hid (fit_of hn)
  have HH := Lib.hid (holesI_zero (player_holes hn)).2.2.1
  have HC := Lib.hid (fun W (hb : Below w.heap.size w W) => readRound_yes A B c d hs nm l h W (hr.keep hbl hb) (fun a ha => Nat.lt_of_lt_of_le (hbl a ha) hb.size) (he.keep hb) hn)
  have HR := Lib.hid hr
  have HBL := Lib.hid hbl
  clear hr hbl hn he
  go_enter Tryz.func73, Tryz.ntmps73
  go_wp2_with fail
  refine (HC.out _ ((Below.refl _ _).alloc (Nat.le_refl _) _)).mono ?_
  rintro e w1 ⟨A', c', rfl, hent, hge, hb1⟩
  have HENT := Lib.hid hent
  have HB1 := Lib.hid (((Below.refl w.heap.size w).alloc (Nat.le_refl _) (.cells #[.string nm, .slice B l.length d, .int .i64 h] 55)).trans (hb1.mono (by simp)))
  have HS1 : Hid (w.heap.size < w1.heap.size) := Lib.hid (by have := hb1.size; simp at this; omega)
  clear hb1 HC hent hge
  have HNL := Lib.hid F.out.netsLen
  have HNS := Lib.hid F.out.netsSmall
  generalize hnle : netsOf hs h l = nl at HENT HNL HNS
  have HNLE := Lib.hid hnle
  clear hnle
  have HPL := Lib.hid (parL_len pointsF o hs nl HNL.out)
  have hnl : nl.length ≤ 1000 := by have := HNL.out; have := F.out.most; omega
  have hmk := make_ints nl.length (by omega)
  go_wp2
  go_loopw [28] (fun i w' => ∃ k : Nat, k ≤ nl.length ∧ i = .int .i64 k ∧ RowI w' (w1.heap.size + 1) (partI (parL pointsF o hs nl) k) ∧ Below w.heap.size w w' ∧ Below w1.heap.size w1 w') (fun i _ => nl.length - (intOf i).toNat)
  case atStart => exact ⟨0, Nat.zero_le _, rfl, by rw [partI_zero, HPL.out]; have := RowI.new (w1.alloc (.cells #[.slice B l.length d, .slice A' nl.length c'] 135)) (nils nl.length); simpa using this, (HB1.out.alloc HB1.out.size _).alloc (by have := HB1.out.size; simp; omega) _, ((Below.refl _ _).alloc (Nat.le_refl _) _).alloc (by simp) _⟩
  case round =>
    obtain ⟨k, hk, rfl, hrow, hb, hb1⟩ := hrel
    have HROW := Lib.hid hrow
    have HB := Lib.hid hb
    have HBB := Lib.hid hb1
    have hlt0 := hrow.lt
    clear hrow hb hb1
    by_cases hlt : k < nl.length
    · have hkh : k < hs.length := by have := HNL.out; omega
      obtain ⟨a, rfl, d0, d1, _⟩ := (HENT.out.keep HBB.out) k hlt
      obtain ⟨b, rfl, e0, e1⟩ := (HR.out.keep HBL.out HB.out) k hkh
      have HSN := Lib.hid (HNS.out.at k hlt)
      have HPN : Hid (3 ≤ (hs.getD k (0, 0)).1 ∧ (hs.getD k (0, 0)).1 ≤ 6) := Lib.hid (by
        have := HH.out _ (List.getElem_mem hkh)
        simp only [List.getD, List.getElem?_eq_getElem hkh, Option.getD_some]
        omega)
      have HAT := Lib.hid (parL_at pointsF o hs nl k hkh hlt)
      generalize nl.getD k (0, ByteArray.empty) = en at d0 d1 HSN HAT
      generalize hho : hs.getD k (0, 0) = ho at e0 e1 HPN HAT
      have HHO := Lib.hid hho
      clear hho
      obtain ⟨s, m⟩ := en
      obtain ⟨p, x⟩ := ho
      simp only at d0 d1 HSN e0 e1 HPN HAT
      have hsn := HSN.out
      have hpn := HPN.out
      have hkl : k < (partI (parL pointsF o hs nl) k).length := by rw [partI_len, HPL.out]; exact hlt
      have r0 := HROW.out.cell hkl
      have f0 := HROW.out.frozen k
      have hk0 : (0 : Int) ≤ (k : Int) := Int.natCast_nonneg _
      have hk1 : (k : Int) < (nl.length : Int) := by omega
      have hk2 : (k : Int) < (hs.length : Int) := by omega
      have HKL := Lib.hid hkl
      clear hkl
      go_wp2_with fail
      generalize hW2 : (wr.setCell ⟨w1.heap.size + 1, k, none⟩ (.int .i64 o)).alloc (.cells #[.int .i64 s, .string m] 83) = W2
      have hrow2 : RowI W2 (w1.heap.size + 1) ((partI (parL pointsF o hs nl) k).set k o) := by subst hW2; exact (HROW.out.set k o).alloc _
      have hblk2 : BlkV W2 wr.heap.size 83 #[.int .i64 s, .string m] := by
        subst hW2
        have := BlkV.new (wr.setCell ⟨w1.heap.size + 1, k, none⟩ (.int .i64 o)) 83 #[.int .i64 s, .string m]
        simpa using this
      have hB2 : Below w.heap.size w W2 := by subst hW2; exact (HB.out.setCell (by have := HS1.out; simp; omega) _).alloc (by have := HB.out.size; simpa using this) _
      have hBB2 : Below w1.heap.size w1 W2 := by subst hW2; exact (HBB.out.setCell (by simp) _).alloc (by have := HBB.out.size; simpa using this) _
      have hsz2 : W2.heap.size = wr.heap.size + 1 := by subst hW2; simp
      have HROW2 := Lib.hid hrow2
      have HBLK2 := Lib.hid hblk2
      have HB2 := Lib.hid hB2
      have HBB2 := Lib.hid hBB2
      have HSZ2 := Lib.hid hsz2
      clear hW2 hrow2 hblk2 hB2 hBB2 hsz2 r0 f0 d0 d1 e0 e1
      refine (netCounts_any _ _ W2).mono ?_
      rintro e w2 ⟨rfl, hb2⟩
      have HB3 := Lib.hid (HB2.out.trans (hb2.mono HB2.out.size))
      have HBB3 := Lib.hid (HBB2.out.trans (hb2.mono HBB2.out.size))
      have hrow3 := HROW2.out.below hb2 HROW2.out.lt
      have hblk3 := HBLK2.out.below hb2 HBLK2.out.lt
      have r0 := hrow3.cell (j := k) (by rw [List.length_set]; exact HKL.out)
      have f0 := hrow3.frozen k
      have b0 := hblk3.cell 0
      obtain ⟨b', hbb, e0, e1⟩ := (HR.out.keep HBL.out HB3.out) k hkh
      obtain rfl : b = b' := by injection hbb
      rw [show hs.getD k (0, 0) = (p, x) from HHO.out] at e0 e1
      simp only at e0 e1
      have HROW3 := Lib.hid hrow3
      clear hb2 hrow3 hblk3 hbb
      cases hc : countsB m
      · have HC := Lib.hid hc
        clear hc
        go_wp2
        go_roundw
        case rel =>
          refine ⟨k + 1, by omega, by go_num, ?_, HB3.out, HBB3.out⟩
          have hv : (parL pointsF o hs nl).getD k 0 = o := by rw [HAT.out]; unfold parV; rw [HC.out]; rfl
          exact HROW3.out.eq_ (by rw [← partI_set _ _ (by rw [HPL.out]; exact hlt), hv])
        case measure => simp [intOf]; omega
      · have HC := Lib.hid hc
        clear hc
        have hwr : IntKind.i64.wrap (p - s) = p - s := IntWalk.i64_in _ (by omega)
        go_wp2_with fail
        go_region_with (go_at_call 74; refine (points1_any _ _ (by omega)).mono ?_; rintro e w3 ⟨rfl, rfl⟩)
        all_goals
          go_wp2
          go_roundw
          case rel =>
            refine ⟨k + 1, by omega, by go_num, ?_, (HB3.out.drew).setCell (by have := HS1.out; simp; omega) _, (HBB3.out.drew).setCell (by simp) _⟩
            have hv : (parL pointsF o hs nl).getD k 0 = pointsF (p - s) := by rw [HAT.out]; unfold parV; rw [HC.out]; rfl
            exact (HROW3.out.drew.set k (pointsF (p - s))).eq_ (by rw [List.set_set, ← partI_set _ _ (by rw [HPL.out]; exact hlt), hv])
          case measure => simp [intOf]; omega
    · have hfull := HROW.out
      rw [partI_all _ _ (by rw [HPL.out]; omega)] at hfull
      have HF := Lib.hid hfull
      clear hfull
      go_wp2
      go_ret2
      rw [HNLE.out]
      exact ⟨w1.heap.size + 1, by rw [HPL.out]; rfl, HF.out, by have := HS1.out; omega, HB.out⟩

set_option maxRecDepth 100000 in
set_option maxHeartbeats 1000000 in
theorem byPar_no (A B : Option Addr) (c d : Nat) (hs : List (Int × Int)) (nm : ByteArray) (l : List (Int × ByteArray)) (h o : Int) (f : Value) (w : World) (hr : HolesR w A hs) (hbl : ∀ a, A = some a → a.block < w.heap.size)
    (hl : hs.length ≤ 4611686018427387904) (he : EntriesR w B l) (hl2 : l.length ≤ 4611686018427387904) (hn : playerI hs nm l h ≠ 0) :
    Calls Tryz.prog 73 #[.slice A hs.length c, .agg #[.string nm, .slice B l.length d, .int .i64 h], .int .i64 o, f] w (RowNo (playerI hs nm l h) w) := by
  have HC := Lib.hid (fun W (hb : Below w.heap.size w W) => readRound_no A B c d hs nm l h W (hr.keep hbl hb) (fun a ha => Nat.lt_of_lt_of_le (hbl a ha) hb.size) hl (he.keep hb) hl2 hn)
  have hmk : ∀ w, (Instr.makeSlice 35 (.int .i64 0) (.int .i64 0)).run Tryz.prog w = .ok (.slice (some ⟨w.heap.size, 0, none⟩) 0 0) (w.alloc (.cells (rowI (nils 0)) 3)) := make_ints 0 (by omega)
  clear hr hbl he hn
  generalize playerI hs nm l h = q at HC ⊢
  go_enter Tryz.func73, Tryz.ntmps73
  go_wp2_with fail
  refine (HC.out _ ((Below.refl _ _).alloc (Nat.le_refl _) _)).mono ?_
  rintro e w1 ⟨rfl, hb1⟩
  have HB1 := Lib.hid (((Below.refl w.heap.size w).alloc (Nat.le_refl _) (.cells #[.string nm, .slice B l.length d, .int .i64 h] 55)).trans (hb1.mono (by simp)))
  clear hb1 HC
  go_wp2
  go_loopw [28] (fun i w' => i = .int .i64 0 ∧ Below w.heap.size w w') (fun i _ => 0)
  case atStart => exact ⟨rfl, (HB1.out.alloc HB1.out.size _).alloc (by have := HB1.out.size; simp; omega) _⟩
  case round =>
    obtain ⟨rfl, hb⟩ := hrel
    have HB := Lib.hid hb
    clear hb
    go_wp2
    go_ret2
    exact ⟨w1.heap.size + 1, rfl, HB.out⟩

set_option maxRecDepth 100000 in
set_option maxHeartbeats 1000000 in
theorem fmPoints_yes (A B : Option Addr) (c d : Nat) (hs : List (Int × Int)) (nm : ByteArray) (l : List (Int × ByteArray)) (h : Int) (w : World) (hr : HolesR w A hs) (hbl : ∀ a, A = some a → a.block < w.heap.size)
    (he : EntriesR w B l) (hn : playerI hs nm l h = 0) :
    Calls Tryz.prog 25 #[.slice A hs.length c, .agg #[.string nm, .slice B l.length d, .int .i64 h]] w (RowOut (parL pointsF (0) hs (netsOf hs h l)) w) := by
  have HC := Lib.hid (fun W (hb : Below w.heap.size w W) => byParPoints_yes A B c d hs nm l h (0) W (hr.keep hbl hb) (fun a ha => Nat.lt_of_lt_of_le (hbl a ha) hb.size) (he.keep hb) hn)
  clear hr hbl he hn
  generalize parL pointsF (0) hs (netsOf hs h l) = q at HC ⊢
  go_enter Tryz.func25, Tryz.ntmps25
  go_wp2_with fail
  refine (HC.out _ ((Below.refl _ _).alloc (Nat.le_refl _) _)).mono ?_
  rintro e w1 ⟨g, rfl, hrow, hg, hb1⟩
  have HROW := Lib.hid hrow
  have HG : Hid (w.heap.size ≤ g) := Lib.hid (by simp at hg; omega)
  have HB1 := Lib.hid (((Below.refl w.heap.size w).alloc (Nat.le_refl _) (.cells #[.string nm, .slice B l.length d, .int .i64 h] 55)).trans (hb1.mono (by simp)))
  clear hb1 HC hrow hg
  go_wp2
  go_ret2
  exact ⟨g, rfl, HROW.out, HG.out, HB1.out⟩

set_option maxRecDepth 100000 in
set_option maxHeartbeats 1000000 in
theorem fmPoints_no (A B : Option Addr) (c d : Nat) (hs : List (Int × Int)) (nm : ByteArray) (l : List (Int × ByteArray)) (h : Int) (w : World) (hr : HolesR w A hs) (hbl : ∀ a, A = some a → a.block < w.heap.size)
    (hl : hs.length ≤ 4611686018427387904) (he : EntriesR w B l) (hl2 : l.length ≤ 4611686018427387904) (hn : playerI hs nm l h ≠ 0) :
    Calls Tryz.prog 25 #[.slice A hs.length c, .agg #[.string nm, .slice B l.length d, .int .i64 h]] w (RowNo (playerI hs nm l h) w) := by
  have HC := Lib.hid (fun W (hb : Below w.heap.size w W) f => byPar_no A B c d hs nm l h (0) f W (hr.keep hbl hb) (fun a ha => Nat.lt_of_lt_of_le (hbl a ha) hb.size) hl (he.keep hb) hl2 hn)
  clear hr hbl he hn
  generalize playerI hs nm l h = q at HC ⊢
  go_enter Tryz.func25, Tryz.ntmps25
  go_wp2_with fail
  refine (HC.out _ ((Below.refl _ _).alloc (Nat.le_refl _) _) _).mono ?_
  rintro e w1 ⟨g, rfl, hb1⟩
  have HB1 := Lib.hid (((Below.refl w.heap.size w).alloc (Nat.le_refl _) (.cells #[.string nm, .slice B l.length d, .int .i64 h] 55)).trans (hb1.mono (by simp)))
  clear hb1 HC
  go_wp2
  go_ret2
  exact ⟨g, rfl, HB1.out⟩

end Go.Proofs.YtbckfkopdojggaaGreatDoor

/- Nets, Given. -/
namespace Go.Proofs.YtbckfkopdojggaaGreatDoor
open Go.RowKit

/-- The error of Given. -/
def givenE (hs : List (Int × Int)) (h : Int) : Int := firstI [holesI hs, withinI h (-99) 99]
set_option maxRecDepth 100000 in
set_option maxHeartbeats 1000000 in
theorem fmGiven_yes (A : Option Addr) (c : Nat) (hs : List (Int × Int)) (h : Int) (w : World) (hr : HolesR w A hs) (hbl : ∀ a, A = some a → a.block < w.heap.size) (hn : givenE hs h = 0) :
    Calls Tryz.prog 26 #[.slice A hs.length c, .int .i64 h] w (RowOut (givenL (h / (hs.length : Int)) (h % (hs.length : Int)) hs) w) := by
  have hz := firstI_zero _ hn (holesI hs) (by simp)
  have hz2 := firstI_zero _ hn (withinI h (-99) 99) (by simp)
  have hZ := holesI_zero hz
  have hw : -99 ≤ h ∧ h ≤ 99 := by
    unfold withinI at hz2
    by_cases g : -99 ≤ h ∧ h ≤ 99
    · exact g
    · rw [if_neg g] at hz2; omega
  have HH := Lib.hid (fun W (hb : Below w.heap.size w W) => checkHoles_any A c hs W (hr.keep hbl hb) (fun a ha => Nat.lt_of_lt_of_le (hbl a ha) hb.size) (by have := hZ.2.1; omega))
  have HC := Lib.hid (fun W (hb : Below w.heap.size w W) => given_any A c hs h W (hr.keep hbl hb) (fun a ha => Nat.lt_of_lt_of_le (hbl a ha) hb.size) hZ.1 (by have := hZ.2.1; omega) hw.1 hw.2)
  have HN := Lib.hid hn
  clear hr hbl hn hz hz2 hZ hw
  generalize givenL (h / (hs.length : Int)) (h % (hs.length : Int)) hs = q at HC ⊢
  go_enter Tryz.func26, Tryz.ntmps26
  go_wp2_with fail
  refine (HH.out _ (Below.refl _ _)).mono ?_
  rintro e w1 ⟨rfl, hb1⟩
  have HB1 := Lib.hid hb1
  clear hb1
  go_wp2_with fail
  refine (fmCheckHandicap_any _ _).mono ?_
  rintro e w2 ⟨rfl, rfl⟩
  go_wp2_with fail
  refine (fmFirst_any _ _ [_, _] _ (by simp) (Ints.two _ _ _ _ _ rfl)).mono ?_
  rintro e w2 ⟨rfl, rfl⟩
  rw [show firstI [holesI hs, withinI h (-99) 99] = 0 from HN.out]
  go_wp2_with fail
  refine (HC.out _ (HB1.out.alloc HB1.out.size _)).mono ?_
  rintro e w2 ⟨g, rfl, hrow, hg, hb2⟩
  have HROW := Lib.hid hrow
  have HG : Hid (w.heap.size ≤ g) := Lib.hid (by have := HB1.out.size; simp at hg; omega)
  have HB2 := Lib.hid ((HB1.out.alloc HB1.out.size (.cells #[.int .i64 (holesI hs), .int .i64 (withinI h (-99) 99)] 36)).trans (hb2.mono (by have := HB1.out.size; simp; omega)))
  clear hb2 hrow hg HC
  go_wp2
  go_ret2
  exact ⟨g, rfl, HROW.out, HG.out, HB2.out⟩

set_option maxRecDepth 100000 in
set_option maxHeartbeats 1000000 in
theorem fmGiven_no (A : Option Addr) (c : Nat) (hs : List (Int × Int)) (h : Int) (w : World) (hr : HolesR w A hs) (hbl : ∀ a, A = some a → a.block < w.heap.size) (hl : hs.length ≤ 4611686018427387904) (hn : givenE hs h ≠ 0) :
    Calls Tryz.prog 26 #[.slice A hs.length c, .int .i64 h] w fun e w' => e = .returned (.tuple #[.slice none 0 0, .int .i64 (givenE hs h)]) ∧ Below w.heap.size w w' := by
  have HH := Lib.hid (fun W (hb : Below w.heap.size w W) => checkHoles_any A c hs W (hr.keep hbl hb) (fun a ha => Nat.lt_of_lt_of_le (hbl a ha) hb.size) hl)
  have hnb : (givenE hs h != 0) = true := by simpa using hn
  have HQ : Hid (firstI [holesI hs, withinI h (-99) 99] = givenE hs h) := Lib.hid rfl
  clear hr hbl hn
  generalize givenE hs h = q at hnb HQ ⊢
  go_enter Tryz.func26, Tryz.ntmps26
  go_wp2_with fail
  refine (HH.out _ (Below.refl _ _)).mono ?_
  rintro e w1 ⟨rfl, hb1⟩
  have HB1 := Lib.hid hb1
  clear hb1
  go_wp2_with fail
  refine (fmCheckHandicap_any _ _).mono ?_
  rintro e w2 ⟨rfl, rfl⟩
  go_wp2_with fail
  refine (fmFirst_any _ _ [_, _] _ (by simp) (Ints.two _ _ _ _ _ rfl)).mono ?_
  rintro e w2 ⟨rfl, rfl⟩
  rw [HQ.out]
  go_wp2
  go_ret2
  exact ⟨rfl, HB1.out.alloc HB1.out.size _⟩

end Go.Proofs.YtbckfkopdojggaaGreatDoor

/- byMerit, isPlayed, stateOf. -/
namespace Go.Proofs.YtbckfkopdojggaaGreatDoor
open Go.RowKit

/-- The place of a mark among the marks: none, x, -. -/
def rankI (m : ByteArray) : Int := match markK m with | 0 => 0 | 2 => 1 | 3 => 2 | _ => -1
def marks3 : Array Value := #[.string ⟨#[]⟩, .string ⟨#[120]⟩, .string ⟨#[45]⟩]

set_option maxRecDepth 100000 in
set_option maxHeartbeats 1000000 in
theorem index3_any (g : Nat) (m : ByteArray) (w : World) (h : BlkV w g 9 marks3) :
    Calls Tryz.prog 181 #[.slice (some ⟨g, 0, none⟩) 3 3, .string m] w fun e w' => e = .returned (.int .i64 (rankI m)) ∧ w = w' := by
  have c0 : w.cell? ⟨g, 0, none⟩ = some (.string ⟨#[]⟩) := h.cell 0
  have c1 : w.cell? ⟨g, 1, none⟩ = some (.string ⟨#[120]⟩) := h.cell 1
  have c2 : w.cell? ⟨g, 2, none⟩ = some (.string ⟨#[45]⟩) := h.cell 2
  clear h
  rcases mark_cases m with ⟨h1, h2, h3, h4, h5⟩ | ⟨h1, h2, h3, h4, h5⟩ | ⟨h1, h2, h3, h4, h5⟩ | ⟨h1, h2, h3, h4, h5⟩ | ⟨h1, h2, h3, h4, h5⟩
  all_goals
    have H5 := Lib.hid h5
    clear h5
    go_enter Tryz.func181, Tryz.ntmps181
    go_wp2
    refine wp_loop_rounds 4 ?_; rw [rounds_succ]
    go_wp2
    iterate 3 (try (rw [rounds_succ]; go_wp2))
    go_ret
    exact ⟨by unfold rankI; rw [H5.out]; rfl, rfl⟩

set_option maxHeartbeats 400000 in
theorem orInt_any (A : Option Addr) (c : Nat) (xs : List Int) (w : World) (hl : xs.length ≤ 4611686018427387904) (h : Ints w A xs) :
    Calls Tryz.prog 180 #[.slice A xs.length c] w fun e w' => e = .returned (.int .i64 (firstI xs)) ∧ w = w' := by
  have H := Lib.hid h
  clear h
  go_enter Tryz.func180, Tryz.ntmps180
  go_wp2
  go_loop [8] (fun i => ∃ k : Nat, k ≤ xs.length ∧ i = .int .i64 k ∧ firstI (xs.drop k) = firstI xs) (fun i => xs.length - (intOf i).toNat)
  case atStart => exact ⟨0, Nat.zero_le _, rfl, rfl⟩
  case round =>
    obtain ⟨k, hk, rfl, hd⟩ := hrel
    have HD := Lib.hid hd
    clear hd
    by_cases hlt : k < xs.length
    · obtain ⟨a, rfl, hc⟩ := H.out k hlt
      have hs := Lib.hid (firstI_drop xs k hlt)
      generalize xs.getD k 0 = x at hc hs
      by_cases hx : x = 0
      · subst hx
        go_wp2
        go_round
        case rel => exact ⟨k + 1, by omega, by go_num, by have := hs.out; simp at this; rw [← this]; exact HD.out⟩
        case measure => simp [intOf]; omega
      · have hxb : (x != 0) = true := by simpa using hx
        go_wp2
        go_ret
        have := hs.out
        rw [if_neg hx] at this
        exact ⟨by rw [← this, HD.out]; rfl, rfl⟩
    · have : k = xs.length := by omega
      go_wp2
      go_ret
      have hd := HD.out
      rw [List.drop_eq_nil_of_le (by omega)] at hd
      exact ⟨by rw [← hd]; rfl, rfl⟩

def meritI (a b : Int × ByteArray) : Int := firstI [cmpI (rankI a.2) (rankI b.2), cmpI a.1 b.1]

/-- Two boxes of strokes and marks, the marks, and all below. -/
def HeldM (w : World) (s t : Int) (m n : ByteArray) (W : World) : Prop :=
  W.cell? ⟨w.heap.size, 0, none⟩ = some (.int .i64 s) ∧ W.cell? ⟨w.heap.size, 1, none⟩ = some (.string m) ∧ W.cell? ⟨w.heap.size + 1, 0, none⟩ = some (.int .i64 t) ∧ W.cell? ⟨w.heap.size + 1, 1, none⟩ = some (.string n) ∧
    Hid (BlkV W (w.heap.size + 1 + 1) 9 marks3 ∧ Below w.heap.size w W)
theorem heldM_alloc {w W : World} {s t : Int} {m n : ByteArray} (o : Obj) (h : W.cell? ⟨w.heap.size, 0, none⟩ = some (.int .i64 s) ∧ W.cell? ⟨w.heap.size, 1, none⟩ = some (.string m) ∧ W.cell? ⟨w.heap.size + 1, 0, none⟩ = some (.int .i64 t) ∧ W.cell? ⟨w.heap.size + 1, 1, none⟩ = some (.string n) ∧
    Hid (BlkV W (w.heap.size + 1 + 1) 9 marks3 ∧ Below w.heap.size w W)) : (W.alloc o).cell? ⟨w.heap.size, 0, none⟩ = some (.int .i64 s) ∧ (W.alloc o).cell? ⟨w.heap.size, 1, none⟩ = some (.string m) ∧ (W.alloc o).cell? ⟨w.heap.size + 1, 0, none⟩ = some (.int .i64 t) ∧ (W.alloc o).cell? ⟨w.heap.size + 1, 1, none⟩ = some (.string n) ∧
    Hid (BlkV (W.alloc o) (w.heap.size + 1 + 1) 9 marks3 ∧ Below w.heap.size w (W.alloc o)) := by
  have hb := (Below.refl W.heap.size W).alloc (Nat.le_refl _) o
  exact ⟨(hb.cell (p := ⟨_, _, none⟩) (cell_lt h.1)).trans h.1, (hb.cell (p := ⟨_, _, none⟩) (cell_lt h.2.1)).trans h.2.1, (hb.cell (p := ⟨_, _, none⟩) (cell_lt h.2.2.1)).trans h.2.2.1, (hb.cell (p := ⟨_, _, none⟩) (cell_lt h.2.2.2.1)).trans h.2.2.2.1, h.2.2.2.2.out.1.alloc o, h.2.2.2.2.out.2.alloc h.2.2.2.2.out.2.size o⟩

theorem heldM_ad {w W : World} {s t : Int} {m n : ByteArray} (o : Obj) (h : W.drew.cell? ⟨w.heap.size, 0, none⟩ = some (.int .i64 s) ∧ W.drew.cell? ⟨w.heap.size, 1, none⟩ = some (.string m) ∧ W.drew.cell? ⟨w.heap.size + 1, 0, none⟩ = some (.int .i64 t) ∧ W.drew.cell? ⟨w.heap.size + 1, 1, none⟩ = some (.string n) ∧
    Hid (BlkV W.drew (w.heap.size + 1 + 1) 9 marks3 ∧ Below w.heap.size w W.drew)) : (W.alloc o).drew.cell? ⟨w.heap.size, 0, none⟩ = some (.int .i64 s) ∧ (W.alloc o).drew.cell? ⟨w.heap.size, 1, none⟩ = some (.string m) ∧ (W.alloc o).drew.cell? ⟨w.heap.size + 1, 0, none⟩ = some (.int .i64 t) ∧ (W.alloc o).drew.cell? ⟨w.heap.size + 1, 1, none⟩ = some (.string n) ∧
    Hid (BlkV (W.alloc o).drew (w.heap.size + 1 + 1) 9 marks3 ∧ Below w.heap.size w (W.alloc o).drew) := heldM_alloc (W := W.drew) o h
theorem heldBlk {C1 C2 C3 C4 : Prop} {w W : World} {B g T : Nat} {cs : Array Value} (h : C1 ∧ C2 ∧ C3 ∧ C4 ∧ Hid (BlkV W g T cs ∧ Below B w W)) : BlkV W g T cs := h.2.2.2.2.out.1
theorem heldBel {C1 C2 C3 C4 : Prop} {w W : World} {B g T : Nat} {cs : Array Value} (h : C1 ∧ C2 ∧ C3 ∧ C4 ∧ Hid (BlkV W g T cs ∧ Below B w W)) : Below B w W := h.2.2.2.2.out.2

set_option maxRecDepth 100000 in
set_option maxHeartbeats 4000000 in
theorem byMerit_any (s t : Int) (m n : ByteArray) (w : World) :
    Calls Tryz.prog 134 #[.agg #[.int .i64 s, .string m], .agg #[.int .i64 t, .string n]] w fun e w' => e = .returned (.int .i64 (meritI (s, m) (t, n))) ∧ Below w.heap.size w w' := by
  go_enter Tryz.func134, Tryz.ntmps134
  go_wp2
  generalize hW0 : ((w.alloc (.cells #[.int .i64 s, .string m] 83)).alloc (.cells #[.int .i64 t, .string n] 83)).alloc (.cells #[.string ⟨#[]⟩, .string ⟨#[120]⟩, .string ⟨#[45]⟩] 9) = W0
  obtain ⟨a1, a2, a3, a4, a5⟩ := three_allocs w _ _ _ _ _ _ hW0
  have HSZ := Lib.hid a5
  have HS0 : Hid (HeldM w s t m n W0.drew) := Lib.hid ⟨a1.cell 0, a1.cell 1, a2.cell 0, a2.cell 1, a3.drew, a4.drew⟩
  clear hW0 a1 a2 a3 a4
  go_region_held3 (fun W => W.cell? ⟨w.heap.size, 0, none⟩ = some (.int .i64 s) ∧ W.cell? ⟨w.heap.size, 1, none⟩ = some (.string m) ∧ W.cell? ⟨w.heap.size + 1, 0, none⟩ = some (.int .i64 t) ∧ W.cell? ⟨w.heap.size + 1, 1, none⟩ = some (.string n) ∧
    Hid (BlkV W (w.heap.size + 1 + 1) 9 marks3 ∧ Below w.heap.size w W))
    ((first | with_reducible assumption | with_reducible exact heldM_ad _ (by with_reducible assumption) | exact HS0.out))
    (first
      | (go_at_call 181; (with_reducible refine (index3_any _ _ _ (heldBlk (by with_reducible assumption))).mono ?_); rintro e w1 ⟨rfl, rfl⟩)
      | (go_at_call 102; (with_reducible refine (compareInt_any _ _ _).mono ?_); rintro e w1 ⟨rfl, rfl⟩)
      | (go_at_call 180; refine (orInt_any _ _ [_, _] _ (by simp) (Ints.two W0 (w.heap.size + 1 + 1 + 1) _ _ _ HSZ.out).drew).mono ?_; rintro e w1 ⟨rfl, rfl⟩))
  all_goals go_wp2
  all_goals go_ret
  all_goals exact ⟨rfl, by first | exact heldBel (by assumption) | exact (heldBel (by assumption)).alloc (heldBel (B := w.heap.size) (w := w) (by assumption)).size _⟩

end Go.Proofs.YtbckfkopdojggaaGreatDoor
