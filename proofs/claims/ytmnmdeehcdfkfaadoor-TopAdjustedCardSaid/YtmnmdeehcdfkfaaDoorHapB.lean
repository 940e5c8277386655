/- netPars of package handicap; adjusted strokes of one entry. -/
import Derived.Test.YtmnmdeehcdfkfaaDoorAdjM
import Derived.Test.YtmnmdeehcdfkfaaDoorHapA
import Derived.Outline
namespace Go.Proofs.YtmnmdeehcdfkfaaDoor
open Go.RowKit

/-- The pars of holes with the strokes given there. -/
def netParL (q r : Int) (hs : List (Int × Int)) : List Int := hs.map fun x => x.1 + addI q r x.2
theorem netParL_len (q r : Int) (hs : List (Int × Int)) : (netParL q r hs).length = hs.length := by simp [netParL]
theorem netParL_at (q r : Int) (hs : List (Int × Int)) (k : Nat) (h : k < hs.length) : (netParL q r hs).getD k 0 = (hs.getD k (0, 0)).1 + addI q r (hs.getD k (0, 0)).2 := by
  simp [netParL, List.getD, List.getElem?_eq_getElem h]

/-- The first k numbers of one row, then those of another. -/
def mixI (xs ys : List Int) (k : Nat) : List Int := xs.take k ++ ys.drop k
theorem mixI_zero (xs ys : List Int) : mixI xs ys 0 = ys := by simp [mixI]
theorem mixI_all (xs ys : List Int) (k : Nat) (h : xs.length = ys.length) (hk : xs.length ≤ k) : mixI xs ys k = xs := by
  rw [mixI, List.take_of_length_le hk, List.drop_eq_nil_of_le (by omega)]; simp
theorem mixI_len (xs ys : List Int) (k : Nat) (h : xs.length = ys.length) : (mixI xs ys k).length = ys.length := by
  simp [mixI]; omega
theorem mixI_at (xs ys : List Int) (k : Nat) (h : xs.length = ys.length) (hk : k < ys.length) : (mixI xs ys k).getD k 0 = ys.getD k 0 := by
  unfold mixI
  rw [List.getD, List.getElem?_append_right (by simp; omega), List.getElem?_drop]
  simp only [List.length_take]
  rw [show k + (k - min k xs.length) = k by omega]
  rfl
theorem mixI_set (xs ys : List Int) (k : Nat) (h : xs.length = ys.length) (hk : k < ys.length) : (mixI xs ys k).set k (xs.getD k 0) = mixI xs ys (k + 1) := by
  unfold mixI
  apply List.ext_getElem
  · simp; omega
  · intro i h1 h2
    simp only [List.getElem_set, List.getElem_append, List.getElem_take, List.getElem_drop, List.length_take]
    split
    · subst_vars
      rw [dif_pos (by omega)]
      rw [List.getD, List.getElem?_eq_getElem (show i < xs.length by omega)]
      rfl
    · split
      · rw [dif_pos (by omega)]
      · rw [dif_neg (by omega)]
        congr 1
        omega

set_option maxRecDepth 100000 in
set_option maxHeartbeats 2000000 in
theorem netPars_yes (A : Option Addr) (c : Nat) (hs : List (Int × Int)) (h : Int) (w : World) (hr : HolesR w A hs) (hbl : ∀ a, A = some a → a.block < w.heap.size) (hn : givenE hs h = 0) :
    Calls Tryd.prog 16 #[.slice A hs.length c, .int .i64 h] w (RowOut (netParL (h / (hs.length : Int)) (h % (hs.length : Int)) hs) w) := by
  have hz := firstI_zero _ hn (holesI hs) (by simp)
  have hz2 := firstI_zero _ hn (withinI h (-99) 99) (by simp)
  have hZ := holesI_zero hz
  have hw : -99 ≤ h ∧ h ≤ 99 := by
    unfold withinI at hz2
    by_cases g : -99 ≤ h ∧ h ≤ 99
    · exact g
    · rw [if_neg g] at hz2; omega
  have hlen : hs.length ≤ 36 := hZ.2.1
  have hq := div_small h hs.length hw.1 hw.2 hZ.1
  have HH := Lib.hid (fun W (hb : Below w.heap.size w W) => checkHoles_any A c hs W (hr.keep hbl hb) (fun a ha => Nat.lt_of_lt_of_le (hbl a ha) hb.size) (by omega))
  have HC := Lib.hid (fmGiven_yes A c hs h w hr hbl hn)
  have HP := Lib.hid hZ.2.2.1
  have HN : Hid (firstI [holesI hs, withinI h (-99) 99, 0] = 0) := Lib.hid (by simp [firstI, hz, hz2])
  have HR := Lib.hid hr
  have HBL := Lib.hid hbl
  have HNL := Lib.hid (netParL_len (h / (hs.length : Int)) (h % (hs.length : Int)) hs)
  have HGL := Lib.hid (givenL_len (h / (hs.length : Int)) (h % (hs.length : Int)) hs)
  clear hr hbl hn hz hz2 hZ hw
  generalize h / (hs.length : Int) = q at hq HC HNL HGL ⊢
  generalize h % (hs.length : Int) = r at HC HNL HGL ⊢
  go_enter Tryd.func16, Tryd.ntmps16
  go_wp2_with fail
  refine HC.out.mono ?_
  rintro e w1 ⟨g, rfl, hrow, hg, hb1⟩
  have HROW := Lib.hid hrow
  have HG := Lib.hid hg
  have HB1 := Lib.hid hb1
  clear hrow hg hb1 HC
  rw [HGL.out]
  go_wp2_with fail
  refine (HH.out _ HB1.out).mono ?_
  rintro e w2 ⟨rfl, hb2⟩
  have HB2 := Lib.hid (HB1.out.trans (hb2.mono HB1.out.size))
  have HROW2 := Lib.hid (HROW.out.below hb2 HROW.out.lt)
  clear hb2
  go_wp2_with fail
  refine (hcCheckCourse_any _ _).mono ?_
  rintro e w3 ⟨rfl, rfl⟩
  go_wp2_with fail
  refine (hcFirst_any _ _ [_, _, _] _ (by simp) (Ints.three _ _ _ _ _ _ rfl)).mono ?_
  rintro e w3 ⟨rfl, rfl⟩
  rw [show firstI [holesI hs, withinI h (-99) 99, 0] = 0 from HN.out]
  go_wp2
  go_loopw [29] (fun i w' => ∃ k : Nat, k ≤ hs.length ∧ i = .int .i64 k ∧ RowI w' g (mixI (netParL q r hs) (givenL q r hs) k) ∧ Below w.heap.size w w') (fun i _ => hs.length - (intOf i).toNat)
  case atStart => exact ⟨0, Nat.zero_le _, rfl, by rw [mixI_zero]; exact HROW2.out.alloc _, HB2.out.alloc HB2.out.size _⟩
  case round =>
    obtain ⟨k, hk, rfl, hrow, hb⟩ := hrel
    have HROW3 := Lib.hid hrow
    have HB3 := Lib.hid hb
    have hlt0 := hrow.lt
    clear hrow hb
    by_cases hlt : k < hs.length
    · obtain ⟨a, rfl, d0, d1⟩ := (HR.out.keep HBL.out HB3.out) k hlt
      have HS := Lib.hid (netParL_at q r hs k hlt)
      have HS2 := Lib.hid (givenL_at q r hs k hlt)
      have hp : 3 ≤ (hs.getD k (0, 0)).1 ∧ (hs.getD k (0, 0)).1 ≤ 6 := by
        have := HP.out _ (List.getElem_mem hlt)
        simp only [List.getD, List.getElem?_eq_getElem hlt, Option.getD_some]
        omega
      have ha : q ≤ addI q r (hs.getD k (0, 0)).2 ∧ addI q r (hs.getD k (0, 0)).2 ≤ q + 1 := by unfold addI; split <;> omega
      generalize addI q r (hs.getD k (0, 0)).2 = y at HS HS2 ha
      generalize hs.getD k (0, 0) = px at d0 d1 HS HS2 hp
      obtain ⟨p, x⟩ := px
      simp only at d0 d1 HS HS2 hp
      have hwr : IntKind.i64.wrap (y + p) = y + p := IntWalk.i64_in _ (by omega)
      have hkl : k < (mixI (netParL q r hs) (givenL q r hs) k).length := by rw [mixI_len _ _ _ (HNL.out.trans HGL.out.symm), HGL.out]; exact hlt
      have HV : Hid ((mixI (netParL q r hs) (givenL q r hs) k).getD k 0 = y) := Lib.hid (by rw [mixI_at _ _ _ (HNL.out.trans HGL.out.symm) (by rw [HGL.out]; exact hlt), HS2.out])
      have HE : Hid ((mixI (netParL q r hs) (givenL q r hs) k).set k (y + p) = mixI (netParL q r hs) (givenL q r hs) (k + 1)) := Lib.hid (by
        rw [← mixI_set _ _ _ (HNL.out.trans HGL.out.symm) (by rw [HGL.out]; exact hlt), HS.out, Int.add_comm])
      have HKL := Lib.hid hkl
      have hk0 : (0 : Int) ≤ (k : Int) := Int.natCast_nonneg _
      have hk1 : (k : Int) < (hs.length : Int) := by omega
      clear hkl
      go_wp2_with fail
      generalize hW2 : wr.alloc (.cells #[.int .i64 p, .int .i64 x] 32) = W2
      have hrow2 : RowI W2 g (mixI (netParL q r hs) (givenL q r hs) k) := by subst hW2; exact HROW3.out.alloc _
      have hblk2 : BlkV W2 wr.heap.size 32 #[.int .i64 p, .int .i64 x] := by subst hW2; exact BlkV.new _ _ _
      have hB2 : Below w.heap.size w W2 := by subst hW2; exact HB3.out.alloc HB3.out.size _
      have r0 := hrow2.cell HKL.out
      rw [HV.out] at r0
      have f0 := hrow2.frozen k
      have b0 := hblk2.cell 0
      have HROW4 := Lib.hid hrow2
      have HB4 := Lib.hid hB2
      clear hW2 hrow2 hB2 hblk2
      go_region
      all_goals
        go_wp2
        go_roundw
        case rel =>
          refine ⟨k + 1, by omega, by go_num, ?_, (HB4.out.drew).setCell HG.out _⟩
          have := HROW4.out.drew.set k (y + p)
          rw [HE.out] at this
          exact this
        case measure => simp [intOf]; omega
    · have HE : Hid (mixI (netParL q r hs) (givenL q r hs) k = netParL q r hs) := Lib.hid (mixI_all _ _ _ (HNL.out.trans HGL.out.symm) (by rw [HNL.out]; omega))
      go_wp2
      go_ret2
      exact ⟨g, by rw [HNL.out]; rfl, HROW3.out.eq_ HE.out, HG.out, HB3.out⟩

/-- Adjusted strokes of an entry on a hole with this net par. -/
def adjN (np : Int) (e : Int × ByteArray) : Int := if markK e.2 = 2 then np + 2 else if markK e.2 = 3 then max 1 np else min e.1 (np + 2)
theorem adjN_x {np s : Int} {m : ByteArray} (h : markK m = 2) : adjN np (s, m) = np + 2 := by unfold adjN; rw [if_pos h]
theorem adjN_d {np s : Int} {m : ByteArray} (h : markK m = 3) : adjN np (s, m) = max 1 np := by unfold adjN; rw [if_neg (by simp only [h]; omega), if_pos h]
theorem adjN_o {np s : Int} {m : ByteArray} (h2 : markK m ≠ 2) (h3 : markK m ≠ 3) : adjN np (s, m) = min s (np + 2) := by unfold adjN; rw [if_neg h2, if_neg h3]
set_option maxRecDepth 100000 in
set_option maxHeartbeats 1000000 in
theorem adjusted_any (s np : Int) (m : ByteArray) (w : World) (hp : -100000 ≤ np ∧ np ≤ 100000) :
    Calls Tryd.prog 19 #[.agg #[.int .i64 s, .string m], .int .i64 np] w fun e w' => e = .returned (.int .i64 (adjN np (s, m))) ∧ Below w.heap.size w w' := by
  rcases mark_cases m with ⟨h1, h2, h3, h4, h5⟩ | ⟨h1, h2, h3, h4, h5⟩ | ⟨h1, h2, h3, h4, h5⟩ | ⟨h1, h2, h3, h4, h5⟩ | ⟨h1, h2, h3, h4, h5⟩
  all_goals
    have H5 := Lib.hid h5
    clear h5
    go_enter Tryd.func19, Tryd.ntmps19
    go_wp2
    all_goals
      go_ret
      refine ⟨?_, (Below.refl _ _).alloc (Nat.le_refl _) _⟩
      first
        | rw [adjN_x H5.out]
        | rw [adjN_d H5.out]
        | rw [adjN_o (by rw [H5.out]; omega) (by rw [H5.out]; omega)]
      first
        | rfl
        | (rw [show max 1 np = np by omega]; rfl)
        | (rw [show max 1 np = 1 by omega]; rfl)
        | (rw [show min s (np + 2) = s by omega]; rfl)
        | (rw [show min s (np + 2) = np + 2 by omega]; rfl)
end Go.Proofs.YtmnmdeehcdfkfaaDoor
