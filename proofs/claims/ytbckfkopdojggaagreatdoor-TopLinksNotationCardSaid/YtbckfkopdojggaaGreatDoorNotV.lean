/- The whole's laws of chapter 5: the fixed example. -/
import Derived.Test.YtbckfkopdojggaaGreatDoorNotU
import Derived.Test.YtbckfkopdojggaaGreatDoorMgE
import Derived.Test.YtbckfkopdojggaaGreatDoorMgD
import Derived.Outline
set_option linter.unusedVariables false
set_option linter.unusedSimpArgs false
namespace Go.Proofs.YtbckfkopdojggaaGreatDoor
open Go.RowKit

def lrH : List (Int × Int) := [(4, 2), (3, 1)]
def lrL : List NotMath.En := [⟨5, []⟩, ⟨4, [99]⟩]
def lrE : List (Int × ByteArray) := [(5, ⟨#[]⟩), (4, ⟨#[99]⟩)]
def lrN : ByteArray := ⟨#[97, 110, 110]⟩
theorem lr_en : lrL.map enV = lrE := rfl
theorem mk_noneQ : markK ⟨#[]⟩ = 0 := by unfold markK; simp only [ByteArray.toList_eq]; rfl
theorem mk_cQ : markK ⟨#[99]⟩ = 1 := by unfold markK; simp only [ByteArray.toList_eq]; rfl
theorem co_noneQ : countsB ⟨#[]⟩ = true := by unfold countsB; simp only [ByteArray.toList_eq]; rfl
theorem lr_ok : ∀ x ∈ lrL, NotMath.okE x = true := by decide +kernel
theorem lr_steps : NotMath.steps ([], false) (NotMath.splitB (⟨#[53, 32, 52, 99]⟩ : ByteArray).data.toList) = some (lrL, false) := by decide +kernel
theorem lr_print : NotMath.joinB (NotMath.notW 4 lrL) = [53, 32, 52, 99] := by decide +kernel
theorem lr_holesI : holesI lrH = 0 := by decide +kernel
theorem lr_pl : playerI lrH lrN lrE 3 = 0 := by
  have h2 : entriesI lrE = 0 := by simp [entriesI, lrE, entryI, mk_noneQ, mk_cQ]
  have h3 : nameB lrN = true := by decide +kernel
  have h4 : pairedI lrE.length lrH.length = 0 := by rfl
  have h5 : withinI 3 (-99) 99 = 0 := by decide
  unfold playerI cardI
  simp [firstI, lr_holesI, h2, h3, h4, h5, unlessI]
theorem lr_nets : netsOf lrH 3 lrE = [(4, ⟨#[]⟩), (2, ⟨#[]⟩)] := by
  unfold netsOf netsL givenL
  simp [lrH, lrE, netV, addI, mk_noneQ, mk_cQ, show noMark = ⟨#[]⟩ from rfl]
theorem lr_pts : parL pointsF 0 lrH (netsOf lrH 3 lrE) = [2, 3] := by
  rw [lr_nets]
  simp [parL, lrH, parV, pointsF, co_noneQ]
  omega
theorem lr_score : scoreR lrH lrN lrE 3 = (6, 0) := by
  unfold scoreR wholeR
  rw [if_pos lr_pl, lr_nets]
  simp [allCount, co_noneQ, sumS, firsts, ForMath.sumI]
theorem lr_holes {W : World} {g T : Nat} (h : BlkV W g T #[.int .i64 4, .int .i64 2, .int .i64 3, .int .i64 1]) : HolesR W (some ⟨g, 0, none⟩) lrH := fun j hj => by
  have c0 := h.cell 0
  have c1 := h.cell 1
  have c2 := h.cell 2
  have c3 := h.cell 3
  match j, hj with
  | 0, _ => exact ⟨_, rfl, by rw [add_zero_at]; exact c0, by rw [add_zero_at]; exact c1⟩
  | 1, _ => exact ⟨_, rfl, by rw [add_zero_at]; exact c2, by rw [add_zero_at]; exact c3⟩

theorem pairs_two {w : World} {base : Nat} {TE : TypeId} {v : Value} {l : List (Int × ByteArray)} (h : PairsOwn w base TE v l) (h0 : 0 < l.length) : ∃ a c, v = .slice (some a) l.length c ∧ EntriesR w (some a) l ∧ l.length ≤ c := by
  obtain ⟨A, c, e, hr⟩ := h.entries
  obtain ⟨a, rfl, _⟩ := hr 0 h0
  refine ⟨a, c, e, hr, ?_⟩
  rcases h.2 with ⟨_, h2⟩ | ⟨g, cap, cur, e2, hg, hgb, hnc, hcm, hcs, htk⟩
  · omega
  · rw [e] at e2
    injection e2 with q1 q2 q3
    omega
set_option maxRecDepth 100000 in
set_option maxHeartbeats 4000000 in
theorem linksRound_any (mx : Int) (w : World) (hm : w.cell? ⟨0, 0, none⟩ = some (.int .i64 mx)) :
    Calls Tryz.prog 20 #[] w fun e w' => e = .returned (.bool true) ∧ Below w.heap.size w w' := by
  have h0 := cell_lt hm
  have HM := Lib.hid hm
  clear hm
  go_enter Tryz.func20, Tryz.ntmps20
  go_wp2_with fail
  obtain ⟨W0, hW0⟩ : ∃ W0, w.alloc (.cells #[.int .i64 4, .int .i64 2, .int .i64 3, .int .i64 1] 118) = W0 := ⟨_, rfl⟩
  rw [hW0]
  obtain ⟨a1, a2, a3⟩ := one_alloc w _ _ hW0
  have HBX := Lib.hid a1
  have HB0 := Lib.hid a2
  have HS0 := Lib.hid a3
  clear hW0 a1 a2 a3
  refine (parse_yes ⟨#[53, 32, 52, 99]⟩ lrL mx W0 (by decide) (by decide +kernel) ((HB0.out.cell (p := ⟨0, 0, none⟩) h0).trans HM.out) lr_steps).mono ?_
  rintro e w1 ⟨A, c, rfl, hown, hb1⟩
  obtain ⟨a, c2, e1, hr, hcc⟩ := pairs_two hown (by decide)
  injection e1 with q1 q2 q3
  subst q1; subst q3
  have HR := Lib.hid hr
  have HB1 := Lib.hid (HB0.out.trans (hb1.mono HB0.out.size))
  have HBX1 := Lib.hid (HBX.out.below hb1 HBX.out.lt)
  clear hown hr hb1
  go_wp2_with fail
  refine (print_yes a c lrL w1 (by decide) (by decide) hcc HR.out lr_ok).mono ?_
  rw [lr_print]
  rintro e w2 ⟨rfl, hb2⟩
  have HR2 : Hid (EntriesR w2 (some a) lrE) := Lib.hid (HR.out.keep hb2)
  have HB2 := Lib.hid (HB1.out.trans (hb2.mono HB1.out.size))
  have HBX2 := Lib.hid (HBX1.out.below hb2 HBX1.out.lt)
  clear hb2 HR HB1 HBX1 HBX HB0 HM
  go_wp2_with fail
  obtain ⟨W3, hW3⟩ : ∃ W3, w2.alloc (.cells #[.string ⟨#[97, 110, 110]⟩, .slice (some a) lrL.length c, .int .i64 3] 55) = W3 := ⟨_, rfl⟩
  rw [hW3]
  obtain ⟨b1, b2, b3⟩ := one_alloc w2 _ _ hW3
  have hx3 := HBX2.out.below b2 HBX2.out.lt
  have HH3 := Lib.hid (lr_holes hx3)
  have HL3 := Lib.hid hx3.lt
  have HB3 := Lib.hid (HB2.out.trans (b2.mono HB2.out.size))
  have HR3 : Hid (EntriesR W3 (some a) lrE) := Lib.hid (HR2.out.keep b2)
  have HP3 := Lib.hid b1
  clear hW3 b1 b2 b3 hx3 HBX2 HB2 HR2
  refine (fmScore_any (some ⟨w.heap.size, 0, none⟩) (some a) 2 c lrH lrN lrE 3 W3 HH3.out (fun x hx => by injection hx with hx; subst hx; exact HL3.out) (by decide) HR3.out (by decide)).mono ?_
  rw [lr_score]
  rintro e w4 ⟨rfl, hb4⟩
  have HH4 := Lib.hid (HH3.out.keep (fun x hx => by injection hx with hx; subst hx; exact HL3.out) hb4)
  have HL4 : Hid (w.heap.size < w4.heap.size) := Lib.hid (Nat.lt_of_lt_of_le HL3.out hb4.size)
  have HB4 := Lib.hid (HB3.out.trans (hb4.mono HB3.out.size))
  have HR4 : Hid (EntriesR w4 (some a) lrE) := Lib.hid (HR3.out.keep hb4)
  have hp4 := HP3.out.below hb4 HP3.out.lt
  have p0 := hp4.cell 0
  have p1 := hp4.cell 1
  have p2 := hp4.cell 2
  clear hp4 hb4 HH3 HL3 HB3 HR3
  go_wp2_with fail
  refine (fmPoints_yes (some ⟨w.heap.size, 0, none⟩) (some a) 2 c lrH lrN lrE 3 w4 HH4.out (fun x hx => by injection hx with hx; subst hx; exact HL4.out) HR4.out lr_pl).mono ?_
  rw [lr_pts]
  rintro e w5 ⟨g, rfl, hrow, _, hb5⟩
  have HB5 := Lib.hid (HB4.out.trans (hb5.mono HB4.out.size))
  have r0 := hrow.cell (j := 0) (by decide)
  have r1 := hrow.cell (j := 1) (by decide)
  clear hb5 hrow
  simp only [List.length_cons, List.length_nil, Nat.reduceAdd, List.getD_cons_zero, List.getD_cons_succ] at r0 r1
  have hst : (([53, 32, 52, 99] : List UInt8) == [53, 32, 52, 99]) = true := by decide
  go_wp2
  go_ret
  exact ⟨rfl, HB5.out⟩
end Go.Proofs.YtbckfkopdojggaaGreatDoor
