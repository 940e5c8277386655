/- The fixed example of the law: caddiePoints answers true. -/
import Derived.Test.YtmnmdeehcdfkfaaDoorHapC
import Derived.Test.YtmnmdeehcdfkfaaDoorFrmM
import Derived.Test.YtmnmdeehcdfkfaaDoorFrDG
import Derived.Outline
namespace Go.Proofs.YtmnmdeehcdfkfaaDoor
open Go.RowKit

def cadH : List (Int × Int) := [(4, 2), (3, 4), (5, 1), (4, 3)]
def cadE : List (Int × ByteArray) := [(5, ⟨#[]⟩), (4, ⟨#[]⟩), (7, ⟨#[]⟩), (0, ⟨#[120]⟩)]
def cadN : ByteArray := ⟨#[97, 110, 110]⟩
def cadHC : Array Value := #[.int .i64 4, .int .i64 2, .int .i64 3, .int .i64 4, .int .i64 5, .int .i64 1, .int .i64 4, .int .i64 3]
def cadEC : Array Value := #[.int .i64 5, .string ⟨#[]⟩, .int .i64 4, .string ⟨#[]⟩, .int .i64 7, .string ⟨#[]⟩, .int .i64 0, .string ⟨#[120]⟩]

theorem cadH_holes {W : World} {g : Nat} {T : TypeId} (h : BlkV W g T cadHC) : HolesR W (some ⟨g, 0, none⟩) cadH := fun j hj =>
  match j, hj with
  | 0, _ => ⟨_, rfl, by rw [add_zero_at]; exact (h.cell 0).trans rfl, by rw [add_zero_at]; exact (h.cell 1).trans rfl⟩
  | 1, _ => ⟨_, rfl, by rw [add_zero_at]; exact (h.cell 2).trans rfl, by rw [add_zero_at]; exact (h.cell 3).trans rfl⟩
  | 2, _ => ⟨_, rfl, by rw [add_zero_at]; exact (h.cell 4).trans rfl, by rw [add_zero_at]; exact (h.cell 5).trans rfl⟩
  | 3, _ => ⟨_, rfl, by rw [add_zero_at]; exact (h.cell 6).trans rfl, by rw [add_zero_at]; exact (h.cell 7).trans rfl⟩
theorem cadE_entries {W : World} {g : Nat} {T : TypeId} (h : BlkV W g T cadEC) : EntriesR W (some ⟨g, 0, none⟩) cadE := fun j hj =>
  match j, hj with
  | 0, _ => ⟨_, rfl, by rw [add_zero_at]; exact (h.cell 0).trans rfl, by rw [add_zero_at]; exact (h.cell 1).trans rfl, by rw [add_zero_at]; exact h.lt⟩
  | 1, _ => ⟨_, rfl, by rw [add_zero_at]; exact (h.cell 2).trans rfl, by rw [add_zero_at]; exact (h.cell 3).trans rfl, by rw [add_zero_at]; exact h.lt⟩
  | 2, _ => ⟨_, rfl, by rw [add_zero_at]; exact (h.cell 4).trans rfl, by rw [add_zero_at]; exact (h.cell 5).trans rfl, by rw [add_zero_at]; exact h.lt⟩
  | 3, _ => ⟨_, rfl, by rw [add_zero_at]; exact (h.cell 6).trans rfl, by rw [add_zero_at]; exact (h.cell 7).trans rfl, by rw [add_zero_at]; exact h.lt⟩

theorem mk_none : markK ⟨#[]⟩ = 0 := by unfold markK; simp only [ByteArray.toList_eq]; rfl
theorem mk_x : markK ⟨#[120]⟩ = 2 := by unfold markK; simp only [ByteArray.toList_eq]; rfl
theorem cad_player : playerI cadH cadN cadE 6 = 0 := by
  have h1 : holesI cadH = 0 := by decide +kernel
  have h2 : entriesI cadE = 0 := by simp [entriesI, cadE, entryI, mk_none, mk_x]
  have h3 : nameB cadN = true := by decide +kernel
  have h4 : pairedI cadE.length cadH.length = 0 := by rfl
  have h5 : withinI 6 (-99) 99 = 0 := by decide
  unfold playerI cardI
  simp [firstI, h1, h2, h3, h4, h5, unlessI]
theorem cad_adj : adjS cadH 6 cadE = 23 := by
  unfold adjS adjL
  simp [cadH, cadE, adjV, limV, addI, mk_none, mk_x, ForMath.sumI]
  omega
theorem cad_pts : parL pointsF 0 cadH (netsOf cadH 6 cadE) = [3, 2, 2, 0] := by
  have c0 : countsB noMark = true := counts_noMark
  have c2 : countsB ⟨#[120]⟩ = false := counts_no (by rw [mk_x]; omega)
  unfold parL netsOf netsL givenL
  simp [cadH, cadE, netV, parV, pointsF, addI, mk_none, mk_x, c0, c2]
  omega

set_option maxHeartbeats 400000 in
theorem caddieHoles_any (w : World) :
    Calls Tryd.prog 14 #[] w fun e w' => ∃ g, e = .returned (.slice (some ⟨g, 0, none⟩) 4 4) ∧ HolesR w' (some ⟨g, 0, none⟩) cadH ∧ g < w'.heap.size ∧ Below w.heap.size w w' := by
  go_enter Tryd.func14, Tryd.ntmps14
  go_wp2
  go_ret
  have h : BlkV (w.alloc (.cells cadHC 32)) w.heap.size 32 cadHC := BlkV.new _ _ _
  exact ⟨w.heap.size, rfl, cadH_holes h, h.lt, (Below.refl _ _).alloc (Nat.le_refl _) _⟩

theorem cadAdj_any (g ge : Nat) (W : World) (hh : HolesR W (some ⟨g, 0, none⟩) cadH) (hl : g < W.heap.size) (he : EntriesR W (some ⟨ge, 0, none⟩) cadE) :
    Calls Tryd.prog 7 #[.slice (some ⟨g, 0, none⟩) 4 4, .agg #[.string ⟨#[97, 110, 110]⟩, .slice (some ⟨ge, 0, none⟩) 4 4], .int .i64 6] W fun e w' =>
      e = .returned (.tuple #[.int .i64 23, .int .i64 0]) ∧ Below W.heap.size W w' := by
  have := hcAdjusted_yes (some ⟨g, 0, none⟩) (some ⟨ge, 0, none⟩) 4 4 cadH cadN cadE 6 W hh (fun a ha => by injection ha with ha; subst ha; exact hl) he cad_player
  rw [cad_adj] at this
  exact this
theorem cadPts_any (g ge : Nat) (W : World) (hh : HolesR W (some ⟨g, 0, none⟩) cadH) (hl : g < W.heap.size) (he : EntriesR W (some ⟨ge, 0, none⟩) cadE) :
    Calls Tryd.prog 8 #[.slice (some ⟨g, 0, none⟩) 4 4, .agg #[.string ⟨#[97, 110, 110]⟩, .slice (some ⟨ge, 0, none⟩) 4 4, .int .i64 6]] W fun e w' =>
      ∃ p, e = .returned (.tuple #[.slice (some ⟨p, 0, none⟩) 4 4, .int .i64 0]) ∧ RowI w' p [3, 2, 2, 0] ∧ Below W.heap.size W w' := by
  have := fmPoints_yes (some ⟨g, 0, none⟩) (some ⟨ge, 0, none⟩) 4 4 cadH cadN cadE 6 W hh (fun a ha => by injection ha with ha; subst ha; exact hl) he cad_player
  rw [cad_pts] at this
  exact this.mono fun e w' ⟨p, h1, h2, _, h4⟩ => ⟨p, h1, h2, h4⟩

set_option maxRecDepth 100000 in
set_option maxHeartbeats 4000000 in
theorem caddiePoints_any (w : World) :
    Calls Tryd.prog 6 #[] w fun e w' => e = .returned (.bool true) ∧ Below w.heap.size w w' := by
  go_enter Tryd.func6, Tryd.ntmps6
  go_wp2
  generalize hW0 : (w.alloc (.cells #[.int .i64 5, .string ⟨#[]⟩, .int .i64 4, .string ⟨#[]⟩, .int .i64 7, .string ⟨#[]⟩, .int .i64 0, .string ⟨#[120]⟩] 30)).alloc (.cells #[.string ⟨#[97, 110, 110]⟩, .slice (some ⟨w.heap.size, 0, none⟩) 4 4] 25) = W0
  have hen : EntriesR W0 (some ⟨w.heap.size, 0, none⟩) cadE := by
    subst hW0
    exact cadE_entries ((BlkV.new w 30 cadEC).alloc _)
  have hblk : BlkV W0 (w.heap.size + 1) 25 #[.string ⟨#[97, 110, 110]⟩, .slice (some ⟨w.heap.size, 0, none⟩) 4 4] := by
    subst hW0
    have := BlkV.new (w.alloc (.cells cadEC 30)) 25 #[.string ⟨#[97, 110, 110]⟩, .slice (some ⟨w.heap.size, 0, none⟩) 4 4]
    rw [show (w.alloc (.cells cadEC 30)).heap.size = w.heap.size + 1 by simp] at this
    exact this
  have hB0 : Below w.heap.size w W0 := by
    subst hW0
    exact ((Below.refl _ _).alloc (Nat.le_refl _) _).alloc (by simp) _
  have HEN := Lib.hid hen
  have HB0 := Lib.hid hB0
  have b0 := hblk.cell 0
  have b1 := hblk.cell 1
  simp only [List.getElem?_toArray, List.getElem?_cons_zero, List.getElem?_cons_succ] at b0 b1
  have HS0 := Lib.hid (show W0.drew.cell? ⟨w.heap.size + 1, 0, none⟩ = some (.string ⟨#[97, 110, 110]⟩) ∧ W0.drew.cell? ⟨w.heap.size + 1, 1, none⟩ = some (.slice (some ⟨w.heap.size, 0, none⟩) 4 4) ∧ Hid (Below W0.heap.size W0 W0.drew) from ⟨b0, b1, Lib.hid ((Below.refl _ _).drew)⟩)
  clear hW0 hen hblk hB0
  go_region_held3 (fun w' => w'.cell? ⟨w.heap.size + 1, 0, none⟩ = some (.string ⟨#[97, 110, 110]⟩) ∧ w'.cell? ⟨w.heap.size + 1, 1, none⟩ = some (.slice (some ⟨w.heap.size, 0, none⟩) 4 4) ∧ Hid (Below W0.heap.size W0 w'))
    ((first | assumption | exact keep2 hb1 (by assumption) (Nat.le_refl _) | exact HS0.out))
    (first
      | (go_at_call 14; refine (caddieHoles_any _).mono ?_; rintro e w1 ⟨g, rfl, hhol, hgl, hb1⟩)
      | (go_at_call 7; refine (cadAdj_any _ _ _ (by assumption) (by assumption) (HEN.out.keep (heldB (by assumption)))).mono ?_; rintro e w1 ⟨rfl, hb1⟩))
  all_goals
    have hS1 : _ ∧ _ ∧ Hid (Below W0.heap.size W0 _) := (by assumption : w1.cell? ⟨w.heap.size + 1, 0, none⟩ = some (.string ⟨#[97, 110, 110]⟩) ∧ w1.cell? ⟨w.heap.size + 1, 1, none⟩ = some (.slice (some ⟨w.heap.size, 0, none⟩) 4 4) ∧ Hid (Below W0.heap.size W0 w1))
    go_wp2
    have c0 := hS1.1
    have c1 := hS1.2.1
    have HS1 := Lib.hid (show w1.drew.cell? ⟨w.heap.size + 1, 0, none⟩ = some (.string ⟨#[97, 110, 110]⟩) ∧ w1.drew.cell? ⟨w.heap.size + 1, 1, none⟩ = some (.slice (some ⟨w.heap.size, 0, none⟩) 4 4) ∧ Hid (Below W0.heap.size W0 w1.drew) from ⟨c0, c1, Lib.hid (hS1.2.2.out.drew)⟩)
    clear hS1 c0 c1 hb1 b0 b1
    go_region_held3 (fun w' => w'.cell? ⟨w.heap.size + 1, 0, none⟩ = some (.string ⟨#[97, 110, 110]⟩) ∧ w'.cell? ⟨w.heap.size + 1, 1, none⟩ = some (.slice (some ⟨w.heap.size, 0, none⟩) 4 4) ∧ Hid (Below W0.heap.size W0 w'))
      ((first | assumption | exact keep2 hb2 (by assumption) (Nat.le_refl _) | exact HS1.out))
      (first
        | (go_at_call 14; refine (caddieHoles_any _).mono ?_; rintro e w2 ⟨g2, rfl, hhol2, hgl2, hb2⟩)
        | (go_at_call 8; refine (cadPts_any _ _ _ (by assumption) (by assumption) (HEN.out.keep (heldB (by assumption)))).mono ?_; rintro e w2 ⟨p, rfl, hrow, hb2⟩))
    all_goals
      have hS2 : _ ∧ _ ∧ Hid (Below W0.heap.size W0 _) := (by assumption : w2.cell? ⟨w.heap.size + 1, 0, none⟩ = some (.string ⟨#[97, 110, 110]⟩) ∧ w2.cell? ⟨w.heap.size + 1, 1, none⟩ = some (.slice (some ⟨w.heap.size, 0, none⟩) 4 4) ∧ Hid (Below W0.heap.size W0 w2))
      have HB2 := Lib.hid (HB0.out.trans (hS2.2.2.out.mono HB0.out.size))
      have HROW := Lib.hid hrow
      clear hS2 hb2 hrow
      go_wp2_with fail
      generalize hW3 : w2.alloc (.cells #[.int .i64 3, .int .i64 2, .int .i64 2, .int .i64 0] 3) = W3
      have hrow3 : RowI W3 p [3, 2, 2, 0] := by subst hW3; exact HROW.out.alloc _
      have hrow4 : RowI W3 w2.heap.size [3, 2, 2, 0] := by subst hW3; exact RowI.new w2 [3, 2, 2, 0]
      have HB3 : Hid (Below w.heap.size w W3) := Lib.hid (by subst hW3; exact HB2.out.alloc HB2.out.size _)
      refine (sameInts_any _ _ 4 4 [3, 2, 2, 0] [3, 2, 2, 0] _ (hrow3.ints hrow3.lt).ints (hrow4.ints hrow4.lt).ints (by simp)).mono ?_
      rintro e w4 ⟨rfl, n, rfl⟩
      rw [decide_eq_true (rfl : ([3, 2, 2, 0] : List Int) = [3, 2, 2, 0])]
      clear hW3 hrow3 hrow4
      go_wp2
      go_ret
      exact ⟨rfl, below_drewN HB3.out n⟩
end Go.Proofs.YtmnmdeehcdfkfaaDoor
