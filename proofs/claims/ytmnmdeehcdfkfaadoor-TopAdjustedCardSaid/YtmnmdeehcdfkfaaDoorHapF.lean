/- The law TopAdjusted: where its premises fail, it is the fixed example. -/
import Derived.Test.YtmnmdeehcdfkfaaDoorHapE
import Derived.Outline
namespace Go.Proofs.YtmnmdeehcdfkfaaDoor
open Go.RowKit

set_option maxRecDepth 100000 in
set_option maxHeartbeats 4000000 in
theorem law_long (A B : Option Addr) (c d : Nat) (hs : List (Int × Int)) (nm : ByteArray) (l : List (Int × ByteArray)) (h : Int) (w : World) (hr : HolesR w A hs) (hbl : ∀ a, A = some a → a.block < w.heap.size)
    (he : EntriesR w B l) (hl2 : l.length ≤ 4611686018427387904) (h1 : 18 < hs.length) :
    Calls Tryd.prog 3 #[.slice A hs.length c, .agg #[.string nm, .slice B l.length d], .int .i64 h] w fun e w' => e = .returned (.bool true) ∧ Below w.heap.size w w' := by
  clear hr hbl he hl2
  have h1i : (18 : Int) < (hs.length : Int) := by omega
  go_enter Tryd.func3, Tryd.ntmps3
  go_wp2_with fail
  refine (caddiePoints_any _).mono ?_
  rintro e w3 ⟨rfl, hb3⟩
  have HB3 := Lib.hid ((((Below.refl w.heap.size w).alloc (Nat.le_refl _) (.cells #[.string nm, .slice B l.length d] 25))).trans (hb3.mono (((Below.refl w.heap.size w).alloc (Nat.le_refl _) (.cells #[.string nm, .slice B l.length d] 25))).size))
  clear hb3
  go_wp2
  go_ret
  exact ⟨rfl, HB3.out⟩

set_option maxRecDepth 100000 in
set_option maxHeartbeats 4000000 in
theorem law_holes (A B : Option Addr) (c d : Nat) (hs : List (Int × Int)) (nm : ByteArray) (l : List (Int × ByteArray)) (h : Int) (w : World) (hr : HolesR w A hs) (hbl : ∀ a, A = some a → a.block < w.heap.size)
    (he : EntriesR w B l) (hl2 : l.length ≤ 4611686018427387904) (h1 : ¬ 18 < hs.length) (h2 : holesI hs ≠ 0) :
    Calls Tryd.prog 3 #[.slice A hs.length c, .agg #[.string nm, .slice B l.length d], .int .i64 h] w fun e w' => e = .returned (.bool true) ∧ Below w.heap.size w w' := by
  have HR := Lib.hid hr
  have HBL := Lib.hid hbl
  have HE := Lib.hid he
  have HL2 := Lib.hid hl2
  have h1i : (hs.length : Int) ≤ 18 := by omega
  have h2b : (holesI hs != 0) = true := by simpa using h2
  clear hr hbl he hl2
  go_enter Tryd.func3, Tryd.ntmps3
  go_wp2_with fail
  refine (refCheckHoles_any A c hs _ (HR.out.keep HBL.out ((Below.refl _ _).alloc (Nat.le_refl _) _))).mono ?_
  rintro e w1 ⟨rfl, n1, rfl⟩
  generalize hW1 : (w.alloc (.cells #[.string nm, .slice B l.length d] 25)).drewN n1 = W1
  have hblk : BlkV W1 w.heap.size 25 #[.string nm, .slice B l.length d] := by subst hW1; exact BlkV.new _ _ _
  have hB1 : Below w.heap.size w W1 := by subst hW1; exact below_drewN ((Below.refl _ _).alloc (Nat.le_refl _) _) n1
  have HBLK := Lib.hid hblk
  have HB1 := Lib.hid hB1
  have k0 := hblk.cell 0
  have k1 := hblk.cell 1
  simp only [List.getElem?_toArray, List.getElem?_cons_zero, List.getElem?_cons_succ] at k0 k1
  clear hW1 hblk hB1
  go_wp2_with fail
  refine (caddiePoints_any _).mono ?_
  rintro e w3 ⟨rfl, hb3⟩
  have HB3 := Lib.hid ((HB1.out).trans (hb3.mono (HB1.out).size))
  clear hb3
  go_wp2
  go_ret
  exact ⟨rfl, HB3.out⟩

set_option maxRecDepth 100000 in
set_option maxHeartbeats 4000000 in
theorem law_card (A B : Option Addr) (c d : Nat) (hs : List (Int × Int)) (nm : ByteArray) (l : List (Int × ByteArray)) (h : Int) (w : World) (hr : HolesR w A hs) (hbl : ∀ a, A = some a → a.block < w.heap.size)
    (he : EntriesR w B l) (hl2 : l.length ≤ 4611686018427387904) (h1 : ¬ 18 < hs.length) (h2 : holesI hs = 0) (h3 : cardI hs nm l ≠ 0) :
    Calls Tryd.prog 3 #[.slice A hs.length c, .agg #[.string nm, .slice B l.length d], .int .i64 h] w fun e w' => e = .returned (.bool true) ∧ Below w.heap.size w w' := by
  have HR := Lib.hid hr
  have HBL := Lib.hid hbl
  have HE := Lib.hid he
  have HL2 := Lib.hid hl2
  have h1i : (hs.length : Int) ≤ 18 := by omega
  have h3b : (cardI hs nm l != 0) = true := by simpa using h3
  clear hr hbl he hl2
  go_enter Tryd.func3, Tryd.ntmps3
  go_wp2_with fail
  refine (refCheckHoles_any A c hs _ (HR.out.keep HBL.out ((Below.refl _ _).alloc (Nat.le_refl _) _))).mono ?_
  rintro e w1 ⟨rfl, n1, rfl⟩
  rw [h2]
  generalize hW1 : (w.alloc (.cells #[.string nm, .slice B l.length d] 25)).drewN n1 = W1
  have hblk : BlkV W1 w.heap.size 25 #[.string nm, .slice B l.length d] := by subst hW1; exact BlkV.new _ _ _
  have hB1 : Below w.heap.size w W1 := by subst hW1; exact below_drewN ((Below.refl _ _).alloc (Nat.le_refl _) _) n1
  have HBLK := Lib.hid hblk
  have HB1 := Lib.hid hB1
  have k0 := hblk.cell 0
  have k1 := hblk.cell 1
  simp only [List.getElem?_toArray, List.getElem?_cons_zero, List.getElem?_cons_succ] at k0 k1
  clear hW1 hblk hB1
  go_wp2_with fail
  refine (refCheckCard_any A B c d hs nm l _ (HR.out.keep HBL.out HB1.out) (fun a ha => Nat.lt_of_lt_of_le (HBL.out a ha) HB1.out.size) (by omega) (HE.out.keep HB1.out) HL2.out).mono ?_
  rintro e w2 ⟨rfl, hb2⟩
  have HB2 := Lib.hid (HB1.out.trans (hb2.mono HB1.out.size))
  clear hb2
  go_wp2_with fail
  refine (caddiePoints_any _).mono ?_
  rintro e w3 ⟨rfl, hb3⟩
  have HB3 := Lib.hid ((HB2.out).trans (hb3.mono (HB2.out).size))
  clear hb3
  go_wp2
  go_ret
  exact ⟨rfl, HB3.out⟩

set_option maxRecDepth 100000 in
set_option maxHeartbeats 4000000 in
theorem law_range (A B : Option Addr) (c d : Nat) (hs : List (Int × Int)) (nm : ByteArray) (l : List (Int × ByteArray)) (h : Int) (w : World) (hr : HolesR w A hs) (hbl : ∀ a, A = some a → a.block < w.heap.size)
    (he : EntriesR w B l) (hl2 : l.length ≤ 4611686018427387904) (h1 : ¬ 18 < hs.length) (h2 : holesI hs = 0) (h3 : cardI hs nm l = 0) (h4 : h < -20 ∨ 60 < h) :
    Calls Tryd.prog 3 #[.slice A hs.length c, .agg #[.string nm, .slice B l.length d], .int .i64 h] w fun e w' => e = .returned (.bool true) ∧ Below w.heap.size w w' := by
  have HR := Lib.hid hr
  have HBL := Lib.hid hbl
  have HE := Lib.hid he
  have HL2 := Lib.hid hl2
  have h1i : (hs.length : Int) ≤ 18 := by omega
  clear hr hbl he hl2
  rcases h4 with h4 | h4
  · go_enter Tryd.func3, Tryd.ntmps3
    go_wp2_with fail
    refine (refCheckHoles_any A c hs _ (HR.out.keep HBL.out ((Below.refl _ _).alloc (Nat.le_refl _) _))).mono ?_
    rintro e w1 ⟨rfl, n1, rfl⟩
    rw [h2]
    generalize hW1 : (w.alloc (.cells #[.string nm, .slice B l.length d] 25)).drewN n1 = W1
    have hblk : BlkV W1 w.heap.size 25 #[.string nm, .slice B l.length d] := by subst hW1; exact BlkV.new _ _ _
    have hB1 : Below w.heap.size w W1 := by subst hW1; exact below_drewN ((Below.refl _ _).alloc (Nat.le_refl _) _) n1
    have HBLK := Lib.hid hblk
    have HB1 := Lib.hid hB1
    have k0 := hblk.cell 0
    have k1 := hblk.cell 1
    simp only [List.getElem?_toArray, List.getElem?_cons_zero, List.getElem?_cons_succ] at k0 k1
    clear hW1 hblk hB1
    go_wp2_with fail
    refine (refCheckCard_any A B c d hs nm l _ (HR.out.keep HBL.out HB1.out) (fun a ha => Nat.lt_of_lt_of_le (HBL.out a ha) HB1.out.size) (by omega) (HE.out.keep HB1.out) HL2.out).mono ?_
    rintro e w2 ⟨rfl, hb2⟩
    have HB2 := Lib.hid (HB1.out.trans (hb2.mono HB1.out.size))
    clear hb2
    rw [h3]
    go_wp2_with fail
    refine (caddiePoints_any _).mono ?_
    rintro e w3 ⟨rfl, hb3⟩
    have HB3 := Lib.hid ((HB2.out).trans (hb3.mono (HB2.out).size))
    clear hb3
    go_wp2
    go_ret
    exact ⟨rfl, HB3.out⟩
  · go_enter Tryd.func3, Tryd.ntmps3
    go_wp2_with fail
    refine (refCheckHoles_any A c hs _ (HR.out.keep HBL.out ((Below.refl _ _).alloc (Nat.le_refl _) _))).mono ?_
    rintro e w1 ⟨rfl, n1, rfl⟩
    rw [h2]
    generalize hW1 : (w.alloc (.cells #[.string nm, .slice B l.length d] 25)).drewN n1 = W1
    have hblk : BlkV W1 w.heap.size 25 #[.string nm, .slice B l.length d] := by subst hW1; exact BlkV.new _ _ _
    have hB1 : Below w.heap.size w W1 := by subst hW1; exact below_drewN ((Below.refl _ _).alloc (Nat.le_refl _) _) n1
    have HBLK := Lib.hid hblk
    have HB1 := Lib.hid hB1
    have k0 := hblk.cell 0
    have k1 := hblk.cell 1
    simp only [List.getElem?_toArray, List.getElem?_cons_zero, List.getElem?_cons_succ] at k0 k1
    clear hW1 hblk hB1
    go_wp2_with fail
    refine (refCheckCard_any A B c d hs nm l _ (HR.out.keep HBL.out HB1.out) (fun a ha => Nat.lt_of_lt_of_le (HBL.out a ha) HB1.out.size) (by omega) (HE.out.keep HB1.out) HL2.out).mono ?_
    rintro e w2 ⟨rfl, hb2⟩
    have HB2 := Lib.hid (HB1.out.trans (hb2.mono HB1.out.size))
    clear hb2
    rw [h3]
    go_wp2_with fail
    refine (caddiePoints_any _).mono ?_
    rintro e w3 ⟨rfl, hb3⟩
    have HB3 := Lib.hid ((HB2.out).trans (hb3.mono (HB2.out).size))
    clear hb3
    go_wp2
    go_ret
    exact ⟨rfl, HB3.out⟩
end Go.Proofs.YtmnmdeehcdfkfaaDoor
