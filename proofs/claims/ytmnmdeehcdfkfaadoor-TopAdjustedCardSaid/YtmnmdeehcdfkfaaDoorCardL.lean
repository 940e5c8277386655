/- CheckCard of the reference and of the program: both return cardI. -/
import Derived.Test.YtmnmdeehcdfkfaaDoorCardK
import Derived.Test.YtmnmdeehcdfkfaaDoorCardR
namespace Go.Proofs.YtmnmdeehcdfkfaaDoor
open Go.RowKit

theorem Ints.four (w : World) (g T : Nat) (x y z u : Int) (hg : w.heap.size = g) :
    Ints (w.alloc (.cells #[.int .i64 x, .int .i64 y, .int .i64 z, .int .i64 u] T)) (some ⟨g, 0, none⟩) [x, y, z, u] := by
  subst hg
  exact Ints.of_block (heap_alloc_new w _) _ fun j hj => match j, hj with
    | 0, _ => rfl
    | 1, _ => rfl
    | 2, _ => rfl
    | 3, _ => rfl

theorem cell_lt {W : World} {g i : Nat} {v : Value} (h : W.cell? ⟨g, i, none⟩ = some v) : g < W.heap.size := by
  rcases Nat.lt_or_ge g W.heap.size with hlt | hge
  · exact hlt
  · unfold World.cell? at h
    rw [show W.heap[(⟨g, i, none⟩ : Addr).block]? = none from Array.getElem?_eq_none hge] at h
    cases h

theorem heldB {C D : Prop} {B : Nat} {w W : World} (h : C ∧ D ∧ Hid (Below B w W)) : Below B w W := h.2.2

theorem keep2 {w W w1 : World} {B g : Nat} {u v : Value} (hb : Below W.heap.size W w1) (h : W.cell? ⟨g, 0, none⟩ = some u ∧ W.cell? ⟨g, 1, none⟩ = some v ∧ Hid (Below B w W)) (hB : B ≤ w.heap.size) :
    w1.cell? ⟨g, 0, none⟩ = some u ∧ w1.cell? ⟨g, 1, none⟩ = some v ∧ Hid (Below B w w1) :=
  ⟨(hb.cell (p := ⟨_, _, none⟩) (cell_lt h.1)).trans h.1, (hb.cell (p := ⟨_, _, none⟩) (cell_lt h.1)).trans h.2.1, h.2.2.out.trans (hb.mono (Nat.le_trans hB h.2.2.out.size))⟩

theorem keep2_alloc {w W : World} {B g : Nat} {u v : Value} (o : Obj) (h : W.cell? ⟨g, 0, none⟩ = some u ∧ W.cell? ⟨g, 1, none⟩ = some v ∧ Hid (Below B w W)) (hB : B ≤ w.heap.size) :
    (W.alloc o).cell? ⟨g, 0, none⟩ = some u ∧ (W.alloc o).cell? ⟨g, 1, none⟩ = some v ∧ Hid (Below B w (W.alloc o)) :=
  keep2 ((Below.refl _ _).alloc (Nat.le_refl _) _) h hB

set_option maxRecDepth 100000 in
set_option maxHeartbeats 4000000 in
theorem checkCard_any (A B : Option Addr) (c d : Nat) (hs : List (Int × Int)) (player : ByteArray) (l : List (Int × ByteArray)) (w : World) (hr : HolesR w A hs) (hbl : ∀ a, A = some a → a.block < w.heap.size)
    (hl : hs.length ≤ 4611686018427387904) (he : EntriesR w B l) (hl2 : l.length ≤ 4611686018427387904) :
    Calls Tryd.prog 18 #[.slice A hs.length c, .agg #[.string player, .slice B l.length d]] w fun e w' => e = .returned (.int .i64 (cardI hs player l)) ∧ Below w.heap.size w w' := by
  have HR := Lib.hid hr
  have HB := Lib.hid hbl
  have HE := Lib.hid he
  have HS0 := Lib.hid (fun o => below_drewN ((Below.refl w.heap.size w).alloc (Nat.le_refl _) o) 1)
  clear hr he hbl
  go_enter Tryd.func18, Tryd.ntmps18
  go_wp2
  go_region_held3 (fun w' => w'.cell? ⟨w.heap.size, 0, none⟩ = some (.string player) ∧ w'.cell? ⟨w.heap.size, 1, none⟩ = some (.slice B l.length d) ∧ Hid (Below w.heap.size w w'))
    ((first | assumption | exact keep2 hb1 (by assumption) (Nat.le_refl _) | exact keep2_alloc _ (by assumption) (Nat.le_refl _) | exact ⟨by go_simp, by go_simp, HS0.out _⟩))
    (first
      | (go_at_call 34; refine (cardIsName_any _ _).mono ?_; rintro e w1 ⟨rfl, hb1⟩)
      | (go_at_call 27; refine (checkHoles_any _ _ hs _ (HR.out.keep HB.out (heldB (by assumption))) (fun a h => Nat.lt_of_lt_of_le (HB.out a h) (heldB (B := w.heap.size) (w := w) (by assumption)).size) hl).mono ?_; rintro e w1 ⟨rfl, hb1⟩)
      | (go_at_call 36; refine (checkEntries_any _ _ l _ hl2 (HE.out.keep (heldB (by assumption)))).mono ?_; rintro e w1 ⟨rfl, hb1⟩)
      | (go_at_call 35; refine (pairedEntryHole_any _ _ _ _ _ _ _).mono ?_; rintro e w1 ⟨rfl, rfl⟩)
      | (go_at_call 32; refine (first_any _ _ [_, _, _, _] _ (by simp) (Ints.four _ _ _ _ _ _ _ rfl)).mono ?_; rintro e w1 ⟨rfl, rfl⟩)
      | (go_at_call 33; refine (unless_any _ _ _).mono ?_; rintro e w1 ⟨rfl, rfl⟩))
  all_goals go_wp2
  all_goals go_ret
  all_goals exact ⟨rfl, by first | exact heldB (by assumption) | exact (heldB (by assumption)).alloc (heldB (B := w.heap.size) (w := w) (by assumption)).size _⟩

end Go.Proofs.YtmnmdeehcdfkfaaDoor
