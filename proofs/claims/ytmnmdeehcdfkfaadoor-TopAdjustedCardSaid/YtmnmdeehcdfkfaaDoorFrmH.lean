/- CheckPlayer, readRound. -/
import Derived.Test.YtmnmdeehcdfkfaaDoorCardL
import Derived.Test.YtmnmdeehcdfkfaaDoorFrmG
namespace Go.Proofs.YtmnmdeehcdfkfaaDoor
open Go.RowKit

def playerI (hs : List (Int × Int)) (nm : ByteArray) (l : List (Int × ByteArray)) (h : Int) : Int := firstI [holesI hs, cardI hs nm l, withinI h (-99) 99]

theorem keep3 {w W w1 : World} {B g : Nat} {u v x : Value} (hb : Below W.heap.size W w1) (h : W.cell? ⟨g, 0, none⟩ = some u ∧ W.cell? ⟨g, 1, none⟩ = some v ∧ W.cell? ⟨g, 2, none⟩ = some x ∧ Hid (Below B w W)) (hB : B ≤ w.heap.size) :
    w1.cell? ⟨g, 0, none⟩ = some u ∧ w1.cell? ⟨g, 1, none⟩ = some v ∧ w1.cell? ⟨g, 2, none⟩ = some x ∧ Hid (Below B w w1) :=
  ⟨(hb.cell (p := ⟨_, _, none⟩) (cell_lt h.1)).trans h.1, (hb.cell (p := ⟨_, _, none⟩) (cell_lt h.1)).trans h.2.1, (hb.cell (p := ⟨_, _, none⟩) (cell_lt h.1)).trans h.2.2.1, h.2.2.2.out.trans (hb.mono (Nat.le_trans hB h.2.2.2.out.size))⟩
theorem keep3_alloc {w W : World} {B g : Nat} {u v x : Value} (o : Obj) (h : W.cell? ⟨g, 0, none⟩ = some u ∧ W.cell? ⟨g, 1, none⟩ = some v ∧ W.cell? ⟨g, 2, none⟩ = some x ∧ Hid (Below B w W)) (hB : B ≤ w.heap.size) :
    (W.alloc o).cell? ⟨g, 0, none⟩ = some u ∧ (W.alloc o).cell? ⟨g, 1, none⟩ = some v ∧ (W.alloc o).cell? ⟨g, 2, none⟩ = some x ∧ Hid (Below B w (W.alloc o)) :=
  keep3 ((Below.refl _ _).alloc (Nat.le_refl _) _) h hB
theorem heldC {C D E : Prop} {B : Nat} {w W : World} (h : C ∧ D ∧ E ∧ Hid (Below B w W)) : Below B w W := h.2.2.2

set_option maxRecDepth 100000 in
set_option maxHeartbeats 4000000 in
theorem fmCheckPlayer_any (A B : Option Addr) (c d : Nat) (hs : List (Int × Int)) (nm : ByteArray) (l : List (Int × ByteArray)) (h : Int) (w : World) (hr : HolesR w A hs) (hbl : ∀ a, A = some a → a.block < w.heap.size)
    (hl : hs.length ≤ 4611686018427387904) (he : EntriesR w B l) (hl2 : l.length ≤ 4611686018427387904) :
    Calls Tryd.prog 38 #[.slice A hs.length c, .agg #[.string nm, .slice B l.length d, .int .i64 h]] w fun e w' => e = .returned (.int .i64 (playerI hs nm l h)) ∧ Below w.heap.size w w' := by
  have HR := Lib.hid hr
  have HB := Lib.hid hbl
  have HE := Lib.hid he
  have HS0 := Lib.hid (fun o => below_drewN ((Below.refl w.heap.size w).alloc (Nat.le_refl _) o) 1)
  clear hr he hbl
  go_enter Tryd.func38, Tryd.ntmps38
  go_wp2
  go_region_held3 (fun w' => w'.cell? ⟨w.heap.size, 0, none⟩ = some (.string nm) ∧ w'.cell? ⟨w.heap.size, 1, none⟩ = some (.slice B l.length d) ∧ w'.cell? ⟨w.heap.size, 2, none⟩ = some (.int .i64 h) ∧ Hid (Below w.heap.size w w'))
    ((first | assumption | exact keep3 hb1 (by assumption) (Nat.le_refl _) | exact keep3_alloc _ (by assumption) (Nat.le_refl _) | exact ⟨by go_simp, by go_simp, by go_simp, HS0.out _⟩))
    (first
      | (go_at_call 27; refine (checkHoles_any _ _ hs _ (HR.out.keep HB.out (heldC (by assumption))) (fun a h => Nat.lt_of_lt_of_le (HB.out a h) (heldC (B := w.heap.size) (w := w) (by assumption)).size) hl).mono ?_; rintro e w1 ⟨rfl, hb1⟩)
      | (go_at_call 18; refine (checkCard_any _ _ _ _ hs _ l _ (HR.out.keep HB.out (heldC (by assumption))) (fun a h => Nat.lt_of_lt_of_le (HB.out a h) (heldC (B := w.heap.size) (w := w) (by assumption)).size) hl (HE.out.keep (heldC (by assumption))) hl2).mono ?_; rintro e w1 ⟨rfl, hb1⟩)
      | (go_at_call 28; refine (fmCheckHandicap_any _ _).mono ?_; rintro e w1 ⟨rfl, rfl⟩)
      | (go_at_call 26; refine (fmFirst_any _ _ [_, _, _] _ (by simp) (Ints.three _ _ _ _ _ _ rfl)).mono ?_; rintro e w1 ⟨rfl, rfl⟩))
  all_goals go_wp2
  all_goals go_ret
  all_goals exact ⟨rfl, by first | exact heldC (by assumption) | exact (heldC (by assumption)).alloc (heldC (B := w.heap.size) (w := w) (by assumption)).size _⟩

end Go.Proofs.YtmnmdeehcdfkfaaDoor
