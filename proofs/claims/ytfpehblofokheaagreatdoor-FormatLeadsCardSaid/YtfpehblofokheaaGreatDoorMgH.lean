/- Merged: FrDA FrDB FrDC FrDD FrDE FrDF FrDG. -/
import Derived.Test.YtfpehblofokheaaGreatDoorMgF
import Derived.Test.YtfpehblofokheaaGreatDoorNumA
import Derived.Test.YtfpehblofokheaaGreatDoorShelf
import Derived.Laws.Concat
import Derived.Outline
import Derived.Test.YtfpehblofokheaaGreatDoorMgD
import Derived.Test.YtfpehblofokheaaGreatDoorMgC
import Derived.Laws.StructEq
import Derived.Lib.OwnBridge
import Derived.Test.YtfpehblofokheaaGreatDoorMgA
import Derived.Test.YtfpehblofokheaaGreatDoorMgB
import Derived.Test.YtfpehblofokheaaGreatDoorMgG
/- The words of a state. -/
set_option linter.unusedVariables false
set_option linter.unusedSimpArgs false
namespace Go.Proofs.YtfpehblofokheaaGreatDoor
open Go.RowKit

theorem quiet_vb {P : Program} {f : FuncId} {args : Array Value} {w : World} {a n : Nat} {v : Value}
    (h : Calls P f args (w.drewN (a + n)) fun e w' => e = .returned v ∧ w' = w.drewN (a + n)) : Calls P f args (w.drewN (a + n)) fun e w' => e = .returned v ∧ ∃ m, w' = w.drewN (a + m) :=
  h.mono fun _ _ ⟨he, hm⟩ => ⟨he, n, hm⟩

set_option maxRecDepth 100000 in
set_option maxHeartbeats 1000000 in
theorem words_zero (t : Int) (o : Bool) (w : World) :
    Calls Tryz.prog 77 #[.agg #[.int .i64 0, .int .i64 t, .bool o]] w fun e w' => e = .returned (.string ⟨#[104, 97, 108, 118, 101, 100]⟩) ∧ Below w.heap.size w w' := by
  go_enter Tryz.func77, Tryz.ntmps77
  go_wp2
  go_quiet (fail)
  go_wp2
  go_ret
  exact ⟨rfl, below_drewN ((Below.refl _ _).alloc (Nat.le_refl _) _) _⟩

theorem quiet_vc {P : Program} {f : FuncId} {args : Array Value} {w : World} {a b n : Nat} {v : Value}
    (h : Calls P f args (w.drewN (a + (b + n))) fun e w' => e = .returned v ∧ w' = w.drewN (a + (b + n))) : Calls P f args (w.drewN (a + (b + n))) fun e w' => e = .returned v ∧ ∃ m, w' = w.drewN (a + (b + m)) :=
  h.mono fun _ _ ⟨he, hm⟩ => ⟨he, n, hm⟩

set_option maxRecDepth 100000 in
set_option maxHeartbeats 1000000 in
theorem words_pn (u t : Int) (du dt : ByteArray) (o : Bool) (w : World) (hu : 0 < u) (hu2 : -100 < u ∧ u < 100) (ht : 0 < t ∧ t < 100) (HU : Hid (∀ W, Calls Tryz.prog 132 #[.int .i64 u] W fun e w' => e = .returned (.string du) ∧ w' = W))
    (HT : Hid (∀ W, Calls Tryz.prog 132 #[.int .i64 t] W fun e w' => e = .returned (.string dt) ∧ w' = W)) (su : du.size ≤ 100) (st : dt.size ≤ 100) :
    Calls Tryz.prog 77 #[.agg #[.int .i64 u, .int .i64 t, .bool o]] w fun e w' => e = .returned (.string (((((⟨#[102, 105, 114, 115, 116, 32]⟩ : ByteArray) ++ du) ++ (⟨#[32, 97, 110, 100, 32]⟩ : ByteArray)) ++ dt))) ∧ Below w.heap.size w w' := by
  have h1 : (u == 0) = false := by rw [beq_eq_false_iff_ne]; omega
  have h2 : (t == 0) = false := by rw [beq_eq_false_iff_ne]; omega
  go_enter Tryz.func77, Tryz.ntmps77
  go_wp2
  go_quiet (fail)
  go_wp2
  go_quiet ((go_at_call 132; first | exact quiet_vb (HU.out _) | exact quiet_vb (HT.out _) | exact quiet_vc (HU.out _) | exact quiet_vc (HT.out _)))
  go_wp2
  go_ret
  exact ⟨rfl, by repeat first | exact (Below.refl _ _).alloc (Nat.le_refl _) _ | refine below_drewN ?_ _⟩

set_option maxRecDepth 100000 in
set_option maxHeartbeats 1000000 in
theorem words_pz (u t : Int) (du dt : ByteArray) (o : Bool) (w : World) (hu : 0 < u) (hu2 : -100 < u ∧ u < 100) (ht : t = 0) (HU : Hid (∀ W, Calls Tryz.prog 132 #[.int .i64 u] W fun e w' => e = .returned (.string du) ∧ w' = W))
    (HT : Hid (∀ W, Calls Tryz.prog 132 #[.int .i64 t] W fun e w' => e = .returned (.string dt) ∧ w' = W)) (su : du.size ≤ 100) (st : dt.size ≤ 100) :
    Calls Tryz.prog 77 #[.agg #[.int .i64 u, .int .i64 0, .bool o]] w fun e w' => e = .returned (.string ((((⟨#[102, 105, 114, 115, 116, 32]⟩ : ByteArray) ++ du) ++ (⟨#[32, 117, 112]⟩ : ByteArray)))) ∧ Below w.heap.size w w' := by
  have h1 : (u == 0) = false := by rw [beq_eq_false_iff_ne]; omega
  have h2 : (t == 0) = true := by rw [ht]; rfl
  go_enter Tryz.func77, Tryz.ntmps77
  go_wp2
  go_quiet (fail)
  go_wp2_with fail
  refine (HU.out _).mono ?_; rintro e w1 ⟨rfl, rfl⟩
  go_wp2
  go_ret
  exact ⟨rfl, by repeat first | exact (Below.refl _ _).alloc (Nat.le_refl _) _ | refine below_drewN ?_ _⟩

set_option maxRecDepth 100000 in
set_option maxHeartbeats 1000000 in
theorem words_nn (u t : Int) (du dt : ByteArray) (o : Bool) (w : World) (hu : u < 0) (hu2 : -100 < u ∧ u < 100) (ht : 0 < t ∧ t < 100) (HU : Hid (∀ W, Calls Tryz.prog 132 #[.int .i64 (-u)] W fun e w' => e = .returned (.string du) ∧ w' = W))
    (HT : Hid (∀ W, Calls Tryz.prog 132 #[.int .i64 t] W fun e w' => e = .returned (.string dt) ∧ w' = W)) (su : du.size ≤ 100) (st : dt.size ≤ 100) :
    Calls Tryz.prog 77 #[.agg #[.int .i64 u, .int .i64 t, .bool o]] w fun e w' => e = .returned (.string (((((⟨#[115, 101, 99, 111, 110, 100, 32]⟩ : ByteArray) ++ du) ++ (⟨#[32, 97, 110, 100, 32]⟩ : ByteArray)) ++ dt))) ∧ Below w.heap.size w w' := by
  have h1 : (u == 0) = false := by rw [beq_eq_false_iff_ne]; omega
  have h2 : (t == 0) = false := by rw [beq_eq_false_iff_ne]; omega
  go_enter Tryz.func77, Tryz.ntmps77
  go_wp2
  go_quiet (fail)
  go_wp2
  go_quiet (fail)
  go_wp2
  go_quiet ((go_at_call 132; first | exact quiet_vb (HU.out _) | exact quiet_vb (HT.out _) | exact quiet_vc (HU.out _) | exact quiet_vc (HT.out _)))
  go_wp2
  go_ret
  exact ⟨rfl, by repeat first | exact (Below.refl _ _).alloc (Nat.le_refl _) _ | refine below_drewN ?_ _⟩

set_option maxRecDepth 100000 in
set_option maxHeartbeats 1000000 in
theorem words_nz (u t : Int) (du dt : ByteArray) (o : Bool) (w : World) (hu : u < 0) (hu2 : -100 < u ∧ u < 100) (ht : t = 0) (HU : Hid (∀ W, Calls Tryz.prog 132 #[.int .i64 (-u)] W fun e w' => e = .returned (.string du) ∧ w' = W))
    (HT : Hid (∀ W, Calls Tryz.prog 132 #[.int .i64 t] W fun e w' => e = .returned (.string dt) ∧ w' = W)) (su : du.size ≤ 100) (st : dt.size ≤ 100) :
    Calls Tryz.prog 77 #[.agg #[.int .i64 u, .int .i64 0, .bool o]] w fun e w' => e = .returned (.string ((((⟨#[115, 101, 99, 111, 110, 100, 32]⟩ : ByteArray) ++ du) ++ (⟨#[32, 117, 112]⟩ : ByteArray)))) ∧ Below w.heap.size w w' := by
  have h1 : (u == 0) = false := by rw [beq_eq_false_iff_ne]; omega
  have h2 : (t == 0) = true := by rw [ht]; rfl
  go_enter Tryz.func77, Tryz.ntmps77
  go_wp2
  go_quiet (fail)
  go_wp2
  go_quiet (fail)
  go_wp2_with fail
  refine (HU.out _).mono ?_; rintro e w1 ⟨rfl, rfl⟩
  go_wp2
  go_ret
  exact ⟨rfl, by repeat first | exact (Below.refl _ _).alloc (Nat.le_refl _) _ | refine below_drewN ?_ _⟩

def winB (u : Int) : ByteArray := if u < 0 then ⟨#[115, 101, 99, 111, 110, 100, 32]⟩ else ⟨#[102, 105, 114, 115, 116, 32]⟩
/-- The words of a state that is over. -/
def wordsB (u t : Int) : ByteArray := if u = 0 then ⟨#[104, 97, 108, 118, 101, 100]⟩ else if t = 0 then (winB u ++ numB u.natAbs) ++ ⟨#[32, 117, 112]⟩ else ((winB u ++ numB u.natAbs) ++ ⟨#[32, 97, 110, 100, 32]⟩) ++ numB t.toNat

theorem words_any (u t : Int) (o : Bool) (w : World) (hu : -100 < u ∧ u < 100) (ht : 0 ≤ t ∧ t < 100) :
    Calls Tryz.prog 77 #[.agg #[.int .i64 u, .int .i64 t, .bool o]] w fun e w' => e = .returned (.string (wordsB u t)) ∧ Below w.heap.size w w' := by
  unfold wordsB
  by_cases h0 : u = 0
  · subst h0; rw [if_pos rfl]; exact words_zero t o w
  · rw [if_neg h0]
    have hn := numB_size u.natAbs (by omega)
    have ht2 := numB_size t.toNat (by omega)
    have HT : Hid (∀ W, Calls Tryz.prog 132 #[.int .i64 t] W fun e w' => e = .returned (.string (numB t.toNat)) ∧ w' = W) := Lib.hid (fun W => by
      have := Tryz.strconv_Itoa_small t.toNat (by omega) W
      rwa [show ((t.toNat : Nat) : Int) = t by omega] at this)
    by_cases hs : u < 0
    · have HU : Hid (∀ W, Calls Tryz.prog 132 #[.int .i64 (-u)] W fun e w' => e = .returned (.string (numB u.natAbs)) ∧ w' = W) := Lib.hid (fun W => by
        have := Tryz.strconv_Itoa_small u.natAbs (by omega) W
        rwa [show ((u.natAbs : Nat) : Int) = -u by omega] at this)
      unfold winB
      rw [if_pos hs]
      by_cases hz : t = 0
      · rw [if_pos hz]
        have := words_nz u t _ _ o w hs hu hz HU HT hn ht2
        subst hz
        exact this
      · rw [if_neg hz]
        exact words_nn u t _ _ o w hs hu (by omega) HU HT hn ht2
    · have HU : Hid (∀ W, Calls Tryz.prog 132 #[.int .i64 u] W fun e w' => e = .returned (.string (numB u.natAbs)) ∧ w' = W) := Lib.hid (fun W => by
        have := Tryz.strconv_Itoa_small u.natAbs (by omega) W
        rwa [show ((u.natAbs : Nat) : Int) = u by omega] at this)
      unfold winB
      rw [if_neg hs]
      by_cases hz : t = 0
      · rw [if_pos hz]
        have := words_pz u t _ _ o w (by omega) hu hz HU HT hn ht2
        subst hz
        exact this
      · rw [if_neg hz]
        exact words_pn u t _ _ o w (by omega) hu (by omega) HU HT hn ht2

end Go.Proofs.YtfpehblofokheaaGreatDoor

/- Describe. -/
namespace Go.Proofs.YtfpehblofokheaaGreatDoor
open Go.RowKit

def descS (z u t : Int) : ByteArray := if z = 0 then wordsB u t else ⟨#[]⟩
def descI (u t : Int) (o ov : Bool) : Int := firstI [withinI t 0 36, withinI u (-36) 36, unlessI ov 19, unlessI (o == ov) 1]
/-- Two states in their boxes, all below. -/
def HeldD (g : Nat) (u t : Int) (o ov : Bool) (w W : World) : Prop :=
  BlkV W w.heap.size 62 #[.int .i64 u, .int .i64 t, .bool o] ∧ BlkV W g 62 #[.int .i64 u, .int .i64 t, .bool ov] ∧ Below w.heap.size w W
theorem HeldD.below {g : Nat} {u t : Int} {o ov : Bool} {w W W' : World} (h : HeldD g u t o ov w W) (hb : Below W.heap.size W W') : HeldD g u t o ov w W' :=
  ⟨h.1.below hb h.1.lt, h.2.1.below hb h.2.1.lt, h.2.2.trans (hb.mono h.2.2.size)⟩
theorem HeldD.s6 {g : Nat} {u t : Int} {o ov : Bool} {w W : World} (h : HeldD g u t o ov w W) :
    W.cell? ⟨w.heap.size, 0, none⟩ = some (.int .i64 u) ∧ W.cell? ⟨w.heap.size, 1, none⟩ = some (.int .i64 t) ∧ W.cell? ⟨w.heap.size, 2, none⟩ = some (.bool o) ∧
    W.cell? ⟨g, 0, none⟩ = some (.int .i64 u) ∧ W.cell? ⟨g, 1, none⟩ = some (.int .i64 t) ∧ W.cell? ⟨g, 2, none⟩ = some (.bool ov) ∧ Hid (HeldD g u t o ov w W) :=
  ⟨h.1.cell 0, h.1.cell 1, h.1.cell 2, h.2.1.cell 0, h.2.1.cell 1, h.2.1.cell 2, Lib.hid h⟩
theorem heldD7 {C1 C2 C3 C4 C5 C6 : Prop} {g : Nat} {u t : Int} {o ov : Bool} {w W : World} (h : C1 ∧ C2 ∧ C3 ∧ C4 ∧ C5 ∧ C6 ∧ Hid (HeldD g u t o ov w W)) : HeldD g u t o ov w W := h.2.2.2.2.2.2.out

theorem HeldD.ad {g : Nat} {u t : Int} {o ov : Bool} {w W : World} (ob : Obj) (h : HeldD g u t o ov w W.drew) : HeldD g u t o ov w (W.alloc ob).drew := HeldD.below (W := W.drew) (W' := W.drew.alloc ob) h ((Below.refl _ _).alloc (Nat.le_refl _) ob)

set_option maxRecDepth 100000 in
set_option maxHeartbeats 4000000 in
theorem describe_true_true (u t z : Int) (w : World) (HS : Hid (∀ W, Calls Tryz.prog 75 #[.int .i64 u, .int .i64 t] W fun e w' => e = .returned (.agg #[.int .i64 u, .int .i64 t, .bool true]) ∧ Below W.heap.size W w'))
    (HDI : Hid (firstI [withinI t 0 36, withinI u (-36) 36, unlessI true 19, unlessI true 1] = z)) (HWD : Hid (z = 0 → ∀ W, Calls Tryz.prog 77 #[.agg #[.int .i64 u, .int .i64 t, .bool true]] W fun e w' => e = .returned (.string (wordsB u t)) ∧ Below W.heap.size W w')) :
    Calls Tryz.prog 33 #[.agg #[.int .i64 u, .int .i64 t, .bool true]] w fun e w' => e = .returned (.tuple #[.string (descS z u t), .int .i64 z]) ∧ Below w.heap.size w w' := by
  by_cases hz : z = 0
  all_goals
    have HZ := Lib.hid hz
    first
      | have hzb : (z != 0) = false := by rw [hz]; rfl
      | have hzb : (z != 0) = true := by simpa using hz
    clear hz
    go_enter Tryz.func33, Tryz.ntmps33
    go_wp2_with fail
    refine (HS.out _).mono ?_; rintro e w1 ⟨rfl, hb1⟩
    have hb0 := (BlkV.new w 62 #[.int .i64 u, .int .i64 t, .bool true])
    have hb2 := hb0.below hb1 hb0.lt
    have HB1 := Lib.hid (((Below.refl w.heap.size w).alloc (Nat.le_refl _) (.cells #[.int .i64 u, .int .i64 t, .bool true] 62)).trans (hb1.mono (by simp)))
    have hbn := BlkV.new w1 62 #[.int .i64 u, .int .i64 t, .bool true]
    have HS0 : Hid (HeldD w1.heap.size u t true true w (w1.alloc (.cells #[.int .i64 u, .int .i64 t, .bool true] 62)).drew) := Lib.hid ⟨(hb2.alloc _).drew, hbn.drew, (HB1.out.alloc HB1.out.size _).drew⟩
    clear hb0 hb1 hb2 hbn
    go_wp2
    go_region_held3 (fun W => W.cell? ⟨w.heap.size, 0, none⟩ = some (.int .i64 u) ∧ W.cell? ⟨w.heap.size, 1, none⟩ = some (.int .i64 t) ∧ W.cell? ⟨w.heap.size, 2, none⟩ = some (.bool true) ∧
      W.cell? ⟨w1.heap.size, 0, none⟩ = some (.int .i64 u) ∧ W.cell? ⟨w1.heap.size, 1, none⟩ = some (.int .i64 t) ∧ W.cell? ⟨w1.heap.size, 2, none⟩ = some (.bool true) ∧ Hid (HeldD w1.heap.size u t true true w W))
      ((first | with_reducible assumption | with_reducible exact (HeldD.ad _ HS0.out).s6 | exact HS0.out.s6))
      (first
        | (go_at_call 76; (with_reducible refine (fmWithin_any _ _ _ _).mono ?_); rintro e w2 ⟨rfl, rfl⟩)
        | (go_at_call 44; (with_reducible refine (fmUnless_any _ _ _).mono ?_); rintro e w2 ⟨rfl, rfl⟩)
        | (go_at_call 42; refine (fmFirst_any _ _ [_, _, _, _] _ (by simp) (Ints.four (w1.alloc (.cells #[.int .i64 u, .int .i64 t, .bool true] 62)) (w1.heap.size + 1) _ _ _ _ _ (by simp)).drew).mono ?_; rintro e w1 ⟨rfl, rfl⟩))
    rw [HDI.out]
  · go_wp2_with fail
    refine (HWD.out HZ.out _).mono ?_; rintro e w3 ⟨rfl, hb3⟩
    have HB3 := Lib.hid hb3
    clear hb3
    go_wp2
    go_ret2
    refine ⟨by rw [descS, if_pos HZ.out, HZ.out]; rfl, ?_⟩
    exact ((HB1.out.alloc HB1.out.size (.cells #[.int .i64 u, .int .i64 t, .bool true] 62)).alloc (by have := HB1.out.size; simp; omega) _).drew.trans (HB3.out.mono (by have := HB1.out.size; simp; omega))
  · go_wp2
    go_ret2
    exact ⟨by rw [descS, if_neg HZ.out]; rfl, (heldD7 (by assumption)).2.2⟩

set_option maxRecDepth 100000 in
set_option maxHeartbeats 4000000 in
theorem describe_true_false (u t z : Int) (w : World) (HS : Hid (∀ W, Calls Tryz.prog 75 #[.int .i64 u, .int .i64 t] W fun e w' => e = .returned (.agg #[.int .i64 u, .int .i64 t, .bool false]) ∧ Below W.heap.size W w'))
    (HDI : Hid (firstI [withinI t 0 36, withinI u (-36) 36, unlessI false 19, unlessI false 1] = z)) (HWD : Hid (z = 0 → ∀ W, Calls Tryz.prog 77 #[.agg #[.int .i64 u, .int .i64 t, .bool true]] W fun e w' => e = .returned (.string (wordsB u t)) ∧ Below W.heap.size W w')) :
    Calls Tryz.prog 33 #[.agg #[.int .i64 u, .int .i64 t, .bool true]] w fun e w' => e = .returned (.tuple #[.string (descS z u t), .int .i64 z]) ∧ Below w.heap.size w w' := by
  by_cases hz : z = 0
  all_goals
    have HZ := Lib.hid hz
    first
      | have hzb : (z != 0) = false := by rw [hz]; rfl
      | have hzb : (z != 0) = true := by simpa using hz
    clear hz
    go_enter Tryz.func33, Tryz.ntmps33
    go_wp2_with fail
    refine (HS.out _).mono ?_; rintro e w1 ⟨rfl, hb1⟩
    have hb0 := (BlkV.new w 62 #[.int .i64 u, .int .i64 t, .bool true])
    have hb2 := hb0.below hb1 hb0.lt
    have HB1 := Lib.hid (((Below.refl w.heap.size w).alloc (Nat.le_refl _) (.cells #[.int .i64 u, .int .i64 t, .bool true] 62)).trans (hb1.mono (by simp)))
    have hbn := BlkV.new w1 62 #[.int .i64 u, .int .i64 t, .bool false]
    have HS0 : Hid (HeldD w1.heap.size u t true false w (w1.alloc (.cells #[.int .i64 u, .int .i64 t, .bool false] 62)).drew) := Lib.hid ⟨(hb2.alloc _).drew, hbn.drew, (HB1.out.alloc HB1.out.size _).drew⟩
    clear hb0 hb1 hb2 hbn
    go_wp2
    go_region_held3 (fun W => W.cell? ⟨w.heap.size, 0, none⟩ = some (.int .i64 u) ∧ W.cell? ⟨w.heap.size, 1, none⟩ = some (.int .i64 t) ∧ W.cell? ⟨w.heap.size, 2, none⟩ = some (.bool true) ∧
      W.cell? ⟨w1.heap.size, 0, none⟩ = some (.int .i64 u) ∧ W.cell? ⟨w1.heap.size, 1, none⟩ = some (.int .i64 t) ∧ W.cell? ⟨w1.heap.size, 2, none⟩ = some (.bool false) ∧ Hid (HeldD w1.heap.size u t true false w W))
      ((first | with_reducible assumption | with_reducible exact (HeldD.ad _ HS0.out).s6 | exact HS0.out.s6))
      (first
        | (go_at_call 76; (with_reducible refine (fmWithin_any _ _ _ _).mono ?_); rintro e w2 ⟨rfl, rfl⟩)
        | (go_at_call 44; (with_reducible refine (fmUnless_any _ _ _).mono ?_); rintro e w2 ⟨rfl, rfl⟩)
        | (go_at_call 42; refine (fmFirst_any _ _ [_, _, _, _] _ (by simp) (Ints.four (w1.alloc (.cells #[.int .i64 u, .int .i64 t, .bool false] 62)) (w1.heap.size + 1) _ _ _ _ _ (by simp)).drew).mono ?_; rintro e w1 ⟨rfl, rfl⟩))
    rw [HDI.out]
  · go_wp2_with fail
    refine (HWD.out HZ.out _).mono ?_; rintro e w3 ⟨rfl, hb3⟩
    have HB3 := Lib.hid hb3
    clear hb3
    go_wp2
    go_ret2
    refine ⟨by rw [descS, if_pos HZ.out, HZ.out]; rfl, ?_⟩
    exact ((HB1.out.alloc HB1.out.size (.cells #[.int .i64 u, .int .i64 t, .bool false] 62)).alloc (by have := HB1.out.size; simp; omega) _).drew.trans (HB3.out.mono (by have := HB1.out.size; simp; omega))
  · go_wp2
    go_ret2
    exact ⟨by rw [descS, if_neg HZ.out]; rfl, (heldD7 (by assumption)).2.2⟩

set_option maxRecDepth 100000 in
set_option maxHeartbeats 4000000 in
theorem describe_false_true (u t z : Int) (w : World) (HS : Hid (∀ W, Calls Tryz.prog 75 #[.int .i64 u, .int .i64 t] W fun e w' => e = .returned (.agg #[.int .i64 u, .int .i64 t, .bool true]) ∧ Below W.heap.size W w'))
    (HDI : Hid (firstI [withinI t 0 36, withinI u (-36) 36, unlessI true 19, unlessI false 1] = z)) (HWD : Hid (z = 0 → ∀ W, Calls Tryz.prog 77 #[.agg #[.int .i64 u, .int .i64 t, .bool false]] W fun e w' => e = .returned (.string (wordsB u t)) ∧ Below W.heap.size W w')) :
    Calls Tryz.prog 33 #[.agg #[.int .i64 u, .int .i64 t, .bool false]] w fun e w' => e = .returned (.tuple #[.string (descS z u t), .int .i64 z]) ∧ Below w.heap.size w w' := by
  by_cases hz : z = 0
  all_goals
    have HZ := Lib.hid hz
    first
      | have hzb : (z != 0) = false := by rw [hz]; rfl
      | have hzb : (z != 0) = true := by simpa using hz
    clear hz
    go_enter Tryz.func33, Tryz.ntmps33
    go_wp2_with fail
    refine (HS.out _).mono ?_; rintro e w1 ⟨rfl, hb1⟩
    have hb0 := (BlkV.new w 62 #[.int .i64 u, .int .i64 t, .bool false])
    have hb2 := hb0.below hb1 hb0.lt
    have HB1 := Lib.hid (((Below.refl w.heap.size w).alloc (Nat.le_refl _) (.cells #[.int .i64 u, .int .i64 t, .bool false] 62)).trans (hb1.mono (by simp)))
    have hbn := BlkV.new w1 62 #[.int .i64 u, .int .i64 t, .bool true]
    have HS0 : Hid (HeldD w1.heap.size u t false true w (w1.alloc (.cells #[.int .i64 u, .int .i64 t, .bool true] 62)).drew) := Lib.hid ⟨(hb2.alloc _).drew, hbn.drew, (HB1.out.alloc HB1.out.size _).drew⟩
    clear hb0 hb1 hb2 hbn
    go_wp2
    go_region_held3 (fun W => W.cell? ⟨w.heap.size, 0, none⟩ = some (.int .i64 u) ∧ W.cell? ⟨w.heap.size, 1, none⟩ = some (.int .i64 t) ∧ W.cell? ⟨w.heap.size, 2, none⟩ = some (.bool false) ∧
      W.cell? ⟨w1.heap.size, 0, none⟩ = some (.int .i64 u) ∧ W.cell? ⟨w1.heap.size, 1, none⟩ = some (.int .i64 t) ∧ W.cell? ⟨w1.heap.size, 2, none⟩ = some (.bool true) ∧ Hid (HeldD w1.heap.size u t false true w W))
      ((first | with_reducible assumption | with_reducible exact (HeldD.ad _ HS0.out).s6 | exact HS0.out.s6))
      (first
        | (go_at_call 76; (with_reducible refine (fmWithin_any _ _ _ _).mono ?_); rintro e w2 ⟨rfl, rfl⟩)
        | (go_at_call 44; (with_reducible refine (fmUnless_any _ _ _).mono ?_); rintro e w2 ⟨rfl, rfl⟩)
        | (go_at_call 42; refine (fmFirst_any _ _ [_, _, _, _] _ (by simp) (Ints.four (w1.alloc (.cells #[.int .i64 u, .int .i64 t, .bool true] 62)) (w1.heap.size + 1) _ _ _ _ _ (by simp)).drew).mono ?_; rintro e w1 ⟨rfl, rfl⟩))
    rw [HDI.out]
  · go_wp2_with fail
    refine (HWD.out HZ.out _).mono ?_; rintro e w3 ⟨rfl, hb3⟩
    have HB3 := Lib.hid hb3
    clear hb3
    go_wp2
    go_ret2
    refine ⟨by rw [descS, if_pos HZ.out, HZ.out]; rfl, ?_⟩
    exact ((HB1.out.alloc HB1.out.size (.cells #[.int .i64 u, .int .i64 t, .bool true] 62)).alloc (by have := HB1.out.size; simp; omega) _).drew.trans (HB3.out.mono (by have := HB1.out.size; simp; omega))
  · go_wp2
    go_ret2
    exact ⟨by rw [descS, if_neg HZ.out]; rfl, (heldD7 (by assumption)).2.2⟩

set_option maxRecDepth 100000 in
set_option maxHeartbeats 4000000 in
theorem describe_false_false (u t z : Int) (w : World) (HS : Hid (∀ W, Calls Tryz.prog 75 #[.int .i64 u, .int .i64 t] W fun e w' => e = .returned (.agg #[.int .i64 u, .int .i64 t, .bool false]) ∧ Below W.heap.size W w'))
    (HDI : Hid (firstI [withinI t 0 36, withinI u (-36) 36, unlessI false 19, unlessI true 1] = z)) (HWD : Hid (z = 0 → ∀ W, Calls Tryz.prog 77 #[.agg #[.int .i64 u, .int .i64 t, .bool false]] W fun e w' => e = .returned (.string (wordsB u t)) ∧ Below W.heap.size W w')) :
    Calls Tryz.prog 33 #[.agg #[.int .i64 u, .int .i64 t, .bool false]] w fun e w' => e = .returned (.tuple #[.string (descS z u t), .int .i64 z]) ∧ Below w.heap.size w w' := by
  by_cases hz : z = 0
  all_goals
    have HZ := Lib.hid hz
    first
      | have hzb : (z != 0) = false := by rw [hz]; rfl
      | have hzb : (z != 0) = true := by simpa using hz
    clear hz
    go_enter Tryz.func33, Tryz.ntmps33
    go_wp2_with fail
    refine (HS.out _).mono ?_; rintro e w1 ⟨rfl, hb1⟩
    have hb0 := (BlkV.new w 62 #[.int .i64 u, .int .i64 t, .bool false])
    have hb2 := hb0.below hb1 hb0.lt
    have HB1 := Lib.hid (((Below.refl w.heap.size w).alloc (Nat.le_refl _) (.cells #[.int .i64 u, .int .i64 t, .bool false] 62)).trans (hb1.mono (by simp)))
    have hbn := BlkV.new w1 62 #[.int .i64 u, .int .i64 t, .bool false]
    have HS0 : Hid (HeldD w1.heap.size u t false false w (w1.alloc (.cells #[.int .i64 u, .int .i64 t, .bool false] 62)).drew) := Lib.hid ⟨(hb2.alloc _).drew, hbn.drew, (HB1.out.alloc HB1.out.size _).drew⟩
    clear hb0 hb1 hb2 hbn
    go_wp2
    go_region_held3 (fun W => W.cell? ⟨w.heap.size, 0, none⟩ = some (.int .i64 u) ∧ W.cell? ⟨w.heap.size, 1, none⟩ = some (.int .i64 t) ∧ W.cell? ⟨w.heap.size, 2, none⟩ = some (.bool false) ∧
      W.cell? ⟨w1.heap.size, 0, none⟩ = some (.int .i64 u) ∧ W.cell? ⟨w1.heap.size, 1, none⟩ = some (.int .i64 t) ∧ W.cell? ⟨w1.heap.size, 2, none⟩ = some (.bool false) ∧ Hid (HeldD w1.heap.size u t false false w W))
      ((first | with_reducible assumption | with_reducible exact (HeldD.ad _ HS0.out).s6 | exact HS0.out.s6))
      (first
        | (go_at_call 76; (with_reducible refine (fmWithin_any _ _ _ _).mono ?_); rintro e w2 ⟨rfl, rfl⟩)
        | (go_at_call 44; (with_reducible refine (fmUnless_any _ _ _).mono ?_); rintro e w2 ⟨rfl, rfl⟩)
        | (go_at_call 42; refine (fmFirst_any _ _ [_, _, _, _] _ (by simp) (Ints.four (w1.alloc (.cells #[.int .i64 u, .int .i64 t, .bool false] 62)) (w1.heap.size + 1) _ _ _ _ _ (by simp)).drew).mono ?_; rintro e w1 ⟨rfl, rfl⟩))
    rw [HDI.out]
  · go_wp2_with fail
    refine (HWD.out HZ.out _).mono ?_; rintro e w3 ⟨rfl, hb3⟩
    have HB3 := Lib.hid hb3
    clear hb3
    go_wp2
    go_ret2
    refine ⟨by rw [descS, if_pos HZ.out, HZ.out]; rfl, ?_⟩
    exact ((HB1.out.alloc HB1.out.size (.cells #[.int .i64 u, .int .i64 t, .bool false] 62)).alloc (by have := HB1.out.size; simp; omega) _).drew.trans (HB3.out.mono (by have := HB1.out.size; simp; omega))
  · go_wp2
    go_ret2
    exact ⟨by rw [descS, if_neg HZ.out]; rfl, (heldD7 (by assumption)).2.2⟩

theorem describe_of (u t : Int) (o ov : Bool) (w : World) (HS : Hid (∀ W, Calls Tryz.prog 75 #[.int .i64 u, .int .i64 t] W fun e w' => e = .returned (.agg #[.int .i64 u, .int .i64 t, .bool ov]) ∧ Below W.heap.size W w')) :
    Calls Tryz.prog 33 #[.agg #[.int .i64 u, .int .i64 t, .bool o]] w fun e w' => e = .returned (.tuple #[.string (descS (descI u t o ov) u t), .int .i64 (descI u t o ov)]) ∧ Below w.heap.size w w' := by
  have HWD : Hid (descI u t o ov = 0 → ∀ W, Calls Tryz.prog 77 #[.agg #[.int .i64 u, .int .i64 t, .bool o]] W fun e w' => e = .returned (.string (wordsB u t)) ∧ Below W.heap.size W w') := Lib.hid (fun h0 W => by
    have h1 := firstI_zero _ h0 (withinI t 0 36) (by simp)
    have h2 := firstI_zero _ h0 (withinI u (-36) 36) (by simp)
    unfold withinI at h1 h2
    by_cases g1 : 0 ≤ t ∧ t ≤ 36
    · by_cases g2 : -36 ≤ u ∧ u ≤ 36
      · exact words_any u t o W (by omega) (by omega)
      · rw [if_neg g2] at h2; omega
    · rw [if_neg g1] at h1; omega)
  cases o <;> cases ov
  · exact describe_false_false u t _ w HS (Lib.hid rfl) HWD
  · exact describe_false_true u t _ w HS (Lib.hid rfl) HWD
  · exact describe_true_false u t _ w HS (Lib.hid rfl) HWD
  · exact describe_true_true u t _ w HS (Lib.hid rfl) HWD

end Go.Proofs.YtfpehblofokheaaGreatDoor

/- slices.Values, slices.Collect. -/
namespace Go.Proofs.YtfpehblofokheaaGreatDoor
open Go.RowKit Go.Shelf

attribute [local go_sem] Oper.semAt_some

set_option maxHeartbeats 400000 in
theorem values_any (A : Option Addr) (n c : Nat) (w : World) :
    Calls Tryz.prog 80 #[.slice A n c] w fun e w' => e = .returned (.func (.func 135) #[] #[.pointer (some ⟨w.heap.size, 0, none⟩)]) ∧ w.alloc (.cells #[.slice A n c] 35) = w' := by
  go_enter Tryz.func80, Tryz.ntmps80
  go_wp2
  go_ret
  exact ⟨rfl, rfl⟩

set_option maxRecDepth 100000 in
set_option maxHeartbeats 20000000 in
/-- The iterator over a slice of numbers, for every loop body that keeps what lay below n₀. -/
theorem values1_in (n : Nat) (hn : 1 ≤ n) (l Ba n₀ : Nat) (A : Option Addr) (c : Nat) (xs : List Int) (h64 : xs.length ≤ 100000)
    (J Jx : List Int → World → Prop)
    (hY : ∀ pre x W, J pre W → pre.length < xs.length → YieldAt Fence.wide (n - 1) Tryz.prog l #[.int .i64 x] W fun e W' =>
      (e = .returned (.bool true) ∧ J (pre ++ [x]) W' ∧ Below n₀ W W') ∨ (e = .returned (.bool false) ∧ Jx (pre ++ [x]) W'))
    (W : World) (hBa : W.cell? ⟨Ba, 0, none⟩ = some (.slice A xs.length c)) (hpa : IntsAt W n₀ A xs) (h0 : J [] W) :
    CallsIn Fence.wide n Tryz.prog 135 #[.func (.yield l) #[] #[], .pointer (some ⟨Ba, 0, none⟩)] W fun e W' => (∃ v, e = .returned v) ∧
      ((∃ ys, ys = xs ∧ J ys W') ∨ (∃ pre, pre <+: xs ∧ Jx pre W')) := by
  have HY := Lib.hid hY
  have HPA := Lib.hid hpa
  clear hpa hY
  refine callsIn_of_wp Tryz.func135 rfl trivial ?_ rfl
  simp only [Tryz.ntmps135, List.size_toArray, List.length_cons, List.length_nil, Nat.reduceAdd, Nat.reduceSub, Array.replicate_succ, Array.replicate_zero, List.push_toArray, List.append_toArray, List.nil_append, List.cons_append]
  gi_wp2
  gi_loopw [7] (fun i wr => ∃ k : Nat, k ≤ xs.length ∧ i = .int .i64 k ∧ J (xs.take k) wr ∧ Below n₀ W wr) (fun i _ => xs.length - (intOf i).toNat)
  case atStart => exact ⟨0, Nat.zero_le _, rfl, h0, Below.refl _ _⟩
  case round =>
    obtain ⟨k, hk, rfl, hJs, hnx⟩ := hrel
    by_cases hlt : k < xs.length
    · obtain ⟨a, rfl, hab1, c0⟩ := (HPA.out.below hnx) k hlt
      have HTK : Hid (xs.take (k + 1) = xs.take k ++ [xs.getD k 0]) := Lib.hid (by
        rw [List.take_succ_eq_append_getElem hlt]; simp [List.getD, List.getElem?_eq_getElem hlt])
      have HPF : Hid (xs.take (k + 1) <+: xs) := Lib.hid (List.take_prefix _ _)
      generalize xs.getD k 0 = x at c0 HTK
      obtain ⟨fn, tmps, assign, body, hy, hR⟩ := HY.out (xs.take k) x _ hJs (by rw [List.length_take]; omega)
      have HRR := Lib.hid (hR.mono (R' := fun e W' => ∃ b : Bool, e = .returned (.bool b) ∧ Hid ((b = true ∧ J (xs.take k ++ [x]) W' ∧ Below n₀ wr W') ∨ (b = false ∧ Jx (xs.take k ++ [x]) W'))) (by
        rintro e W' (⟨rfl, h1, h2⟩ | ⟨rfl, h1⟩)
        · exact ⟨true, rfl, .inl ⟨rfl, h1, h2⟩⟩
        · exact ⟨false, rfl, .inr ⟨rfl, h1⟩⟩))
      have HNX := Lib.hid hnx
      clear hR hnx hJs hBa h0 HPA
      gi_wp2
      refine HRR.out.mono ?_
      rintro e W3 ⟨b, rfl, hbb⟩
      rcases hbb.out with ⟨rfl, hJ3, hk3⟩ | ⟨rfl, hJx3⟩
      · gi_wp2
        go_roundw
        case rel => exact ⟨k + 1, by omega, by go_num, by rw [HTK.out]; exact hJ3, HNX.out.trans hk3⟩
        case measure => simp [intOf]; omega
      · gi_wp2
        refine bodyPost_ret (results_none rfl _ _ _) rfl ?_
        exact ⟨⟨_, rfl⟩, .inr ⟨_, by have := HPF.out; rw [HTK.out] at this; exact this, hJx3⟩⟩
    · have hfull : xs.take k = xs := List.take_of_length_le (by omega)
      rw [hfull] at hJs
      clear hfull
      gi_wp2
      go_end0
      exact ⟨⟨_, rfl⟩, .inl ⟨xs, rfl, hJs⟩⟩

theorem valuesLaw (n : Nat) (hn : 1 ≤ n) (Ba n₀ : Nat) (A : Option Addr) (c : Nat) (xs : List Int) (w : World) (h64 : xs.length ≤ 100000)
    (hBa : w.cell? ⟨Ba, 0, none⟩ = some (.slice A xs.length c)) (hn₀ : n₀ ≤ w.heap.size) (hpa : IntsAt w n₀ A xs) :
    SeqStopsK Fence.wide n Tryz.prog 135 #[.pointer (some ⟨Ba, 0, none⟩)] (fun x : Int => #[.int .i64 x]) (Below n₀) (fun ys => ys = xs) (fun pre => pre <+: xs) xs.length w :=
  fun l J Jx W hW hJ _ hY h0 => values1_in n hn l Ba n₀ A c xs h64 J Jx hY W ((hW.cell (p := ⟨Ba, 0, none⟩) (cell_lt hBa)).trans hBa) (hpa.below (hW.mono hn₀)) h0

end Go.Proofs.YtfpehblofokheaaGreatDoor

/- slices.AppendSeq, slices.Collect of the numbers of a slice. -/
namespace Go.Proofs.YtfpehblofokheaaGreatDoor
open Go.RowKit Go.Shelf

attribute [local go_sem] Oper.semAt_some

/-- The slice value v owns these numbers. -/
def NumOwn (w : World) (base : Nat) (v : Value) (xs : List Int) : Prop := w.ownsRow base 3 1 v xs.length (xs.map (Value.int .i64))
theorem NumOwn.turn {w w' : World} {base : Nat} {v : Value} {xs : List Int} (h : NumOwn w base v xs) {row : Option Nat} (hg : w.grownBy w' row) (hr : ∀ r, row = some r → ∃ o : Obj, w.heap[r]? = some o ∧ o.isCells = false) : NumOwn w' base v xs := by
  refine World.ownsRow.kept h hg ?_
  rcases h.2 with ⟨rfl, _⟩ | ⟨g, cap, cur, rfl, _, hgb, _⟩
  · exact .inl rfl
  · refine .inr fun e => ?_
    obtain ⟨o, ho, hc⟩ := hr g e.symm
    rw [hgb] at ho; cases ho; cases hc
theorem NumOwn.far {w : World} {base : Nat} {v : Value} {xs : List Int} (h : NumOwn w base v xs) {p : Addr} (hp : p.block < base) (u : Value) : NumOwn (w.setCell p u) base v xs := by
  refine ⟨h.1, ?_⟩
  rcases h.2 with hn | ⟨g, cap, cur, e1, e2, e3, rest⟩
  · exact .inl hn
  · exact .inr ⟨g, cap, cur, e1, e2, (Below.heap_setCell w p u g (by omega)).trans e3, rest⟩
def GotNums (b : Nat) (pre : List Int) (W : World) : Prop := ∃ v, BlkV W b 35 #[v] ∧ NumOwn W (b + 1) v pre
theorem gotNums_own (b : Nat) : Own (GotNums b) := fun pre X Y row h hg hr => by
  obtain ⟨v, h1, h2⟩ := h
  exact ⟨v, h1.turn hg hr, h2.turn hg hr⟩

/-- Numbers as a slice of the call's own. -/
def NumsOut (xs : List Int) (w : World) (e : Ending) (w' : World) : Prop :=
  ∃ A c, e = .returned (.slice A xs.length c) ∧ NumOwn w' w.heap.size (.slice A xs.length c) xs ∧ Below w.heap.size w w'

set_option maxRecDepth 100000 in
set_option maxHeartbeats 8000000 in
theorem appendSeq_any (Ba : Nat) (A : Option Addr) (c : Nat) (xs : List Int) (w : World) (h64 : xs.length ≤ 100000) (hBa : w.cell? ⟨Ba, 0, none⟩ = some (.slice A xs.length c)) (hpa : IntsAt w w.heap.size A xs) :
    Calls Tryz.prog 164 #[.slice none 0 0, .func (.func 135) #[] #[.pointer (some ⟨Ba, 0, none⟩)]] w (NumsOut xs w) := by
  refine (callsIn_wide (n := 9)).1 ?_
  refine callsIn_of_wp_marks Tryz.func164 rfl trivial ?_ rfl
  simp only [Tryz.ntmps164, List.size_toArray, List.length_cons, List.length_nil, Nat.reduceAdd, Nat.reduceSub, Array.replicate_succ, Array.replicate_zero, List.push_toArray, List.append_toArray, List.nil_append, List.cons_append]
  have HPA := Lib.hid hpa
  have hBt := cell_lt hBa
  clear hpa
  gi_wp2
  obtain ⟨W0, hW0⟩ : ∃ W0, w.alloc (.cells #[.slice none 0 0] 35) = W0 := ⟨_, rfl⟩
  rw [hW0]
  obtain ⟨a1, hB0, hsz⟩ := one_alloc w _ _ hW0
  have HSZ := Lib.hid hsz
  clear hW0 hsz
  refine wpIn_rangeFunc_ownH rfl (by omega) (gf := 135) (lb := #[.pointer (some ⟨Ba, 0, none⟩)]) rfl trivial (enters_of Tryz.func135 (by kernel_rfl) rfl)
    (valuesLaw _ (by omega) Ba w.heap.size A c xs W0 h64 ((hB0.cell (p := ⟨Ba, 0, none⟩) hBt).trans hBa) (by have := HSZ.out; omega) (HPA.out.below hB0)) (fun h k => h.trans k) (belowK_b (by have := HSZ.out; omega)) (Below.refl _ _) (fun _ => rfl)
    (fun pre W => GotNums w.heap.size pre W ∧ Below w.heap.size w W)
    (fun _ _ _ => False)
    (OwnFrom.and (Own.from (gotNums_own _) _) (ownFrom_below (Nat.le_refl _) (by have := HSZ.out; omega)))
    (fun cc _ _ _ _ h _ _ => h)
    ⟨⟨_, a1, World.ownsRow_nil _ _ _ _⟩, hB0⟩
    (fun x a' W => a' = { tmps := #[.slice none 0 0, .func (.func 135) #[] #[.pointer (some ⟨Ba, 0, none⟩)], .pointer (some ⟨w.heap.size, 0, none⟩), undef, .slice none 0 0, .int .i64 x, .func (.func 135) #[] #[.pointer (some ⟨Ba, 0, none⟩)], .int .i64 x, undef, undef, undef, undef, undef], defers := [] })
    (fun x a' _ X Y row hs hg hr => hs)
    ?assign ?body ?done ?stop
  case assign =>
    rintro l pre x W K ⟨hI, hB1⟩ hK
    gi_wp2
    exact hK _ _ ((KeepsOthers.refl _).from _) (Below.refl _ _) ⟨hI, hB1⟩ rfl
  case body =>
    rintro l pre x a' W hl ⟨r, hr⟩ ⟨⟨v, h1, h2⟩, hB1⟩ rfl hlt
    obtain ⟨i0, hi, hz0, hz1, hz2⟩ := info_parts info_int
    have hv : Boxed W w.heap.size 35 v := h1
    have c0 : W.cell? ⟨w.heap.size, 0, none⟩ = some v := h1.cell 0
    have HV := Lib.hid hv
    have HOWN := Lib.hid h2
    have HB1 := Lib.hid hB1
    have hsW := hB1.size
    clear h1 h2 hv hB1 hl hr
    generalize hQ2 : ownPostG _ _ _ _ _ _ = Q2
    have HQ := Lib.hid hQ2
    clear hQ2
    gi_wp2_with ((gi_at_builtin; go_loud (refine wpListIn_append_own _ rfl _ _ 35 rfl (w.heap.size + 1) 3 i0 _ 1 8 Tryz.underlying35 hi hz0 hz1 hz2 rfl (by decide) v pre.length _ rfl (HOWN.out.alloc _) ⟨W.heap.size, 0, none⟩ 1 1 [.int .i64 x] rfl rfl (World.news_of_block (heap_alloc_new _ _)) (by simp [Value.oneCell']) (by unfold maxLen; omega) (by omega) (by have := HV.out.lt; simp; omega) ?_; intro v' w1 hown' hgrow _; obtain ⟨g', cap', rfl⟩ := ownsRow_succ hown'; obtain ⟨hv1, hv2, hr2, hk2, hb2⟩ := HV.out.appended (n₀ := w.heap.size) (by decide) (ownsRow_base HOWN.out (Nat.le_succ _)) hsW (Nat.le_refl _) (ownsRow_base hown' (Nat.le_succ _)) hgrow; have hc1 := hv1.cell; have hf1 := hv1.frozen; have HOWN' := Lib.hid hown'; have HV2 := Lib.hid hv2; have HK2 := Lib.hid hk2; have HB2 := Lib.hid hb2; have HGR := Lib.hid hgrow; clear hown' hv2 hk2 hb2 hr2 hgrow)))
    rw [← HQ.out]
    refine ⟨HK2.out.from _, HB2.out, ⟨_, HV2.out, ?_⟩, HB1.out.trans HB2.out⟩
    have hn : NumOwn w1 (w.heap.size + 1) (.slice (some ⟨g', 0, none⟩) (pre.length + 1) cap') (pre ++ [x]) := by
      unfold NumOwn
      rw [List.map_append, List.length_append]
      exact HOWN'.out
    exact hn.far (p := ⟨w.heap.size, 0, none⟩) (by simp) _
  case done =>
    rintro D ys W hD hS ⟨⟨v, h1, h2⟩, hB1⟩ hK
    obtain ⟨A', c', rfl⟩ : ∃ A' c', v = .slice A' ys.length c' := by
      rcases h2.2 with ⟨rfl, h0⟩ | ⟨g, cap, cur, rfl, _⟩
      · exact ⟨none, 0, by rw [h0]⟩
      · exact ⟨_, _, rfl⟩
    have lc := h1.cell 0
    have HOWN := Lib.hid (h2.turn (grownBy_putObj' W D (.deferred none)) (fun r e => by cases e; exact ⟨_, hK, rfl⟩))
    have HB1 := Lib.hid hB1
    have HDD := Lib.hid hD
    have HS := Lib.hid hS
    clear h1 h2 hB1 hD hS
    gi_wp2
    refine ⟨by simp, .inl ⟨_, _, rfl, run_takeDeferred hK, ?_⟩⟩
    refine ⟨.slice A' ys.length c', ?_, A', c', by rw [HS.out], by rw [← HS.out]; exact ownsRow_base HOWN.out (Nat.le_succ _), HB1.out.trans (belowK_b (w := w) (Nat.le_refl _) W D _ _ (by have := HDD.out; have := HSZ.out; omega) hK rfl rfl)⟩
    simp [results, Tryz.f164, go_sem]
  case stop =>
    rintro D cc pre W hD _ h
    exact h.elim

set_option maxHeartbeats 400000 in
theorem collect_any (Ba : Nat) (A : Option Addr) (c : Nat) (xs : List Int) (w : World) (h64 : xs.length ≤ 100000) (hBa : w.cell? ⟨Ba, 0, none⟩ = some (.slice A xs.length c)) (hpa : IntsAt w w.heap.size A xs) :
    Calls Tryz.prog 133 #[.func (.func 135) #[] #[.pointer (some ⟨Ba, 0, none⟩)]] w (NumsOut xs w) := by
  have H := Lib.hid (appendSeq_any Ba A c xs w h64 hBa hpa)
  clear hpa
  go_enter Tryz.func133, Tryz.ntmps133
  go_wp2_with fail
  refine H.out.mono ?_; rintro e w1 ⟨A', c', rfl, ho, hb⟩
  have HO := Lib.hid ho
  have HB := Lib.hid hb
  clear ho hb
  go_wp2
  go_ret
  exact ⟨A', c', rfl, HO.out, HB.out⟩

end Go.Proofs.YtfpehblofokheaaGreatDoor

/- slices.Sorted of the numbers of a slice. -/
namespace Go.Proofs.YtfpehblofokheaaGreatDoor
open Go.RowKit

def sortI (xs : List Int) : List Int := xs.mergeSort fun x y => decide (x ≤ y)
theorem sortI_len (xs : List Int) : (sortI xs).length = xs.length := List.length_mergeSort xs
theorem below_grow (w : World) (os : Array Obj) : Below w.heap.size w (Sort.grow w os) := ⟨rfl, rfl, rfl, by simp [Sort.grow], fun k hk => by simp [Sort.grow, Array.getElem?_append, hk]⟩
theorem NumOwn.below {w w' : World} {base : Nat} {v : Value} {l : List Int} (h : NumOwn w base v l) (hb : Below w.heap.size w w') : NumOwn w' base v l := by
  refine ⟨h.1, ?_⟩
  rcases h.2 with hn | ⟨g, cap, cur, e1, e2, e3, rest⟩
  · exact .inl hn
  · exact .inr ⟨g, cap, cur, e1, e2, (hb.block g (Array.getElem?_eq_some_iff.1 e3).1).trans e3, rest⟩
theorem NumOwn.ints {w : World} {base : Nat} {A : Option Addr} {n c : Nat} {l : List Int} (h : NumOwn w base (.slice A n c) l) : IntsAt w w.heap.size A l ∧ (n = l.length) ∧ (l.length ≤ c) ∧ (∀ a, A = some a → base ≤ a.block ∧ a = ⟨a.block, 0, none⟩) := by
  rcases h.2 with ⟨e, h0⟩ | ⟨g, cap, cur, e, hg, hgb, hnc, _, _, htk⟩
  · injection e with e1 e2 e3
    exact ⟨fun j hj => by omega, by omega, by omega, fun a ha => by rw [e1] at ha; cases ha⟩
  · injection e with e1 e2 e3
    subst e1; subst e3
    refine ⟨fun j hj => ⟨_, rfl, (Array.getElem?_eq_some_iff.1 hgb).1, ?_⟩, e2, hnc, fun a ha => by injection ha with ha; subst ha; exact ⟨hg, rfl⟩⟩
    rw [add_zero_at, cell_of_row w g _ _ _ _ hgb]
    have : (l.map (Value.int .i64))[j]? = some (.int .i64 (l.getD j 0)) := by simp [List.getElem?_eq_getElem hj, List.getD]
    rw [← htk, List.getElem?_take_of_lt (by omega)] at this
    simpa using this

set_option maxHeartbeats 1000000 in
theorem sortNums_any (base : Nat) (A : Option Addr) (n c : Nat) (xs : List Int) (w : World) (h : NumOwn w base (.slice A n c) xs) (hl : xs.length ≤ 100000) :
    Calls Tryz.prog 134 #[.slice A n c] w fun e w' => e = .returned (.tuple #[]) ∧ NumOwn w' base (.slice A n c) (sortI xs) ∧ Below base w w' := by
  by_cases hv : (Value.slice A n c) = .slice none 0 0
  · injection hv with e1 e2 e3
    subst e1; subst e2
    have hx : xs = [] := List.eq_nil_of_length_eq_zero h.ints.2.1.symm
    subst hx
    exact (Tryz.slices_Sort_int_none none c w).mono fun e w' ⟨h1, h2⟩ => by subst h2; exact ⟨h1, by rw [show sortI [] = [] by simp [sortI]]; exact h, Below.refl _ _⟩
  · obtain ⟨g, cap, e, hb, hlt, hn, hm, hlen, hH⟩ := Lib.holds_of_ownsRow (enc := Value.int .i64) h hv
    injection e with e1 e2 e3
    subst e1; subst e3
    obtain rfl : n = xs.length := h.ints.2.1
    refine (Tryz.slices_Sort_int g 0 c xs w hH hlt (by omega)).mono ?_
    rintro e w' ⟨rfl, q, os, rfl⟩
    have h2 := Lib.ownsRow_putRow (q := q) (ys := sortI xs) (k := xs.length) (show w.ownsRow base 3 1 (.slice (some ⟨g, 0, none⟩) xs.length c) xs.length (xs.map (Value.int .i64)) from h) (sortI_len xs) (Nat.le_refl _)
    rw [List.take_of_length_le (by rw [sortI_len]; omega)] at h2
    have h3 : NumOwn (Sort.putRow (Value.int .i64) (Sort.ahead w q) g 0 (sortI xs).toArray) base (.slice (some ⟨g, 0, none⟩) xs.length c) (sortI xs) := by unfold NumOwn; rw [sortI_len]; exact h2
    have hbp : Below base w (Sort.putRow (Value.int .i64) (Sort.ahead w q) g 0 (sortI xs).toArray) := Lib.below_putRow (Below.refl _ _) hb
    have hbg := below_grow (Sort.putRow (Value.int .i64) (Sort.ahead w q) g 0 (sortI xs).toArray) os
    exact ⟨rfl, h3.below hbg, hbp.trans (hbg.mono (by have := hbp.size; omega))⟩

set_option maxHeartbeats 1000000 in
theorem sorted_any (Ba : Nat) (A : Option Addr) (c : Nat) (xs : List Int) (w : World) (h64 : xs.length ≤ 100000) (hBa : w.cell? ⟨Ba, 0, none⟩ = some (.slice A xs.length c)) (hpa : IntsAt w w.heap.size A xs) :
    Calls Tryz.prog 79 #[.func (.func 135) #[] #[.pointer (some ⟨Ba, 0, none⟩)]] w (NumsOut (sortI xs) w) := by
  have H := Lib.hid (collect_any Ba A c xs w h64 hBa hpa)
  have HL := Lib.hid (sortI_len xs)
  clear hpa
  go_enter Tryz.func79, Tryz.ntmps79
  go_wp2_with fail
  refine H.out.mono ?_; rintro e w1 ⟨A', c', rfl, ho, hb⟩
  have HB := Lib.hid hb
  have HS := Lib.hid (sortNums_any w.heap.size A' xs.length c' xs w1 ho h64)
  clear ho hb H
  go_wp2_with fail
  refine HS.out.mono ?_; rintro e w2 ⟨rfl, ho2, hb2⟩
  have HO := Lib.hid ho2
  have HB2 := Lib.hid hb2
  clear ho2 hb2 HS
  go_wp2
  go_ret
  exact ⟨A', c', by rw [HL.out]; rfl, by rw [HL.out]; exact HO.out, HB.out.trans HB2.out⟩

end Go.Proofs.YtfpehblofokheaaGreatDoor

/- The formats of sides: the map, a side's check, the hundredths. -/
namespace Go.Proofs.YtfpehblofokheaaGreatDoor
open Go.RowKit

def sFour : ByteArray := ⟨#[102, 111, 117, 114, 115, 111, 109, 101]⟩
def sScr : ByteArray := ⟨#[115, 99, 114, 97, 109, 98, 108, 101]⟩
def sBall : ByteArray := ⟨#[102, 111, 117, 114, 98, 97, 108, 108]⟩
def sAgg : ByteArray := ⟨#[97, 103, 103, 114, 101, 103, 97, 116, 101]⟩
def vFour : Value := .agg #[.int .i64 2, fnV 120, .nilFunc]
def vScr : Value := .agg #[.int .i64 4, fnV 121, .nilFunc]
def vBall : Value := .agg #[.int .i64 4, .nilFunc, fnV 122]
def vAgg : Value := .agg #[.int .i64 2, .nilFunc, fnV 123]
def sidesObj : Obj := .map #[{ key := .string sFour, val := vFour, born := 0 }, { key := .string sScr, val := vScr, born := 1 }, { key := .string sBall, val := vBall, born := 2 }, { key := .string sAgg, val := vAgg, born := 3 }] 4

set_option maxRecDepth 100000 in
set_option maxHeartbeats 400000 in
theorem sides_any (w : World) :
    Calls Tryz.prog 68 #[] w fun e w' => e = .returned (.map (some w.heap.size)) ∧ w.alloc sidesObj = w' := by
  have hmm := @run_makeMap Tryz.prog
  have i0 := fun v => run_put_new (P := Tryz.prog) w (t := 132) (es := #[]) (clock := 0) Tryz.underlying132 Tryz.underlying9 (.string sFour) v trivial rfl
  have i1 := fun v v0 => run_put_new (P := Tryz.prog) w (t := 132) (es := #[⟨.string sFour, v0, 0⟩]) (clock := 1) Tryz.underlying132 Tryz.underlying9 (.string sScr) v trivial (by kernel_rfl)
  have i2 := fun v v0 v1 => run_put_new (P := Tryz.prog) w (t := 132) (es := #[⟨.string sFour, v0, 0⟩, ⟨.string sScr, v1, 1⟩]) (clock := 2) Tryz.underlying132 Tryz.underlying9 (.string sBall) v trivial (by kernel_rfl)
  have i3 := fun v v0 v1 v2 => run_put_new (P := Tryz.prog) w (t := 132) (es := #[⟨.string sFour, v0, 0⟩, ⟨.string sScr, v1, 1⟩, ⟨.string sBall, v2, 2⟩]) (clock := 3) Tryz.underlying132 Tryz.underlying9 (.string sAgg) v trivial (by kernel_rfl)
  simp only [List.push_toArray, List.nil_append, List.cons_append, Nat.zero_add, Nat.reduceAdd, sFour, sScr, sBall, sAgg] at i0 i1 i2 i3
  go_enter Tryz.func68, Tryz.ntmps68
  go_wp2
  go_ret
  exact ⟨rfl, rfl⟩

theorem look_four (W : World) (b : Nat) (hb : W.heap[b]? = some sidesObj) : (Instr.lookup 132 (.map (some b)) (.string sFour) false).run Tryz.prog W = .ok vFour W :=
  run_get_yes (i := 0) W Tryz.underlying132 Tryz.underlying9 hb _ trivial (by kernel_rfl)
theorem look_scr (W : World) (b : Nat) (hb : W.heap[b]? = some sidesObj) : (Instr.lookup 132 (.map (some b)) (.string sScr) false).run Tryz.prog W = .ok vScr W :=
  run_get_yes (i := 1) W Tryz.underlying132 Tryz.underlying9 hb _ trivial (by kernel_rfl)
theorem look_ball (W : World) (b : Nat) (hb : W.heap[b]? = some sidesObj) : (Instr.lookup 132 (.map (some b)) (.string sBall) false).run Tryz.prog W = .ok vBall W :=
  run_get_yes (i := 2) W Tryz.underlying132 Tryz.underlying9 hb _ trivial (by kernel_rfl)
theorem look_agg (W : World) (b : Nat) (hb : W.heap[b]? = some sidesObj) : (Instr.lookup 132 (.map (some b)) (.string sAgg) false).run Tryz.prog W = .ok vAgg W :=
  run_get_yes (i := 3) W Tryz.underlying132 Tryz.underlying9 hb _ trivial (by kernel_rfl)

def sideI (m : Int) (n : Nat) : Int := if 2 ≤ n ∧ (n : Int) ≤ m then 0 else 2
set_option maxRecDepth 100000 in
set_option maxHeartbeats 1000000 in
theorem sideCheck_any (m : Int) (f g : Value) (n : Nat) (w : World) (hn : n ≤ 4611686018427387904) :
    Calls Tryz.prog 119 #[.agg #[.int .i64 m, f, g], .int .i64 n] w fun e w' => e = .returned (.int .i64 (sideI m n)) ∧ Below w.heap.size w w' := by
  by_cases g1 : (2 : Int) ≤ (n : Int) <;> by_cases g2 : (n : Int) ≤ m
  all_goals
    go_enter Tryz.func119, Tryz.ntmps119
    go_wp2_with fail
    refine (fmUnless_any _ _ _).mono ?_; rintro e w1 ⟨rfl, rfl⟩
    go_wp2
    go_ret
    exact ⟨by
      first
        | (rw [show sideI m n = 0 by unfold sideI; rw [if_pos (by omega)]]; rfl)
        | (rw [show sideI m n = 2 by unfold sideI; rw [if_neg (by omega)]]; rfl), (Below.refl _ _).alloc (Nat.le_refl _) _⟩

def hundF (_ : Nat) : List Int := [50, 50]
def hundS (n : Nat) : List Int := if n = 2 then [35, 15] else if n = 3 then [30, 20, 10] else [25, 20, 15, 10]
set_option maxHeartbeats 400000 in
theorem hundF_any (n : Nat) (w : World) :
    Calls Tryz.prog 120 #[.int .i64 n] w (IntsOut (hundF n) w) := by
  go_enter Tryz.func120, Tryz.ntmps120
  go_wp2
  go_ret
  exact ⟨w.heap.size, rfl, RowI.new w [50, 50], Nat.le_refl _, (Below.refl _ _).alloc (Nat.le_refl _) _⟩
set_option maxHeartbeats 400000 in
theorem hundS_any (n : Nat) (w : World) :
    Calls Tryz.prog 121 #[.int .i64 n] w (IntsOut (hundS n) w) := by
  by_cases h2 : n = 2
  · have g2 : ((n : Int) == 2) = true := by rw [beq_iff_eq]; omega
    have H : Hid (hundS n = [35, 15]) := Lib.hid (by unfold hundS; rw [if_pos h2])
    clear h2
    go_enter Tryz.func121, Tryz.ntmps121
    go_wp2
    go_ret
    exact ⟨w.heap.size, by rw [H.out]; rfl, by rw [H.out]; exact RowI.new w [35, 15], Nat.le_refl _, (Below.refl _ _).alloc (Nat.le_refl _) _⟩
  · have g2 : ((n : Int) == 2) = false := by rw [beq_eq_false_iff_ne]; omega
    by_cases h3 : n = 3
    · have g3 : ((n : Int) == 3) = true := by rw [beq_iff_eq]; omega
      have H : Hid (hundS n = [30, 20, 10]) := Lib.hid (by unfold hundS; rw [if_neg h2, if_pos h3])
      clear h2 h3
      go_enter Tryz.func121, Tryz.ntmps121
      go_wp2
      go_ret
      exact ⟨w.heap.size, by rw [H.out]; rfl, by rw [H.out]; exact RowI.new w [30, 20, 10], Nat.le_refl _, (Below.refl _ _).alloc (Nat.le_refl _) _⟩
    · have g3 : ((n : Int) == 3) = false := by rw [beq_eq_false_iff_ne]; omega
      have H : Hid (hundS n = [25, 20, 15, 10]) := Lib.hid (by unfold hundS; rw [if_neg h2, if_neg h3])
      clear h2 h3
      go_enter Tryz.func121, Tryz.ntmps121
      go_wp2
      go_ret
      exact ⟨w.heap.size, by rw [H.out]; rfl, by rw [H.out]; exact RowI.new w [25, 20, 15, 10], Nat.le_refl _, (Below.refl _ _).alloc (Nat.le_refl _) _⟩

end Go.Proofs.YtfpehblofokheaaGreatDoor

/- The reference's SameInts. -/
namespace Go.Proofs.YtfpehblofokheaaGreatDoor
open Go.RowKit

theorem same_take (xs ys : List Int) (h : xs.length = ys.length) (hj : ∀ j, j < xs.length → xs.getD j 0 = ys.getD j 0) : xs = ys := by
  apply List.ext_getElem h
  intro j h1 h2
  have := hj j h1
  simpa [List.getD, List.getElem?_eq_getElem h1, List.getElem?_eq_getElem h2] using this

set_option maxRecDepth 100000 in
set_option maxHeartbeats 1000000 in
theorem sameInts_any (A B : Option Addr) (c d : Nat) (xs ys : List Int) (w : World) (ha : Ints w A xs) (hb : Ints w B ys) (hl : xs.length ≤ 4611686018427387904) :
    Calls Tryz.prog 13 #[.slice A xs.length c, .slice B ys.length d] w fun e w' => e = .returned (.bool (decide (xs = ys))) ∧ ∃ n, w' = w.drewN n := by
  by_cases hlen : xs.length = ys.length
  · have hb0 : ((xs.length : Int) != (ys.length : Int)) = false := by rw [hlen]; exact bne_self_eq_false' _
    have HA := Lib.hid ha
    have HB := Lib.hid hb
    have HL := Lib.hid hlen
    clear ha hb hlen
    go_enter Tryz.func13, Tryz.ntmps13
    go_wp2
    go_loopw [5] (fun i w' => ∃ k n : Nat, k ≤ xs.length ∧ w' = w.drewN n ∧ i = .int .i64 k ∧ ∀ j, j < k → xs.getD j 0 = ys.getD j 0) (fun i _ => xs.length - (intOf i).toNat)
    case atStart => exact ⟨0, 0, Nat.zero_le _, rfl, rfl, fun j hj => absurd hj (by omega)⟩
    case round =>
      obtain ⟨k, n, hk, rfl, rfl, hj⟩ := hrel
      have HJ := Lib.hid hj
      clear hj
      by_cases hlt : k < xs.length
      · obtain ⟨a, rfl, c0⟩ := HA.out k hlt
        have hlt2 : k < ys.length := by have := HL.out; omega
        obtain ⟨b, rfl, c1⟩ := HB.out k hlt2
        generalize hx : xs.getD k 0 = x at c0
        generalize hy : ys.getD k 0 = y at c1
        have HX := Lib.hid hx
        have HY := Lib.hid hy
        clear hx hy
        cases hxy : (x != y)
        · go_wp2
          go_quiet (fail)
          go_wp2
          go_roundw
          case rel =>
            refine ⟨k + 1, _, by omega, rfl, by go_num, fun j hj => ?_⟩
            by_cases e : j = k
            · subst e
              rw [HX.out, HY.out]
              simpa using hxy
            · exact HJ.out j (by omega)
          case measure => simp [intOf]; omega
        · go_wp2
          go_quiet (fail)
          go_wp2
          go_ret
          refine ⟨?_, drewN2 _ _ _⟩
          have hne : ¬ xs = ys := fun e => by
            subst e
            have h9 := HX.out.symm.trans HY.out
            subst h9
            simp at hxy
          rw [decide_eq_false hne]
          rfl
      · go_wp2
        go_ret
        refine ⟨?_, _, rfl⟩
        rw [decide_eq_true (same_take xs ys HL.out (fun j hj => HJ.out j (by omega)))]
        rfl
  · have hb0 : ((xs.length : Int) != (ys.length : Int)) = true := by rw [bne_iff_ne]; omega
    have H := Lib.hid hlen
    clear hlen ha hb
    go_enter Tryz.func13, Tryz.ntmps13
    go_wp2
    go_ret
    exact ⟨by rw [decide_eq_false (fun e => H.out (by rw [e]))]; rfl, 0, rfl⟩
end Go.Proofs.YtfpehblofokheaaGreatDoor
