/- Sides of polygons: overlapping, touching, foldedBack. -/
import Derived.Test.YtclhohfkacgooaaPolyA
import Derived.Lib.QuietBelow
import Derived.BigQuiet
import Derived.IntWalk
namespace Go.Proofs.Ytclhohfkacgooaa
open Go.RowKit Go.Sort

abbrev sdV (s : Sd) : Value := .agg #[.int .i64 s.1.1, .int .i64 s.1.2, .int .i64 s.2.1, .int .i64 s.2.2]
def InS (s : Sd) : Prop := In 1000000 s.1 ∧ In 1000000 s.2

def overB (a b c d : Int) : Bool := decide (max (min a b) (min c d) ≤ min (max a b) (max c d))
def meetB (a b : Sd) : Bool := decide (turnI a.1 a.2 b.1 * turnI a.1 a.2 b.2 ≤ 0)
def touchB (a b : Sd) : Bool := meetB a b && meetB b a && overB a.1.1 a.2.1 b.1.1 b.2.1 && overB a.1.2 a.2.2 b.1.2 b.2.2
def foldB (a b : Sd) : Bool := decide (crossI (diffP b.1 a.1) (diffP b.1 b.2) = 0) && decide (0 < dotI (diffP b.1 a.1) (diffP b.1 b.2))

theorem retB {x y : Bool} (h : x = y) : Ending.returned (.bool x) = .returned (.bool y) := by rw [h]

set_option maxHeartbeats 1000000 in
theorem overlapping_any (a b c d : Int) (w : World) :
    Calls Try.prog 44 #[.int .i64 a, .int .i64 b, .int .i64 c, .int .i64 d] w fun e w' => e = .returned (.bool (overB a b c d)) ∧ w = w' := by
  go_enter Try.func44, Try.ntmps44
  go_wp2
  all_goals go_ret
  all_goals
    refine ⟨retB ?_, rfl⟩
    unfold overB
    first
    | (symm; rw [decide_eq_true_iff]; omega)
    | (symm; rw [decide_eq_false_iff_not]; omega)
    | (rw [decide_eq_decide]; omega)

/-- Two sides in two blocks that follow one another. -/
def Sd2 (W : World) (s : Nat) (a b : Sd) : Prop :=
  W.cell? ⟨s, 0, none⟩ = some (.int .i64 a.1.1) ∧ W.cell? ⟨s, 1, none⟩ = some (.int .i64 a.1.2) ∧ W.cell? ⟨s, 2, none⟩ = some (.int .i64 a.2.1) ∧ W.cell? ⟨s, 3, none⟩ = some (.int .i64 a.2.2) ∧
  W.cell? ⟨s + 1, 0, none⟩ = some (.int .i64 b.1.1) ∧ W.cell? ⟨s + 1, 1, none⟩ = some (.int .i64 b.1.2) ∧ W.cell? ⟨s + 1, 2, none⟩ = some (.int .i64 b.2.1) ∧ W.cell? ⟨s + 1, 3, none⟩ = some (.int .i64 b.2.2)
theorem Sd2.below {W w1 : World} {s B : Nat} {a b : Sd} (h : Sd2 W s a b) (hb : Below B W w1) (hB : s + 1 < B) : Sd2 w1 s a b := by
  obtain ⟨h0, h1, h2, h3, h4, h5, h6, h7⟩ := h
  have q (t o : Nat) (ht : t < B) : w1.cell? ⟨t, o, none⟩ = W.cell? ⟨t, o, none⟩ := hb.cell (p := ⟨t, o, none⟩) ht
  refine ⟨?_, ?_, ?_, ?_, ?_, ?_, ?_, ?_⟩ <;> (rw [q _ _ (by omega)]; assumption)
theorem sdCell {w : World} {g : Nat} {T : TypeId} {s : Sd} (h : w.heap[g]? = some (.cells #[.int .i64 s.1.1, .int .i64 s.1.2, .int .i64 s.2.1, .int .i64 s.2.2] T)) (i : Nat) (v : Value)
    (hv : (#[.int .i64 s.1.1, .int .i64 s.1.2, .int .i64 s.2.1, .int .i64 s.2.2] : Array Value)[i]? = some v) : w.cell? ⟨g, i, none⟩ = some v := (cell_of_row w g i _ _ _ h).trans hv
theorem Sd2.new (w : World) (T : TypeId) (a b : Sd) :
    Sd2 ((w.alloc (.cells #[.int .i64 a.1.1, .int .i64 a.1.2, .int .i64 a.2.1, .int .i64 a.2.2] T)).alloc (.cells #[.int .i64 b.1.1, .int .i64 b.1.2, .int .i64 b.2.1, .int .i64 b.2.2] T)) w.heap.size a b := by
  have ha : ((w.alloc (.cells #[.int .i64 a.1.1, .int .i64 a.1.2, .int .i64 a.2.1, .int .i64 a.2.2] T)).alloc (.cells #[.int .i64 b.1.1, .int .i64 b.1.2, .int .i64 b.2.1, .int .i64 b.2.2] T)).heap[w.heap.size]? = some (.cells #[.int .i64 a.1.1, .int .i64 a.1.2, .int .i64 a.2.1, .int .i64 a.2.2] T) :=
    (Below.heap_alloc _ _ _ (by simp)).trans (heap_alloc_new _ _)
  have hb := heap_alloc_new (w.alloc (.cells #[.int .i64 a.1.1, .int .i64 a.1.2, .int .i64 a.2.1, .int .i64 a.2.2] T)) (.cells #[.int .i64 b.1.1, .int .i64 b.1.2, .int .i64 b.2.1, .int .i64 b.2.2] T)
  rw [World.size_alloc] at hb
  exact ⟨sdCell ha 0 _ rfl, sdCell ha 1 _ rfl, sdCell ha 2 _ rfl, sdCell ha 3 _ rfl, sdCell hb 0 _ rfl, sdCell hb 1 _ rfl, sdCell hb 2 _ rfl, sdCell hb 3 _ rfl⟩

theorem turn_in (a b c : Pl) : -1 ≤ turnI a b c ∧ turnI a b c ≤ 1 := by
  unfold turnI cmpI; split
  · omega
  · split <;> omega

set_option maxRecDepth 100000 in
set_option maxHeartbeats 2000000 in
theorem touching_any (a b : Sd) (w : World) (ha : InS a) (hb : InS b) :
    Calls Try.prog 36 #[sdV a, sdV b] w fun e w' => e = .returned (.bool (touchB a b)) ∧ Below w.heap.size w w' := by
  obtain ⟨W, hW⟩ : ∃ W, (w.alloc (.cells #[.int .i64 a.1.1, .int .i64 a.1.2, .int .i64 a.2.1, .int .i64 a.2.2] 64)).alloc (.cells #[.int .i64 b.1.1, .int .i64 b.1.2, .int .i64 b.2.1, .int .i64 b.2.2] 64) = W := ⟨_, rfl⟩
  have HS2 := Sd2.new w 64 a b
  have HBW : Hid (Below w.heap.size w W) := by rw [← hW]; exact Lib.hid (((Below.refl _ _).alloc (Nat.le_refl _) _).alloc (by simp) _)
  rw [hW] at HS2
  obtain ⟨q0, q1, q2, q3, q4, q5, q6, q7⟩ := HS2
  have k0 := cell_regrown q0; have k1 := cell_regrown q1; have k2 := cell_regrown q2; have k3 := cell_regrown q3
  have k4 := cell_regrown q4; have k5 := cell_regrown q5; have k6 := cell_regrown q6; have k7 := cell_regrown q7
  clear q0 q1 q2 q3 q4 q5 q6 q7
  have cT := fun (x y z : Pl) (hx : In 1000000 x) (hy : In 1000000 y) (hz : In 1000000 z) (d : Nat) (os : Array Obj) => Calls.regrown_of (turn_any x y z (grow (redrawn W d) os) hx hy hz)
  have c1 := Lib.hid (cT a.1 a.2 b.1 ha.1 ha.2 hb.1)
  have c2 := Lib.hid (cT a.1 a.2 b.2 ha.1 ha.2 hb.2)
  have c3 := Lib.hid (cT b.1 b.2 a.1 hb.1 hb.2 ha.1)
  have c4 := Lib.hid (cT b.1 b.2 a.2 hb.1 hb.2 ha.2)
  have cO := Lib.hid (fun (x y z u : Int) (d : Nat) (os : Array Obj) => Calls.regrown_of ((overlapping_any x y z u (grow (redrawn W d) os)).mono fun _ _ ⟨h1, h2⟩ => ⟨h1, h2 ▸ Below.refl _ _⟩))
  clear cT
  have HV : Hid (touchB a b = (decide (turnI a.1 a.2 b.1 * turnI a.1 a.2 b.2 ≤ 0) && decide (turnI b.1 b.2 a.1 * turnI b.1 b.2 a.2 ≤ 0) && overB a.1.1 a.2.1 b.1.1 b.2.1 && overB a.1.2 a.2.2 b.1.2 b.2.2)) := rfl
  have b1 := turn_in a.1 a.2 b.1
  have b2 := turn_in a.1 a.2 b.2
  have b3 := turn_in b.1 b.2 a.1
  have b4 := turn_in b.1 b.2 a.2
  generalize turnI a.1 a.2 b.1 = x1 at *
  generalize turnI a.1 a.2 b.2 = x2 at *
  generalize turnI b.1 b.2 a.1 = x3 at *
  generalize turnI b.1 b.2 a.2 = x4 at *
  have m1 := mul_in b1 b2
  have m2 := mul_in b3 b4
  have e1 : IntKind.i64.wrap (x1 * x2) = x1 * x2 := IntWalk.i64_in _ (by omega)
  have e2 : IntKind.i64.wrap (x3 * x4) = x3 * x4 := IntWalk.i64_in _ (by omega)
  have HWE := Lib.hid hW
  clear m1 m2 b1 b2 b3 b4 ha hb hW
  have cF := Lib.hid (fun (x y z u : Int) (h : overB x y z u = false) (d : Nat) (os : Array Obj) => h ▸ cO.out x y z u d os)
  have cU := Lib.hid (fun (x y z u : Int) (h : overB x y z u = true) (d : Nat) (os : Array Obj) => h ▸ cO.out x y z u d os)
  go_enter Try.func36, Try.ntmps36
  go_wp2_with fail
  rw [HWE.out]
  refine wp_region_quiet_below (by kernel_rfl) (by kernel_rfl) ?_
  simp only [List.append_eq, List.cons_append, List.nil_append]
  iterate 6 go_big_quiet_step (fail)
  go_big_quiet_step (exact c1.out _ _)
  iterate 6 go_big_quiet_step (fail)
  go_big_quiet_step (exact c2.out _ _)
  cases t1 : decide (x1 * x2 ≤ 0)
  · iterate 3 go_big_quiet_step (fail)
    repeat go_big_quiet_step (fail)
    refine wpQuiet_nil ?_
    intro _ hw'
    obtain ⟨⟨dq, osq⟩, hw''⟩ := hw'
    subst hw''
    go_wp2
    go_ret
    exact ⟨retB (by rw [HV.out, t1]; simp), HBW.out.trans ((below_regrown W dq osq).mono HBW.out.size)⟩
  · iterate 9 go_big_quiet_step (fail)
    go_big_quiet_step (exact c3.out _ _)
    iterate 6 go_big_quiet_step (fail)
    go_big_quiet_step (exact c4.out _ _)
    cases t2 : decide (x3 * x4 ≤ 0)
    · iterate 4 go_big_quiet_step (fail)
      repeat go_big_quiet_step (fail)
      refine wpQuiet_nil ?_
      intro _ hw'
      obtain ⟨⟨dq, osq⟩, hw''⟩ := hw'
      subst hw''
      go_wp2
      go_ret
      exact ⟨retB (by rw [HV.out, t1, t2]; simp), HBW.out.trans ((below_regrown W dq osq).mono HBW.out.size)⟩
    · iterate 16 go_big_quiet_step (fail)
      cases t3 : overB a.1.1 a.2.1 b.1.1 b.2.1
      · go_big_quiet_step (exact cF.out _ _ _ _ t3 _ _)
        repeat go_big_quiet_step (fail)
        refine wpQuiet_nil ?_
        intro _ hw'
        obtain ⟨⟨dq, osq⟩, hw''⟩ := hw'
        subst hw''
        go_wp2
        go_ret
        exact ⟨retB (by rw [HV.out, t1, t2, t3]; simp), HBW.out.trans ((below_regrown W dq osq).mono HBW.out.size)⟩
      · go_big_quiet_step (exact cU.out _ _ _ _ t3 _ _)
        iterate 14 go_big_quiet_step (fail)
        go_big_quiet_step (exact cO.out _ _ _ _ _ _)
        repeat go_big_quiet_step (fail)
        refine wpQuiet_nil ?_
        intro _ hw'
        obtain ⟨⟨dq, osq⟩, hw''⟩ := hw'
        subst hw''
        go_wp2
        go_ret
        exact ⟨retB (by rw [HV.out, t1, t2, t3]; simp), HBW.out.trans ((below_regrown W dq osq).mono HBW.out.size)⟩

end Go.Proofs.Ytclhohfkacgooaa
