/- Twice: twice a polygon's area. -/
import Derived.Test.YtclhohfkacgooaaPolyG
namespace Go.Proofs.Ytclhohfkacgooaa
open Go.RowKit Go.Shelf

attribute [local go_sem] Oper.semAt_some

/-- The sum of what the sides add. -/
def sumX (l : List (Nat × Sd)) : Int := (l.map fun x => crossI x.2.1 x.2.2).sum
theorem sumX_snoc (l : List (Nat × Sd)) (x : Nat × Sd) : sumX (l ++ [x]) = sumX l + crossI x.2.1 x.2.2 := by simp [sumX]
theorem crossI_in (s : Sd) (h : InS s) : -2000000000000 ≤ crossI s.1 s.2 ∧ crossI s.1 s.2 ≤ 2000000000000 := by
  have m1 := mul_in h.1.1 h.2.2
  have m2 := mul_in h.1.2 h.2.1
  unfold crossI
  simp only [Int.reduceMul] at m1 m2
  omega
theorem in_mono {p : Pl} (h : In 1000000 p) : In 2000000 p := ⟨⟨by have := h.1.1; omega, by have := h.1.2; omega⟩, by have := h.2.1; omega, by have := h.2.2; omega⟩
theorem sumX_in (l : List SdX) : -2000000000000 * (l.length : Int) ≤ sumX (l.map (·.1)) ∧ sumX (l.map (·.1)) ≤ 2000000000000 * (l.length : Int) := by
  induction l with
  | nil => simp [sumX]
  | cons x l ih =>
    have := crossI_in x.1.2 x.2.2
    simp only [List.map_cons, sumX, List.sum_cons, List.length_cons] at *
    omega
def twiceI (ps : List Pl) : Int := max (sumX (numbered ps ps.length)) (-sumX (numbered ps ps.length))

set_option maxRecDepth 100000 in
set_option maxHeartbeats 4000000 in
theorem twice_ok (A : Option Addr) (c : Nat) (ps : List Pl) (w : World) (hg : GoodP ps) (hp : PlacesR w w.heap.size A ps) :
    Calls Try.prog 11 #[.slice A ps.length c] w fun e w' => e = .returned (.tuple #[.int .i64 (twiceI ps), .int .i64 0]) ∧ Below w.heap.size w w' := by
  refine (callsIn_wide (n := 9)).1 ?_
  refine callsIn_of_wp_marks Try.func11 rfl trivial ?_ rfl
  simp only [Try.ntmps11, List.size_toArray, List.length_cons, List.length_nil, Nat.reduceAdd, Nat.reduceSub, Array.replicate_succ, Array.replicate_zero, List.push_toArray, List.append_toArray, List.nil_append, List.cons_append]
  have HP := Lib.hid hp
  have HG := Lib.hid hg
  clear hp hg
  have HC := fun W h => checkPolygon_ok A c ps W HG.out h
  gi_wp2_with (refine ⟨trivial, ?_⟩; gi_at_call 21; refine (callsIn_wide.2 (HC _ HP.out)).mono ?_; rintro e w1 ⟨rfl, hb1⟩)
  gi_wp2_with (refine ⟨trivial, ?_⟩; gi_at_call 22; refine (sides_in Fence.wide _ trivial rfl _ _ _ _).mono ?_; rintro e w' ⟨rfl, rfl⟩)
  have bR := (Boxed.new w1 3 (.int .i64 0)).alloc (.cells #[.slice A ps.length c] 41)
  have bA := Boxed.new (w1.alloc (.cells #[.int .i64 0] 3)) 41 (.slice A ps.length c)
  simp only [World.size_alloc] at bA
  have hB0 : Below w1.heap.size w1 ((w1.alloc (.cells #[.int .i64 0] 3)).alloc (.cells #[.slice A ps.length c] 41)) := ((Below.refl _ w1).alloc (Nat.le_refl _) _).alloc (by simp) _
  have hsz : ((w1.alloc (.cells #[.int .i64 0] 3)).alloc (.cells #[.slice A ps.length c] 41)).heap.size = w1.heap.size + 2 := by simp
  obtain ⟨W0, hW0⟩ : ∃ W0, (w1.alloc (.cells #[.int .i64 0] 3)).alloc (.cells #[.slice A ps.length c] 41) = W0 := ⟨_, rfl⟩
  rw [hW0] at bR bA hB0 hsz ⊢
  clear hW0
  have hP0 : PlacesR W0 w1.heap.size A ps := ((HP.out.below hb1).mono hb1.size).below hB0
  refine wpIn_rangeFunc_ownH rfl (by omega) (gf := 35) (lb := #[.pointer (some ⟨w1.heap.size + 1, 0, none⟩)]) rfl trivial (enters_of Try.func35 (by kernel_rfl) rfl)
    (sidesLaw _ (by omega) (w1.heap.size + 1) w1.heap.size A c ps W0 HG.out.many HG.out.near (by omega) (by omega) bA.cell hP0) keepS_t (keepS_b (by omega)) (Below.refl _ _) (fun _ => rfl)
    (fun pre W => ((pre.length ≤ ps.length ∧ Boxed W w1.heap.size 3 (.int .i64 (sumX (pre.map (·.1))))) ∧ Boxed W (w1.heap.size + 1) 41 (.slice A ps.length c)) ∧ Below w1.heap.size w1 W)
    (fun _ _ _ => False)
    (OwnFrom.and (OwnFrom.and (OwnFrom.and (ownFrom_pure _ _) (Own.from (boxed_own _ _ (fun pre : List SdX => Value.int .i64 (sumX (pre.map (·.1))))) _)) (Own.from (boxed_own _ _ _) _)) (ownFrom_below (Nat.le_refl _) (by omega)))
    (fun _ => fun _ _ _ _ h _ _ => h)
    ⟨⟨⟨Nat.zero_le _, bR⟩, bA⟩, hB0⟩
    (fun x a' W => ∃ Bs, w1.heap.size + 1 < Bs ∧ BoxS W Bs x.1.2 ∧ a' = { tmps := #[.slice A ps.length c, undef, .int .i64 0, .int .i64 0, .int .i64 0, .pointer (some ⟨w1.heap.size, 0, none⟩), undef, .pointer (some ⟨Bs, 0, none⟩), .slice A ps.length c, .int .i64 0, .int .i64 0, .bool false, undef, .slice A ps.length c, .func (.func 35) #[] #[.pointer (some ⟨w1.heap.size + 1, 0, none⟩)], .int .i64 x.1.1, sdV x.1.2, undef, undef, undef, undef, undef, undef, undef, undef, undef, undef, undef], defers := [] })
    (fun x a' _ X Y row hs hg hr => by
      obtain ⟨Bs, e0, e2, e3⟩ := hs
      exact ⟨Bs, e0, boxS_own Bs (fun (_ : Unit) => x.1.2) () X Y row e2 hg (fun r e => (hr r e).2), e3⟩)
    ?assign ?body ?done ?stop
  case assign =>
    rintro l pre x W K ⟨⟨⟨hp, bR1⟩, bA1⟩, hB1⟩ hK
    unfold encX sdV
    gi_wp2
    exact hK _ _ ((KeepsOthers.alloc _ _).from _) (keepS_alloc hB1.size _) ⟨⟨⟨hp, bR1.alloc _⟩, bA1.alloc _⟩, hB1.alloc hB1.size _⟩ ⟨W.heap.size, bA1.lt, BoxS.new W x.1.2, rfl⟩
  case body =>
    rintro l pre x a' W hl hr ⟨⟨⟨hp, bR1⟩, bA1⟩, hB1⟩ ⟨Bs, hBx, bS, rfl⟩ hlt
    have s0 := bS.c0
    have s1 := bS.c1
    have s2 := bS.c2
    have s3 := bS.c3
    have cR := bR1.cell
    have fR := bR1.frozen
    have hx := x.2.2
    have hs64 := HG.out.many
    obtain ⟨z, hz⟩ : ∃ z, sumX (pre.map (·.1)) = z := ⟨_, rfl⟩
    have hzi := sumX_in pre
    rw [hz] at cR hzi bR1
    obtain ⟨y, hy⟩ : ∃ y, crossI x.1.2.1 x.1.2.2 = y := ⟨_, rfl⟩
    have hyi := crossI_in x.1.2 hx
    rw [hy] at hyi
    have hw : IntKind.i64.wrap (z + y) = z + y := IntWalk.i64_in _ (by omega)
    have HC2 : ∀ W, Calls Try.prog 23 #[.agg #[.int .i64 x.1.2.1.1, .int .i64 x.1.2.1.2], .agg #[.int .i64 x.1.2.2.1, .int .i64 x.1.2.2.2]] W fun e w' => e = .returned (.int .i64 y) ∧ Below W.heap.size W w' := fun W => by
      have h := cross_any x.1.2.1 x.1.2.2 W (in_mono hx.1) (in_mono hx.2)
      rw [hy] at h; exact h
    have hT : sumX ((pre ++ [x]).map (·.1)) = z + y := by rw [List.map_append, List.map_cons, List.map_nil, sumX_snoc, hz, hy]
    have HF : Hid (∀ (w3 : World) (B : Nat), Below W.heap.size W w3 → (KeepsFrom B W (w3.setCell ⟨w1.heap.size, 0, none⟩ (.int .i64 (z + y))) ∧ KeepS w1.heap.size (w1.heap.size + 1) W (w3.setCell ⟨w1.heap.size, 0, none⟩ (.int .i64 (z + y))) ∧ ((((pre ++ [x]).length ≤ ps.length ∧ Boxed (w3.setCell ⟨w1.heap.size, 0, none⟩ (.int .i64 (z + y))) w1.heap.size 3 (.int .i64 (sumX ((pre ++ [x]).map (·.1))))) ∧ Boxed (w3.setCell ⟨w1.heap.size, 0, none⟩ (.int .i64 (z + y))) (w1.heap.size + 1) 41 (.slice A ps.length c)) ∧ Below w1.heap.size w1 (w3.setCell ⟨w1.heap.size, 0, none⟩ (.int .i64 (z + y)))))) :=
      Lib.hid fun w3 B hb => ⟨((keepsOthers_below hb).trans (KeepsOthers.setCell _ _ _)).from _, keepS_t (keepS_below hb hB1.size) (keepS_set (Nat.le_refl _) (by omega) _), ⟨⟨by simp; omega, by rw [hT]; exact (boxed_below bR1 hb).set _⟩, (boxed_below bA1 hb).other (by omega) _⟩, (hB1.trans (hb.mono hB1.size)).setCell (p := ⟨w1.heap.size, 0, none⟩) (Nat.le_refl _) _⟩
    have HZ := Lib.hid hz
    have HY := Lib.hid hy
    generalize hQ2 : ownPostG _ _ _ _ _ _ = Q2
    have HQ := Lib.hid hQ2
    clear hQ2 hz hy hT hr hl hsz hb1
    gi_wp2
    have hm : Try.prog.follows .mixedOrders = true := by kernel_rfl
    gi_region_with_o (refine ⟨trivial, ?_⟩; gi_at_call 23; (with_reducible refine (CallsIn.inRound l (callsIn_wide.2 (HC2 _))).mono ?_); rintro e w3 ⟨rfl, hb3⟩; have bR3 := boxed_below (show Boxed W.drew _ _ _ from bR1) hb3; have cR3 := bR3.cell; have fR3 := bR3.frozen; have s30 := ((show BoxS W.drew _ _ from bS).below hb3).c0; have s31 := ((show BoxS W.drew _ _ from bS).below hb3).c1; have s32 := ((show BoxS W.drew _ _ from bS).below hb3).c2; have s33 := ((show BoxS W.drew _ _ from bS).below hb3).c3)
    all_goals
      show Q2 .normal _ _
      rw [← HQ.out]
      exact HF.out _ _ ((Below.refl _ W).drew.trans hb3)
  case done =>
    rintro D xs W hD hS ⟨⟨⟨hp, bR1⟩, bA1⟩, hB1⟩ hK
    have cR := bR1.cell
    obtain ⟨z, hz⟩ : ∃ z, sumX (xs.map (·.1)) = z := ⟨_, rfl⟩
    have hzi := sumX_in xs
    have hs64 := HG.out.many
    rw [hz] at cR hzi
    have hw : IntKind.i64.wrap (-z) = -z := IntWalk.i64_in _ (by omega)
    have HT : Hid (twiceI ps = max z (-z)) := Lib.hid (by unfold twiceI; rw [← hS, hz])
    clear hS hz hp
    gi_wp2
    all_goals
      refine ⟨by simp, .inl ⟨_, _, rfl, run_takeDeferred hK, ?_⟩⟩
      refine ⟨.tuple #[.int .i64 (twiceI ps), .int .i64 0], ?_, rfl, hb1.trans ((hB1.trans (belowK_b (w := w1) (Nat.le_refl _) W D _ _ (by omega) hK rfl rfl)).mono hb1.size)⟩
      rw [HT.out]
      first
        | (have e : max z (-z) = z := by omega
           simp [results, Try.f11, go_sem, e])
        | (have e : max z (-z) = -z := by omega
           simp [results, Try.f11, go_sem, e])
  case stop =>
    rintro D cc pre W hD hpre h hK
    exact h.elim

end Go.Proofs.Ytclhohfkacgooaa
