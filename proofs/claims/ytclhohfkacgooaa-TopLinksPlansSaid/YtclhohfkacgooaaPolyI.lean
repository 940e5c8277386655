/- position: where a place lies, for a polygon without fault. -/
import Derived.Test.YtclhohfkacgooaaPolyH
namespace Go.Proofs.Ytclhohfkacgooaa
open Go.RowKit Go.Shelf

attribute [local go_sem] Oper.semAt_some

/-- Block B holds a place. -/
def BoxP (W : World) (B : Nat) (p : Pl) : Prop := W.heap[B]? = some (.cells #[.int .i64 p.1, .int .i64 p.2] 40 (0, 0))
theorem BoxP.lt {W : World} {B : Nat} {p : Pl} (h : BoxP W B p) : B < W.heap.size := (Array.getElem?_eq_some_iff.1 h).1
theorem BoxP.new (W : World) (p : Pl) : BoxP (W.alloc (.cells #[.int .i64 p.1, .int .i64 p.2] 40)) W.heap.size p := World.alloc_heap_new W _
theorem BoxP.kept {W W' : World} {row : Option Nat} {B : Nat} {p : Pl} (h : BoxP W B p) (hg : W.grownBy W' row) (hne : some B ≠ row) : BoxP W' B p := (hg.block B h.lt hne).trans h
theorem BoxP.alloc {W : World} {B : Nat} {p : Pl} (h : BoxP W B p) (o : Obj) : BoxP (W.alloc o) B p := h.kept (World.grownBy_alloc W o none) (by simp)
theorem BoxP.other {W : World} {B B' : Nat} {p : Pl} (h : BoxP W B p) (hne : B ≠ B') (u : Value) : BoxP (W.setCell ⟨B', 0, none⟩ u) B p := h.kept (grownBy_setCell' W B' u) (fun e => hne (by cases e; rfl))
theorem BoxP.below {W W' : World} {B : Nat} {p : Pl} (h : BoxP W B p) (hb : Below W.heap.size W W') : BoxP W' B p := (hb.block B h.lt).trans h
theorem BoxP.c0 {W : World} {B : Nat} {p : Pl} (h : BoxP W B p) : W.cell? ⟨B, 0, none⟩ = some (.int .i64 p.1) := by simp [World.cell?, show W.heap[B]? = _ from h]
theorem BoxP.c1 {W : World} {B : Nat} {p : Pl} (h : BoxP W B p) : W.cell? ⟨B, 1, none⟩ = some (.int .i64 p.2) := by simp [World.cell?, show W.heap[B]? = _ from h]
theorem boxP_own {β : Type} (B : Nat) (f : β → Pl) : Own (fun s W => BoxP W B (f s)) := fun s X Y row hs hg hrow =>
  hs.kept hg (fun e' => by obtain ⟨o, ho, hc⟩ := hrow B e'.symm; rw [show X.heap[B]? = _ from hs] at ho; cases ho; cases hc)

/-- Whether a side turns a place from outside to inside. -/
def flipB (p : Pl) (s : Sd) : Bool := if decide (p.2 < s.2.2) = decide (p.2 < s.1.2) then false else decide (decide (p.2 < s.2.2) = decide (0 < turnI s.1 s.2 p))
def whereI (p : Pl) (l : List (Nat × Sd)) : Int := l.foldl (fun v x => if flipB p x.2 then -v else v) (-1)
theorem whereI_snoc (p : Pl) (l : List (Nat × Sd)) (x : Nat × Sd) : whereI p (l ++ [x]) = if flipB p x.2 then -whereI p l else whereI p l := by simp [whereI]
theorem whereI_in (p : Pl) (l : List (Nat × Sd)) : -1 ≤ whereI p l ∧ whereI p l ≤ 1 := by
  have : ∀ (l : List (Nat × Sd)) (v : Int), (-1 ≤ v ∧ v ≤ 1) → -1 ≤ l.foldl (fun v x => if flipB p x.2 then -v else v) v ∧ l.foldl (fun v x => if flipB p x.2 then -v else v) v ≤ 1 := by
    intro l
    induction l with
    | nil => intro v h; exact h
    | cons x l ih => intro v h; refine ih _ ?_; dsimp only; split <;> omega
  exact this l (-1) (by omega)
def positionI (ps : List Pl) (p : Pl) : Int := if (numbered ps ps.length).any (fun x => touchB x.2 (p, p)) then 0 else whereI p (numbered ps ps.length)

set_option maxRecDepth 100000 in
set_option maxHeartbeats 8000000 in
theorem position_ok (A : Option Addr) (c : Nat) (ps : List Pl) (p : Pl) (w : World) (hg : GoodP ps) (hin : In 1000000 p) (hp : PlacesR w w.heap.size A ps) :
    Calls Try.prog 26 #[.slice A ps.length c, plV p] w fun e w' => e = .returned (.int .i64 (positionI ps p)) ∧ Below w.heap.size w w' := by
  refine (callsIn_wide (n := 9)).1 ?_
  refine callsIn_of_wp_marks Try.func26 rfl trivial ?_ rfl
  simp only [Try.ntmps26, List.size_toArray, List.length_cons, List.length_nil, Nat.reduceAdd, Nat.reduceSub, Array.replicate_succ, Array.replicate_zero, List.push_toArray, List.append_toArray, List.nil_append, List.cons_append]
  have HP := Lib.hid hp
  have HG := Lib.hid hg
  have HI := Lib.hid hin
  clear hp hg hin
  unfold plV
  gi_wp2_with (refine ⟨trivial, ?_⟩; gi_at_call 22; refine (sides_in Fence.wide _ trivial rfl _ _ _ _).mono ?_; rintro e w' ⟨rfl, rfl⟩)
  have bP := (((BoxP.new w p).alloc (.cells #[.int .i64 0] 3)).alloc (.cells #[.int .i64 (-1)] 3)).alloc (.cells #[.slice A ps.length c] 41)
  have bQ := ((Boxed.new (w.alloc (.cells #[.int .i64 p.1, .int .i64 p.2] 40)) 3 (.int .i64 0)).alloc (.cells #[.int .i64 (-1)] 3)).alloc (.cells #[.slice A ps.length c] 41)
  have bR := (Boxed.new ((w.alloc (.cells #[.int .i64 p.1, .int .i64 p.2] 40)).alloc (.cells #[.int .i64 0] 3)) 3 (.int .i64 (-1))).alloc (.cells #[.slice A ps.length c] 41)
  have bA := Boxed.new (((w.alloc (.cells #[.int .i64 p.1, .int .i64 p.2] 40)).alloc (.cells #[.int .i64 0] 3)).alloc (.cells #[.int .i64 (-1)] 3)) 41 (.slice A ps.length c)
  simp only [World.size_alloc] at bQ bR bA
  have hB0 : Below w.heap.size w ((((w.alloc (.cells #[.int .i64 p.1, .int .i64 p.2] 40)).alloc (.cells #[.int .i64 0] 3)).alloc (.cells #[.int .i64 (-1)] 3)).alloc (.cells #[.slice A ps.length c] 41)) := ((((Below.refl _ w).alloc (Nat.le_refl _) _).alloc (by simp) _).alloc (by simp; omega) _).alloc (by simp; omega) _
  have hsz : ((((w.alloc (.cells #[.int .i64 p.1, .int .i64 p.2] 40)).alloc (.cells #[.int .i64 0] 3)).alloc (.cells #[.int .i64 (-1)] 3)).alloc (.cells #[.slice A ps.length c] 41)).heap.size = w.heap.size + 4 := by simp
  obtain ⟨W0, hW0⟩ : ∃ W0, (((w.alloc (.cells #[.int .i64 p.1, .int .i64 p.2] 40)).alloc (.cells #[.int .i64 0] 3)).alloc (.cells #[.int .i64 (-1)] 3)).alloc (.cells #[.slice A ps.length c] 41) = W0 := ⟨_, rfl⟩
  rw [hW0] at bP bQ bR bA hB0 hsz ⊢
  clear hW0
  have hP0 : PlacesR W0 w.heap.size A ps := HP.out.below hB0
  refine wpIn_rangeFunc_ownH rfl (by omega) (gf := 35) (lb := #[.pointer (some ⟨w.heap.size + 1 + 1 + 1, 0, none⟩)]) rfl trivial (enters_of Try.func35 (by kernel_rfl) rfl)
    (sidesLaw _ (by omega) (w.heap.size + 1 + 1 + 1) w.heap.size A c ps W0 HG.out.many HG.out.near (by omega) (by omega) bA.cell hP0) keepS_t (keepS_b (by omega)) (Below.refl _ _) (fun _ => rfl)
    (fun pre W => (((((∀ x ∈ pre, touchB x.1.2 (p, p) = false) ∧ Boxed W (w.heap.size + 1 + 1) 3 (.int .i64 (whereI p (pre.map (·.1))))) ∧ BoxP W w.heap.size p) ∧ Boxed W (w.heap.size + 1) 3 (.int .i64 0)) ∧ Boxed W (w.heap.size + 1 + 1 + 1) 41 (.slice A ps.length c)) ∧ Below w.heap.size w W)
    (fun cc pre W => ((cc = .ret ∧ ∃ x ∈ pre, touchB x.1.2 (p, p) = true) ∧ Boxed W (w.heap.size + 1) 3 (.int .i64 0)) ∧ Below w.heap.size w W)
    (OwnFrom.and (OwnFrom.and (OwnFrom.and (OwnFrom.and (OwnFrom.and (ownFrom_pure _ _) (Own.from (boxed_own _ _ (fun pre : List SdX => Value.int .i64 (whereI p (pre.map (·.1))))) _)) (Own.from (boxP_own _ (fun _ => p)) _)) (Own.from (boxed_own _ _ _) _)) (Own.from (boxed_own _ _ _) _)) (ownFrom_below (Nat.le_refl _) (by omega)))
    (fun cc => OwnFrom.and (OwnFrom.and (ownFrom_pure _ _) (Own.from (boxed_own _ _ _) _)) (ownFrom_below (Nat.le_refl _) (by omega)))
    ⟨⟨⟨⟨⟨by simp, bR⟩, bP⟩, bQ⟩, bA⟩, hB0⟩
    (fun x a' W => ∃ Bs, w.heap.size + 1 + 1 + 1 < Bs ∧ BoxS W Bs x.1.2 ∧ a' = { tmps := #[.slice A ps.length c, .agg #[.int .i64 p.1, .int .i64 p.2], undef, .pointer (some ⟨w.heap.size, 0, none⟩), .pointer (some ⟨w.heap.size + 1, 0, none⟩), .pointer (some ⟨w.heap.size + 1 + 1, 0, none⟩), undef, .pointer (some ⟨Bs, 0, none⟩), undef, .slice A ps.length c, .func (.func 35) #[] #[.pointer (some ⟨w.heap.size + 1 + 1 + 1, 0, none⟩)], .int .i64 x.1.1, sdV x.1.2, undef, undef, undef, undef, undef, undef, undef, undef, undef, undef, undef, undef, undef, undef, undef, undef, undef, undef, undef, undef, undef, undef, undef, undef, undef, undef, undef, undef, undef, undef, undef], defers := [] })
    (fun x a' _ X Y row hs hg hr => by
      obtain ⟨Bs, e0, e2, e3⟩ := hs
      exact ⟨Bs, e0, boxS_own Bs (fun (_ : Unit) => x.1.2) () X Y row e2 hg (fun r e => (hr r e).2), e3⟩)
    ?assign ?body ?done ?stop
  case assign =>
    rintro l pre x W K ⟨⟨⟨⟨⟨hp, bR1⟩, bP1⟩, bQ1⟩, bA1⟩, hB1⟩ hK
    unfold encX sdV
    gi_wp2
    exact hK _ _ ((KeepsOthers.alloc _ _).from _) (keepS_alloc hB1.size _) ⟨⟨⟨⟨⟨hp, bR1.alloc _⟩, bP1.alloc _⟩, bQ1.alloc _⟩, bA1.alloc _⟩, hB1.alloc hB1.size _⟩ ⟨W.heap.size, bA1.lt, BoxS.new W x.1.2, rfl⟩
  case body =>
    rintro l pre x a' W hl hr ⟨⟨⟨⟨⟨hp, bR1⟩, bP1⟩, bQ1⟩, bA1⟩, hB1⟩ ⟨Bs, hBx, bS, rfl⟩ hlt
    obtain ⟨z, hz⟩ : ∃ z, whereI p (pre.map (·.1)) = z := ⟨_, rfl⟩
    have hzi := whereI_in p (pre.map (·.1))
    rw [hz] at bR1 hzi
    have s0 := bS.c0
    have s1 := bS.c1
    have s2 := bS.c2
    have s3 := bS.c3
    have p0 := bP1.c0
    have p1 := bP1.c1
    have cQ := bQ1.cell
    have fQ := bQ1.frozen
    have hx := x.2.2
    have hw : IntKind.i64.wrap (-z) = -z := IntWalk.i64_in _ (by omega)
    obtain ⟨t, ht⟩ : ∃ t, turnI x.1.2.1 x.1.2.2 p = t := ⟨_, rfl⟩
    have HT2 : ∀ W, Calls Try.prog 37 #[.agg #[.int .i64 x.1.2.1.1, .int .i64 x.1.2.1.2], .agg #[.int .i64 x.1.2.2.1, .int .i64 x.1.2.2.2], .agg #[.int .i64 p.1, .int .i64 p.2]] W fun e w' => e = .returned (.int .i64 t) ∧ Below W.heap.size W w' := fun W => by
      have h := turn_any x.1.2.1 x.1.2.2 p W hx.1 hx.2 HI.out
      rw [ht] at h; exact h
    have HN : Hid (∀ (w3 : World) (B : Nat) (v : Int), Below W.heap.size W w3 → touchB x.1.2 (p, p) = false → (if flipB p x.1.2 then -z else z) = v → Boxed w3 (w.heap.size + 1 + 1) 3 (.int .i64 v) → BoxP w3 w.heap.size p → True) := Lib.hid fun _ _ _ _ _ _ _ _ => trivial
    have HF : Hid (∀ (w3 : World) (B : Nat), Below W.heap.size W w3 → touchB x.1.2 (p, p) = false → flipB p x.1.2 = false → (KeepsFrom B W w3 ∧ KeepS w.heap.size (w.heap.size + 1 + 1 + 1) W w3 ∧ (((((∀ y ∈ pre ++ [x], touchB y.1.2 (p, p) = false) ∧ Boxed w3 (w.heap.size + 1 + 1) 3 (.int .i64 (whereI p ((pre ++ [x]).map (·.1))))) ∧ BoxP w3 w.heap.size p) ∧ Boxed w3 (w.heap.size + 1) 3 (.int .i64 0)) ∧ Boxed w3 (w.heap.size + 1 + 1 + 1) 41 (.slice A ps.length c)) ∧ Below w.heap.size w w3)) :=
      Lib.hid fun w3 B hb h1 h2 => ⟨(keepsOthers_below hb).from _, keepS_below hb hB1.size, ⟨⟨⟨⟨fun y hy => (List.mem_append.1 hy).elim (hp y) (fun e => by simp only [List.mem_singleton] at e; subst e; exact h1), by rw [List.map_append, List.map_cons, List.map_nil, whereI_snoc, h2, hz]; exact boxed_below bR1 hb⟩, bP1.below hb⟩, boxed_below bQ1 hb⟩, boxed_below bA1 hb⟩, hB1.trans (hb.mono hB1.size)⟩
    have HS : Hid (∀ (w3 : World) (B : Nat), Below W.heap.size W w3 → touchB x.1.2 (p, p) = false → flipB p x.1.2 = true → (KeepsFrom B W (w3.setCell ⟨w.heap.size + 1 + 1, 0, none⟩ (.int .i64 (-z))) ∧ KeepS w.heap.size (w.heap.size + 1 + 1 + 1) W (w3.setCell ⟨w.heap.size + 1 + 1, 0, none⟩ (.int .i64 (-z))) ∧ (((((∀ y ∈ pre ++ [x], touchB y.1.2 (p, p) = false) ∧ Boxed (w3.setCell ⟨w.heap.size + 1 + 1, 0, none⟩ (.int .i64 (-z))) (w.heap.size + 1 + 1) 3 (.int .i64 (whereI p ((pre ++ [x]).map (·.1))))) ∧ BoxP (w3.setCell ⟨w.heap.size + 1 + 1, 0, none⟩ (.int .i64 (-z))) w.heap.size p) ∧ Boxed (w3.setCell ⟨w.heap.size + 1 + 1, 0, none⟩ (.int .i64 (-z))) (w.heap.size + 1) 3 (.int .i64 0)) ∧ Boxed (w3.setCell ⟨w.heap.size + 1 + 1, 0, none⟩ (.int .i64 (-z))) (w.heap.size + 1 + 1 + 1) 41 (.slice A ps.length c)) ∧ Below w.heap.size w (w3.setCell ⟨w.heap.size + 1 + 1, 0, none⟩ (.int .i64 (-z))))) :=
      Lib.hid fun w3 B hb h1 h2 => ⟨((keepsOthers_below hb).trans (KeepsOthers.setCell _ _ _)).from _, keepS_t (keepS_below hb hB1.size) (keepS_set (by omega) (by omega) _), ⟨⟨⟨⟨fun y hy => (List.mem_append.1 hy).elim (hp y) (fun e => by simp only [List.mem_singleton] at e; subst e; exact h1), by rw [List.map_append, List.map_cons, List.map_nil, whereI_snoc, h2, hz]; exact (boxed_below bR1 hb).set _⟩, (bP1.below hb).other (by omega) _⟩, (boxed_below bQ1 hb).other (by omega) _⟩, (boxed_below bA1 hb).other (by omega) _⟩, (hB1.trans (hb.mono hB1.size)).setCell (p := ⟨w.heap.size + 1 + 1, 0, none⟩) (by simp; omega) _⟩
    have HX : Hid (∀ (w3 : World) (B : Nat), Below W.heap.size W w3 → touchB x.1.2 (p, p) = true → (KeepsFrom B W (w3.setCell ⟨w.heap.size + 1, 0, none⟩ (.int .i64 0)) ∧ (∃ y ∈ pre ++ [x], touchB y.1.2 (p, p) = true) ∧ Boxed (w3.setCell ⟨w.heap.size + 1, 0, none⟩ (.int .i64 0)) (w.heap.size + 1) 3 (.int .i64 0) ∧ Below w.heap.size w (w3.setCell ⟨w.heap.size + 1, 0, none⟩ (.int .i64 0)))) :=
      Lib.hid fun w3 B hb h1 => ⟨((keepsOthers_below hb).trans (KeepsOthers.setCell _ _ _)).from _, ⟨x, List.mem_append.2 (.inr (by simp)), h1⟩, (boxed_below bQ1 hb).set _, (hB1.trans (hb.mono hB1.size)).setCell (p := ⟨w.heap.size + 1, 0, none⟩) (by simp) _⟩
    have HTT := Lib.hid ht
    generalize hQ2 : ownPostG _ _ _ _ _ _ = Q2
    have HQ := Lib.hid hQ2
    clear hQ2 ht hz hr hl hsz hp HN
    cases hto : touchB x.1.2 (p, p)
    · have HC : ∀ W, Calls Try.prog 36 #[.agg #[.int .i64 x.1.2.1.1, .int .i64 x.1.2.1.2, .int .i64 x.1.2.2.1, .int .i64 x.1.2.2.2], .agg #[.int .i64 p.1, .int .i64 p.2, .int .i64 p.1, .int .i64 p.2]] W fun e w' => e = .returned (.bool false) ∧ Below W.heap.size W w' := fun W => by have h := touching_any x.1.2 (p, p) W hx ⟨HI.out, HI.out⟩; rw [hto] at h; exact h
      have hfu : flipB p x.1.2 = if decide (p.2 < x.1.2.2.2) = decide (p.2 < x.1.2.1.2) then false else decide (decide (p.2 < x.1.2.2.2) = decide (0 < t)) := by unfold flipB; rw [HTT.out]
      cases hu : decide (p.2 < x.1.2.2.2) <;> cases hf : decide (p.2 < x.1.2.1.2) <;> cases htt : decide (0 < t)
      · have hfl : Hid (flipB p x.1.2 = false) := Lib.hid (by rw [hfu, hu, hf, htt]; rfl)
        clear hfu
        gi_wp2_with (first | (refine ⟨trivial, ?_⟩; gi_at_call 36; (with_reducible refine (CallsIn.inRound l (callsIn_wide.2 (HC _))).mono ?_); rintro e w3 ⟨rfl, hb3⟩; have bR3 := boxed_below bR1 hb3; have cR3 := bR3.cell; have fR3 := bR3.frozen; have bS3 := bS.below hb3; have s30 := bS3.c0; have s31 := bS3.c1; have s32 := bS3.c2; have s33 := bS3.c3; have bP3 := bP1.below hb3; have p30 := bP3.c0; have p31 := bP3.c1) | (refine ⟨trivial, ?_⟩; gi_at_call 37; (with_reducible refine (CallsIn.inRound l (callsIn_wide.2 (HT2 _))).mono ?_); rintro e w4 ⟨rfl, hb4⟩; have bR4 := boxed_below bR3 hb4; have cR4 := bR4.cell; have fR4 := bR4.frozen))
        rw [← HQ.out]; exact HF.out _ _ hb3 hto hfl.out
      · have hfl : Hid (flipB p x.1.2 = false) := Lib.hid (by rw [hfu, hu, hf, htt]; rfl)
        clear hfu
        gi_wp2_with (first | (refine ⟨trivial, ?_⟩; gi_at_call 36; (with_reducible refine (CallsIn.inRound l (callsIn_wide.2 (HC _))).mono ?_); rintro e w3 ⟨rfl, hb3⟩; have bR3 := boxed_below bR1 hb3; have cR3 := bR3.cell; have fR3 := bR3.frozen; have bS3 := bS.below hb3; have s30 := bS3.c0; have s31 := bS3.c1; have s32 := bS3.c2; have s33 := bS3.c3; have bP3 := bP1.below hb3; have p30 := bP3.c0; have p31 := bP3.c1) | (refine ⟨trivial, ?_⟩; gi_at_call 37; (with_reducible refine (CallsIn.inRound l (callsIn_wide.2 (HT2 _))).mono ?_); rintro e w4 ⟨rfl, hb4⟩; have bR4 := boxed_below bR3 hb4; have cR4 := bR4.cell; have fR4 := bR4.frozen))
        rw [← HQ.out]; exact HF.out _ _ hb3 hto hfl.out
      · have hfl : Hid (flipB p x.1.2 = true) := Lib.hid (by rw [hfu, hu, hf, htt]; rfl)
        clear hfu
        gi_wp2_with (first | (refine ⟨trivial, ?_⟩; gi_at_call 36; (with_reducible refine (CallsIn.inRound l (callsIn_wide.2 (HC _))).mono ?_); rintro e w3 ⟨rfl, hb3⟩; have bR3 := boxed_below bR1 hb3; have cR3 := bR3.cell; have fR3 := bR3.frozen; have bS3 := bS.below hb3; have s30 := bS3.c0; have s31 := bS3.c1; have s32 := bS3.c2; have s33 := bS3.c3; have bP3 := bP1.below hb3; have p30 := bP3.c0; have p31 := bP3.c1) | (refine ⟨trivial, ?_⟩; gi_at_call 37; (with_reducible refine (CallsIn.inRound l (callsIn_wide.2 (HT2 _))).mono ?_); rintro e w4 ⟨rfl, hb4⟩; have bR4 := boxed_below bR3 hb4; have cR4 := bR4.cell; have fR4 := bR4.frozen))
        rw [← HQ.out]; exact HS.out _ _ (hb3.trans (hb4.mono hb3.size)) hto hfl.out
      · have hfl : Hid (flipB p x.1.2 = false) := Lib.hid (by rw [hfu, hu, hf, htt]; rfl)
        clear hfu
        gi_wp2_with (first | (refine ⟨trivial, ?_⟩; gi_at_call 36; (with_reducible refine (CallsIn.inRound l (callsIn_wide.2 (HC _))).mono ?_); rintro e w3 ⟨rfl, hb3⟩; have bR3 := boxed_below bR1 hb3; have cR3 := bR3.cell; have fR3 := bR3.frozen; have bS3 := bS.below hb3; have s30 := bS3.c0; have s31 := bS3.c1; have s32 := bS3.c2; have s33 := bS3.c3; have bP3 := bP1.below hb3; have p30 := bP3.c0; have p31 := bP3.c1) | (refine ⟨trivial, ?_⟩; gi_at_call 37; (with_reducible refine (CallsIn.inRound l (callsIn_wide.2 (HT2 _))).mono ?_); rintro e w4 ⟨rfl, hb4⟩; have bR4 := boxed_below bR3 hb4; have cR4 := bR4.cell; have fR4 := bR4.frozen))
        rw [← HQ.out]; exact HF.out _ _ (hb3.trans (hb4.mono hb3.size)) hto hfl.out
      · have hfl : Hid (flipB p x.1.2 = false) := Lib.hid (by rw [hfu, hu, hf, htt]; rfl)
        clear hfu
        gi_wp2_with (first | (refine ⟨trivial, ?_⟩; gi_at_call 36; (with_reducible refine (CallsIn.inRound l (callsIn_wide.2 (HC _))).mono ?_); rintro e w3 ⟨rfl, hb3⟩; have bR3 := boxed_below bR1 hb3; have cR3 := bR3.cell; have fR3 := bR3.frozen; have bS3 := bS.below hb3; have s30 := bS3.c0; have s31 := bS3.c1; have s32 := bS3.c2; have s33 := bS3.c3; have bP3 := bP1.below hb3; have p30 := bP3.c0; have p31 := bP3.c1) | (refine ⟨trivial, ?_⟩; gi_at_call 37; (with_reducible refine (CallsIn.inRound l (callsIn_wide.2 (HT2 _))).mono ?_); rintro e w4 ⟨rfl, hb4⟩; have bR4 := boxed_below bR3 hb4; have cR4 := bR4.cell; have fR4 := bR4.frozen))
        rw [← HQ.out]; exact HF.out _ _ (hb3.trans (hb4.mono hb3.size)) hto hfl.out
      · have hfl : Hid (flipB p x.1.2 = true) := Lib.hid (by rw [hfu, hu, hf, htt]; rfl)
        clear hfu
        gi_wp2_with (first | (refine ⟨trivial, ?_⟩; gi_at_call 36; (with_reducible refine (CallsIn.inRound l (callsIn_wide.2 (HC _))).mono ?_); rintro e w3 ⟨rfl, hb3⟩; have bR3 := boxed_below bR1 hb3; have cR3 := bR3.cell; have fR3 := bR3.frozen; have bS3 := bS.below hb3; have s30 := bS3.c0; have s31 := bS3.c1; have s32 := bS3.c2; have s33 := bS3.c3; have bP3 := bP1.below hb3; have p30 := bP3.c0; have p31 := bP3.c1) | (refine ⟨trivial, ?_⟩; gi_at_call 37; (with_reducible refine (CallsIn.inRound l (callsIn_wide.2 (HT2 _))).mono ?_); rintro e w4 ⟨rfl, hb4⟩; have bR4 := boxed_below bR3 hb4; have cR4 := bR4.cell; have fR4 := bR4.frozen))
        rw [← HQ.out]; exact HS.out _ _ (hb3.trans (hb4.mono hb3.size)) hto hfl.out
      · have hfl : Hid (flipB p x.1.2 = false) := Lib.hid (by rw [hfu, hu, hf, htt]; rfl)
        clear hfu
        gi_wp2_with (first | (refine ⟨trivial, ?_⟩; gi_at_call 36; (with_reducible refine (CallsIn.inRound l (callsIn_wide.2 (HC _))).mono ?_); rintro e w3 ⟨rfl, hb3⟩; have bR3 := boxed_below bR1 hb3; have cR3 := bR3.cell; have fR3 := bR3.frozen; have bS3 := bS.below hb3; have s30 := bS3.c0; have s31 := bS3.c1; have s32 := bS3.c2; have s33 := bS3.c3; have bP3 := bP1.below hb3; have p30 := bP3.c0; have p31 := bP3.c1) | (refine ⟨trivial, ?_⟩; gi_at_call 37; (with_reducible refine (CallsIn.inRound l (callsIn_wide.2 (HT2 _))).mono ?_); rintro e w4 ⟨rfl, hb4⟩; have bR4 := boxed_below bR3 hb4; have cR4 := bR4.cell; have fR4 := bR4.frozen))
        rw [← HQ.out]; exact HF.out _ _ hb3 hto hfl.out
      · have hfl : Hid (flipB p x.1.2 = false) := Lib.hid (by rw [hfu, hu, hf, htt]; rfl)
        clear hfu
        gi_wp2_with (first | (refine ⟨trivial, ?_⟩; gi_at_call 36; (with_reducible refine (CallsIn.inRound l (callsIn_wide.2 (HC _))).mono ?_); rintro e w3 ⟨rfl, hb3⟩; have bR3 := boxed_below bR1 hb3; have cR3 := bR3.cell; have fR3 := bR3.frozen; have bS3 := bS.below hb3; have s30 := bS3.c0; have s31 := bS3.c1; have s32 := bS3.c2; have s33 := bS3.c3; have bP3 := bP1.below hb3; have p30 := bP3.c0; have p31 := bP3.c1) | (refine ⟨trivial, ?_⟩; gi_at_call 37; (with_reducible refine (CallsIn.inRound l (callsIn_wide.2 (HT2 _))).mono ?_); rintro e w4 ⟨rfl, hb4⟩; have bR4 := boxed_below bR3 hb4; have cR4 := bR4.cell; have fR4 := bR4.frozen))
        rw [← HQ.out]; exact HF.out _ _ hb3 hto hfl.out
    · have HC : ∀ W, Calls Try.prog 36 #[.agg #[.int .i64 x.1.2.1.1, .int .i64 x.1.2.1.2, .int .i64 x.1.2.2.1, .int .i64 x.1.2.2.2], .agg #[.int .i64 p.1, .int .i64 p.2, .int .i64 p.1, .int .i64 p.2]] W fun e w' => e = .returned (.bool true) ∧ Below W.heap.size W w' := fun W => by have h := touching_any x.1.2 (p, p) W hx ⟨HI.out, HI.out⟩; rw [hto] at h; exact h
      gi_wp2_with (refine ⟨trivial, ?_⟩; gi_at_call 36; (with_reducible refine (CallsIn.inRound l (callsIn_wide.2 (HC _))).mono ?_); rintro e w3 ⟨rfl, hb3⟩; have bQ3 := boxed_below bQ1 hb3; have cQ3 := bQ3.cell; have fQ3 := bQ3.frozen)
      rw [← HQ.out]; obtain ⟨k1, k2, k3, k4⟩ := HX.out w3 W0.heap.size hb3 hto; exact ⟨k1, ⟨⟨rfl, k2⟩, k3⟩, k4⟩
  case done =>
    rintro D xs W hD hS ⟨⟨⟨⟨⟨hp, bR1⟩, bP1⟩, bQ1⟩, bA1⟩, hB1⟩ hK
    obtain ⟨z, hz⟩ : ∃ z, whereI p (xs.map (·.1)) = z := ⟨_, rfl⟩
    rw [hz] at bR1
    have cR := bR1.cell
    have cQ := bQ1.cell
    have fQ := bQ1.frozen
    have HT : Hid (positionI ps p = z) := Lib.hid (by
      unfold positionI
      rw [← hS, if_neg (by intro h; obtain ⟨u, hu, hv⟩ := List.any_eq_true.1 h; obtain ⟨v, hv2, rfl⟩ := List.mem_map.1 hu; rw [hp v hv2] at hv; cases hv), hz])
    clear hS hz hp
    gi_wp2
    have hK' := (KeepsOthers.setCell W ⟨w.heap.size + 1, 0, none⟩ (.int .i64 z)).same D _ hK rfl
    refine ⟨by simp, .inl ⟨_, _, rfl, run_takeDeferred hK', ?_⟩⟩
    have hc5 := cell_kept (bQ1.set (.int .i64 z)).cell (grownBy_putObj' _ D (.deferred none)) (fun r e => by cases e; exact ⟨_, hK', rfl⟩)
    refine ⟨.int .i64 z, ?_, by rw [HT.out], (hB1.setCell (p := ⟨w.heap.size + 1, 0, none⟩) (by simp) _).trans (belowK_b (w := w) (Nat.le_refl _) _ D _ _ (by omega) hK' rfl rfl)⟩
    simp [results, Try.f26, go_sem, hc5]
  case stop =>
    rintro D cc pre W hD hpre ⟨⟨⟨rfl, x, hx, hy⟩, bQ1⟩, hB1⟩ hK
    gi_wp2
    refine ⟨by simp, .inl ⟨_, _, rfl, run_takeDeferred hK, ?_⟩⟩
    have hc5 := cell_kept bQ1.cell (grownBy_putObj' _ D (.deferred none)) (fun r e => by cases e; exact ⟨_, hK, rfl⟩)
    refine ⟨.int .i64 0, ?_, ?_, hB1.trans (belowK_b (w := w) (Nat.le_refl _) W D _ _ (by omega) hK rfl rfl)⟩
    · simp [results, Try.f26, go_sem, hc5]
    · unfold positionI
      rw [if_pos (List.any_eq_true.2 ⟨x.1, hpre.subset (List.mem_map.2 ⟨x, hx, rfl⟩), hy⟩)]

end Go.Proofs.Ytclhohfkacgooaa
