/- isSimple: no side's ends are one place, no two sides have more in common than neighbours may. -/
import Derived.Test.YtclhohfkacgooaaPolyS
import Derived.OwnWalkIn
namespace Go.Proofs.Ytclhohfkacgooaa
open Go.RowKit Go.Shelf

attribute [local go_sem] Oper.semAt_some

/-- Two sides that have more in common than they may. -/
def badPair (n : Nat) (x y : Nat × Sd) : Bool :=
  if y.1 ≤ x.1 then false else if y.1 = x.1 + 1 then foldB x.2 y.2 else if x.1 = 0 ∧ y.1 = n - 1 then foldB y.2 x.2 else touchB x.2 y.2
def badSide (ps : List Pl) (x : Nat × Sd) : Bool := decide (x.2.1 = x.2.2) || (numbered ps ps.length).any fun y => badPair ps.length x y
def simpleB (ps : List Pl) : Bool := !((numbered ps ps.length).any (badSide ps))

set_option maxRecDepth 100000 in
set_option maxHeartbeats 8000000 in
theorem isSimple_of (HL : SidesLaw) (A : Option Addr) (c : Nat) (ps : List Pl) (w : World) (h64 : ps.length ≤ 64) (hin : ∀ p ∈ ps, In 1000000 p) (hp : PlacesR w w.heap.size A ps) :
    Calls Try.prog 34 #[.slice A ps.length c] w fun e w' => e = .returned (.bool (simpleB ps)) ∧ Below w.heap.size w w' := by
  refine (callsIn_wide (n := 9)).1 ?_
  refine callsIn_of_wp_marks Try.func34 rfl trivial ?_ rfl
  simp only [Try.ntmps34, List.size_toArray, List.length_cons, List.length_nil, Nat.reduceAdd, Nat.reduceSub, Array.replicate_succ, Array.replicate_zero, List.push_toArray, List.append_toArray, List.nil_append, List.cons_append]
  have HP := Lib.hid hp
  clear hp
  gi_wp2
  refine wpIn_wide.2 (wp_scope_straight ((wpIn_wide (n := 9)).1 ?_))
  gi_wp2
  refine wpIn_label ?_
  gi_wp2_with (refine ⟨trivial, ?_⟩; gi_at_call 22; refine (sides_in Fence.wide _ trivial rfl _ _ _ _).mono ?_; rintro e w' ⟨rfl, rfl⟩)
  have bL := ((Boxed.new w 41 (.slice A ps.length c)).alloc (.cells #[.bool true] 4)).alloc (.cells #[.slice A ps.length c] 41)
  have bR := (Boxed.new (w.alloc (.cells #[.slice A ps.length c] 41)) 4 (.bool true)).alloc (.cells #[.slice A ps.length c] 41)
  have bA := Boxed.new ((w.alloc (.cells #[.slice A ps.length c] 41)).alloc (.cells #[.bool true] 4)) 41 (.slice A ps.length c)
  simp only [World.size_alloc] at bR bA
  have hB0 : Below w.heap.size w (((w.alloc (.cells #[.slice A ps.length c] 41)).alloc (.cells #[.bool true] 4)).alloc (.cells #[.slice A ps.length c] 41)) := (((Below.refl _ w).alloc (Nat.le_refl _) _).alloc (by simp) _).alloc (by simp; omega) _
  have hsz : (((w.alloc (.cells #[.slice A ps.length c] 41)).alloc (.cells #[.bool true] 4)).alloc (.cells #[.slice A ps.length c] 41)).heap.size = w.heap.size + 3 := by simp
  obtain ⟨W0, hW0⟩ : ∃ W0, ((w.alloc (.cells #[.slice A ps.length c] 41)).alloc (.cells #[.bool true] 4)).alloc (.cells #[.slice A ps.length c] 41) = W0 := ⟨_, rfl⟩
  rw [hW0] at bL bR bA hB0 hsz ⊢
  clear hW0
  refine wpIn_rangeFunc_ownH rfl (by omega) (gf := 35) (lb := #[.pointer (some ⟨w.heap.size + 1 + 1, 0, none⟩)]) rfl trivial (enters_of Try.func35 (by kernel_rfl) rfl)
    (HL _ (by omega) (w.heap.size + 1 + 1) w.heap.size A c ps W0 h64 hin (by omega) (by omega) bA.cell (HP.out.below hB0)) keepS_t (keepS_b (by omega)) (Below.refl _ _) (fun _ => rfl)
    (fun pre W => ((((∀ x ∈ pre, badSide ps x.1 = false) ∧ Boxed W (w.heap.size + 1) 4 (.bool true)) ∧ Boxed W w.heap.size 41 (.slice A ps.length c)) ∧ Boxed W (w.heap.size + 1 + 1) 41 (.slice A ps.length c)) ∧ Below w.heap.size w W)
    (fun cc pre W => ((cc = .exit 0 ∧ ∃ x ∈ pre, badSide ps x.1 = true) ∧ Boxed W (w.heap.size + 1) 4 (.bool false)) ∧ Below w.heap.size w W)
    (OwnFrom.and (OwnFrom.and (OwnFrom.and (OwnFrom.and (ownFrom_pure _ _) (Own.from (boxed_own _ _ _) _)) (Own.from (boxed_own _ _ _) _)) (Own.from (boxed_own _ _ _) _)) (ownFrom_below (Nat.le_refl _) (by omega)))
    (fun cc => OwnFrom.and (OwnFrom.and (ownFrom_pure _ _) (Own.from (boxed_own _ _ _) _)) (ownFrom_below (Nat.le_refl _) (by omega)))
    ⟨⟨⟨⟨by simp, bR⟩, bL⟩, bA⟩, hB0⟩
    (fun x a' W => ∃ Bi Ba, (w.heap.size + 1 + 1 < Bi ∧ w.heap.size + 1 + 1 < Ba) ∧ Boxed W Bi 3 (.int .i64 x.1.1) ∧ BoxS W Ba x.1.2 ∧ a' = { tmps := #[.slice A ps.length c, .pointer (some ⟨w.heap.size, 0, none⟩), .bool false, .pointer (some ⟨w.heap.size + 1, 0, none⟩), .pointer (some ⟨Bi, 0, none⟩), .pointer (some ⟨Ba, 0, none⟩), undef, undef, undef, .slice A ps.length c, .func (.func 35) #[] #[.pointer (some ⟨w.heap.size + 1 + 1, 0, none⟩)], .int .i64 x.1.1, sdV x.1.2, undef, undef, undef, undef, undef, undef, undef, undef, undef, undef, undef, undef, undef, undef, undef, undef, undef, undef, undef, undef, undef, undef, undef, undef, undef, undef, undef, undef, undef, undef, undef, undef, undef, undef, undef, undef, undef, undef, undef], defers := [] })
    (fun x a' _ X Y row hs hg hr => by
      obtain ⟨Bi, Ba, e0, e1, e2, e3⟩ := hs
      exact ⟨Bi, Ba, e0, boxed_own Bi 3 (fun (_ : Unit) => Value.int .i64 x.1.1) () X Y row e1 hg (fun r e => (hr r e).2), boxS_own Ba (fun (_ : Unit) => x.1.2) () X Y row e2 hg (fun r e => (hr r e).2), e3⟩)
    ?assign ?body ?done ?stop
  case assign =>
    rintro l pre x W K ⟨⟨⟨⟨hp, bR1⟩, bL1⟩, bA1⟩, hB1⟩ hK
    unfold encX sdV
    gi_wp2
    have b1 := Boxed.new W 3 (.int .i64 x.1.1)
    have b2 := BoxS.new (W.alloc (.cells #[.int .i64 x.1.1] 3)) x.1.2
    simp only [World.size_alloc] at b2
    exact hK _ _ (((KeepsOthers.alloc _ _).from _).trans ((KeepsOthers.alloc _ _).from _)) (keepS_t (keepS_alloc hB1.size _) (keepS_alloc (by simp; exact Nat.le_succ_of_le hB1.size) _)) ⟨⟨⟨⟨hp, (bR1.alloc _).alloc _⟩, (bL1.alloc _).alloc _⟩, (bA1.alloc _).alloc _⟩, (hB1.alloc hB1.size _).alloc (by simp; exact Nat.le_succ_of_le hB1.size) _⟩ ⟨W.heap.size, W.heap.size + 1, ⟨bA1.lt, Nat.lt_succ_of_lt bA1.lt⟩, b1.alloc _, b2, rfl⟩
  case body =>
    rintro l pre x a' W hl ⟨r, hr⟩ ⟨⟨⟨⟨hp, bR1⟩, bL1⟩, bA1⟩, hB1⟩ ⟨Bi, Ba, hBx, bI, bS, rfl⟩ hlt
    have cI := bI.cell
    have c0 := bS.c0
    have c1 := bS.c1
    have c2 := bS.c2
    have c3 := bS.c3
    have cL := bL1.cell
    have cR := bR1.cell
    have fR := bR1.frozen
    gi_wp2_with (refine ⟨trivial, ?_⟩; gi_at_call 22; refine (CallsIn.inRound l (sides_in Fence.wide _ trivial rfl _ _ _ _)).mono ?_; rintro e w' ⟨rfl, rfl⟩)
    · rename_i h1 h2
      exact ⟨(KeepsOthers.setCell _ _ _).from _, ⟨⟨rfl, x, List.mem_append.2 (.inr (by simp)), by unfold badSide; rw [decide_eq_true (Prod.ext h1 h2)]; rfl⟩, bR1.set _⟩, hB1.setCell (p := ⟨w.heap.size + 1, 0, none⟩) (by simp) _⟩
    all_goals
      rename_i h2
      have hne : ¬ x.1.2.1 = x.1.2.2 := fun e => by first | exact h2 (congrArg Prod.fst e) | exact h2 (congrArg Prod.snd e)
      try (rename x.1.2.1.1 = x.1.2.2.1 => hh; clear hh)
      clear h2 c0 c1 c2 c3 cI cL cR fR
      have hsW := hB1.size
      have bN := Boxed.new W 41 (.slice A ps.length c)
      have hr' : (W.alloc (.cells #[.slice A ps.length c] 41)).heap[l]? = some (.loop r) := (Below.heap_alloc W _ l (Array.getElem?_eq_some_iff.1 hr).1).trans hr
      refine wpIn_rangeFunc_ownN (l₀ := l) (r₀ := r) rfl hr' (by omega) (gf := 35) (lb := #[.pointer (some ⟨W.heap.size, 0, none⟩)]) rfl trivial (enters_of Try.func35 (by kernel_rfl) rfl)
        ((HL _ (by omega) W.heap.size w.heap.size A c ps _ h64 hin (by simp) (by simp; omega) bN.cell (HP.out.below (hB1.alloc hsW _))).inRound l) keepS_t (keepS_b (by simp; omega)) (Below.refl _ _) (fun _ => rfl)
        (fun pre' W' => ((((((∀ y ∈ pre', badPair ps.length x.1 y.1 = false) ∧ Boxed W' (w.heap.size + 1) 4 (.bool true)) ∧ Boxed W' w.heap.size 41 (.slice A ps.length c)) ∧ Boxed W' (w.heap.size + 1 + 1) 41 (.slice A ps.length c)) ∧ Boxed W' Bi 3 (.int .i64 x.1.1)) ∧ BoxS W' Ba x.1.2) ∧ (Below w.heap.size W W' ∧ KeepsFrom W0.heap.size W W'))
        (fun cc pre' W' => ((cc = .exit 0 ∧ ∃ y ∈ pre', badPair ps.length x.1 y.1 = true) ∧ Boxed W' (w.heap.size + 1) 4 (.bool false)) ∧ (Below w.heap.size W W' ∧ KeepsFrom W0.heap.size W W'))
        (OwnFrom.and (OwnFrom.and (OwnFrom.and (OwnFrom.and (OwnFrom.and (OwnFrom.and (ownFrom_pure _ _) (Own.from (boxed_own _ _ _) _)) (Own.from (boxed_own _ _ _) _)) (Own.from (boxed_own _ _ _) _)) (Own.from (boxed_own _ _ (fun _ => Value.int .i64 x.1.1)) _)) (Own.from (boxS_own _ (fun _ => x.1.2)) _)) (OwnFrom.and (ownFrom_below hsW (by simp; omega)) (ownFrom_keepsFrom (by simp))))
        (fun cc => OwnFrom.and (OwnFrom.and (ownFrom_pure _ _) (Own.from (boxed_own _ _ _) _)) (OwnFrom.and (ownFrom_below hsW (by simp; omega)) (ownFrom_keepsFrom (by simp))))
        ⟨⟨⟨⟨⟨⟨by simp, bR1.alloc _⟩, bL1.alloc _⟩, bA1.alloc _⟩, bI.alloc _⟩, bS.alloc _⟩, (Below.refl _ W).alloc hsW _, (KeepsOthers.alloc _ _).from _⟩
        (fun y a'' W' => ∃ Bb v12 v14 v16, BoxS W' Bb y.1.2 ∧ a'' = { tmps := #[.slice A ps.length c, .pointer (some ⟨w.heap.size, 0, none⟩), .bool false, .pointer (some ⟨w.heap.size + 1, 0, none⟩), .pointer (some ⟨Bi, 0, none⟩), .pointer (some ⟨Ba, 0, none⟩), .int .i64 y.1.1, .pointer (some ⟨Bb, 0, none⟩), undef, .slice A ps.length c, .func (.func 35) #[] #[.pointer (some ⟨w.heap.size + 1 + 1, 0, none⟩)], .int .i64 x.1.1, v12, .pointer (some ⟨Ba, 0, none⟩), v14, .pointer (some ⟨Ba, 2, none⟩), v16, .bool false, .slice A ps.length c, .func (.func 35) #[] #[.pointer (some ⟨W.heap.size, 0, none⟩)], .int .i64 y.1.1, sdV y.1.2, undef, undef, undef, undef, undef, undef, undef, undef, undef, undef, undef, undef, undef, undef, undef, undef, undef, undef, undef, undef, undef, undef, undef, undef, undef, undef, undef, undef, undef, undef], defers := [] })
        (fun y a'' _ X Y row hs hg hr => by
          obtain ⟨Bb, v12, v14, v16, e2, e3⟩ := hs
          exact ⟨Bb, v12, v14, v16, boxS_own Bb (fun (_ : Unit) => y.1.2) () X Y row e2 hg (fun r e => (hr r e).2), e3⟩)
        ?assign2 ?body2 ?done2 ?stop2
      case assign2 =>
        rintro l2 pre' y W' K ⟨⟨⟨⟨⟨⟨hq, bR2⟩, bL2⟩, bA2⟩, bI2⟩, bS2⟩, hBW, hKF⟩ hK
        have hsW' := Nat.le_trans hsW hBW.size
        unfold encX sdV
        gi_wp2
        exact hK _ _ ((KeepsOthers.alloc _ _).from _) (keepS_alloc hsW' _) ⟨⟨⟨⟨⟨⟨hq, bR2.alloc _⟩, bL2.alloc _⟩, bA2.alloc _⟩, bI2.alloc _⟩, bS2.alloc _⟩, hBW.alloc hsW' _, hKF.trans ((KeepsOthers.alloc _ _).from _)⟩ ⟨W'.heap.size, _, _, _, BoxS.new W' y.1.2, rfl⟩
      case body2 =>
        rintro l2 pre' y a'' W' hl2 hr2 ⟨⟨⟨⟨⟨⟨hq, bR2⟩, bL2⟩, bA2⟩, bI2⟩, bS2⟩, hBW, hKF⟩ ⟨Bb, v12, v14, v16, bT, rfl⟩ hlt2
        have hsW' := Nat.le_trans hsW hBW.size
        have finP : ∀ (w3 : World) (B : Nat), Below W'.heap.size W' w3 → badPair ps.length x.1 y.1 = false → (KeepsFrom B W' w3 ∧ KeepS w.heap.size W.heap.size W' w3 ∧ ((((((∀ z ∈ pre' ++ [y], badPair ps.length x.1 z.1 = false) ∧ Boxed w3 (w.heap.size + 1) 4 (.bool true)) ∧ Boxed w3 w.heap.size 41 (.slice A ps.length c)) ∧ Boxed w3 (w.heap.size + 1 + 1) 41 (.slice A ps.length c)) ∧ Boxed w3 Bi 3 (.int .i64 x.1.1)) ∧ BoxS w3 Ba x.1.2) ∧ (Below w.heap.size W w3 ∧ KeepsFrom W0.heap.size W w3)) :=
          fun w3 B hb hbad => ⟨(keepsOthers_below hb).from _, keepS_below hb hsW', ⟨⟨⟨⟨⟨fun z hz => (List.mem_append.1 hz).elim (hq z) (fun e => by simp only [List.mem_singleton] at e; subst e; exact hbad), boxed_below bR2 hb⟩, boxed_below bL2 hb⟩, boxed_below bA2 hb⟩, boxed_below bI2 hb⟩, bS2.below hb⟩, hBW.trans (hb.mono hsW'), hKF.trans ((keepsOthers_below hb).from _)⟩
        have finN : ∀ (w3 : World) (B : Nat), Below W'.heap.size W' w3 → badPair ps.length x.1 y.1 = true → (KeepsFrom B W' (w3.setCell ⟨w.heap.size + 1, 0, none⟩ (.bool false)) ∧ ((∃ z ∈ pre' ++ [y], badPair ps.length x.1 z.1 = true) ∧ Boxed (w3.setCell ⟨w.heap.size + 1, 0, none⟩ (.bool false)) (w.heap.size + 1) 4 (.bool false)) ∧ (Below w.heap.size W (w3.setCell ⟨w.heap.size + 1, 0, none⟩ (.bool false)) ∧ KeepsFrom W0.heap.size W (w3.setCell ⟨w.heap.size + 1, 0, none⟩ (.bool false)))) :=
          fun w3 B hb hbad => ⟨((keepsOthers_below hb).trans (KeepsOthers.setCell _ _ _)).from _, ⟨⟨y, List.mem_append.2 (.inr (by simp)), hbad⟩, (boxed_below bR2 hb).set _⟩, (hBW.trans (hb.mono hsW')).setCell (p := ⟨w.heap.size + 1, 0, none⟩) (by simp) _, hKF.trans (((keepsOthers_below hb).trans (KeepsOthers.setCell _ _ _)).from _)⟩
        have cI := bI2.cell
        have cL := bL2.cell
        have cR := bR2.cell
        have fR := bR2.frozen
        have s0 := bS2.c0
        have s1 := bS2.c1
        have s2 := bS2.c2
        have s3 := bS2.c3
        have t0 := bT.c0
        have t1 := bT.c1
        have t2 := bT.c2
        have t3 := bT.c3
        have hx64 := x.2.1
        have hy64 := y.2.1
        have hwx : IntKind.i64.wrap ((x.1.1 : Int) + 1) = (x.1.1 : Int) + 1 := IntWalk.i64_in _ (by omega)
        have hwn : IntKind.i64.wrap ((ps.length : Int) - 1) = (ps.length : Int) - 1 := IntWalk.i64_in _ (by omega)
        have hn0 : 1 ≤ ps.length := by omega
        clear hl2 hr2 hr' hr bN hp hin hsz
        have HFP := Lib.hid finP
        have HFN := Lib.hid finN
        clear finP finN
        generalize hQ2 : ownPostG _ _ _ _ _ _ = Q2
        have HQ := Lib.hid hQ2
        clear hQ2
        by_cases h1 : y.1.1 ≤ x.1.1
        · have g1 : ((y.1.1 : Int) ≤ (x.1.1 : Int)) := by omega
          gi_wp2
          rw [← HQ.out]; exact HFP.out _ _ (Below.refl _ _) (by unfold badPair; rw [if_pos h1])
        have g1 : ¬ ((y.1.1 : Int) ≤ (x.1.1 : Int)) := by omega
        by_cases h2 : y.1.1 = x.1.1 + 1
        · have g2 : ((y.1.1 : Int) == (x.1.1 : Int) + 1) = true := by rw [beq_iff_eq]; omega
          cases hf : foldB x.1.2 y.1.2
          · have HC : ∀ w, Calls Try.prog 43 #[.agg #[.int .i64 x.1.2.1.1, .int .i64 x.1.2.1.2, .int .i64 x.1.2.2.1, .int .i64 x.1.2.2.2], .agg #[.int .i64 y.1.2.1.1, .int .i64 y.1.2.1.2, .int .i64 y.1.2.2.1, .int .i64 y.1.2.2.2]] w fun e w' => e = .returned (.bool false) ∧ Below w.heap.size w w' := fun w => by have h := foldedBack_any x.1.2 y.1.2 w x.2.2 y.2.2; rw [hf] at h; exact h
            gi_wp2_with (refine ⟨trivial, ?_⟩; gi_at_call 43; (with_reducible refine (CallsIn.inRound l2 (CallsIn.inRound l (callsIn_wide.2 (HC _)))).mono ?_); rintro e w3 ⟨rfl, hb3⟩; have bR3 := boxed_below bR2 hb3; have cR3 := bR3.cell; have fR3 := bR3.frozen)
            rw [← HQ.out]; exact HFP.out _ _ hb3 (by unfold badPair; rw [if_neg h1, if_pos h2]; exact hf)
          · have HC : ∀ w, Calls Try.prog 43 #[.agg #[.int .i64 x.1.2.1.1, .int .i64 x.1.2.1.2, .int .i64 x.1.2.2.1, .int .i64 x.1.2.2.2], .agg #[.int .i64 y.1.2.1.1, .int .i64 y.1.2.1.2, .int .i64 y.1.2.2.1, .int .i64 y.1.2.2.2]] w fun e w' => e = .returned (.bool true) ∧ Below w.heap.size w w' := fun w => by have h := foldedBack_any x.1.2 y.1.2 w x.2.2 y.2.2; rw [hf] at h; exact h
            gi_wp2_with (refine ⟨trivial, ?_⟩; gi_at_call 43; (with_reducible refine (CallsIn.inRound l2 (CallsIn.inRound l (callsIn_wide.2 (HC _)))).mono ?_); rintro e w3 ⟨rfl, hb3⟩; have bR3 := boxed_below bR2 hb3; have cR3 := bR3.cell; have fR3 := bR3.frozen)
            rw [← HQ.out]; obtain ⟨k1, ⟨k2, k3⟩, k4⟩ := HFN.out w3 (W.alloc (.cells #[.slice A ps.length c] 41)).heap.size hb3 (by unfold badPair; rw [if_neg h1, if_pos h2]; exact hf); exact ⟨k1, ⟨⟨rfl, k2⟩, k3⟩, k4⟩
        have g2 : ((y.1.1 : Int) == (x.1.1 : Int) + 1) = false := by rw [beq_eq_false_iff_ne]; omega
        by_cases h3 : x.1.1 = 0 ∧ y.1.1 = ps.length - 1
        · have g3 : ((x.1.1 : Int) == 0) = true := by rw [beq_iff_eq]; omega
          have g4 : ((y.1.1 : Int) == (ps.length : Int) - 1) = true := by rw [beq_iff_eq]; omega
          cases hf : foldB y.1.2 x.1.2
          · have HC : ∀ w, Calls Try.prog 43 #[.agg #[.int .i64 y.1.2.1.1, .int .i64 y.1.2.1.2, .int .i64 y.1.2.2.1, .int .i64 y.1.2.2.2], .agg #[.int .i64 x.1.2.1.1, .int .i64 x.1.2.1.2, .int .i64 x.1.2.2.1, .int .i64 x.1.2.2.2]] w fun e w' => e = .returned (.bool false) ∧ Below w.heap.size w w' := fun w => by have h := foldedBack_any y.1.2 x.1.2 w y.2.2 x.2.2; rw [hf] at h; exact h
            gi_wp2_with (refine ⟨trivial, ?_⟩; gi_at_call 43; (with_reducible refine (CallsIn.inRound l2 (CallsIn.inRound l (callsIn_wide.2 (HC _)))).mono ?_); rintro e w3 ⟨rfl, hb3⟩; have bR3 := boxed_below bR2 hb3; have cR3 := bR3.cell; have fR3 := bR3.frozen)
            rw [← HQ.out]; exact HFP.out _ _ hb3 (by unfold badPair; rw [if_neg h1, if_neg h2, if_pos h3]; exact hf)
          · have HC : ∀ w, Calls Try.prog 43 #[.agg #[.int .i64 y.1.2.1.1, .int .i64 y.1.2.1.2, .int .i64 y.1.2.2.1, .int .i64 y.1.2.2.2], .agg #[.int .i64 x.1.2.1.1, .int .i64 x.1.2.1.2, .int .i64 x.1.2.2.1, .int .i64 x.1.2.2.2]] w fun e w' => e = .returned (.bool true) ∧ Below w.heap.size w w' := fun w => by have h := foldedBack_any y.1.2 x.1.2 w y.2.2 x.2.2; rw [hf] at h; exact h
            gi_wp2_with (refine ⟨trivial, ?_⟩; gi_at_call 43; (with_reducible refine (CallsIn.inRound l2 (CallsIn.inRound l (callsIn_wide.2 (HC _)))).mono ?_); rintro e w3 ⟨rfl, hb3⟩; have bR3 := boxed_below bR2 hb3; have cR3 := bR3.cell; have fR3 := bR3.frozen)
            rw [← HQ.out]; obtain ⟨k1, ⟨k2, k3⟩, k4⟩ := HFN.out w3 (W.alloc (.cells #[.slice A ps.length c] 41)).heap.size hb3 (by unfold badPair; rw [if_neg h1, if_neg h2, if_pos h3]; exact hf); exact ⟨k1, ⟨⟨rfl, k2⟩, k3⟩, k4⟩
        by_cases h4 : x.1.1 = 0
        · have g3 : ((x.1.1 : Int) == 0) = true := by rw [beq_iff_eq]; omega
          have g4 : ((y.1.1 : Int) == (ps.length : Int) - 1) = false := by rw [beq_eq_false_iff_ne]; omega
          cases hf : touchB x.1.2 y.1.2
          · have HC : ∀ w, Calls Try.prog 36 #[.agg #[.int .i64 x.1.2.1.1, .int .i64 x.1.2.1.2, .int .i64 x.1.2.2.1, .int .i64 x.1.2.2.2], .agg #[.int .i64 y.1.2.1.1, .int .i64 y.1.2.1.2, .int .i64 y.1.2.2.1, .int .i64 y.1.2.2.2]] w fun e w' => e = .returned (.bool false) ∧ Below w.heap.size w w' := fun w => by have h := touching_any x.1.2 y.1.2 w x.2.2 y.2.2; rw [hf] at h; exact h
            gi_wp2_with (refine ⟨trivial, ?_⟩; gi_at_call 36; (with_reducible refine (CallsIn.inRound l2 (CallsIn.inRound l (callsIn_wide.2 (HC _)))).mono ?_); rintro e w3 ⟨rfl, hb3⟩; have bR3 := boxed_below bR2 hb3; have cR3 := bR3.cell; have fR3 := bR3.frozen)
            rw [← HQ.out]; exact HFP.out _ _ hb3 (by unfold badPair; rw [if_neg h1, if_neg h2, if_neg h3]; exact hf)
          · have HC : ∀ w, Calls Try.prog 36 #[.agg #[.int .i64 x.1.2.1.1, .int .i64 x.1.2.1.2, .int .i64 x.1.2.2.1, .int .i64 x.1.2.2.2], .agg #[.int .i64 y.1.2.1.1, .int .i64 y.1.2.1.2, .int .i64 y.1.2.2.1, .int .i64 y.1.2.2.2]] w fun e w' => e = .returned (.bool true) ∧ Below w.heap.size w w' := fun w => by have h := touching_any x.1.2 y.1.2 w x.2.2 y.2.2; rw [hf] at h; exact h
            gi_wp2_with (refine ⟨trivial, ?_⟩; gi_at_call 36; (with_reducible refine (CallsIn.inRound l2 (CallsIn.inRound l (callsIn_wide.2 (HC _)))).mono ?_); rintro e w3 ⟨rfl, hb3⟩; have bR3 := boxed_below bR2 hb3; have cR3 := bR3.cell; have fR3 := bR3.frozen)
            rw [← HQ.out]; obtain ⟨k1, ⟨k2, k3⟩, k4⟩ := HFN.out w3 (W.alloc (.cells #[.slice A ps.length c] 41)).heap.size hb3 (by unfold badPair; rw [if_neg h1, if_neg h2, if_neg h3]; exact hf); exact ⟨k1, ⟨⟨rfl, k2⟩, k3⟩, k4⟩
        · have g3 : ((x.1.1 : Int) == 0) = false := by rw [beq_eq_false_iff_ne]; omega
          cases hf : touchB x.1.2 y.1.2
          · have HC : ∀ w, Calls Try.prog 36 #[.agg #[.int .i64 x.1.2.1.1, .int .i64 x.1.2.1.2, .int .i64 x.1.2.2.1, .int .i64 x.1.2.2.2], .agg #[.int .i64 y.1.2.1.1, .int .i64 y.1.2.1.2, .int .i64 y.1.2.2.1, .int .i64 y.1.2.2.2]] w fun e w' => e = .returned (.bool false) ∧ Below w.heap.size w w' := fun w => by have h := touching_any x.1.2 y.1.2 w x.2.2 y.2.2; rw [hf] at h; exact h
            gi_wp2_with (refine ⟨trivial, ?_⟩; gi_at_call 36; (with_reducible refine (CallsIn.inRound l2 (CallsIn.inRound l (callsIn_wide.2 (HC _)))).mono ?_); rintro e w3 ⟨rfl, hb3⟩; have bR3 := boxed_below bR2 hb3; have cR3 := bR3.cell; have fR3 := bR3.frozen)
            rw [← HQ.out]; exact HFP.out _ _ hb3 (by unfold badPair; rw [if_neg h1, if_neg h2, if_neg h3]; exact hf)
          · have HC : ∀ w, Calls Try.prog 36 #[.agg #[.int .i64 x.1.2.1.1, .int .i64 x.1.2.1.2, .int .i64 x.1.2.2.1, .int .i64 x.1.2.2.2], .agg #[.int .i64 y.1.2.1.1, .int .i64 y.1.2.1.2, .int .i64 y.1.2.2.1, .int .i64 y.1.2.2.2]] w fun e w' => e = .returned (.bool true) ∧ Below w.heap.size w w' := fun w => by have h := touching_any x.1.2 y.1.2 w x.2.2 y.2.2; rw [hf] at h; exact h
            gi_wp2_with (refine ⟨trivial, ?_⟩; gi_at_call 36; (with_reducible refine (CallsIn.inRound l2 (CallsIn.inRound l (callsIn_wide.2 (HC _)))).mono ?_); rintro e w3 ⟨rfl, hb3⟩; have bR3 := boxed_below bR2 hb3; have cR3 := bR3.cell; have fR3 := bR3.frozen)
            rw [← HQ.out]; obtain ⟨k1, ⟨k2, k3⟩, k4⟩ := HFN.out w3 (W.alloc (.cells #[.slice A ps.length c] 41)).heap.size hb3 (by unfold badPair; rw [if_neg h1, if_neg h2, if_neg h3]; exact hf); exact ⟨k1, ⟨⟨rfl, k2⟩, k3⟩, k4⟩
      case done2 =>
        rintro ys W' hS ⟨⟨⟨⟨⟨⟨hq, bR2⟩, bL2⟩, bA2⟩, bI2⟩, bS2⟩, hBW, hKF⟩
        gi_wp2
        refine ⟨hKF, ⟨hBW, fun v hv => ?_⟩, ⟨⟨⟨fun z hz => (List.mem_append.1 hz).elim (hp z) (fun e => ?_), bR2⟩, bL2⟩, bA2⟩, hB1.trans hBW⟩
        · obtain rfl := Option.some.inj (hv.symm.trans bA1.cell)
          exact bA2.cell
        · simp only [List.mem_singleton] at e
          subst e
          unfold badSide
          rw [decide_eq_false hne, ← hS, Bool.false_or, List.any_eq_false]
          intro u hu
          obtain ⟨v, hv, rfl⟩ := List.mem_map.1 hu
          rw [hq v hv]; simp
      case stop2 =>
        rintro cc pre' W' hpre ⟨⟨⟨rfl, y, hy, hbad⟩, bR2⟩, hBW, hKF⟩
        gi_wp2
        exact ⟨hKF, ⟨⟨rfl, x, List.mem_append.2 (.inr (by simp)), by unfold badSide; rw [List.any_eq_true.2 ⟨y.1, hpre.subset (List.mem_map.2 ⟨y, hy, rfl⟩), hbad⟩]; simp⟩, bR2⟩, hB1.trans hBW⟩
  case done =>
    rintro D xs W hD hS ⟨⟨⟨⟨hp, bR1⟩, bL1⟩, bA1⟩, hB1⟩ hK
    have cR := bR1.cell
    gi_wp2
    simp only [Exit.noGoto]
    refine ⟨by simp, .inl ⟨_, _, rfl, run_takeDeferred hK, ?_⟩⟩
    refine ⟨.bool true, ?_, retB ?_, hB1.trans (belowK_b (w := w) (Nat.le_refl _) W D _ _ (by omega) hK rfl rfl)⟩
    · simp [results, Try.f34, go_sem]
    · unfold simpleB
      rw [← hS, List.any_eq_false.2 (fun u hu => by obtain ⟨v, hv, rfl⟩ := List.mem_map.1 hu; rw [hp v hv]; simp)]
      rfl
  case stop =>
    rintro D cc pre W hD hpre ⟨⟨⟨rfl, x, hx, hy⟩, bR1⟩, hB1⟩ hK
    have cR := bR1.cell
    gi_wp2
    simp only [Exit.noGoto]
    refine ⟨by simp, .inl ⟨_, _, rfl, run_takeDeferred hK, ?_⟩⟩
    refine ⟨.bool false, ?_, retB ?_, hB1.trans (belowK_b (w := w) (Nat.le_refl _) W D _ _ (by omega) hK rfl rfl)⟩
    · simp [results, Try.f34, go_sem]
    · unfold simpleB
      rw [List.any_eq_true.2 ⟨x.1, hpre.subset (List.mem_map.2 ⟨x, hx, rfl⟩), hy⟩]
      rfl

end Go.Proofs.Ytclhohfkacgooaa
