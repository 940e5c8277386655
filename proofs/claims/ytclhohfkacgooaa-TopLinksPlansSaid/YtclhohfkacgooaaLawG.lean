/- Three numbers appended to three lists in one statement: in whatever order the three new blocks are laid, the end is one and the same. -/
import Derived.Test.YtclhohfkacgooaaLawE
import Derived.Great.BuildSlice
import Derived.OrdersHeld
namespace Go.Proofs.Ytclhohfkacgooaa
open Go.RowKit

def pu (t : Nat) (o : Option Value) (a : Act) : Act := match o with | none => a | some v => a.put (some t) v
theorem put_pu {s t : Nat} (h : s ≠ t) (o : Option Value) (v : Value) (a : Act) : (pu s o a).put (some t) v = pu s o (a.put (some t) v) := by
  cases o with
  | none => rfl
  | some u => simp only [pu, Act.put]; rw [Array.setIfInBounds_comm _ _ h]
theorem eval_pu {s t : Nat} (h : s ≠ t) (o : Option Value) (a : Act) : (pu s o a).eval (.tmp t) = a.eval (.tmp t) := by
  cases o with
  | none => rfl
  | some u => simp [pu, Act.put, Act.eval, Array.getD_eq_getD_getElem?, Array.getElem?_setIfInBounds_ne h]
theorem eval_pu_self {t : Nat} (v : Value) {a : Act} (h : t < a.tmps.size) : (pu t (some v) a).eval (.tmp t) = v := by
  simp [pu, Act.put, Act.eval, Array.getD_eq_getD_getElem?, Array.getElem?_setIfInBounds_self, h]
theorem size_pu (s : Nat) (o : Option Value) (a : Act) : (pu s o a).tmps.size = a.tmps.size := by
  cases o <;> simp [pu, Act.put]

def LL (a b c d e f : Bool) : Array Bool := #[true, true, true, true, true, true, true, true, true, true, a, b, true, true, true, true, true, true, true, true, true, true, c, d, true, true, true, true, true, true, e, f, false, false, false]
def CA (a : Act) (o1 p1 o2 p2 o3 p3 : Option Value) : Act := pu 119 o1 (pu 120 p1 (pu 131 o2 (pu 132 p2 (pu 139 o3 (pu 140 p3 a)))))
theorem ca1 (a : Act) (v : Value) (p1 o2 p2 o3 p3 : Option Value) : (CA a none p1 o2 p2 o3 p3).put (some 119) v = CA a (some v) p1 o2 p2 o3 p3 := rfl
theorem cb1 (a : Act) (v : Value) (o1 o2 p2 o3 p3 : Option Value) : (CA a o1 none o2 p2 o3 p3).put (some 120) v = CA a o1 (some v) o2 p2 o3 p3 := by
  unfold CA; rw [put_pu (by decide)]; rfl
theorem ca2 (a : Act) (v : Value) (o1 p1 p2 o3 p3 : Option Value) : (CA a o1 p1 none p2 o3 p3).put (some 131) v = CA a o1 p1 (some v) p2 o3 p3 := by
  unfold CA; rw [put_pu (by decide), put_pu (by decide)]; rfl
theorem cb2 (a : Act) (v : Value) (o1 p1 o2 o3 p3 : Option Value) : (CA a o1 p1 o2 none o3 p3).put (some 132) v = CA a o1 p1 o2 (some v) o3 p3 := by
  unfold CA; rw [put_pu (by decide), put_pu (by decide), put_pu (by decide)]; rfl
theorem ca3 (a : Act) (v : Value) (o1 p1 o2 p2 p3 : Option Value) : (CA a o1 p1 o2 p2 none p3).put (some 139) v = CA a o1 p1 o2 p2 (some v) p3 := by
  unfold CA; rw [put_pu (by decide), put_pu (by decide), put_pu (by decide), put_pu (by decide)]; rfl
theorem cb3 (a : Act) (v : Value) (o1 p1 o2 p2 o3 : Option Value) : (CA a o1 p1 o2 p2 o3 none).put (some 140) v = CA a o1 p1 o2 p2 o3 (some v) := by
  unfold CA; rw [put_pu (by decide), put_pu (by decide), put_pu (by decide), put_pu (by decide), put_pu (by decide)]; rfl
theorem ca_eval {t : Nat} (h1 : 119 ≠ t) (h2 : 120 ≠ t) (h3 : 131 ≠ t) (h4 : 132 ≠ t) (h5 : 139 ≠ t) (h6 : 140 ≠ t) (a : Act) (o1 p1 o2 p2 o3 p3 : Option Value) : (CA a o1 p1 o2 p2 o3 p3).eval (.tmp t) = a.eval (.tmp t) := by
  unfold CA; rw [eval_pu h1, eval_pu h2, eval_pu h3, eval_pu h4, eval_pu h5, eval_pu h6]
theorem ca_119 {a : Act} (h : 140 < a.tmps.size) (v : Value) (p1 o2 p2 o3 p3 : Option Value) : (CA a (some v) p1 o2 p2 o3 p3).eval (.tmp 119) = v := by
  unfold CA; rw [eval_pu_self]; simp only [size_pu]; omega
theorem ca_131 {a : Act} (h : 140 < a.tmps.size) (v : Value) (o1 p1 p2 o3 p3 : Option Value) : (CA a o1 p1 (some v) p2 o3 p3).eval (.tmp 131) = v := by
  unfold CA; rw [eval_pu (by decide), eval_pu (by decide), eval_pu_self]; simp only [size_pu]; omega
theorem ca_139 {a : Act} (h : 140 < a.tmps.size) (v : Value) (o1 p1 o2 p2 p3 : Option Value) : (CA a o1 p1 o2 p2 (some v) p3).eval (.tmp 139) = v := by
  unfold CA; rw [eval_pu (by decide), eval_pu (by decide), eval_pu (by decide), eval_pu (by decide), eval_pu_self]; simp only [size_pu]; omega

/-- A literal of one number as a step. -/
theorem step_build {w : World} {ops : Array Oper} {o : Oper} {a : Act} {K : Act → World → Prop} {Q : Exit → Act → World → Prop} {E : Prop} (hgd : o.guard = none) (x : Operand) (ho : o.op = .buildSlice 23 1 #[(0, x)]) (y : Int) (hx : a.eval x = .int .i64 y)
    (h : K (a.put o.dst (.slice (some ⟨w.heap.size, 0, none⟩) 1 1)) (w.alloc (.cells #[.int .i64 y] 3))) :
    if Region.wanted o (yielded ops a.tmps) = true then Oper.wp Try.prog o a w K Q else E := by
  have hw : Region.wanted o (yielded ops a.tmps) = true := by simp [Region.wanted, hgd]
  rw [if_pos hw]
  obtain ⟨i0, hi, hz0, hz1, hz2⟩ := info_parts info_int
  refine wp_buildSlice 23 3 1 _ ho #[.int .i64 y] i0 _ Try.underlying23 hi hz0 (by rw [hz1]; decide) (by rw [hz1]; decide) ?_ h
  rw [hz1]
  simp only [List.map_toArray, List.map_cons, List.map_nil, hx]
  first | kernel_rfl | rfl | decide

structure Six (ops : Array Oper) : Prop where
  o10 : ∃ o, ops[10]? = some o ∧ o.guard = none ∧ o.op = .buildSlice 23 1 #[(0, .tmp 118)] ∧ o.dst = some 119
  o11 : ∃ o, ops[11]? = some o ∧ o.guard = none ∧ o.op = .call { callee := .builtin .append, args := #[.tmp 109, .tmp 119], argTypes := #[23, 23] } ∧ o.dst = some 120
  o22 : ∃ o, ops[22]? = some o ∧ o.guard = none ∧ o.op = .buildSlice 23 1 #[(0, .tmp 130)] ∧ o.dst = some 131
  o23 : ∃ o, ops[23]? = some o ∧ o.guard = none ∧ o.op = .call { callee := .builtin .append, args := #[.tmp 121, .tmp 131], argTypes := #[23, 23] } ∧ o.dst = some 132
  o30 : ∃ o, ops[30]? = some o ∧ o.guard = none ∧ o.op = .buildSlice 23 1 #[(0, .tmp 138)] ∧ o.dst = some 139
  o31 : ∃ o, ops[31]? = some o ∧ o.guard = none ∧ o.op = .call { callee := .builtin .append, args := #[.tmp 133, .tmp 139], argTypes := #[23, 23] } ∧ o.dst = some 140
  r0 : ∀ b1 b2 b3, Region.ready .any ops (LL b1 false b2 false b3 false) = (if b1 then [11] else [10]) ++ (if b2 then [] else [22]) ++ (if b3 then [] else [30])
  r1 : ∀ b2 b3, Region.ready .any ops (LL true true b2 false b3 false) = (if b2 then [23] else [22]) ++ (if b3 then [] else [30])
  r2 : ∀ b3, Region.ready .any ops (LL true true true true b3 false) = if b3 then [31] else [30]

abbrev sl (t : Nat) : Value := .slice (some ⟨t, 0, none⟩) 1 1
abbrev sr (g n c : Nat) : Value := .slice (some ⟨g, 0, none⟩) (n + 1) c
abbrev Own (w : World) (base : Nat) (v : Value) (n : Nat) (xs : List Int) : Prop := w.ownsRow base 3 1 v n (xs.map (Value.int .i64))
def cz (o : Option Nat) : Nat := if o.isSome then 0 else 1
/-- The block of a number that has been laid, if it has. -/
def Laid (w W : World) (o : Option Nat) (y : Int) : Prop := ∀ t, o = some t → W.heap.size ≤ t ∧ w.cell? ⟨t, 0, none⟩ = some (.int .i64 y)
theorem Laid.alloc {w W : World} {o : Option Nat} {y : Int} (h : Laid w W o y) (ob : Obj) : Laid (w.alloc ob) W o y := fun t ht => ⟨(h t ht).1, g_cell (g_alloc (World.grownBy.refl _ _) ob) (h t ht).2⟩
theorem Laid.grown {w w' W : World} {o : Option Nat} {y : Int} (h : Laid w W o y) {v : Option Nat} (hg : w.grownBy w' v) (hn : ∀ b, v = some b → b < W.heap.size) : Laid w' W o y := fun t ht => ⟨(h t ht).1, hg.cell (h t ht).2 (fun e => by
  have h1 := hn t e.symm
  have h2 := (h t ht).1
  omega)⟩
theorem Laid.new {w W : World} {y : Int} (h : W.heap.size ≤ w.heap.size) : Laid (w.alloc (.cells #[.int .i64 y] 3)) W (some w.heap.size) y := fun t ht => by
  injection ht with ht; subst ht
  exact ⟨h, cell_n1 w _ _⟩

section
variable {ops : Array Oper} {Q : Exit → Act → World → Prop} {S : World → Prop} {W : World} {a : Act} {base n : Nat} {v1 v2 v3 : Value} {xs1 xs2 xs3 : List Int} {y1 y2 y3 : Int}

def FinS (ops : Array Oper) (Q : Exit → Act → World → Prop) (S : World → Prop) (W : World) (a : Act) (base n : Nat) (xs1 xs2 xs3 : List Int) (y1 y2 y3 : Int) : Prop :=
  ∀ s1 s2 s3 g1 c1 g2 c2 g3 c3 w', Below base W w' → Own w' base (sr g1 n c1) (n + 1) (xs1 ++ [y1]) → Own w' base (sr g2 n c2) (n + 1) (xs2 ++ [y2]) → Own w' base (sr g3 n c3) (n + 1) (xs3 ++ [y3]) →
    some g1 ≠ some g2 → some g1 ≠ some g3 → some g2 ≠ some g3 → S w' → wpAnyH Try.prog .any ops Q S 3 (LL true true true true true true) (CA a (some (sl s1)) (some (sr g1 n c1)) (some (sl s2)) (some (sr g2 n c2)) (some (sl s3)) (some (sr g3 n c3))) w'

theorem stage2 (X : Six ops) (fin : FinS ops Q S W a base n xs1 xs2 xs3 y1 y2 y3) (hS : ∀ w', Below base W w' → S w') (hsz : 140 < a.tmps.size) (hn : n ≤ 1000) (hb : base ≤ W.heap.size) (e3 : a.eval (.tmp 133) = v3) (e138 : a.eval (.tmp 138) = .int .i64 y3) (N3 : ∀ b, v3.ownBlock = some b → base ≤ b ∧ b < W.heap.size) :
    ∀ (m : Nat) (o3 : Option Nat) (w : World) (s1 s2 g1 c1 g2 c2 : Nat), cz o3 = m → Below base W w → Own w base (sr g1 n c1) (n + 1) (xs1 ++ [y1]) → Own w base (sr g2 n c2) (n + 1) (xs2 ++ [y2]) → Own w base v3 n xs3 → Laid w W o3 y3 →
      some g1 ≠ v3.ownBlock → some g2 ≠ v3.ownBlock → some g1 ≠ some g2 → g1 < w.heap.size → g2 < w.heap.size →
      wpAnyH Try.prog .any ops Q S (4 + m) (LL true true true true o3.isSome false) (CA a (some (sl s1)) (some (sr g1 n c1)) (some (sl s2)) (some (sr g2 n c2)) (o3.map sl) none) w := by
  intro m
  induction m with
  | zero =>
    intro o3 w s1 s2 g1 c1 g2 c2 hm hB w1 w2 w3 hL E13 E23 E12 l1 l2
    cases o3 with
    | none => simp [cz] at hm
    | some t =>
      refine wpAnyH_all (fuel := 3) (X.r2 true) (by simp) (fun i hi => ?_)
      obtain rfl : i = 31 := by simpa using hi
      obtain ⟨o, ho, hg, hop, hd⟩ := X.o31
      refine wpOp_step ho (fun K hK => ?_)
      refine step_app hg (.tmp 133) (.tmp 139) hop base v3 n xs3 (by rw [ca_eval (by decide) (by decide) (by decide) (by decide) (by decide) (by decide)]; exact e3) w3 hn t 1 (ca_139 hsz (sl t) _ _ _ _ _) y3 (hL t rfl).2 (Nat.le_trans hb hB.size) ?_
      intro g3 c3 w' P1 P2 P3 P4
      rw [hd, cb3]
      have hB' := hB.trans (below_grown (Nat.le_trans hb hB.size) P2.out (fun b e => (N3 b e).1))
      have P3' : v3.ownBlock = some g3 ∨ w.heap.size ≤ g3 := by rcases P3.out with h | h; exact .inl h; exact .inr (by omega)
      exact hK _ _ ⟨hS _ hB', fin s1 s2 t g1 c1 g2 c2 g3 c3 w' hB' (w1.kept P2.out (.inr E13)) (w2.kept P2.out (.inr E23)) P1.out E12 (ne_two P3' E13 l1) (ne_two P3' E23 l2) (hS _ hB')⟩
  | succ m ih =>
    intro o3 w s1 s2 g1 c1 g2 c2 hm hB w1 w2 w3 hL E13 E23 E12 l1 l2
    cases o3 with
    | some t => simp [cz] at hm
    | none =>
      have hm0 : m = 0 := by simp [cz] at hm; omega
      subst hm0
      refine wpAnyH_all (fuel := 4) (X.r2 false) (by simp) (fun i hi => ?_)
      obtain rfl : i = 30 := by simpa using hi
      obtain ⟨o, ho, hg, hop, hd⟩ := X.o30
      refine wpOp_step ho (fun K hK => ?_)
      refine step_build hg (.tmp 138) hop y3 (by rw [ca_eval (by decide) (by decide) (by decide) (by decide) (by decide) (by decide)]; exact e138) ?_
      rw [hd]
      have hB' := hB.trans ((Below.refl base w).alloc (Nat.le_trans hb hB.size) (.cells #[.int .i64 y3] 3))
      exact hK _ _ ⟨hS _ hB', by rw [show Option.map sl none = none from rfl, ca3]; exact ih (some w.heap.size) _ s1 s2 g1 c1 g2 c2 rfl hB' (owns_alloc w1 _) (owns_alloc w2 _) (owns_alloc w3 _) (Laid.new hB.size) E13 E23 E12 (by simp; omega) (by simp; omega)⟩

theorem stage1 (X : Six ops) (fin : FinS ops Q S W a base n xs1 xs2 xs3 y1 y2 y3) (hS : ∀ w', Below base W w' → S w') (hsz : 140 < a.tmps.size) (hn : n ≤ 1000) (hb : base ≤ W.heap.size) (e3 : a.eval (.tmp 133) = v3) (e138 : a.eval (.tmp 138) = .int .i64 y3) (N3 : ∀ b, v3.ownBlock = some b → base ≤ b ∧ b < W.heap.size)
    (e2 : a.eval (.tmp 121) = v2) (e130 : a.eval (.tmp 130) = .int .i64 y2) (N2 : ∀ b, v2.ownBlock = some b → base ≤ b ∧ b < W.heap.size) (X3 : v2.ownBlock = none ∨ v2.ownBlock ≠ v3.ownBlock) :
    ∀ (m : Nat) (o2 o3 : Option Nat) (w : World) (s1 g1 c1 : Nat), cz o2 + cz o3 = m → Below base W w → Own w base (sr g1 n c1) (n + 1) (xs1 ++ [y1]) → Own w base v2 n xs2 → Own w base v3 n xs3 → Laid w W o2 y2 → Laid w W o3 y3 →
      some g1 ≠ v2.ownBlock → some g1 ≠ v3.ownBlock → g1 < w.heap.size →
      wpAnyH Try.prog .any ops Q S (5 + m) (LL true true o2.isSome false o3.isSome false) (CA a (some (sl s1)) (some (sr g1 n c1)) (o2.map sl) none (o3.map sl) none) w := by
  intro m
  induction m with
  | zero =>
    intro o2 o3 w s1 g1 c1 hm hB w1 w2 w3 hL2 hL3 E12 E13 l1
    cases o2 with
    | none => simp [cz] at hm
    | some t2 => cases o3 with
      | none => simp [cz] at hm
      | some t3 =>
        refine wpAnyH_all (fuel := 4) (X.r1 true true) (by simp) (fun i hi => ?_)
        obtain rfl : i = 23 := by simpa using hi
        obtain ⟨o, ho, hg, hop, hd⟩ := X.o23
        refine wpOp_step ho (fun K hK => ?_)
        refine step_app hg (.tmp 121) (.tmp 131) hop base v2 n xs2 (by rw [ca_eval (by decide) (by decide) (by decide) (by decide) (by decide) (by decide)]; exact e2) w2 hn t2 1 (ca_131 hsz (sl t2) _ _ _ _ _) y2 (hL2 t2 rfl).2 (Nat.le_trans hb hB.size) ?_
        intro g2 c2 w' P1 P2 P3 P4
        rw [hd, cb2]
        have hB' := hB.trans (below_grown (Nat.le_trans hb hB.size) P2.out (fun b e => (N2 b e).1))
        have P3' : v2.ownBlock = some g2 ∨ w.heap.size ≤ g2 := by rcases P3.out with h | h; exact .inl h; exact .inr (by omega)
        exact hK _ _ ⟨hS _ hB', stage2 X fin hS hsz hn hb e3 e138 N3 0 (some t3) w' s1 t2 g1 c1 g2 c2 rfl hB' (w1.kept P2.out (.inr E12)) P1.out (w3.kept P2.out (ne_turn X3)) (hL3.grown P2.out (fun b e => (N2 b e).2)) E13
          (ne_new P3' X3 (fun b e => Nat.lt_of_lt_of_le (N3 b e).2 hB.size)) (ne_two P3' E12 l1) (Nat.lt_of_lt_of_le l1 P2.out.size) P4.out⟩
  | succ m ih =>
    intro o2 o3 w s1 g1 c1 hm hB w1 w2 w3 hL2 hL3 E12 E13 l1
    have hne : (if o2.isSome then [23] else [22]) ++ (if o3.isSome then ([] : List Nat) else [30]) ≠ [] := by cases o2 <;> simp
    rw [show 5 + (m + 1) = (5 + m) + 1 by omega]
    refine wpAnyH_all (X.r1 o2.isSome o3.isSome) hne (fun i hi => ?_)
    have hBn : ∀ y, Below base W (w.alloc (.cells #[.int .i64 y] 3)) := fun y => hB.trans ((Below.refl base w).alloc (Nat.le_trans hb hB.size) (.cells #[.int .i64 y] 3))
    rcases List.mem_append.1 hi with hi | hi
    · cases o2 with
      | none =>
        obtain rfl : i = 22 := by simpa using hi
        obtain ⟨o, ho, hg, hop, hd⟩ := X.o22
        refine wpOp_step ho (fun K hK => ?_)
        refine step_build hg (.tmp 130) hop y2 (by rw [ca_eval (by decide) (by decide) (by decide) (by decide) (by decide) (by decide)]; exact e130) ?_
        rw [hd]
        exact hK _ _ ⟨hS _ (hBn y2), by rw [show Option.map sl none = none from rfl, ca2]; exact ih (some w.heap.size) o3 _ s1 g1 c1 (by simp [cz] at hm ⊢; omega) (hBn y2) (owns_alloc w1 _) (owns_alloc w2 _) (owns_alloc w3 _) (Laid.new hB.size) (hL3.alloc _) E12 E13 (by simp; omega)⟩
      | some t2 =>
        obtain rfl : i = 23 := by simpa using hi
        cases o3 with
        | some t3 => simp [cz] at hm
        | none =>
          have hm0 : m = 0 := by simp [cz] at hm; omega
          subst hm0
          obtain ⟨o, ho, hg, hop, hd⟩ := X.o23
          refine wpOp_step ho (fun K hK => ?_)
          refine step_app hg (.tmp 121) (.tmp 131) hop base v2 n xs2 (by rw [ca_eval (by decide) (by decide) (by decide) (by decide) (by decide) (by decide)]; exact e2) w2 hn t2 1 (ca_131 hsz (sl t2) _ _ _ _ _) y2 (hL2 t2 rfl).2 (Nat.le_trans hb hB.size) ?_
          intro g2 c2 w' P1 P2 P3 P4
          rw [hd, cb2]
          have hB' := hB.trans (below_grown (Nat.le_trans hb hB.size) P2.out (fun b e => (N2 b e).1))
          have P3' : v2.ownBlock = some g2 ∨ w.heap.size ≤ g2 := by rcases P3.out with h | h; exact .inl h; exact .inr (by omega)
          exact hK _ _ ⟨hS _ hB', stage2 X fin hS hsz hn hb e3 e138 N3 1 none w' s1 t2 g1 c1 g2 c2 rfl hB' (w1.kept P2.out (.inr E12)) P1.out (w3.kept P2.out (ne_turn X3)) (hL3.grown P2.out (fun b e => (N2 b e).2)) E13
            (ne_new P3' X3 (fun b e => Nat.lt_of_lt_of_le (N3 b e).2 hB.size)) (ne_two P3' E12 l1) (Nat.lt_of_lt_of_le l1 P2.out.size) P4.out⟩
    · cases o3 with
      | some t3 => simp at hi
      | none =>
        obtain rfl : i = 30 := by simpa using hi
        obtain ⟨o, ho, hg, hop, hd⟩ := X.o30
        refine wpOp_step ho (fun K hK => ?_)
        refine step_build hg (.tmp 138) hop y3 (by rw [ca_eval (by decide) (by decide) (by decide) (by decide) (by decide) (by decide)]; exact e138) ?_
        rw [hd]
        exact hK _ _ ⟨hS _ (hBn y3), by rw [show Option.map sl none = none from rfl, ca3]; exact ih o2 (some w.heap.size) _ s1 g1 c1 (by simp [cz] at hm ⊢; omega) (hBn y3) (owns_alloc w1 _) (owns_alloc w2 _) (owns_alloc w3 _) (hL2.alloc _) (Laid.new hB.size) E12 E13 (by simp; omega)⟩

theorem stage0 (X : Six ops) (fin : FinS ops Q S W a base n xs1 xs2 xs3 y1 y2 y3) (hS : ∀ w', Below base W w' → S w') (hsz : 140 < a.tmps.size) (hn : n ≤ 1000) (hb : base ≤ W.heap.size) (e3 : a.eval (.tmp 133) = v3) (e138 : a.eval (.tmp 138) = .int .i64 y3) (N3 : ∀ b, v3.ownBlock = some b → base ≤ b ∧ b < W.heap.size)
    (e2 : a.eval (.tmp 121) = v2) (e130 : a.eval (.tmp 130) = .int .i64 y2) (N2 : ∀ b, v2.ownBlock = some b → base ≤ b ∧ b < W.heap.size) (X3 : v2.ownBlock = none ∨ v2.ownBlock ≠ v3.ownBlock)
    (e1 : a.eval (.tmp 109) = v1) (e118 : a.eval (.tmp 118) = .int .i64 y1) (N1 : ∀ b, v1.ownBlock = some b → base ≤ b ∧ b < W.heap.size) (X1 : v1.ownBlock = none ∨ v1.ownBlock ≠ v2.ownBlock) (X2 : v1.ownBlock = none ∨ v1.ownBlock ≠ v3.ownBlock) :
    ∀ (m : Nat) (o1 o2 o3 : Option Nat) (w : World), cz o1 + cz o2 + cz o3 = m → Below base W w → Own w base v1 n xs1 → Own w base v2 n xs2 → Own w base v3 n xs3 → Laid w W o1 y1 → Laid w W o2 y2 → Laid w W o3 y3 →
      wpAnyH Try.prog .any ops Q S (6 + m) (LL o1.isSome false o2.isSome false o3.isSome false) (CA a (o1.map sl) none (o2.map sl) none (o3.map sl) none) w := by
  intro m
  induction m with
  | zero =>
    intro o1 o2 o3 w hm hB w1 w2 w3 hL1 hL2 hL3
    cases o1 with
    | none => simp [cz] at hm
    | some t1 => cases o2 with
      | none => simp [cz] at hm
      | some t2 => cases o3 with
        | none => simp [cz] at hm
        | some t3 =>
          refine wpAnyH_all (fuel := 5) (X.r0 true true true) (by simp) (fun i hi => ?_)
          obtain rfl : i = 11 := by simpa using hi
          obtain ⟨o, ho, hg, hop, hd⟩ := X.o11
          refine wpOp_step ho (fun K hK => ?_)
          refine step_app hg (.tmp 109) (.tmp 119) hop base v1 n xs1 (by rw [ca_eval (by decide) (by decide) (by decide) (by decide) (by decide) (by decide)]; exact e1) w1 hn t1 1 (ca_119 hsz (sl t1) _ _ _ _ _) y1 (hL1 t1 rfl).2 (Nat.le_trans hb hB.size) ?_
          intro g1 c1 w' P1 P2 P3 P4
          rw [hd, cb1]
          have hB' := hB.trans (below_grown (Nat.le_trans hb hB.size) P2.out (fun b e => (N1 b e).1))
          have P3' : v1.ownBlock = some g1 ∨ w.heap.size ≤ g1 := by rcases P3.out with h | h; exact .inl h; exact .inr (by omega)
          exact hK _ _ ⟨hS _ hB', stage1 X fin hS hsz hn hb e3 e138 N3 e2 e130 N2 X3 0 (some t2) (some t3) w' t1 g1 c1 rfl hB' P1.out (w2.kept P2.out (ne_turn X1)) (w3.kept P2.out (ne_turn X2)) (hL2.grown P2.out (fun b e => (N1 b e).2)) (hL3.grown P2.out (fun b e => (N1 b e).2))
            (ne_new P3' X1 (fun b e => Nat.lt_of_lt_of_le (N2 b e).2 hB.size)) (ne_new P3' X2 (fun b e => Nat.lt_of_lt_of_le (N3 b e).2 hB.size)) P4.out⟩
  | succ m ih =>
    intro o1 o2 o3 w hm hB w1 w2 w3 hL1 hL2 hL3
    have hne : (if o1.isSome then [11] else [10]) ++ (if o2.isSome then ([] : List Nat) else [22]) ++ (if o3.isSome then ([] : List Nat) else [30]) ≠ [] := by cases o1 <;> simp
    rw [show 6 + (m + 1) = (6 + m) + 1 by omega]
    refine wpAnyH_all (X.r0 o1.isSome o2.isSome o3.isSome) hne (fun i hi => ?_)
    have hBn : ∀ y, Below base W (w.alloc (.cells #[.int .i64 y] 3)) := fun y => hB.trans ((Below.refl base w).alloc (Nat.le_trans hb hB.size) (.cells #[.int .i64 y] 3))
    rcases List.mem_append.1 hi with hi | hi
    · rcases List.mem_append.1 hi with hi | hi
      · cases o1 with
        | none =>
          obtain rfl : i = 10 := by simpa using hi
          obtain ⟨o, ho, hg, hop, hd⟩ := X.o10
          refine wpOp_step ho (fun K hK => ?_)
          refine step_build hg (.tmp 118) hop y1 (by rw [ca_eval (by decide) (by decide) (by decide) (by decide) (by decide) (by decide)]; exact e118) ?_
          rw [hd]
          exact hK _ _ ⟨hS _ (hBn y1), by rw [show Option.map sl none = none from rfl, ca1]; exact ih (some w.heap.size) o2 o3 _ (by simp [cz] at hm ⊢; omega) (hBn y1) (owns_alloc w1 _) (owns_alloc w2 _) (owns_alloc w3 _) (Laid.new hB.size) (hL2.alloc _) (hL3.alloc _)⟩
        | some t1 =>
          obtain rfl : i = 11 := by simpa using hi
          obtain ⟨o, ho, hg, hop, hd⟩ := X.o11
          refine wpOp_step ho (fun K hK => ?_)
          refine step_app hg (.tmp 109) (.tmp 119) hop base v1 n xs1 (by rw [ca_eval (by decide) (by decide) (by decide) (by decide) (by decide) (by decide)]; exact e1) w1 hn t1 1 (ca_119 hsz (sl t1) _ _ _ _ _) y1 (hL1 t1 rfl).2 (Nat.le_trans hb hB.size) ?_
          intro g1 c1 w' P1 P2 P3 P4
          rw [hd, cb1]
          have hB' := hB.trans (below_grown (Nat.le_trans hb hB.size) P2.out (fun b e => (N1 b e).1))
          have P3' : v1.ownBlock = some g1 ∨ w.heap.size ≤ g1 := by rcases P3.out with h | h; exact .inl h; exact .inr (by omega)
          have hm' : cz o2 + cz o3 = m + 1 := by simp [cz] at hm ⊢; omega
          have h65 : 6 + m = 5 + (m + 1) := by omega
          exact hK _ _ ⟨hS _ hB', by rw [h65]; exact stage1 X fin hS hsz hn hb e3 e138 N3 e2 e130 N2 X3 (m + 1) o2 o3 w' t1 g1 c1 hm' hB' P1.out (w2.kept P2.out (ne_turn X1)) (w3.kept P2.out (ne_turn X2)) (hL2.grown P2.out (fun b e => (N1 b e).2)) (hL3.grown P2.out (fun b e => (N1 b e).2)) (ne_new P3' X1 (fun b e => Nat.lt_of_lt_of_le (N2 b e).2 hB.size)) (ne_new P3' X2 (fun b e => Nat.lt_of_lt_of_le (N3 b e).2 hB.size)) P4.out⟩
      · cases o2 with
        | some t2 => simp at hi
        | none =>
          obtain rfl : i = 22 := by simpa using hi
          obtain ⟨o, ho, hg, hop, hd⟩ := X.o22
          refine wpOp_step ho (fun K hK => ?_)
          refine step_build hg (.tmp 130) hop y2 (by rw [ca_eval (by decide) (by decide) (by decide) (by decide) (by decide) (by decide)]; exact e130) ?_
          rw [hd]
          exact hK _ _ ⟨hS _ (hBn y2), by rw [show Option.map sl none = none from rfl, ca2]; exact ih o1 (some w.heap.size) o3 _ (by simp [cz] at hm ⊢; omega) (hBn y2) (owns_alloc w1 _) (owns_alloc w2 _) (owns_alloc w3 _) (hL1.alloc _) (Laid.new hB.size) (hL3.alloc _)⟩
    · cases o3 with
      | some t3 => simp at hi
      | none =>
        obtain rfl : i = 30 := by simpa using hi
        obtain ⟨o, ho, hg, hop, hd⟩ := X.o30
        refine wpOp_step ho (fun K hK => ?_)
        refine step_build hg (.tmp 138) hop y3 (by rw [ca_eval (by decide) (by decide) (by decide) (by decide) (by decide) (by decide)]; exact e138) ?_
        rw [hd]
        exact hK _ _ ⟨hS _ (hBn y3), by rw [show Option.map sl none = none from rfl, ca3]; exact ih o1 o2 (some w.heap.size) _ (by simp [cz] at hm ⊢; omega) (hBn y3) (owns_alloc w1 _) (owns_alloc w2 _) (owns_alloc w3 _) (hL1.alloc _) (hL2.alloc _) (Laid.new hB.size)⟩
end

theorem exec_at {ρ : Operand → Value} {oi : Oper} {op : Op} {ty : TypeId} {d : Option Tmp} (h : oi.op = op) (ht : oi.type = ty) : execOp ρ oi = execOp ρ ⟨d, op, ty, "", #[], none⟩ := by
  obtain ⟨d', op', ty', pos, after, guard⟩ := oi
  subst h; subst ht
  rfl
/-- An operation that yields in every world that meets S is taken first; it is told by its parts. -/
theorem take_op {ops : Array Oper} {Q : Exit → Act → World → Prop} {S : World → Prop} (i d : Nat) (op : Op) (ty : TypeId) (v : Value) {fuel : Nat} {listed : Array Bool} {a : Act} {w : World}
    (hi : ∃ oi, ops[i]? = some oi ∧ oi.guard = none ∧ oi.op = op ∧ oi.type = ty ∧ oi.dst = some d) (hs : Region.noSelect ops = true) (hf : Region.free .any ops listed i = true) (hr : (Region.ready .any ops listed).contains i = true)
    (hQ : ∀ c (a' : Act) (v' : Value) w, Q (.panic c) (a'.put (some d) v') w → Q (.panic c) a' w) (hS : S w) (hy : ∀ w, S w → (execOp a.eval ⟨some d, op, ty, "", #[], none⟩).run Try.prog w = .ok (.value v) w)
    (h : wpAnyH Try.prog .any ops Q S fuel (listed.setIfInBounds i true) (a.put (some d) v) w) : wpAnyH Try.prog .any ops Q S (fuel + 1) listed a w := by
  obtain ⟨oi, h1, hg, h2, h3, h4⟩ := hi
  refine wpAnyH_take (i := i) (oi := oi) (v := v) h1 hs hf hr (fun c a' w' => by rw [h4]; exact hQ c a' v w') (.inl ⟨by simp [Region.wanted, hg], fun w' hw' => ?_⟩) hS (by rw [h4]; exact h)
  rw [exec_at h2 h3]
  exact hy w' hw'

theorem three_app {ops : Array Oper} {Q : Exit → Act → World → Prop} {S : World → Prop} {W : World} {a : Act} {base n : Nat} {v1 v2 v3 : Value} {xs1 xs2 xs3 : List Int} {y1 y2 y3 : Int} {fuel : Nat} {listed : Array Bool}
    (hf : fuel = 9) (hl : listed = LL false false false false false false) (X : Six ops) (hS : ∀ w', Below base W w' → S w') (hsz : 140 < a.tmps.size) (hn : n ≤ 1000) (hb : base ≤ W.heap.size)
    (e1 : a.eval (.tmp 109) = v1) (e118 : a.eval (.tmp 118) = .int .i64 y1) (e2 : a.eval (.tmp 121) = v2) (e130 : a.eval (.tmp 130) = .int .i64 y2) (e3 : a.eval (.tmp 133) = v3) (e138 : a.eval (.tmp 138) = .int .i64 y3)
    (w1 : Own W base v1 n xs1) (w2 : Own W base v2 n xs2) (w3 : Own W base v3 n xs3) (X1 : v1.ownBlock = none ∨ v1.ownBlock ≠ v2.ownBlock) (X2 : v1.ownBlock = none ∨ v1.ownBlock ≠ v3.ownBlock) (X3 : v2.ownBlock = none ∨ v2.ownBlock ≠ v3.ownBlock)
    (fin : FinS ops Q S W a base n xs1 xs2 xs3 y1 y2 y3) : wpAnyH Try.prog .any ops Q S fuel listed a W := by
  subst hf; subst hl
  exact stage0 X fin hS hsz hn hb e3 e138 (own_block w3) e2 e130 (own_block w2) X3 e1 e118 (own_block w1) X1 X2 3 none none none W rfl (Below.refl _ _) w1 w2 w3 (fun t h => by cases h) (fun t h => by cases h) (fun t h => by cases h)

theorem own_below {w w' : World} {B n size : Nat} {e : TypeId} {v : Value} {xs : List Value} (h : w.ownsRow B e size v n xs) (hb : Below w.heap.size w w') : w'.ownsRow B e size v n xs :=
  h.kept (row := none) ⟨hb.os, hb.tape, hb.output, hb.size, fun k hk _ => hb.block k hk⟩ (by cases v.ownBlock <;> simp)

theorem take_opg {ops : Array Oper} {Q : Exit → Act → World → Prop} {S : World → Prop} (i d : Nat) (op : Op) (ty : TypeId) (v : Value) {fuel : Nat} {listed : Array Bool} {a : Act} {w : World}
    (hi : ∃ oi, ops[i]? = some oi ∧ oi.op = op ∧ oi.type = ty ∧ oi.dst = some d ∧ Region.wanted oi (yielded ops a.tmps) = true) (hs : Region.noSelect ops = true) (hf : Region.free .any ops listed i = true) (hr : (Region.ready .any ops listed).contains i = true)
    (hQ : ∀ c (a' : Act) (v' : Value) w, Q (.panic c) (a'.put (some d) v') w → Q (.panic c) a' w) (hS : S w) (hy : ∀ w, S w → (execOp a.eval ⟨some d, op, ty, "", #[], none⟩).run Try.prog w = .ok (.value v) w)
    (h : wpAnyH Try.prog .any ops Q S fuel (listed.setIfInBounds i true) (a.put (some d) v) w) : wpAnyH Try.prog .any ops Q S (fuel + 1) listed a w := by
  obtain ⟨oi, h1, h2, h3, h4, hg⟩ := hi
  refine wpAnyH_take (i := i) (oi := oi) (v := v) h1 hs hf hr (fun c a' w' => by rw [h4]; exact hQ c a' v w') (.inl ⟨hg, fun w' hw' => ?_⟩) hS (by rw [h4]; exact h)
  rw [exec_at h2 h3]
  exact hy w' hw'
theorem take_skip {ops : Array Oper} {Q : Exit → Act → World → Prop} {S : World → Prop} (i d : Nat) {fuel : Nat} {listed : Array Bool} {a : Act} {w : World}
    (hi : ∃ oi, ops[i]? = some oi ∧ oi.dst = some d ∧ Region.wanted oi (yielded ops a.tmps) = false) (hs : Region.noSelect ops = true) (hf : Region.free .any ops listed i = true) (hr : (Region.ready .any ops listed).contains i = true)
    (hQ : ∀ c (a' : Act) (v' : Value) w, Q (.panic c) (a'.put (some d) v') w → Q (.panic c) a' w) (hS : S w)
    (h : wpAnyH Try.prog .any ops Q S fuel (listed.setIfInBounds i true) (a.put (some d) undef) w) : wpAnyH Try.prog .any ops Q S (fuel + 1) listed a w := by
  obtain ⟨oi, h1, h4, hg⟩ := hi
  exact wpAnyH_take (i := i) (oi := oi) (v := undef) h1 hs hf hr (fun c a' w' => by rw [h4]; exact hQ c a' undef w') (.inr ⟨hg, rfl⟩) hS (by rw [h4]; exact h)
/-- A call of a closure in a variable, which is all that may come up. -/
theorem call_closure {ops : Array Oper} {Q : Exit → Act → World → Prop} {S : World → Prop} (i d : Nat) (f x : Operand) (t : TypeId) (n : FuncId) (p xv : Value) (b : Bool) {fuel : Nat} {listed : Array Bool} {a : Act} {w : World}
    (hi : ∃ o, ops[i]? = some o ∧ o.op = .call { callee := .value f, args := #[x], argTypes := #[t] } ∧ o.dst = some d ∧ Region.wanted o (yielded ops a.tmps) = true) (hr : Region.ready .any ops listed = [i])
    (hrun : ∀ w, (callFunc n #[xv, p]).run Try.prog w = .ok (.enter n #[xv, p]) w) (hf : a.eval f = .func (.func n) #[] #[p]) (hx : a.eval x = xv) (hc : Calls Try.prog n #[xv, p] w fun e w' => e = .returned (.bool b) ∧ Below w.heap.size w w')
    (h : ∀ w', Below w.heap.size w w' → S w' ∧ wpAnyH Try.prog .any ops Q S fuel (listed.setIfInBounds i true) (a.put (some d) (.bool b)) w') : wpAnyH Try.prog .any ops Q S (fuel + 1) listed a w := by
  obtain ⟨o, h1, h2, h3, hw⟩ := hi
  refine wpAnyH_all (rs := [i]) hr (by simp) (fun j hj => ?_)
  obtain rfl : j = i := by simpa using hj
  refine wpOp_step h1 (fun K hK => ?_)
  rw [if_pos hw]
  obtain ⟨d', op, ty, pos, after, guard⟩ := o
  subst h2
  subst h3
  have hr : (execOp a.eval ⟨some d, .call { callee := .value f, args := #[x], argTypes := #[t] }, ty, pos, after, guard⟩).run Try.prog w = .ok (.enter n #[xv, p]) w := by
    unfold execOp
    simp only [resolve, Deferred.ofValue, invoke, Sem.run_bind, Sem.run_pure, Result.andThen_ok, List.map_toArray, List.map_cons, List.map_nil, hf, hx]
    exact hrun w
  unfold Oper.wp
  rw [hr, Oper.upon_enter]
  refine hc.mono ?_
  rintro e w' ⟨rfl, hb⟩
  exact hK _ _ (h w' hb)

end Go.Proofs.Ytclhohfkacgooaa
