/- Merged: FrmO FrmP FrmQ FrmR FrmS FrmT FrmU. -/
import Derived.Test.YtbckfkopdojggaaGreatDoorMgE
import Derived.Outline
import Derived.StillTailTactics
import Derived.RangeFuncNested
import Derived.RangeFuncBound
import Derived.RangeFuncCalls
import Derived.RangeFuncLeaves
import Derived.Shelf.Abstract
import Derived.Shelf.RegionOpen
import Derived.OwnWalkIn
import Derived.TacticsInMore
import Derived.LoopNIn
import Derived.LoopIn
import Derived.Lib.QuietBelowIn
import Derived.Test.YtbckfkopdojggaaGreatDoorMgD
import Derived.Test.YtbckfkopdojggaaGreatDoorMgB
/- isPlayed, stateOf, duels. -/
set_option linter.unusedVariables false
set_option linter.unusedSimpArgs false
namespace Go.Proofs.YtbckfkopdojggaaGreatDoor
open Go.RowKit

def unplayedB (m : ByteArray) : Bool := m.toList == [45]
def playedB (m n : ByteArray) : Bool := !unplayedB m && !unplayedB n

set_option maxRecDepth 100000 in
set_option maxHeartbeats 1000000 in
theorem isPlayed_any (s t : Int) (m n : ByteArray) (w : World) :
    Calls Tryz.prog 135 #[.agg #[.int .i64 s, .string m, .int .i64 t, .string n]] w fun e w' => e = .returned (.bool (playedB m n)) ∧ Below w.heap.size w w' := by
  cases h1 : (m.toList == [45]) <;> cases h2 : (n.toList == [45])
  all_goals
    have g1 : (m.toList != [45]) = !(m.toList == [45]) := rfl
    have g2 : (n.toList != [45]) = !(n.toList == [45]) := rfl
    rw [h1] at g1
    rw [h2] at g2
    have H1 := Lib.hid h1
    have H2 := Lib.hid h2
    simp only [Bool.not_true, Bool.not_false] at g1 g2
    go_enter Tryz.func135, Tryz.ntmps135
    go_wp2
    go_ret
    exact ⟨by unfold playedB unplayedB; rw [H1.out, H2.out]; rfl, (Below.refl _ _).alloc (Nat.le_refl _) _⟩

/-- Whether a match is over. -/
def overI (u t : Int) : Bool := decide (t < u) || decide (t < -u) || decide (t = 0)
theorem overI_eq {u t : Int} {b : Bool} (h : (t < u ∨ t < -u ∨ t = 0) ↔ b = true) : overI u t = b := by
  unfold overI
  rw [Bool.eq_iff_iff, ← h]
  simp [or_assoc]

set_option maxRecDepth 100000 in
set_option maxHeartbeats 1000000 in
theorem stateOf_any (u t : Int) (w : World) (hu : -1000000 ≤ u ∧ u ≤ 1000000) :
    Calls Tryz.prog 89 #[.int .i64 u, .int .i64 t] w fun e w' => e = .returned (.agg #[.int .i64 u, .int .i64 t, .bool (overI u t)]) ∧ Below w.heap.size w w' := by
  by_cases g1 : u < -u <;> by_cases g2 : t < u <;> by_cases g3 : t < -u <;> cases g4 : (t == 0)
  all_goals first
    | (exfalso; omega)
    | (have G4 := Lib.hid g4
       go_enter Tryz.func89, Tryz.ntmps89
       go_wp2
       all_goals
         refine bodyPost_ret (v := .agg #[.int .i64 u, .int .i64 t, .bool (overI u t)]) ?_ rfl ⟨rfl, ?_⟩
         · have := G4.out
           simp only [beq_iff_eq, beq_eq_false_iff_ne] at this
           first
             | (rw [overI_eq (b := true) (by simp only [iff_true]; omega)]; simp [results, Tryz.results89, go_sem])
             | (rw [overI_eq (b := false) (by simp only [Bool.false_eq_true, iff_false]; omega)]; simp [results, Tryz.results89, go_sem])
         · repeat first | exact Below.refl _ _ | apply Below.drew | refine Below.setCell ?_ (by simp <;> omega) _ | refine Below.alloc ?_ (by simp <;> omega) _)

end Go.Proofs.YtbckfkopdojggaaGreatDoor

/- A region that draws its order, whose head only reads, and whose tail comes in one order: inside the wide fence. -/
namespace Go.Proofs.YtbckfkopdojggaaGreatDoor
open Go.RowKit

section
variable {P : Program} {ops : Array Oper} {md : Region.Mode} {w : World} {m : Nat}

theorem wpIn_of_still {o : Oper} {a : Act} {K : Act → Prop} {K' : Act → World → Prop} {Q' : Exit → Act → World → Prop} (h : ∀ a, K a → K' a w) (hh : o.still P a w K) : o.wpIn Fence.wide m P a w K' Q' := by
  unfold Oper.still at hh
  unfold Oper.wpIn
  refine ⟨fun _ _ => trivial, ?_⟩
  rw [Fence.wide_round, Oper.semAt_none]
  generalize (execOp a.eval o).run P w = r at *
  cases r with
  | ok x w' =>
    cases x <;> simp only [Oper.stillUpon] at hh <;> simp only [Oper.uponIn]
    case enter f args =>
      obtain ⟨rfl, v, hc, hn⟩ := hh
      exact ⟨fun h => by simp [Fence.wide] at h, (callsIn_wide.2 hc).mono fun e w'' ⟨he, hw⟩ => by subst he; subst hw; exact h _ hn⟩
    all_goals (obtain ⟨rfl, h2⟩ := hh; exact h _ h2)
  | halt x w' => simp only [Oper.stillUpon] at hh

theorem wpOpIn_of_still {i : Nat} {a : Act} {K : Act → Prop} {K' : Act → World → Prop} {Q' : Exit → Act → World → Prop} (h : ∀ a, K a → K' a w) (hh : stOp P ops w i K a) : wpOpIn Fence.wide m P ops Q' i K' a w := by
  unfold stOp at hh
  unfold wpOpIn
  split
  · rename_i ho; simp only [ho] at hh; exact h _ hh
  · rename_i o ho
    simp only [ho] at hh
    split
    · rename_i hw; simp only [hw, if_true] at hh; exact wpIn_of_still h hh
    · rename_i hw; simp only [hw] at hh; exact ⟨fun _ _ => trivial, h _ hh⟩

theorem wpAnyIn_of_head {n g : Nat} {L : Array Bool → Act → Prop} {Q' : Exit → Act → World → Prop} (hL : ∀ listed a, L listed a → wpAnyIn Fence.wide m P md ops Q' g listed a w) :
    ∀ (f : Nat) (listed : Array Bool) (a : Act), wpAnyL P md ops w n L f listed a → wpAnyIn Fence.wide m P md ops Q' (f + g) listed a w
  | 0, listed, a, h => by rw [Nat.zero_add]; exact hL _ _ h
  | f + 1, listed, a, h => by
    rw [show f + 1 + g = (f + g) + 1 by omega]
    exact ⟨fun h0 => absurd h0 h.1, fun i hi => wpOpIn_of_still (fun a' h' => wpAnyIn_of_head hL f _ a' h') (h.2 i hi).2⟩

theorem wpAnyIn_of_seq {Q' : Exit → Act → World → Prop} : ∀ (l : List Oper) (k : Nat) (listed : Array Bool) (a : Act) (w : World), (∀ j, l[j]? = ops[k + j]?) →
    Region.seqB md ops l.length k listed = true → wpListIn Fence.wide m P ops Q' l a w → wpAnyIn Fence.wide m P md ops Q' l.length listed a w
  | [], _, _, _, _, _, hB, h => ⟨by simpa [Region.seqB] using hB, h⟩
  | o :: l, k, listed, a, w, hl, hB, h => by
    have h0 : ops[k]? = some o := by simpa using (hl 0).symm
    simp only [List.length_cons, Region.seqB, Bool.and_eq_true, decide_eq_true_eq] at hB
    refine ⟨fun h1 => (by rw [hB.1] at h1; cases h1), fun i hi => ?_⟩
    rw [hB.1] at hi
    have hik : i = k := by simpa using hi
    subst hik
    have hw : wpOpIn Fence.wide m P ops Q' i (wpListIn Fence.wide m P ops Q' l) a w := by unfold wpOpIn; simp only [h0]; exact h
    exact wpOpIn_mono (fun a' w' h' => wpAnyIn_of_seq l (i + 1) _ a' w' (fun j => by have := hl (j + 1); simpa [Nat.add_assoc, Nat.add_comm 1 j] using this) hB.2 h') hw

theorem region_tail_in {id : Nat} {Q : Exit → Act → World → Prop} {a : Act} {l : List Oper} (n : Nat) (hm : P.follows .mixedOrders = true) (hB : Region.lexTailB .any l.toArray n = true)
    (h : wpStill P l.toArray w.drew (fun a' => wpListIn Fence.wide m P l.toArray Q (l.drop n) a' w.drew) (l.take n) a) : (Code.region id l.toArray true).wpIn Fence.wide m P Q a w := by
  simp only [Region.lexTailB, Bool.and_eq_true, decide_eq_true_eq] at hB
  obtain ⟨⟨⟨⟨hsel, hn⟩, hs⟩, hc⟩, hlex⟩ := hB
  have hn' : n < l.length := by simpa using hn
  have htl : (l.take n).length = n := by simp; omega
  have hdl : (l.drop n).length = l.toArray.size - n := by simp
  have inv0 : HeadInv .any l.toArray n (Array.replicate l.toArray.size false) :=
    ⟨by simp, fun j oj _ hl => (by rw [getD_replicate_false] at hl; cases hl), fun t _ ht => getD_in (by simpa using ht) (getD_replicate_false _ _)⟩
  have H := wpAnyL_lex (md := .any) (g := l.toArray.size - n) hsel hs hc hn (l.take n) 0 _ a (fun j hj => by
    have hj' : j < n := by rw [htl] at hj; exact hj
    simp [hj']) (by simpa using htl) inv0 (by rw [htl]; exact hlex) h
  refine wpIn_region_any hm ?_
  have := wpAnyIn_of_head (m := m) (Q' := Q) (g := l.toArray.size - n) (fun listed a' hL => by
    have := wpAnyIn_of_seq (m := m) (md := .any) (Q' := Q) (l.drop n) n listed a' w.drew (fun j => by simp [List.getElem?_drop]) (by rw [hdl]; exact hL.1) hL.2
    rwa [hdl] at this) _ _ _ H
  rw [htl, show n + (l.toArray.size - n) = l.toArray.size by omega] at this
  exact this
end

open Go.Shelf
attribute [local go_sem] Oper.semAt_some

abbrev Ent := Int × ByteArray
/-- What the rounds of a match are handed: the holes behind, and both net strokes. -/
abbrev Du := Nat × Ent × Ent
def duV (a b : Ent) : Value := .agg #[.int .i64 a.1, .string a.2, .int .i64 b.1, .string b.2]
abbrev encD (x : Du) : Array Value := #[.int .i64 (x.1 : Int), duV x.2.1 x.2.2]
def duels (xa xb : List Ent) (k : Nat) : List Du := (List.range k).map fun i => (xa.length - 1 - i, xa.getD i (0, ByteArray.empty), xb.getD i (0, ByteArray.empty))
theorem duels_succ (xa xb : List Ent) (k : Nat) : duels xa xb (k + 1) = duels xa xb k ++ [(xa.length - 1 - k, xa.getD k (0, ByteArray.empty), xb.getD k (0, ByteArray.empty))] := by simp [duels, List.range_succ]
theorem duels_length (xa xb : List Ent) (k : Nat) : (duels xa xb k).length = k := by simp [duels]
theorem duels_prefix (xa xb : List Ent) {k m : Nat} (h : k ≤ m) : duels xa xb k <+: duels xa xb m := by
  obtain ⟨d, rfl⟩ : ∃ d, m = k + d := ⟨m - k, by omega⟩
  unfold duels
  rw [List.range_add, List.map_append]
  exact List.prefix_append _ _

/-- What a round keeps: all below n₀, and the cells of two blocks. -/
def KeepD (n₀ Ba Bb : Nat) (W W' : World) : Prop := Below n₀ W W' ∧ (∀ v, W.cell? ⟨Ba, 0, none⟩ = some v → W'.cell? ⟨Ba, 0, none⟩ = some v) ∧ ∀ v, W.cell? ⟨Bb, 0, none⟩ = some v → W'.cell? ⟨Bb, 0, none⟩ = some v
theorem keepD_refl (n₀ Ba Bb : Nat) (W : World) : KeepD n₀ Ba Bb W W := ⟨Below.refl _ _, fun _ h => h, fun _ h => h⟩
theorem keepD_t {n₀ Ba Bb : Nat} {A B C : World} (h : KeepD n₀ Ba Bb A B) (k : KeepD n₀ Ba Bb B C) : KeepD n₀ Ba Bb A C := ⟨h.1.trans k.1, fun v hv => k.2.1 v (h.2.1 v hv), fun v hv => k.2.2 v (h.2.2 v hv)⟩
theorem keepD_b {w : World} {n₀ Ba Bb : Nat} (hn : n₀ ≤ w.heap.size) (W : World) (l : Nat) (o o' : Obj) (hl : w.heap.size ≤ l) (ho : W.heap[l]? = some o) (h1 : o.isCells = false) (h2 : o.isWalk = false) : KeepD n₀ Ba Bb W (W.putObj l o') :=
  ⟨belowK_b hn W l o o' hl ho h1 h2, fun _ hv => cell_kept hv (grownBy_putObj' W l o') (fun r e => by cases e; exact ⟨o, ho, h1⟩), fun _ hv => cell_kept hv (grownBy_putObj' W l o') (fun r e => by cases e; exact ⟨o, ho, h1⟩)⟩
theorem keepD_alloc {n₀ Ba Bb : Nat} {W : World} (h : n₀ ≤ W.heap.size) (o : Obj) : KeepD n₀ Ba Bb W (W.alloc o) :=
  ⟨(Below.refl _ W).alloc h o, fun _ hv => cell_kept hv (World.grownBy_alloc W o none) (fun r e => by cases e), fun _ hv => cell_kept hv (World.grownBy_alloc W o none) (fun r e => by cases e)⟩
theorem keepD_below {n₀ Ba Bb : Nat} {W W' : World} (hb : Below W.heap.size W W') (h : n₀ ≤ W.heap.size) : KeepD n₀ Ba Bb W W' :=
  ⟨hb.mono h, fun _ hv => (hb.cell (p := ⟨Ba, 0, none⟩) (cell_lt hv)).trans hv, fun _ hv => (hb.cell (p := ⟨Bb, 0, none⟩) (cell_lt hv)).trans hv⟩

set_option maxHeartbeats 1000000 in
theorem duels_in (F : Fence) (n : Nat) (h5 : F.fn 133) (hro : F.round = none) (A B : Option Addr) (m c k d : Nat) (w : World) :
    CallsIn F n Tryz.prog 133 #[.slice A m c, .slice B k d] w fun e w' => e = .returned (.func (.func 179) #[] #[.pointer (some ⟨w.heap.size, 0, none⟩), .pointer (some ⟨w.heap.size + 1, 0, none⟩)]) ∧
      w' = (w.alloc (.cells #[.slice A m c] 77)).alloc (.cells #[.slice B k d] 77) := by
  refine callsIn_of_wp Tryz.func133 rfl h5 ?_ hro
  simp only [Tryz.ntmps133, List.size_toArray, List.length_cons, List.length_nil, Nat.reduceAdd, Nat.reduceSub, Array.replicate_succ, Array.replicate_zero, List.push_toArray, List.append_toArray, List.nil_append, List.cons_append]
  gi_wp2
  go_ret
  exact ⟨rfl, rfl⟩

/-- A slice of strokes and marks, all of it below n₀. -/
def EntB (W : World) (n₀ : Nat) (A : Option Addr) (l : List Ent) : Prop := ∀ j, j < l.length → ∃ a, A = some a ∧ (a.add (j * 2)).block < n₀ ∧ W.cell? (a.add (j * 2)) = some (.int .i64 (l.getD j (0, ByteArray.empty)).1) ∧ W.cell? ⟨(a.add (j * 2)).block, (a.add (j * 2)).off + 1, none⟩ = some (.string (l.getD j (0, ByteArray.empty)).2)
theorem EntriesR.entB {w : World} {A : Option Addr} {l : List Ent} (h : EntriesR w A l) : EntB w w.heap.size A l := fun j hj => by
  obtain ⟨a, h0, h1, h2, h3⟩ := h j hj
  exact ⟨a, h0, h3, h1, h2⟩
theorem EntB.below {W W' : World} {n₀ : Nat} {A : Option Addr} {l : List Ent} (h : EntB W n₀ A l) (hb : Below n₀ W W') : EntB W' n₀ A l := fun j hj => by
  obtain ⟨a, h0, h1, h2, h3⟩ := h j hj
  exact ⟨a, h0, h1, (hb.cell h1).trans h2, (hb.cell (p := ⟨_, _, none⟩) h1).trans h3⟩

end Go.Proofs.YtbckfkopdojggaaGreatDoor

/- The iterator over the holes of a match. -/
namespace Go.Proofs.YtbckfkopdojggaaGreatDoor
open Go.RowKit Go.Shelf

attribute [local go_sem] Oper.semAt_some

set_option maxRecDepth 100000 in
set_option maxHeartbeats 20000000 in
/-- The iterator, for every loop body that keeps what lay below n₀, and both lists' boxes. -/
theorem duels1_in (n : Nat) (hn : 1 ≤ n) (l Ba Bb n₀ : Nat) (A B : Option Addr) (c d : Nat) (xa xb : List Ent) (h64 : xa.length ≤ 1000) (hab : xa.length = xb.length)
    (J Jx : List Du → World → Prop) (hJab : ∀ pre W W', J pre W → W.grownBy W' none → J pre W')
    (hY : ∀ pre x W, J pre W → pre.length < xa.length → YieldAt Fence.wide (n - 1) Tryz.prog l (encD x) W fun e W' =>
      (e = .returned (.bool true) ∧ J (pre ++ [x]) W' ∧ KeepD n₀ Ba Bb W W') ∨ (e = .returned (.bool false) ∧ Jx (pre ++ [x]) W'))
    (W : World) (hBa : W.cell? ⟨Ba, 0, none⟩ = some (.slice A xa.length c)) (hBb : W.cell? ⟨Bb, 0, none⟩ = some (.slice B xb.length d)) (hn₀ : n₀ ≤ W.heap.size) (hpa : EntB W n₀ A xa) (hpb : EntB W n₀ B xb) (h0 : J [] W) :
    CallsIn Fence.wide n Tryz.prog 179 #[.func (.yield l) #[] #[], .pointer (some ⟨Ba, 0, none⟩), .pointer (some ⟨Bb, 0, none⟩)] W fun e W' => (∃ v, e = .returned v) ∧
      ((∃ ys, ys = duels xa xb xa.length ∧ J ys W') ∨ (∃ pre, pre <+: duels xa xb xa.length ∧ Jx pre W')) := by
  have HY := Lib.hid hY
  have HPA := Lib.hid hpa
  have HPB := Lib.hid hpb
  have HAB := Lib.hid hab
  clear hpa hpb hY hab
  refine callsIn_of_wp Tryz.func179 rfl trivial ?_ rfl
  simp only [Tryz.ntmps179, List.size_toArray, List.length_cons, List.length_nil, Nat.reduceAdd, Nat.reduceSub, Array.replicate_succ, Array.replicate_zero, List.push_toArray, List.append_toArray, List.nil_append, List.cons_append]
  gi_wp2
  gi_loopw [7] (fun i wr => ∃ (k : Nat) (pre : List Du), k ≤ xa.length ∧ i = .int .i64 k ∧ pre = duels xa xb k ∧ J pre wr ∧ KeepD n₀ Ba Bb W wr) (fun i _ => xa.length - (intOf i).toNat)
  case atStart => exact ⟨0, [], Nat.zero_le _, rfl, rfl, h0, keepD_refl _ _ _ _⟩
  case round =>
    obtain ⟨k, pre, hk, rfl, hpre, hJs, hnx⟩ := hrel
    by_cases hlt : k < xa.length
    · have hltb : k < xb.length := by have := HAB.out; omega
      have hba := hnx.2.1 _ hBa
      have hbb := hnx.2.2 _ hBb
      obtain ⟨a, rfl, hab1, c0, c1⟩ := (HPA.out.below hnx.1) k hlt
      obtain ⟨b, rfl, hbb1, d0, d1⟩ := (HPB.out.below hnx.1) k hltb
      have hsz := hnx.1.size
      obtain ⟨p1, hp1⟩ : ∃ p1, xa.getD k (0, ByteArray.empty) = p1 := ⟨_, rfl⟩
      obtain ⟨p2, hp2⟩ : ∃ p2, xb.getD k (0, ByteArray.empty) = p2 := ⟨_, rfl⟩
      rw [hp1] at c0 c1
      rw [hp2] at d0 d1
      have HP1 := Lib.hid hp1
      have HP2 := Lib.hid hp2
      clear hp1 hp2
      have hk0 : (0 : Int) ≤ (k : Int) := Int.natCast_nonneg _
      have hk1 : (k : Int) < (xa.length : Int) := by omega
      have hk2 : (k : Int) < (xb.length : Int) := by omega
      have hw1 : IntKind.i64.wrap ((xa.length : Int) - 1) = (xa.length : Int) - 1 := IntWalk.i64_in _ (by omega)
      have hw2 : IntKind.i64.wrap ((xa.length : Int) - 1 - (k : Int)) = ((xa.length - 1 - k : Nat) : Int) := by rw [IntWalk.i64_in _ (by omega)]; omega
      have HJ1 := hJab _ _ wr.drew hJs ⟨rfl, rfl, rfl, by simp, fun b _ _ => rfl⟩
      obtain ⟨X, hX⟩ : ∃ X : Du, X = (xa.length - 1 - k, p1, p2) := ⟨_, rfl⟩
      have henc : encD X = #[.int .i64 ((xa.length - 1 - k : Nat) : Int), .agg #[.int .i64 p1.1, .string p1.2, .int .i64 p2.1, .string p2.2]] := by simp only [encD, duV, hX]
      obtain ⟨fn, tmps, assign, body, hy, hR⟩ := HY.out pre X _ HJ1 (by have := congrArg List.length hpre; simp [duels_length] at this; omega)
      rw [henc] at hy
      have HX := Lib.hid hX
      have HRR := Lib.hid (hR.mono (R' := fun e W' => ∃ b : Bool, e = .returned (.bool b) ∧ Hid ((b = true ∧ J (pre ++ [X]) W' ∧ KeepD n₀ Ba Bb wr.drew W') ∨ (b = false ∧ Jx (pre ++ [X]) W'))) (by
        rintro e W' (⟨rfl, h1, h2⟩ | ⟨rfl, h1⟩)
        · exact ⟨true, rfl, .inl ⟨rfl, h1, h2⟩⟩
        · exact ⟨false, rfl, .inr ⟨rfl, h1⟩⟩))
      have HNX := Lib.hid hnx
      have HPRE := Lib.hid hpre
      clear hR henc hX HJ1 hnx hpre hJs hBa hBb hJab h0 HPA HPB hab1 hbb1
      generalize hto : ((xa.length - 1 - k : Nat) : Int) = to at hw2 hy
      have HTO := Lib.hid hto
      clear hto
      gi_wp2
      refine region_tail_in 15 (by kernel_rfl) (by kernel_rfl) ?_
      simp only [List.take_succ_cons, List.take_zero, List.drop_succ_cons, List.drop_zero]
      iterate 15 still_step
      refine wpStill_nil ?_
      gi_wp2
      refine HRR.out.mono ?_
      rintro e W3 ⟨b, rfl, hbb⟩
      rcases hbb.out with ⟨rfl, hJ3, hk3⟩ | ⟨rfl, hJx3⟩
      · gi_wp2
        go_roundw
        case rel => exact ⟨k + 1, pre ++ [X], by omega, by go_num, by rw [HPRE.out, duels_succ, HX.out, HP1.out, HP2.out], hJ3, keepD_t HNX.out (keepD_t ⟨(Below.refl _ _).drew, fun _ h => h, fun _ h => h⟩ hk3)⟩
        case measure => simp [intOf]; omega
      · gi_wp2
        refine bodyPost_ret (results_none rfl _ _ _) rfl ?_
        refine ⟨⟨_, rfl⟩, .inr ⟨pre ++ [X], ?_, hJx3⟩⟩
        have := duels_prefix xa xb (show k + 1 ≤ xa.length by omega)
        rwa [duels_succ, HP1.out, HP2.out, ← HX.out, ← HPRE.out] at this
    · obtain rfl : k = xa.length := by omega
      gi_wp2
      go_end0
      exact ⟨⟨_, rfl⟩, .inl ⟨pre, hpre, hJs⟩⟩

/-- The iterator's law. -/
theorem duelsLaw (n : Nat) (hn : 1 ≤ n) (Ba Bb n₀ : Nat) (A B : Option Addr) (c d : Nat) (xa xb : List Ent) (w : World) (h64 : xa.length ≤ 1000) (hab : xa.length = xb.length)
    (hBa : w.cell? ⟨Ba, 0, none⟩ = some (.slice A xa.length c)) (hBb : w.cell? ⟨Bb, 0, none⟩ = some (.slice B xb.length d)) (hn₀ : n₀ ≤ w.heap.size) (hpa : EntB w n₀ A xa) (hpb : EntB w n₀ B xb) :
    SeqStopsK Fence.wide n Tryz.prog 179 #[.pointer (some ⟨Ba, 0, none⟩), .pointer (some ⟨Bb, 0, none⟩)] encD (KeepD n₀ Ba Bb) (fun ys => ys = duels xa xb xa.length) (fun pre => pre <+: duels xa xb xa.length) xa.length w :=
  fun l J Jx W hW hJ _ hY h0 =>
    duels1_in n hn l Ba Bb n₀ A B c d xa xb h64 hab J Jx (fun pre W W' h hg => hJ pre W W' none h hg (fun r e => by cases e)) hY W ((hW.cell (p := ⟨Ba, 0, none⟩) (cell_lt hBa)).trans hBa) ((hW.cell (p := ⟨Bb, 0, none⟩) (cell_lt hBb)).trans hBb) (Nat.le_trans hn₀ hW.size) (hpa.below (hW.mono hn₀)) (hpb.below (hW.mono hn₀)) h0

end Go.Proofs.YtbckfkopdojggaaGreatDoor

/- The states of a match: words. -/
namespace Go.Proofs.YtbckfkopdojggaaGreatDoor
open Go.RowKit Go.Shelf

abbrev St := Int × Int × Bool
def resI (a b : Ent) : Int := if meritI a b < 0 then 1 else if 0 < meritI a b then -1 else 0
/-- The states of a match from a difference on, by the holes that are still to come. -/
def statesGo : Int → Bool → List Du → List St
  | _, _, [] => []
  | u, o, x :: l => if o = true ∨ playedB x.2.1.2 x.2.2.2 = false then [] else (u + resI x.2.1 x.2.2, (x.1 : Int), overI (u + resI x.2.1 x.2.2) x.1) :: statesGo (u + resI x.2.1 x.2.2) (overI (u + resI x.2.1 x.2.2) x.1) l
def statesL (xa xb : List Ent) : List St := statesGo 0 false (duels xa xb xa.length)

/-- The cells of states, three an element. -/
def stCells (l : List St) : List Value := l.flatMap fun e => [.int .i64 e.1, .int .i64 e.2.1, .bool e.2.2]
theorem stCells_len : ∀ l : List St, (stCells l).length = l.length * 3
  | [] => rfl
  | e :: l => by have := stCells_len l; simp only [stCells, List.flatMap_cons, List.length_append, List.length_cons, List.length_nil] at this ⊢; omega
theorem stCells_snoc (l : List St) (e : St) : stCells (l ++ [e]) = stCells l ++ [.int .i64 e.1, .int .i64 e.2.1, .bool e.2.2] := by simp [stCells]
theorem stCells_at : ∀ (l : List St) (j : Nat), j < l.length → (stCells l)[j * 3]? = some (.int .i64 (l.getD j (0, 0, false)).1) ∧ (stCells l)[j * 3 + 1]? = some (.int .i64 (l.getD j (0, 0, false)).2.1) ∧ (stCells l)[j * 3 + 2]? = some (.bool (l.getD j (0, 0, false)).2.2)
  | [], j, h => by simp at h
  | e :: l, 0, _ => by simp [stCells]
  | e :: l, j + 1, h => by
    have := stCells_at l j (by simpa using h)
    simp only [stCells, List.flatMap_cons, List.cons_append, List.nil_append, show (j + 1) * 3 = j * 3 + 1 + 1 + 1 by omega, List.getElem?_cons_succ, List.getD_cons_succ] at this ⊢
    exact this
/-- A slice's address under which states lie. -/
def StatesR (w : World) (A : Option Addr) (l : List St) : Prop := ∀ j, j < l.length → ∃ a, A = some a ∧ w.cell? (a.add (j * 3)) = some (.int .i64 (l.getD j (0, 0, false)).1) ∧
  w.cell? ⟨(a.add (j * 3)).block, (a.add (j * 3)).off + 1, none⟩ = some (.int .i64 (l.getD j (0, 0, false)).2.1) ∧ w.cell? ⟨(a.add (j * 3)).block, (a.add (j * 3)).off + 2, none⟩ = some (.bool (l.getD j (0, 0, false)).2.2) ∧ (a.add (j * 3)).block < w.heap.size
theorem StatesR.keep {w w' : World} {A : Option Addr} {l : List St} (h : StatesR w A l) (hb : Below w.heap.size w w') : StatesR w' A l := fun j hj => by
  obtain ⟨a, rfl, h0, h1, h2, h3⟩ := h j hj
  exact ⟨a, rfl, (hb.cell h3).trans h0, (hb.cell (p := ⟨_, _, none⟩) h3).trans h1, (hb.cell (p := ⟨_, _, none⟩) h3).trans h2, Nat.lt_of_lt_of_le h3 hb.size⟩

theorem StatesR.turn {w w' : World} {A : Option Addr} {l : List St} (h : StatesR w A l) {row : Option Nat} (hg : w.grownBy w' row) (hr : ∀ r, row = some r → ∃ o : Obj, w.heap[r]? = some o ∧ o.isCells = false) : StatesR w' A l := fun j hj => by
  obtain ⟨a, rfl, h0, h1, h2, h3⟩ := h j hj
  exact ⟨a, rfl, cell_kept h0 hg hr, cell_kept h1 hg hr, cell_kept h2 hg hr, Nat.lt_of_lt_of_le h3 hg.size⟩

/-- The slice value v of states owns the list l. -/
def StOwn (w : World) (base : Nat) (v : Value) (l : List St) : Prop := w.ownsRow base 71 3 v l.length (stCells l)
section
variable {w w' : World} {base : Nat} {v : Value} {l : List St}
theorem StOwn.nil (w : World) (base : Nat) : StOwn w base (.slice none 0 0) [] := World.ownsRow_nil w base 71 3
theorem StOwn.block (h : StOwn w base v l) : ∀ b, v.ownBlock = some b → base ≤ b ∧ b < w.heap.size := World.ownsRow.lt h
theorem StOwn.below (h : StOwn w base v l) (hb : Below w.heap.size w w') : StOwn w' base v l := by
  refine ⟨h.1, ?_⟩
  rcases h.2 with hn | ⟨g, cap, cur, e1, e2, e3, rest⟩
  · exact .inl hn
  · exact .inr ⟨g, cap, cur, e1, e2, (hb.block g (Array.getElem?_eq_some_iff.1 e3).1).trans e3, rest⟩
theorem StOwn.far (h : StOwn w base v l) {p : Addr} (hp : p.block < base) (u : Value) : StOwn (w.setCell p u) base v l := by
  refine ⟨h.1, ?_⟩
  rcases h.2 with hn | ⟨g, cap, cur, e1, e2, e3, rest⟩
  · exact .inl hn
  · exact .inr ⟨g, cap, cur, e1, e2, (Below.heap_setCell w p u g (by omega)).trans e3, rest⟩
theorem StOwn.turn (h : StOwn w base v l) {row : Option Nat} (hg : w.grownBy w' row) (hr : ∀ r, row = some r → ∃ o : Obj, w.heap[r]? = some o ∧ o.isCells = false) : StOwn w' base v l := by
  refine World.ownsRow.kept h hg ?_
  rcases h.2 with ⟨rfl, _⟩ | ⟨g, cap, cur, rfl, _, hgb, _⟩
  · exact .inl rfl
  · refine .inr fun e => ?_
    obtain ⟨o, ho, hc⟩ := hr g e.symm
    rw [hgb] at ho; cases ho; cases hc
theorem BlkV.turn {g t : Nat} {cs : Array Value} (h : BlkV w g t cs) {row : Option Nat} (hg : w.grownBy w' row) (hr : ∀ r, row = some r → ∃ o : Obj, w.heap[r]? = some o ∧ o.isCells = false) : BlkV w' g t cs :=
  h.grown hg (fun e => by obtain ⟨o, ho, hc⟩ := hr g e.symm; rw [show w.heap[g]? = _ from h] at ho; cases ho; cases hc)
theorem StOwn.states (h : StOwn w base v l) : ∃ A c, v = .slice A l.length c ∧ StatesR w A l ∧ ∀ a, A = some a → base ≤ a.block := by
  rcases h.2 with ⟨rfl, h0⟩ | ⟨g, cap, cur, rfl, hg, hgb, hnc, hcm, hcs, htk⟩
  · exact ⟨none, 0, by rw [h0], (fun j hj => by omega), fun a ha => by cases ha⟩
  · refine ⟨_, _, rfl, fun j hj => ?_, fun a ha => by cases ha; exact hg⟩
    obtain ⟨p0, p1, p2⟩ := stCells_at l j hj
    rw [← htk, List.getElem?_take_of_lt (by omega)] at p0 p1 p2
    refine ⟨⟨g, 0, none⟩, rfl, ?_, ?_, ?_, ?_⟩
    · rw [add_zero_at, cell_of_row w g _ _ _ _ hgb]; simpa using p0
    · rw [add_zero_at, cell_of_row w g _ _ _ _ hgb]; simpa using p1
    · rw [add_zero_at, cell_of_row w g _ _ _ _ hgb]; simpa using p2
    · rw [add_zero_at]; exact (Array.getElem?_eq_some_iff.1 hgb).1
end
theorem info_state : (Tryz.prog.info? 71).map (fun i => (i.zero, i.size, i.bytes)) = some (some (.agg #[.int .i64 0, .int .i64 0, .bool false]), 3, 24) := by kernel_rfl

theorem resI_bound (a b : Ent) : -1 ≤ resI a b ∧ resI a b ≤ 1 := by
  unfold resI
  split
  · omega
  · split <;> omega
theorem go_stop {pre : List Du} {out : List St} {u : Int} {ov : Bool} {x : Du} (H : ∀ rest, statesGo 0 false (pre ++ rest) = out ++ statesGo u ov rest) (h : ov = true ∨ playedB x.2.1.2 x.2.2.2 = false) :
    ∀ rest, statesGo 0 false ((pre ++ [x]) ++ rest) = out := fun rest => by
  rw [List.append_assoc, List.singleton_append, H, statesGo, if_pos h, List.append_nil]
theorem go_next {pre : List Du} {out : List St} {u u' : Int} {x : Du} {o : Bool} (H : ∀ rest, statesGo 0 false (pre ++ rest) = out ++ statesGo u false rest) (h : playedB x.2.1.2 x.2.2.2 = true) (hu : u + resI x.2.1 x.2.2 = u') (ho : overI u' x.1 = o) :
    ∀ rest, statesGo 0 false ((pre ++ [x]) ++ rest) = (out ++ [(u', (x.1 : Int), o)]) ++ statesGo u' o rest := fun rest => by
  subst hu; subst ho
  rw [List.append_assoc, List.singleton_append, H, statesGo, if_neg (by simp [h]), List.append_assoc, List.singleton_append]

def HoldS (xa xb : List Ent) (A B : Option Addr) (c d b : Nat) (pre : List Du) (W : World) : Prop :=
  ∃ (u t : Int) (ov : Bool) (out : List St) (v : Value), (∀ rest, statesGo 0 false (pre ++ rest) = out ++ statesGo u ov rest) ∧ out.length = pre.length ∧ (-(pre.length : Int) ≤ u ∧ u ≤ pre.length) ∧
    BlkV W (b + 1) 71 #[.int .i64 u, .int .i64 t, .bool ov] ∧ BlkV W b 67 #[v] ∧ StOwn W (b + 4) v out ∧ BlkV W (b + 1 + 1) 77 #[.slice A xa.length c] ∧ BlkV W (b + 1 + 1 + 1) 77 #[.slice B xb.length d]
def LeftS (b : Nat) (pre : List Du) (W : World) : Prop := ∃ (out : List St) (v : Value), (∀ rest, statesGo 0 false (pre ++ rest) = out) ∧ BlkV W b 67 #[v] ∧ StOwn W (b + 4) v out
theorem holdS_own (xa xb : List Ent) (A B : Option Addr) (c d b : Nat) : Own (HoldS xa xb A B c d b) := fun pre X Y row h hg hr => by
  obtain ⟨u, t, ov, out, v, h1, h2, h3, h4, h5, h6, h7, h8⟩ := h
  exact ⟨u, t, ov, out, v, h1, h2, h3, h4.turn hg hr, h5.turn hg hr, h6.turn hg hr, h7.turn hg hr, h8.turn hg hr⟩
theorem leftS_own (b : Nat) : Own (LeftS b) := fun pre X Y row h hg hr => by
  obtain ⟨out, v, h1, h2, h3⟩ := h
  exact ⟨out, v, h1, h2.turn hg hr, h3.turn hg hr⟩
theorem HoldS.alloc {xa xb : List Ent} {A B : Option Addr} {c d b : Nat} {pre : List Du} {W : World} (h : HoldS xa xb A B c d b pre W) (o : Obj) : HoldS xa xb A B c d b pre (W.alloc o) :=
  holdS_own xa xb A B c d b pre W _ none h (World.grownBy_alloc W o none) (fun r e => by cases e)
theorem keepsOthers_below {W W' : World} (hb : Below W.heap.size W W') : KeepsOthers W W' := ⟨hb.size, fun k o hk _ => (hb.block k (Array.getElem?_eq_some_iff.1 hk).1).trans hk⟩
theorem four_allocs (w : World) (T1 T2 T3 T4 : TypeId) (c1 c2 c3 c4 : Array Value) {W : World} (h : (((w.alloc (.cells c1 T1)).alloc (.cells c2 T2)).alloc (.cells c3 T3)).alloc (.cells c4 T4) = W) :
    BlkV W w.heap.size T1 c1 ∧ BlkV W (w.heap.size + 1) T2 c2 ∧ BlkV W (w.heap.size + 1 + 1) T3 c3 ∧ BlkV W (w.heap.size + 1 + 1 + 1) T4 c4 ∧ Below w.heap.size w W ∧ W.heap.size = w.heap.size + 1 + 1 + 1 + 1 := by
  subst h
  obtain ⟨h1, h2, h3, h4, h5⟩ := three_allocs w T1 T2 T3 c1 c2 c3 rfl
  refine ⟨h1.alloc _, h2.alloc _, h3.alloc _, ?_, h4.alloc (by rw [h5]; omega) _, by simp⟩
  have := BlkV.new (((w.alloc (.cells c1 T1)).alloc (.cells c2 T2)).alloc (.cells c3 T3)) T4 c4
  rwa [h5] at this
/-- States as a result. -/
def StatesOut (l : List St) (w : World) (e : Ending) (w' : World) : Prop :=
  ∃ A c, e = .returned (.slice A l.length c) ∧ StatesR w' A l ∧ (∀ a, A = some a → w.heap.size ≤ a.block) ∧ Below w.heap.size w w'

end Go.Proofs.YtbckfkopdojggaaGreatDoor

/- The states of a match. -/
namespace Go.Proofs.YtbckfkopdojggaaGreatDoor
open Go.RowKit Go.Shelf

attribute [local go_sem] Oper.semAt_some

set_option maxRecDepth 100000 in
set_option maxHeartbeats 8000000 in
theorem states_any (A B : Option Addr) (c d : Nat) (xa xb : List Ent) (w : World) (h64 : xa.length ≤ 1000) (hab : xa.length = xb.length) (ha : EntriesR w A xa) (hb : EntriesR w B xb) :
    Calls Tryz.prog 77 #[.slice A xa.length c, .slice B xb.length d] w (StatesOut (statesL xa xb) w) := by
  refine (callsIn_wide (n := 9)).1 ?_
  refine callsIn_of_wp_marks Tryz.func77 rfl trivial ?_ rfl
  simp only [Tryz.ntmps77, List.size_toArray, List.length_cons, List.length_nil, Nat.reduceAdd, Nat.reduceSub, Array.replicate_succ, Array.replicate_zero, List.push_toArray, List.append_toArray, List.nil_append, List.cons_append]
  have HA := Lib.hid ha.entB
  have HB := Lib.hid hb.entB
  have HAB := Lib.hid hab
  clear ha hb hab
  gi_wp2
  refine wpIn_wide.2 (wp_scope_straight ((wpIn_wide (n := 9)).1 ?_))
  gi_wp2
  refine wpIn_label ?_
  gi_wp2_with (refine ⟨trivial, ?_⟩; gi_at_call 133; refine (duels_in Fence.wide _ trivial rfl _ _ _ _ _ _ _).mono ?_; rintro e w' ⟨rfl, rfl⟩)
  obtain ⟨W0, hW0⟩ : ∃ W0, (((w.alloc (.cells #[.slice none 0 0] 67)).alloc (.cells #[.int .i64 0, .int .i64 0, .bool false] 71)).alloc (.cells #[.slice A xa.length c] 77)).alloc (.cells #[.slice B xb.length d] 77) = W0 := ⟨_, rfl⟩
  rw [hW0]
  obtain ⟨a1, a2, a3, a4, hB0, hsz⟩ := four_allocs w _ _ _ _ _ _ _ _ hW0
  have HSZ := Lib.hid hsz
  clear hW0 hsz
  refine wpIn_rangeFunc_ownH rfl (by omega) (gf := 179) (lb := #[.pointer (some ⟨w.heap.size + 1 + 1, 0, none⟩), .pointer (some ⟨w.heap.size + 1 + 1 + 1, 0, none⟩)]) rfl trivial (enters_of Tryz.func179 (by kernel_rfl) rfl)
    (duelsLaw _ (by omega) (w.heap.size + 1 + 1) (w.heap.size + 1 + 1 + 1) w.heap.size A B c d xa xb W0 h64 HAB.out (a3.cell 0) (a4.cell 0) (by have := HSZ.out; omega) (HA.out.below hB0) (HB.out.below hB0)) keepD_t (keepD_b (by have := HSZ.out; omega)) (Below.refl _ _) (fun _ => rfl)
    (fun pre W => HoldS xa xb A B c d w.heap.size pre W ∧ Below w.heap.size w W)
    (fun cc pre W => (cc = .exit 0 ∧ LeftS w.heap.size pre W) ∧ Below w.heap.size w W)
    (OwnFrom.and (Own.from (holdS_own _ _ _ _ _ _ _) _) (ownFrom_below (Nat.le_refl _) (by have := HSZ.out; omega)))
    (fun cc => OwnFrom.and (OwnFrom.and (ownFrom_pure _ _) (Own.from (leftS_own _) _)) (ownFrom_below (Nat.le_refl _) (by have := HSZ.out; omega)))
    ⟨⟨0, 0, false, [], _, fun rest => by simp, rfl, by simp, a2, a1, StOwn.nil _ _, a3, a4⟩, hB0⟩
    (fun x a' W => ∃ Bd, (w.heap.size + 1 + 1 + 1 < Bd) ∧ BlkV W Bd 211 #[.int .i64 x.2.1.1, .string x.2.1.2, .int .i64 x.2.2.1, .string x.2.2.2] ∧ a' = { tmps := #[.slice A xa.length c, .slice B xb.length d, undef, undef, .slice none 0 0, .pointer (some ⟨w.heap.size, 0, none⟩), .pointer (some ⟨w.heap.size + 1, 0, none⟩), .int .i64 x.1, .pointer (some ⟨Bd, 0, none⟩), undef, undef, .slice A xa.length c, .slice B xb.length d, .func (.func 179) #[] #[.pointer (some ⟨w.heap.size + 1 + 1, 0, none⟩), .pointer (some ⟨w.heap.size + 1 + 1 + 1, 0, none⟩)], .int .i64 x.1, duV x.2.1 x.2.2, undef, undef, undef, undef, undef, undef, undef, undef, undef, undef, undef, undef, undef, undef, undef, undef, undef, undef, undef, undef, undef, undef, undef, undef, undef, undef, undef, undef, undef, undef, undef], defers := [] })
    (fun x a' _ X Y row hs hg hr => by
      obtain ⟨Bd, e0, e1, e3⟩ := hs
      exact ⟨Bd, e0, e1.turn hg (fun r e => (hr r e).2), e3⟩)
    ?assign ?body ?done ?stop
  case assign =>
    rintro l pre x W K ⟨hI, hB1⟩ hK
    unfold encD duV
    gi_wp2
    have b2 := BlkV.new W 211 #[.int .i64 x.2.1.1, .string x.2.1.2, .int .i64 x.2.2.1, .string x.2.2.2]
    refine hK _ _ ((KeepsOthers.alloc _ _).from _) (keepD_alloc hB1.size _) ⟨hI.alloc _, hB1.alloc hB1.size _⟩ ⟨W.heap.size, ?_, b2, rfl⟩
    obtain ⟨u, t, ov, out, v, h1, h2, h3, h4, h5, h6, h7, h8⟩ := hI
    exact h8.lt
  case body =>
    rintro l pre x a' W hl ⟨r, hr⟩ ⟨⟨u, t, ov, out, v, h1, h2, h3, h4, h5, h6, h7, h8⟩, hB1⟩ ⟨Bd, hBd, hd, rfl⟩ hlt
    obtain ⟨to, ⟨s, m⟩, ⟨s2, m2⟩⟩ := x
    simp only at hd
    have hsW := hB1.size
    have HGO := Lib.hid h1
    have HLEN := Lib.hid h2
    have HS := Lib.hid h4
    have HL := Lib.hid h5
    have HOWN := Lib.hid h6
    have HBA := Lib.hid h7
    have HBB := Lib.hid h8
    have HD := Lib.hid hd
    have HB1 := Lib.hid hB1
    have HC1 := Lib.hid (fun w => byMerit_any s s2 m m2 w)
    have HRES : Hid (resI (s, m) (s2, m2) = if meritI (s, m) (s2, m2) < 0 then 1 else if 0 < meritI (s, m) (s2, m2) then -1 else 0) := Lib.hid rfl
    generalize meritI (s, m) (s2, m2) = o at HC1 HRES
    have cs0 : W.cell? ⟨w.heap.size + 1, 0, none⟩ = some (.int .i64 u) := h4.cell 0
    have d0 : W.cell? ⟨Bd, 0, none⟩ = some (.int .i64 s) := hd.cell 0
    have d1 : W.cell? ⟨Bd, 1, none⟩ = some (.string m) := hd.cell 1
    have d2 : W.cell? ⟨Bd, 2, none⟩ = some (.int .i64 s2) := hd.cell 2
    have d3 : W.cell? ⟨Bd, 3, none⟩ = some (.string m2) := hd.cell 3
    clear h1 h2 h4 h5 h6 h7 h8 hd hB1 hl hr a1 a2 a3 a4 hB0
    generalize hQ2 : ownPostG _ _ _ _ _ _ = Q2
    have HQ := Lib.hid hQ2
    clear hQ2
    unfold duV
    gi_wp2_with fail
    refine ⟨trivial, ?_⟩
    refine (CallsIn.inRound l (callsIn_wide.2 (HC1.out _))).mono ?_
    rintro e w3 ⟨rfl, hb3⟩
    have HB3 := Lib.hid hb3
    have HS3 := Lib.hid (HS.out.below hb3 HS.out.lt)
    have HD3 := Lib.hid (HD.out.below hb3 HD.out.lt)
    have cs2 : w3.cell? ⟨w.heap.size + 1, 2, none⟩ = some (.bool ov) := HS3.out.cell 2
    have d0 : w3.cell? ⟨Bd, 0, none⟩ = some (.int .i64 s) := HD3.out.cell 0
    have d1 : w3.cell? ⟨Bd, 1, none⟩ = some (.string m) := HD3.out.cell 1
    have d2 : w3.cell? ⟨Bd, 2, none⟩ = some (.int .i64 s2) := HD3.out.cell 2
    have d3 : w3.cell? ⟨Bd, 3, none⟩ = some (.string m2) := HD3.out.cell 3
    clear hb3 HC1
    have HLEFT : ∀ (w4 : World) (Bk : Nat), Below W.heap.size W w4 → (ov = true ∨ playedB m m2 = false) → KeepsFrom Bk W w4 ∧ LeftS w.heap.size (pre ++ [(to, (s, m), (s2, m2))]) w4 ∧ Below w.heap.size w w4 := fun w4 Bk hb4 hor =>
      ⟨(keepsOthers_below hb4).from _, ⟨out, v, go_stop HGO.out hor, HL.out.below hb4 HL.out.lt, HOWN.out.below hb4⟩, HB1.out.trans (hb4.mono hsW)⟩
    have HLF := Lib.hid HLEFT
    clear HLEFT
    have hne : ¬ Bd = w.heap.size + 1 := by omega
    have HNE := Lib.hid hne
    have HBD := Lib.hid hBd
    have hFIN : ∀ (u' : Int) (w5 w7 : World) (g cap : Nat), ov = false → playedB m m2 = true → u + resI (s, m) (s2, m2) = u' → Below W.heap.size W w5 →
        ((((w5.setCell ⟨w.heap.size + 1, 0, none⟩ (.int .i64 u')).setCell ⟨w.heap.size + 1, 1, none⟩ (.int .i64 (to : Int))).setCell ⟨w.heap.size + 1, 2, none⟩ (.bool (overI u' to))).alloc (.cells #[.int .i64 u', .int .i64 (to : Int), .bool (overI u' to)] 71)).grownBy w7 v.ownBlock →
        StOwn w7 (w.heap.size + 4) (.slice (some ⟨g, 0, none⟩) (out.length + 1) cap) (out ++ [(u', (to : Int), overI u' to)]) →
        BlkV w7 w.heap.size 67 #[v] ∧ (KeepsFrom W0.heap.size W (w7.setCell ⟨w.heap.size, 0, none⟩ (.slice (some ⟨g, 0, none⟩) (out.length + 1) cap)) ∧ KeepD w.heap.size (w.heap.size + 1 + 1) (w.heap.size + 1 + 1 + 1) W (w7.setCell ⟨w.heap.size, 0, none⟩ (.slice (some ⟨g, 0, none⟩) (out.length + 1) cap)) ∧
          HoldS xa xb A B c d w.heap.size (pre ++ [(to, (s, m), (s2, m2))]) (w7.setCell ⟨w.heap.size, 0, none⟩ (.slice (some ⟨g, 0, none⟩) (out.length + 1) cap)) ∧ Below w.heap.size w (w7.setCell ⟨w.heap.size, 0, none⟩ (.slice (some ⟨g, 0, none⟩) (out.length + 1) cap))) := by
      intro u' w5 w7 g cap hov hp hu hb5 hgr hown
      subst hov
      have hob := HOWN.out.block
      have hW5 := hb5.size
      have hlt4 := HBB.out.lt
      have k1 := HL.out.below hb5 HL.out.lt
      have k2 := HS.out.below hb5 HS.out.lt
      have k3 := HBA.out.below hb5 HBA.out.lt
      have k4 := HBB.out.below hb5 HBB.out.lt
      have ko := HOWN.out.below hb5
      have ng : ∀ b, b < w.heap.size + 4 → some b ≠ v.ownBlock := fun b hb e => by have := hob _ e.symm; omega
      have far1 : ∀ {b T : Nat} {cs : Array Value}, BlkV w5 b T cs → b < w.heap.size + 4 → b ≠ w.heap.size + 1 → BlkV w7 b T cs := fun h hb hn => ((((h.far hn _).far hn _).far hn _).alloc _).grown hgr (ng _ hb)
      have j1 := far1 k1 (by omega) (by omega)
      have j3 := far1 k3 (by omega) (by omega)
      have j4 := far1 k4 (by omega) (by omega)
      have j2 := ((((k2.set 0 (.int .i64 u')).set 1 (.int .i64 (to : Int))).set 2 (.bool (overI u' to))).alloc (.cells #[.int .i64 u', .int .i64 (to : Int), .bool (overI u' to)] 71)).grown hgr (ng _ (by omega))
      have koY := (((ko.far (p := ⟨w.heap.size + 1, 0, none⟩) (by simp) (.int .i64 u')).far (p := ⟨w.heap.size + 1, 1, none⟩) (by simp) (.int .i64 (to : Int))).far (p := ⟨w.heap.size + 1, 2, none⟩) (by simp) (.bool (overI u' to))).below ((Below.refl _ _).alloc (Nat.le_refl _) (.cells #[.int .i64 u', .int .i64 (to : Int), .bool (overI u' to)] 71))
      have hkW : KeepsOthers W w7 := ((((((keepsOthers_below hb5).trans (KeepsOthers.setCell _ _ _)).trans (KeepsOthers.setCell _ _ _)).trans (KeepsOthers.setCell _ _ _)).trans (KeepsOthers.alloc _ _))).trans (KeepsOthers.of_grownBy hgr fun j o ej hj => by
        rcases koY.2 with ⟨rfl, _⟩ | ⟨g', cap', cur', rfl, _, hgb', _⟩
        · simp [Value.ownBlock] at ej
        · obtain rfl : g' = j := by simpa [Value.ownBlock] using ej
          rw [hgb'] at hj; cases hj; rfl)
      have hbw7 : Below w.heap.size W w7 := ((((((hb5.mono hsW).setCell (p := ⟨w.heap.size + 1, 0, none⟩) (by simp) _).setCell (p := ⟨w.heap.size + 1, 1, none⟩) (by simp) _).setCell (p := ⟨w.heap.size + 1, 2, none⟩) (by simp) _).alloc (by simp; omega) _).grown hgr (by simp; omega) (fun b e => by have := hob _ e; omega))
      refine ⟨j1, (hkW.trans (KeepsOthers.setCell _ _ _)).from _, ⟨hbw7.setCell (by simp) _, fun x hx => ?_, fun x hx => ?_⟩, ⟨u', (to : Int), overI u' to, _, _, go_next HGO.out hp hu rfl, by simp [HLEN.out], ?_, j2.far (by simp) _, j1.set 0 _, hown.far (by simp) _, j3.far (by simp; omega) _, j4.far (by simp; omega) _⟩, (HB1.out.trans hbw7).setCell (by simp) _⟩
      · have e1 : x = .slice A xa.length c := by have := HBA.out.cell 0; rw [hx] at this; simpa using this
        rw [e1]; exact (j3.far (p := ⟨w.heap.size, 0, none⟩) (by simp; omega) _).cell 0
      · have e1 : x = .slice B xb.length d := by have := HBB.out.cell 0; rw [hx] at this; simpa using this
        rw [e1]; exact (j4.far (p := ⟨w.heap.size, 0, none⟩) (by simp; omega) _).cell 0
      · have := resI_bound (s, m) (s2, m2)
        simp only [List.length_append, List.length_cons, List.length_nil]
        omega
    have HFIN := Lib.hid hFIN
    clear hFIN hne
    cases ov
    · have HC2 := Lib.hid (fun w => isPlayed_any s s2 m m2 w)
      cases hp : playedB m m2
      all_goals
        have HP := Lib.hid hp
        rw [hp] at HC2
        clear hp
        gi_wp2_with fail
        refine ⟨trivial, ?_⟩
        refine (CallsIn.inRound l (callsIn_wide.2 (HC2.out _))).mono ?_
        rintro e w4 ⟨rfl, hb4⟩
        have HB4 := Lib.hid (HB3.out.trans (hb4.mono HB3.out.size))
        clear hb4 HC2
      · gi_wp2
        rw [← HQ.out]
        obtain ⟨k1, k2, k3⟩ := HLF.out w4 W0.heap.size HB4.out (.inr HP.out)
        exact ⟨k1, ⟨rfl, k2⟩, k3⟩
      · clear cs2 d0 d1 d2 d3 cs0
        obtain ⟨i0, hi, hz0, hz1, hz2⟩ := info_parts info_state
        by_cases ho1 : o < 0
        · have HU : Hid (u + resI (s, m) (s2, m2) = u + 1) := Lib.hid (by rw [HRES.out, if_pos ho1])
          have hu1 : u + 1 ≤ 2000 := by omega
          have HC3 := Lib.hid (fun w => stateOf_any (u + 1) to w (by omega))
          gi_wp2_with fail
          refine ⟨trivial, ?_⟩
          refine (CallsIn.inRound l (callsIn_wide.2 (HC3.out _))).mono ?_
          rintro e w5 ⟨rfl, hb5⟩
          have HB5 := Lib.hid (HB4.out.trans (hb5.mono HB4.out.size))
          clear hb5 HC3
          have HS5 := Lib.hid (HS.out.below HB5.out HS.out.lt)
          have HL5 := Lib.hid (HL.out.below HB5.out HL.out.lt)
          have HOY : Hid (StOwn ((((w5.setCell ⟨w.heap.size + 1, 0, none⟩ (.int .i64 (u + 1))).setCell ⟨w.heap.size + 1, 1, none⟩ (.int .i64 (to : Int))).setCell ⟨w.heap.size + 1, 2, none⟩ (.bool (overI (u + 1) to))).alloc (.cells #[.int .i64 (u + 1), .int .i64 (to : Int), .bool (overI (u + 1) to)] 71)) (w.heap.size + 4) v out) :=
            Lib.hid ((((HOWN.out.below HB5.out).far (p := ⟨w.heap.size + 1, 0, none⟩) (by simp) _).far (p := ⟨w.heap.size + 1, 1, none⟩) (by simp) _).far (p := ⟨w.heap.size + 1, 2, none⟩) (by simp) _ |>.below ((Below.refl _ _).alloc (Nat.le_refl _) _))
          have HNW : Hid (∀ (j : Nat) (x : Value), [Value.int .i64 (u + 1), .int .i64 (to : Int), .bool (overI (u + 1) to)][j]? = some x → ((((w5.setCell ⟨w.heap.size + 1, 0, none⟩ (.int .i64 (u + 1))).setCell ⟨w.heap.size + 1, 1, none⟩ (.int .i64 (to : Int))).setCell ⟨w.heap.size + 1, 2, none⟩ (.bool (overI (u + 1) to))).alloc (.cells #[.int .i64 (u + 1), .int .i64 (to : Int), .bool (overI (u + 1) to)] 71)).cell? ((⟨w5.heap.size, 0, none⟩ : Addr).add j) = some x) := Lib.hid (by
            have := heap_alloc_new (((w5.setCell ⟨w.heap.size + 1, 0, none⟩ (.int .i64 (u + 1))).setCell ⟨w.heap.size + 1, 1, none⟩ (.int .i64 (to : Int))).setCell ⟨w.heap.size + 1, 2, none⟩ (.bool (overI (u + 1) to))) (.cells #[.int .i64 (u + 1), .int .i64 (to : Int), .bool (overI (u + 1) to)] 71)
            have e : (((w5.setCell ⟨w.heap.size + 1, 0, none⟩ (.int .i64 (u + 1))).setCell ⟨w.heap.size + 1, 1, none⟩ (.int .i64 (to : Int))).setCell ⟨w.heap.size + 1, 2, none⟩ (.bool (overI (u + 1) to))).heap.size = w5.heap.size := by simp
            rw [e] at this
            exact World.news_of_block this)
          have q0 := HS5.out.cell 0
          have q1 := HS5.out.cell 1
          have q2 := HS5.out.cell 2
          have f0 := HS5.out.frozen 0
          have f1 := HS5.out.frozen 1
          have f2 := HS5.out.frozen 2
          have l0 : w5.cell? ⟨w.heap.size, 0, none⟩ = some v := HL5.out.cell 0
          have HOL : Hid (out.length ≤ 1000) := Lib.hid (by have := HLEN.out; omega)
          have HBW : Hid (w.heap.size + 4 ≤ w5.heap.size) := Lib.hid (by have := HB5.out.size; have := HBB.out.lt; omega)
          gi_wp2_with ((gi_at_builtin; refine wpListIn_append_own _ rfl _ _ 67 rfl (w.heap.size + 4) 71 i0 _ 3 24 Tryz.underlying67 hi hz0 hz1 hz2 rfl (by decide) v out.length (stCells out) rfl HOY.out ⟨w5.heap.size, 0, none⟩ 1 1 [.int .i64 (u + 1), .int .i64 (to : Int), .bool (overI (u + 1) to)] rfl rfl HNW.out (fun x hx => by simp at hx; rcases hx with rfl | rfl | rfl <;> rfl) (by have := HOL.out; unfold maxLen; omega) (by have := HOL.out; omega) (by have := HBW.out; simp; omega) ?_; intro v' w7 hown' hgrow _; obtain ⟨g, cap, rfl⟩ := ownsRow_succ hown'; have HF := Lib.hid (HFIN.out (u + 1) w5 w7 g cap (by simp) HP.out HU.out HB5.out hgrow (by unfold StOwn; rw [stCells_snoc, List.length_append]; exact hown')); have lc := HF.out.1.cell 0; have lf := HF.out.1.frozen 0; clear hown' hgrow))
          rw [← HQ.out]
          exact HF.out.2
        · by_cases ho2 : 0 < o
          · have HU : Hid (u + resI (s, m) (s2, m2) = u - 1) := Lib.hid (by rw [HRES.out, if_neg ho1, if_pos ho2]; omega)
            have hu1 : -2000 ≤ u - 1 := by omega
            have HC3 := Lib.hid (fun w => stateOf_any (u - 1) to w (by omega))
            gi_wp2_with fail
            refine ⟨trivial, ?_⟩
            refine (CallsIn.inRound l (callsIn_wide.2 (HC3.out _))).mono ?_
            rintro e w5 ⟨rfl, hb5⟩
            have HB5 := Lib.hid (HB4.out.trans (hb5.mono HB4.out.size))
            clear hb5 HC3
            have HS5 := Lib.hid (HS.out.below HB5.out HS.out.lt)
            have HL5 := Lib.hid (HL.out.below HB5.out HL.out.lt)
            have HOY : Hid (StOwn ((((w5.setCell ⟨w.heap.size + 1, 0, none⟩ (.int .i64 (u - 1))).setCell ⟨w.heap.size + 1, 1, none⟩ (.int .i64 (to : Int))).setCell ⟨w.heap.size + 1, 2, none⟩ (.bool (overI (u - 1) to))).alloc (.cells #[.int .i64 (u - 1), .int .i64 (to : Int), .bool (overI (u - 1) to)] 71)) (w.heap.size + 4) v out) :=
              Lib.hid ((((HOWN.out.below HB5.out).far (p := ⟨w.heap.size + 1, 0, none⟩) (by simp) _).far (p := ⟨w.heap.size + 1, 1, none⟩) (by simp) _).far (p := ⟨w.heap.size + 1, 2, none⟩) (by simp) _ |>.below ((Below.refl _ _).alloc (Nat.le_refl _) _))
            have HNW : Hid (∀ (j : Nat) (x : Value), [Value.int .i64 (u - 1), .int .i64 (to : Int), .bool (overI (u - 1) to)][j]? = some x → ((((w5.setCell ⟨w.heap.size + 1, 0, none⟩ (.int .i64 (u - 1))).setCell ⟨w.heap.size + 1, 1, none⟩ (.int .i64 (to : Int))).setCell ⟨w.heap.size + 1, 2, none⟩ (.bool (overI (u - 1) to))).alloc (.cells #[.int .i64 (u - 1), .int .i64 (to : Int), .bool (overI (u - 1) to)] 71)).cell? ((⟨w5.heap.size, 0, none⟩ : Addr).add j) = some x) := Lib.hid (by
              have := heap_alloc_new (((w5.setCell ⟨w.heap.size + 1, 0, none⟩ (.int .i64 (u - 1))).setCell ⟨w.heap.size + 1, 1, none⟩ (.int .i64 (to : Int))).setCell ⟨w.heap.size + 1, 2, none⟩ (.bool (overI (u - 1) to))) (.cells #[.int .i64 (u - 1), .int .i64 (to : Int), .bool (overI (u - 1) to)] 71)
              have e : (((w5.setCell ⟨w.heap.size + 1, 0, none⟩ (.int .i64 (u - 1))).setCell ⟨w.heap.size + 1, 1, none⟩ (.int .i64 (to : Int))).setCell ⟨w.heap.size + 1, 2, none⟩ (.bool (overI (u - 1) to))).heap.size = w5.heap.size := by simp
              rw [e] at this
              exact World.news_of_block this)
            have q0 := HS5.out.cell 0
            have q1 := HS5.out.cell 1
            have q2 := HS5.out.cell 2
            have f0 := HS5.out.frozen 0
            have f1 := HS5.out.frozen 1
            have f2 := HS5.out.frozen 2
            have l0 : w5.cell? ⟨w.heap.size, 0, none⟩ = some v := HL5.out.cell 0
            have HOL : Hid (out.length ≤ 1000) := Lib.hid (by have := HLEN.out; omega)
            have HBW : Hid (w.heap.size + 4 ≤ w5.heap.size) := Lib.hid (by have := HB5.out.size; have := HBB.out.lt; omega)
            gi_wp2_with ((gi_at_builtin; refine wpListIn_append_own _ rfl _ _ 67 rfl (w.heap.size + 4) 71 i0 _ 3 24 Tryz.underlying67 hi hz0 hz1 hz2 rfl (by decide) v out.length (stCells out) rfl HOY.out ⟨w5.heap.size, 0, none⟩ 1 1 [.int .i64 (u - 1), .int .i64 (to : Int), .bool (overI (u - 1) to)] rfl rfl HNW.out (fun x hx => by simp at hx; rcases hx with rfl | rfl | rfl <;> rfl) (by have := HOL.out; unfold maxLen; omega) (by have := HOL.out; omega) (by have := HBW.out; simp; omega) ?_; intro v' w7 hown' hgrow _; obtain ⟨g, cap, rfl⟩ := ownsRow_succ hown'; have HF := Lib.hid (HFIN.out (u - 1) w5 w7 g cap (by simp) HP.out HU.out HB5.out hgrow (by unfold StOwn; rw [stCells_snoc, List.length_append]; exact hown')); have lc := HF.out.1.cell 0; have lf := HF.out.1.frozen 0; clear hown' hgrow))
            rw [← HQ.out]
            exact HF.out.2
          · have HU : Hid (u + resI (s, m) (s2, m2) = u) := Lib.hid (by rw [HRES.out, if_neg ho1, if_neg ho2]; omega)
            have HC3 := Lib.hid (fun w => stateOf_any u to w (by omega))
            gi_wp2_with fail
            refine ⟨trivial, ?_⟩
            refine (CallsIn.inRound l (callsIn_wide.2 (HC3.out _))).mono ?_
            rintro e w5 ⟨rfl, hb5⟩
            have HB5 := Lib.hid (HB4.out.trans (hb5.mono HB4.out.size))
            clear hb5 HC3
            have HS5 := Lib.hid (HS.out.below HB5.out HS.out.lt)
            have HL5 := Lib.hid (HL.out.below HB5.out HL.out.lt)
            have HOY : Hid (StOwn ((((w5.setCell ⟨w.heap.size + 1, 0, none⟩ (.int .i64 (u))).setCell ⟨w.heap.size + 1, 1, none⟩ (.int .i64 (to : Int))).setCell ⟨w.heap.size + 1, 2, none⟩ (.bool (overI (u) to))).alloc (.cells #[.int .i64 (u), .int .i64 (to : Int), .bool (overI (u) to)] 71)) (w.heap.size + 4) v out) :=
              Lib.hid ((((HOWN.out.below HB5.out).far (p := ⟨w.heap.size + 1, 0, none⟩) (by simp) _).far (p := ⟨w.heap.size + 1, 1, none⟩) (by simp) _).far (p := ⟨w.heap.size + 1, 2, none⟩) (by simp) _ |>.below ((Below.refl _ _).alloc (Nat.le_refl _) _))
            have HNW : Hid (∀ (j : Nat) (x : Value), [Value.int .i64 (u), .int .i64 (to : Int), .bool (overI (u) to)][j]? = some x → ((((w5.setCell ⟨w.heap.size + 1, 0, none⟩ (.int .i64 (u))).setCell ⟨w.heap.size + 1, 1, none⟩ (.int .i64 (to : Int))).setCell ⟨w.heap.size + 1, 2, none⟩ (.bool (overI (u) to))).alloc (.cells #[.int .i64 (u), .int .i64 (to : Int), .bool (overI (u) to)] 71)).cell? ((⟨w5.heap.size, 0, none⟩ : Addr).add j) = some x) := Lib.hid (by
              have := heap_alloc_new (((w5.setCell ⟨w.heap.size + 1, 0, none⟩ (.int .i64 (u))).setCell ⟨w.heap.size + 1, 1, none⟩ (.int .i64 (to : Int))).setCell ⟨w.heap.size + 1, 2, none⟩ (.bool (overI (u) to))) (.cells #[.int .i64 (u), .int .i64 (to : Int), .bool (overI (u) to)] 71)
              have e : (((w5.setCell ⟨w.heap.size + 1, 0, none⟩ (.int .i64 (u))).setCell ⟨w.heap.size + 1, 1, none⟩ (.int .i64 (to : Int))).setCell ⟨w.heap.size + 1, 2, none⟩ (.bool (overI (u) to))).heap.size = w5.heap.size := by simp
              rw [e] at this
              exact World.news_of_block this)
            have q0 := HS5.out.cell 0
            have q1 := HS5.out.cell 1
            have q2 := HS5.out.cell 2
            have f0 := HS5.out.frozen 0
            have f1 := HS5.out.frozen 1
            have f2 := HS5.out.frozen 2
            have l0 : w5.cell? ⟨w.heap.size, 0, none⟩ = some v := HL5.out.cell 0
            have HOL : Hid (out.length ≤ 1000) := Lib.hid (by have := HLEN.out; omega)
            have HBW : Hid (w.heap.size + 4 ≤ w5.heap.size) := Lib.hid (by have := HB5.out.size; have := HBB.out.lt; omega)
            gi_wp2_with ((gi_at_builtin; refine wpListIn_append_own _ rfl _ _ 67 rfl (w.heap.size + 4) 71 i0 _ 3 24 Tryz.underlying67 hi hz0 hz1 hz2 rfl (by decide) v out.length (stCells out) rfl HOY.out ⟨w5.heap.size, 0, none⟩ 1 1 [.int .i64 (u), .int .i64 (to : Int), .bool (overI (u) to)] rfl rfl HNW.out (fun x hx => by simp at hx; rcases hx with rfl | rfl | rfl <;> rfl) (by have := HOL.out; unfold maxLen; omega) (by have := HOL.out; omega) (by have := HBW.out; simp; omega) ?_; intro v' w7 hown' hgrow _; obtain ⟨g, cap, rfl⟩ := ownsRow_succ hown'; have HF := Lib.hid (HFIN.out (u) w5 w7 g cap (by simp) HP.out HU.out HB5.out hgrow (by unfold StOwn; rw [stCells_snoc, List.length_append]; exact hown')); have lc := HF.out.1.cell 0; have lf := HF.out.1.frozen 0; clear hown' hgrow))
            rw [← HQ.out]
            exact HF.out.2
    · gi_wp2
      rw [← HQ.out]
      obtain ⟨k1, k2, k3⟩ := HLF.out w3 W0.heap.size HB3.out (.inl (by simp))
      exact ⟨k1, ⟨rfl, k2⟩, k3⟩
  case done =>
    rintro D ys W hD hS ⟨⟨u, t, ov, out, v, h1, h2, h3, h4, h5, h6, h7, h8⟩, hB1⟩ hK
    subst hS
    have e : statesL xa xb = out := by
      have := h1 []
      simpa [statesL, statesGo] using this
    have HEQ := Lib.hid e
    clear e
    obtain ⟨A', c', rfl, hst, hge⟩ := h6.states
    have lc := h5.cell 0
    have HST := Lib.hid hst
    have HGE := Lib.hid hge
    have HB1 := Lib.hid hB1
    have HDD := Lib.hid hD
    clear h1 h2 h3 h4 h5 h6 h7 h8 hst hge hB1 hD
    gi_wp2
    simp only [Exit.noGoto]
    refine ⟨by simp, .inl ⟨_, _, rfl, run_takeDeferred hK, ?_⟩⟩
    refine ⟨.slice A' out.length c', ?_, A', c', by rw [HEQ.out], by rw [HEQ.out]; exact HST.out.turn (grownBy_putObj' _ D (.deferred none)) (fun r e => by cases e; exact ⟨_, hK, rfl⟩), fun a ha => by have := HGE.out a ha; omega, HB1.out.trans (belowK_b (w := w) (Nat.le_refl _) W D _ _ (by have := HDD.out; have := HSZ.out; omega) hK rfl rfl)⟩
    simp [results, Tryz.f77, go_sem]
  case stop =>
    rintro D cc pre W hD ⟨rest, hrest⟩ ⟨⟨rfl, out, v, h1, h5, h6⟩, hB1⟩ hK
    have e : statesL xa xb = out := by unfold statesL; rw [← hrest, h1]
    have HEQ := Lib.hid e
    clear e
    obtain ⟨A', c', rfl, hst, hge⟩ := h6.states
    have lc := h5.cell 0
    have HST := Lib.hid hst
    have HGE := Lib.hid hge
    have HB1 := Lib.hid hB1
    have HDD := Lib.hid hD
    clear h1 h5 h6 hst hge hB1 hD hrest
    gi_wp2
    simp only [Exit.noGoto]
    refine ⟨by simp, .inl ⟨_, _, rfl, run_takeDeferred hK, ?_⟩⟩
    refine ⟨.slice A' out.length c', ?_, A', c', by rw [HEQ.out], by rw [HEQ.out]; exact HST.out.turn (grownBy_putObj' _ D (.deferred none)) (fun r e => by cases e; exact ⟨_, hK, rfl⟩), fun a ha => by have := HGE.out a ha; omega, HB1.out.trans (belowK_b (w := w) (Nat.le_refl _) W D _ _ (by have := HDD.out; have := HSZ.out; omega) hK rfl rfl)⟩
    simp [results, Tryz.f77, go_sem]

end Go.Proofs.YtbckfkopdojggaaGreatDoor

/- Players one after another: their errors, and names that come twice. -/
namespace Go.Proofs.YtbckfkopdojggaaGreatDoor
open Go.RowKit

instance bytesDec : DecidableEq ByteArray := fun a b => if h : a.data = b.data then isTrue (by cases a; cases b; cases h; rfl) else isFalse (fun e => h (by rw [e]))
instance bytesMem (x : ByteArray) : (l : List ByteArray) → Decidable (x ∈ l)
  | [] => isFalse (by simp)
  | y :: l => if h : x = y then isTrue (by simp [h]) else match bytesMem x l with
    | isTrue h2 => isTrue (List.mem_cons_of_mem _ h2)
    | isFalse h2 => isFalse (by simp [h, h2])

/-- The entries of a set of texts, in the order in which they came. -/
def setTx : Nat → List ByteArray → List MapEntry
  | _, [] => []
  | i, x :: l => ⟨.string x, .bool true, i⟩ :: setTx (i + 1) l
theorem setTx_snoc (i : Nat) (l : List ByteArray) (x : ByteArray) : setTx i (l ++ [x]) = setTx i l ++ [⟨.string x, .bool true, i + l.length⟩] := by
  induction l generalizing i with
  | nil => rfl
  | cons y l ih => simp only [List.cons_append, setTx, ih, List.length_cons]; rw [Nat.add_assoc, Nat.add_comm 1]
theorem find_setTx (x : ByteArray) (l : List ByteArray) (i j : Nat) :
    if x ∈ l then ∃ q, Instr.findNow .string (.string x) (setTx i l) j = some (some (q, .bool true)) else Instr.findNow .string (.string x) (setTx i l) j = some none := by
  induction l generalizing i j with
  | nil => simp [setTx, Instr.findNow]
  | cons y l ih =>
    by_cases h : x = y
    · subst h
      have hb : (x == x) = true := (MapKept.bytes_beq _ _).2 rfl
      simp [setTx, Instr.findNow, Instr.sameNow, hb]
    · have hb : (x == y) = false := by
        cases hq : (x == y) with
        | false => rfl
        | true => exact absurd ((MapKept.bytes_beq _ _).1 hq) h
      have := ih (i + 1) (j + 1)
      simp only [setTx, Instr.findNow, Instr.sameNow, hb, List.mem_cons, h, false_or]
      exact this
theorem look_setTx (w : World) (b n : Nat) (l : List ByteArray) (x : ByteArray) (hb : w.heap[b]? = some (.map (setTx 0 l).toArray n)) :
    (Instr.lookup 174 (.map (some b)) (.string x) false).run Tryz.prog w = .ok (.bool (decide (x ∈ l))) w := by
  have h := find_setTx x l 0 0
  by_cases hx : x ∈ l
  · rw [if_pos hx] at h
    obtain ⟨q, hq⟩ := h
    rw [decide_eq_true hx]
    exact run_get_yes (i := q) w Tryz.underlying174 Tryz.underlying9 hb _ trivial hq
  · rw [if_neg hx] at h
    rw [decide_eq_false hx]
    exact run_get_no w Tryz.underlying174 Tryz.underlying9 (zeroBool w) hb _ trivial h
theorem put_setTx (w : World) (b n : Nat) (l : List ByteArray) (x : ByteArray) (hx : x ∉ l) (hn : l.length = n) (hb : w.heap[b]? = some (.map (setTx 0 l).toArray n)) :
    (Instr.mapUpdate 174 (.map (some b)) (.string x) (.bool true)).run Tryz.prog w = .ok () (putObj w b (.map (setTx 0 (l ++ [x])).toArray (n + 1))) := by
  have h := find_setTx x l 0 0
  rw [if_neg hx] at h
  have := run_put_at (P := Tryz.prog) w Tryz.underlying174 Tryz.underlying9 hb (.string x) (.bool true) trivial h
  rw [setTx_snoc, Nat.zero_add, hn]
  simpa using this

/-- A player: a name, entries, handicap strokes. -/
structure Pl where
  nm : ByteArray
  l : List (Int × ByteArray)
  h : Int
instance : Inhabited Pl := ⟨⟨ByteArray.empty, [], 0⟩⟩
def plD : Pl := ⟨ByteArray.empty, [], 0⟩
def plI (hs : List (Int × Int)) (p : Pl) : Int := playerI hs p.nm p.l p.h
def playersGo (hs : List (Int × Int)) : List ByteArray → List Pl → Int
  | _, [] => 0
  | S, p :: ps => if firstI [plI hs p, unlessI (!decide (p.nm ∈ S)) 9] = 0 then playersGo hs (S ++ [p.nm]) ps else firstI [plI hs p, unlessI (!decide (p.nm ∈ S)) 9]
theorem playersGo_drop (hs : List (Int × Int)) (ps : List Pl) (k : Nat) (h : k < ps.length) (S : List ByteArray) :
    playersGo hs S (ps.drop k) = if firstI [plI hs (ps.getD k plD), unlessI (!decide ((ps.getD k plD).nm ∈ S)) 9] = 0 then playersGo hs (S ++ [(ps.getD k plD).nm]) (ps.drop (k + 1)) else firstI [plI hs (ps.getD k plD), unlessI (!decide ((ps.getD k plD).nm ∈ S)) 9] := by
  rw [List.drop_eq_getElem_cons h]
  have e : ps.getD k plD = ps[k] := by simp [List.getD, List.getElem?_eq_getElem h]
  rw [e, playersGo]

/-- A slice's address under which players lie. -/
def PlayersR (w : World) (A : Option Addr) (ps : List Pl) : Prop := ∀ j, j < ps.length → ∃ a B d, A = some a ∧ w.cell? (a.add (j * 3)) = some (.string (ps.getD j plD).nm) ∧
  w.cell? ⟨(a.add (j * 3)).block, (a.add (j * 3)).off + 1, none⟩ = some (.slice B (ps.getD j plD).l.length d) ∧ w.cell? ⟨(a.add (j * 3)).block, (a.add (j * 3)).off + 2, none⟩ = some (.int .i64 (ps.getD j plD).h) ∧
  (a.add (j * 3)).block < w.heap.size ∧ EntriesR w B (ps.getD j plD).l
theorem PlayersR.keep {w w' : World} {A : Option Addr} {ps : List Pl} (h : PlayersR w A ps) (hb : Below w.heap.size w w') : PlayersR w' A ps := fun j hj => by
  obtain ⟨a, B, d, rfl, h0, h1, h2, h3, h4⟩ := h j hj
  exact ⟨a, B, d, rfl, (hb.cell h3).trans h0, (hb.cell (p := ⟨_, _, none⟩) h3).trans h1, (hb.cell (p := ⟨_, _, none⟩) h3).trans h2, Nat.lt_of_lt_of_le h3 hb.size, h4.keep hb⟩

/-- What lies in memory in a round: the player's box, the names that came, all below. -/
def HeldP (g gm n : Nat) (es : List ByteArray) (p : Pl) (B : Option Addr) (d : Nat) (w W : World) : Prop :=
  BlkV W g 55 #[.string p.nm, .slice B p.l.length d, .int .i64 p.h] ∧ W.heap[gm]? = some (.map (setTx 0 es).toArray n) ∧ Below w.heap.size w W
theorem HeldP.below {g gm n : Nat} {es : List ByteArray} {p : Pl} {B : Option Addr} {d : Nat} {w W W' : World} (h : HeldP g gm n es p B d w W) (hb : Below W.heap.size W W') : HeldP g gm n es p B d w W' :=
  ⟨h.1.below hb h.1.lt, (hb.block gm (Array.getElem?_eq_some_iff.1 h.2.1).1).trans h.2.1, h.2.2.trans (hb.mono h.2.2.size)⟩
theorem HeldP.s4 {g gm n : Nat} {es : List ByteArray} {p : Pl} {B : Option Addr} {d : Nat} {w W : World} (h : HeldP g gm n es p B d w W) :
    W.cell? ⟨g, 0, none⟩ = some (.string p.nm) ∧ W.cell? ⟨g, 1, none⟩ = some (.slice B p.l.length d) ∧ W.cell? ⟨g, 2, none⟩ = some (.int .i64 p.h) ∧
    (Instr.lookup 174 (.map (some gm)) (.string p.nm) false).run Tryz.prog W = .ok (.bool (decide (p.nm ∈ es))) W ∧ Hid (HeldP g gm n es p B d w W) :=
  ⟨h.1.cell 0, h.1.cell 1, h.1.cell 2, look_setTx _ _ _ _ _ h.2.1, Lib.hid h⟩
theorem heldP5 {C1 C2 C3 C4 : Prop} {g gm n : Nat} {es : List ByteArray} {p : Pl} {B : Option Addr} {d : Nat} {w W : World} (h : C1 ∧ C2 ∧ C3 ∧ C4 ∧ Hid (HeldP g gm n es p B d w W)) : HeldP g gm n es p B d w W := h.2.2.2.2.out
theorem HeldP.s5 {g gm n : Nat} {es : List ByteArray} {p : Pl} {B : Option Addr} {d : Nat} {w W : World} (h : HeldP g gm n es p B d w W) (hx : Hid (p.nm ∉ es)) (hn : Hid (es.length = n)) :
    W.cell? ⟨g, 0, none⟩ = some (.string p.nm) ∧ W.cell? ⟨g, 1, none⟩ = some (.slice B p.l.length d) ∧ W.cell? ⟨g, 2, none⟩ = some (.int .i64 p.h) ∧
    (Instr.lookup 174 (.map (some gm)) (.string p.nm) false).run Tryz.prog W = .ok (.bool (decide (p.nm ∈ es))) W ∧
    (Instr.mapUpdate 174 (.map (some gm)) (.string p.nm) (.bool true)).run Tryz.prog W = .ok () (putObj W gm (.map (setTx 0 (es ++ [p.nm])).toArray (n + 1))) ∧ Hid (HeldP g gm n es p B d w W) :=
  ⟨h.1.cell 0, h.1.cell 1, h.1.cell 2, look_setTx _ _ _ _ _ h.2.1, put_setTx _ _ _ _ _ hx.out hn.out h.2.1, Lib.hid h⟩
theorem heldP6 {C1 C2 C3 C4 C5 : Prop} {g gm n : Nat} {es : List ByteArray} {p : Pl} {B : Option Addr} {d : Nat} {w W : World} (h : C1 ∧ C2 ∧ C3 ∧ C4 ∧ C5 ∧ Hid (HeldP g gm n es p B d w W)) : HeldP g gm n es p B d w W := h.2.2.2.2.2.out

set_option maxRecDepth 100000 in
set_option maxHeartbeats 4000000 in
theorem checkPlayers_any (A H : Option Addr) (c ch : Nat) (hs : List (Int × Int)) (ps : List Pl) (w : World) (hr : HolesR w H hs) (hbl : ∀ a, H = some a → a.block < w.heap.size)
    (hl : hs.length ≤ 4611686018427387904) (hp : PlayersR w A ps) (hl1 : ps.length ≤ 4611686018427387904) (hl2 : ∀ p ∈ ps, p.l.length ≤ 4611686018427387904) :
    Calls Tryz.prog 52 #[.slice H hs.length ch, .slice A ps.length c] w fun e w' => e = .returned (.int .i64 (playersGo hs [] ps)) ∧ Below w.heap.size w w' := by
  have HP := Lib.hid hp
  have HL2 := Lib.hid hl2
  have HCP := Lib.hid (fun W (hb : Below w.heap.size w W) B d nm l h (he : EntriesR W B l) hl2 => fmCheckPlayer_any H B ch d hs nm l h W (hr.keep hbl hb) (fun a ha => Nat.lt_of_lt_of_le (hbl a ha) hb.size) hl he hl2)
  have hmm := @run_makeMap Tryz.prog
  clear hr hbl hp hl2
  go_enter Tryz.func52, Tryz.ntmps52
  go_wp2
  go_loopw [13] (fun i w' => ∃ k : Nat, k ≤ ps.length ∧ i = .int .i64 k ∧ w'.heap[w.heap.size]? = some (.map (setTx 0 ((ps.take k).map (·.nm))).toArray k) ∧ Below w.heap.size w w' ∧ playersGo hs ((ps.take k).map (·.nm)) (ps.drop k) = playersGo hs [] ps) (fun i _ => ps.length - (intOf i).toNat)
  case atStart => exact ⟨0, Nat.zero_le _, rfl, (MapKept.heap_alloc w _).1, (Below.refl _ _).alloc (Nat.le_refl _) _, rfl⟩
  case round =>
    obtain ⟨k, hk, rfl, hm, hb, hd⟩ := hrel
    have HM := Lib.hid hm
    have HB := Lib.hid hb
    have HD := Lib.hid hd
    clear hm hb hd
    by_cases hlt : k < ps.length
    · have HDR := Lib.hid (playersGo_drop hs ps k hlt)
      have HTK : Hid ((ps.take (k + 1)).map (·.nm) = (ps.take k).map (·.nm) ++ [(ps.getD k plD).nm]) := Lib.hid (by
        rw [List.take_succ_eq_append_getElem hlt, List.map_append]; simp [List.getD, List.getElem?_eq_getElem hlt])
      have HLK : Hid (((ps.take k).map (·.nm)).length = k) := Lib.hid (by simp; omega)
      have HPL : Hid ((ps.getD k plD).l.length ≤ 4611686018427387904) := Lib.hid (by
        have := HL2.out _ (List.getElem_mem hlt); simpa [List.getD, List.getElem?_eq_getElem hlt] using this)
      obtain ⟨a, B, d, rfl, p0, p1, p2, p3, p4⟩ := HP.out k hlt
      have q0 := (HB.out.cell p3).trans p0
      have q1 := (HB.out.cell (p := ⟨_, _, none⟩) p3).trans p1
      have q2 := (HB.out.cell (p := ⟨_, _, none⟩) p3).trans p2
      have HE := Lib.hid p4
      clear p0 p1 p2 p3 p4
      generalize ps.getD k plD = p at q0 q1 q2 HE HPL HTK HDR
      generalize (ps.take k).map (·.nm) = S at HM HD HTK HDR HLK
      have HQ := Lib.hid (HDR.out S)
      have HS0 : Hid (HeldP wr.heap.size w.heap.size k S p B d w (wr.alloc (.cells #[.string p.nm, .slice B p.l.length d, .int .i64 p.h] 55)).drew) :=
        Lib.hid ⟨(BlkV.new wr _ _).drew, ((Below.heap_alloc wr _ _ (Array.getElem?_eq_some_iff.1 HM.out).1).trans HM.out), (HB.out.alloc HB.out.size _).drew⟩
      have HEE := Lib.hid (fun W (hb : Below w.heap.size w W) => HE.out.keep hb)
      by_cases he : firstI [playerI hs p.nm p.l p.h, unlessI (!decide (p.nm ∈ S)) 9] = 0
      · have hz : (firstI [playerI hs p.nm p.l p.h, unlessI (!decide (p.nm ∈ S)) 9] != 0) = false := by rw [he]; rfl
        have HNI : Hid (p.nm ∉ S) := Lib.hid (fun hm => by
          have := firstI_zero _ he (unlessI (!decide (p.nm ∈ S)) 9) (by simp)
          rw [decide_eq_true hm] at this
          simp [unlessI] at this)
        have HZ : Hid (firstI [plI hs p, unlessI (!decide (p.nm ∈ S)) 9] = 0) := Lib.hid he
        clear he
        go_wp2
        go_region_held3 (fun W => W.cell? ⟨wr.heap.size, 0, none⟩ = some (.string p.nm) ∧ W.cell? ⟨wr.heap.size, 1, none⟩ = some (.slice B p.l.length d) ∧ W.cell? ⟨wr.heap.size, 2, none⟩ = some (.int .i64 p.h) ∧
          (Instr.lookup 174 (.map (some w.heap.size)) (.string p.nm) false).run Tryz.prog W = .ok (.bool (decide (p.nm ∈ S))) W ∧ (Instr.mapUpdate 174 (.map (some w.heap.size)) (.string p.nm) (.bool true)).run Tryz.prog W = .ok () (putObj W w.heap.size (.map (setTx 0 (S ++ [p.nm])).toArray (k + 1))) ∧ Hid (HeldP wr.heap.size w.heap.size k S p B d w W))
          ((first | with_reducible assumption | exact (HeldP.below (heldP6 (by with_reducible assumption)) hb1).s5 HNI HLK | exact (HeldP.below (heldP6 (by with_reducible assumption)) ((Below.refl _ _).alloc (Nat.le_refl _) _)).s5 HNI HLK | exact (HeldP.below HS0.out ((Below.refl _ _).alloc (Nat.le_refl _) _)).s5 HNI HLK | exact HS0.out.s5 HNI HLK))
          (first
            | (go_at_call 106; (refine (HCP.out _ (heldP6 (by assumption)).2.2 _ _ _ _ _ (HEE.out _ (heldP6 (by assumption)).2.2) HPL.out).mono ?_); rintro e w1 ⟨rfl, hb1⟩)
            | (go_at_call 51; (with_reducible refine (fmUnless_any _ _ _).mono ?_); rintro e w1 ⟨rfl, rfl⟩)
            | (go_at_call 49; refine (fmFirst_any _ _ [_, _] _ (by simp) (Ints.two _ _ _ _ _ rfl)).mono ?_; rintro e w1 ⟨rfl, rfl⟩))
        all_goals
          go_split_ands
          go_wp2
          go_roundw
          case rel =>
            refine ⟨k + 1, by omega, by go_num, ?_, ?_, ?_⟩
            · rw [HTK.out]; exact putObj_at (HeldP.below (by first | exact Hid.out (by assumption) | exact HS0.out) (Below.refl _ _)).2.1
            · exact (Hid.out (by assumption) : HeldP _ _ _ _ _ _ _ _ _).2.2.trans (putObj_below _ _ _ _ (Nat.le_refl _))
            · rw [HTK.out, ← HD.out, HQ.out, if_pos HZ.out]
          case measure => simp [intOf]; omega
      · have hz : (firstI [playerI hs p.nm p.l p.h, unlessI (!decide (p.nm ∈ S)) 9] != 0) = true := by simpa using he
        have HZ : Hid (¬ firstI [plI hs p, unlessI (!decide (p.nm ∈ S)) 9] = 0) := Lib.hid he
        clear he
        go_wp2
        go_region_held3 (fun W => W.cell? ⟨wr.heap.size, 0, none⟩ = some (.string p.nm) ∧ W.cell? ⟨wr.heap.size, 1, none⟩ = some (.slice B p.l.length d) ∧ W.cell? ⟨wr.heap.size, 2, none⟩ = some (.int .i64 p.h) ∧
          (Instr.lookup 174 (.map (some w.heap.size)) (.string p.nm) false).run Tryz.prog W = .ok (.bool (decide (p.nm ∈ S))) W ∧ Hid (HeldP wr.heap.size w.heap.size k S p B d w W))
          ((first | with_reducible assumption | exact (HeldP.below (heldP5 (by with_reducible assumption)) hb1).s4 | exact (HeldP.below (heldP5 (by with_reducible assumption)) ((Below.refl _ _).alloc (Nat.le_refl _) _)).s4 | exact (HeldP.below HS0.out ((Below.refl _ _).alloc (Nat.le_refl _) _)).s4 | exact HS0.out.s4))
          (first
            | (go_at_call 106; (refine (HCP.out _ (heldP5 (by assumption)).2.2 _ _ _ _ _ (HEE.out _ (heldP5 (by assumption)).2.2) HPL.out).mono ?_); rintro e w1 ⟨rfl, hb1⟩)
            | (go_at_call 51; (with_reducible refine (fmUnless_any _ _ _).mono ?_); rintro e w1 ⟨rfl, rfl⟩)
            | (go_at_call 49; refine (fmFirst_any _ _ [_, _] _ (by simp) (Ints.two _ _ _ _ _ rfl)).mono ?_; rintro e w1 ⟨rfl, rfl⟩))
        all_goals
          go_wp2
          go_ret
          exact ⟨by rw [← HD.out, HQ.out, if_neg HZ.out]; rfl, (heldP5 (by assumption)).2.2⟩
    · have hfin : playersGo hs [] ps = 0 := by rw [← HD.out, List.drop_eq_nil_of_le (by omega)]; rfl
      have HF := Lib.hid hfin
      clear hfin
      go_wp2
      go_ret
      exact ⟨by rw [HF.out]; rfl, HB.out⟩

end Go.Proofs.YtbckfkopdojggaaGreatDoor

/- Match. -/
namespace Go.Proofs.YtbckfkopdojggaaGreatDoor
open Go.RowKit

def plV (p : Pl) (B : Option Addr) (d : Nat) : Value := .agg #[.string p.nm, .slice B p.l.length d, .int .i64 p.h]
theorem PlayersR.two {w : World} {g T : Nat} {a b : Pl} {A B : Option Addr} {c d : Nat} (h : BlkV w g T #[.string a.nm, .slice A a.l.length c, .int .i64 a.h, .string b.nm, .slice B b.l.length d, .int .i64 b.h]) (ha : EntriesR w A a.l) (hb : EntriesR w B b.l) :
    PlayersR w (some ⟨g, 0, none⟩) [a, b] := fun j hj => by
  match j, hj with
  | 0, _ => exact ⟨_, A, c, rfl, h.cell 0, h.cell 1, h.cell 2, h.lt, ha⟩
  | 1, _ => exact ⟨_, B, d, rfl, h.cell 3, h.cell 4, h.cell 5, h.lt, hb⟩
theorem playersGo_two {hs : List (Int × Int)} {a b : Pl} (h : playersGo hs [] [a, b] = 0) : plI hs a = 0 ∧ plI hs b = 0 ∧ b.nm ≠ a.nm := by
  unfold playersGo at h
  by_cases h1 : firstI [plI hs a, unlessI (!decide (a.nm ∈ ([] : List ByteArray))) 9] = 0
  · rw [if_pos h1] at h
    unfold playersGo at h
    by_cases h2 : firstI [plI hs b, unlessI (!decide (b.nm ∈ ([] ++ [a.nm] : List ByteArray))) 9] = 0
    · refine ⟨firstI_zero _ h1 _ (by simp), firstI_zero _ h2 _ (by simp), fun e => ?_⟩
      have := firstI_zero _ h2 (unlessI (!decide (b.nm ∈ ([] ++ [a.nm] : List ByteArray))) 9) (by simp)
      rw [decide_eq_true (by simp [e])] at this
      simp [unlessI] at this
    · rw [if_neg h2] at h; exact absurd h h2
  · rw [if_neg h1] at h; exact absurd h h1

/-- States beside no error. -/
def MatchOut (l : List St) (w : World) (e : Ending) (w' : World) : Prop :=
  ∃ A c, e = .returned (.tuple #[.slice A l.length c, .int .i64 0]) ∧ StatesR w' A l ∧ (∀ a, A = some a → w.heap.size ≤ a.block) ∧ Below w.heap.size w w'

/-- Two players in their boxes, all below. -/
def HeldAB (g : Nat) (a b : Pl) (A B : Option Addr) (c d : Nat) (w W : World) : Prop :=
  BlkV W g 55 #[.string a.nm, .slice A a.l.length c, .int .i64 a.h] ∧ BlkV W (g + 1) 55 #[.string b.nm, .slice B b.l.length d, .int .i64 b.h] ∧ Below w.heap.size w W
theorem HeldAB.below {g : Nat} {a b : Pl} {A B : Option Addr} {c d : Nat} {w W W' : World} (h : HeldAB g a b A B c d w W) (hb : Below W.heap.size W W') : HeldAB g a b A B c d w W' :=
  ⟨h.1.below hb h.1.lt, h.2.1.below hb h.2.1.lt, h.2.2.trans (hb.mono h.2.2.size)⟩
theorem HeldAB.s6 {g : Nat} {a b : Pl} {A B : Option Addr} {c d : Nat} {w W : World} (h : HeldAB g a b A B c d w W) :
    W.cell? ⟨g, 0, none⟩ = some (.string a.nm) ∧ W.cell? ⟨g, 1, none⟩ = some (.slice A a.l.length c) ∧ W.cell? ⟨g, 2, none⟩ = some (.int .i64 a.h) ∧
    W.cell? ⟨g + 1, 0, none⟩ = some (.string b.nm) ∧ W.cell? ⟨g + 1, 1, none⟩ = some (.slice B b.l.length d) ∧ W.cell? ⟨g + 1, 2, none⟩ = some (.int .i64 b.h) ∧ Hid (HeldAB g a b A B c d w W) :=
  ⟨h.1.cell 0, h.1.cell 1, h.1.cell 2, h.2.1.cell 0, h.2.1.cell 1, h.2.1.cell 2, Lib.hid h⟩
theorem heldAB7 {C1 C2 C3 C4 C5 C6 : Prop} {g : Nat} {a b : Pl} {A B : Option Addr} {c d : Nat} {w W : World} (h : C1 ∧ C2 ∧ C3 ∧ C4 ∧ C5 ∧ C6 ∧ Hid (HeldAB g a b A B c d w W)) : HeldAB g a b A B c d w W := h.2.2.2.2.2.2.out

set_option maxRecDepth 100000 in
set_option maxHeartbeats 4000000 in
theorem match_yes (H A B : Option Addr) (ch c d : Nat) (hs : List (Int × Int)) (a b : Pl) (w : World) (hr : HolesR w H hs) (hbl : ∀ x, H = some x → x.block < w.heap.size)
    (ha : EntriesR w A a.l) (hb : EntriesR w B b.l) (hn : playersGo hs [] [a, b] = 0) :
    Calls Tryz.prog 27 #[.slice H hs.length ch, plV a A c, plV b B d] w (MatchOut (statesL (netsOf hs a.h a.l) (netsOf hs b.h b.l)) w) := by
  obtain ⟨hpa, hpb, _⟩ := playersGo_two hn
  have FA := fit_of hpa
  have FB := fit_of hpb
  have HCP := Lib.hid (fun W (hw : Below w.heap.size w W) X cx (hp : PlayersR W X [a, b]) => checkPlayers_any X H cx ch hs [a, b] W (hr.keep hbl hw) (fun x hx => Nat.lt_of_lt_of_le (hbl x hx) hw.size) (by have := FA.most; omega) hp (by simp) (fun p hp => by
    rcases List.mem_cons.1 hp with rfl | hp
    · have := FA.most; have := FA.len; omega
    · obtain rfl := List.mem_singleton.1 hp
      have := FB.most; have := FB.len; omega))
  rw [hn] at HCP
  have HRA := Lib.hid (fun W (hw : Below w.heap.size w W) => roundOf_any H A ch c hs a.nm a.l a.h W (hr.keep hbl hw) (fun x hx => Nat.lt_of_lt_of_le (hbl x hx) hw.size) (ha.keep hw) FA.pos (by have := FA.most; omega) FA.len FA.strokes FA.lo FA.hi)
  have HRB := Lib.hid (fun W (hw : Below w.heap.size w W) => roundOf_any H B ch d hs b.nm b.l b.h W (hr.keep hbl hw) (fun x hx => Nat.lt_of_lt_of_le (hbl x hx) hw.size) (hb.keep hw) FB.pos (by have := FB.most; omega) FB.len FB.strokes FB.lo FB.hi)
  have HL1 := Lib.hid FA.netsLen
  have HL2 := Lib.hid FB.netsLen
  have HM := Lib.hid FA.most
  have HA := Lib.hid ha
  have HB := Lib.hid hb
  clear hr hbl ha hb hn hpa hpb FA FB
  unfold plV
  generalize netsOf hs a.h a.l = na at HRA HL1 ⊢
  generalize netsOf hs b.h b.l = nb at HRB HL2 ⊢
  go_enter Tryz.func27, Tryz.ntmps27
  go_wp2_with fail
  generalize hW0 : ((w.alloc (.cells #[.string a.nm, .slice A a.l.length c, .int .i64 a.h] 55)).alloc (.cells #[.string b.nm, .slice B b.l.length d, .int .i64 b.h] 55)).alloc (.cells #[.string a.nm, .slice A a.l.length c, .int .i64 a.h, .string b.nm, .slice B b.l.length d, .int .i64 b.h] 55) = W0
  obtain ⟨a1, a2, a3, a4, a5⟩ := three_allocs w _ _ _ _ _ _ hW0
  have HAB0 : Hid (HeldAB w.heap.size a b A B c d w W0) := Lib.hid ⟨a1, a2, a4⟩
  have HX0 := Lib.hid (PlayersR.two a3 (HA.out.keep a4) (HB.out.keep a4))
  clear hW0 a1 a2 a3 a4 a5
  refine (HCP.out W0 HAB0.out.2.2 _ _ HX0.out).mono ?_
  rintro e w1 ⟨rfl, hb1⟩
  have HAB1 := Lib.hid (HAB0.out.below hb1)
  clear hb1 HCP HX0
  go_wp2
  have hfld : ∀ (x y : Value) (W : World), (Instr.field 135 (.agg #[x, y]) 1).run Tryz.prog W = .ok y W := fun _ _ _ => by kernel_rfl
  have HS1 : Hid (HeldAB w.heap.size a b A B c d w w1.drew) := Lib.hid (HAB1.out.below (Below.refl _ _).drew)
  go_region_held3 (fun W => W.cell? ⟨w.heap.size, 0, none⟩ = some (.string a.nm) ∧ W.cell? ⟨w.heap.size, 1, none⟩ = some (.slice A a.l.length c) ∧ W.cell? ⟨w.heap.size, 2, none⟩ = some (.int .i64 a.h) ∧
    W.cell? ⟨w.heap.size + 1, 0, none⟩ = some (.string b.nm) ∧ W.cell? ⟨w.heap.size + 1, 1, none⟩ = some (.slice B b.l.length d) ∧ W.cell? ⟨w.heap.size + 1, 2, none⟩ = some (.int .i64 b.h) ∧ Hid (HeldAB w.heap.size a b A B c d w W))
    ((first | with_reducible assumption | exact (HeldAB.below (heldAB7 (by with_reducible assumption)) hb4.out).s6 | exact (HeldAB.below (heldAB7 (by with_reducible assumption)) hb3.out).s6 | exact (HeldAB.below (heldAB7 (by with_reducible assumption)) hb2.out).s6 | exact HS1.out.s6))
    (first
      | (go_at_call 78; have _q := HEA.out; refine (HRB.out _ (heldAB7 (by assumption)).2.2).mono ?_; clear _q; rintro e w3 ⟨B', d', rfl, heb, hgb, hb3⟩; have HEB := Lib.hid heb; have HEA2 := Lib.hid (HEA.out.keep hb3); have hb3 := Lib.hid hb3; clear heb hgb)
      | (go_at_call 78; refine (HRA.out _ (heldAB7 (by assumption)).2.2).mono ?_; rintro e w2 ⟨A', c', rfl, hea, hga, hb2⟩; have HEA := Lib.hid hea; have hb2 := Lib.hid hb2; clear hea hga)
      | (go_at_call 77; refine (states_any A' B' c' d' na nb _ (by have := HL1.out; have := HM.out; omega) (by rw [HL1.out, HL2.out]) HEA2.out HEB.out).mono ?_; rintro e w4 ⟨A4, c4, rfl, hst, hge, hb4⟩; have HST := Lib.hid hst; have HGE : Hid (∀ x, A4 = some x → w.heap.size ≤ x.block) := Lib.hid (fun x hx => Nat.le_trans (heldAB7 (by assumption) : HeldAB w.heap.size a b A B c d w w3).2.2.size (hge x hx)); have hb4 := Lib.hid hb4; clear hst hge))
  all_goals go_wp2
  all_goals go_ret2
  all_goals exact ⟨A4, c4, rfl, HST.out, HGE.out, (heldAB7 (by assumption)).2.2⟩

set_option maxRecDepth 100000 in
set_option maxHeartbeats 1000000 in
theorem match_no (H A B : Option Addr) (ch c d : Nat) (hs : List (Int × Int)) (a b : Pl) (w : World) (hr : HolesR w H hs) (hbl : ∀ x, H = some x → x.block < w.heap.size)
    (hl : hs.length ≤ 4611686018427387904) (ha : EntriesR w A a.l) (hb : EntriesR w B b.l) (la : a.l.length ≤ 4611686018427387904) (lb : b.l.length ≤ 4611686018427387904) (hn : playersGo hs [] [a, b] ≠ 0) :
    Calls Tryz.prog 27 #[.slice H hs.length ch, plV a A c, plV b B d] w fun e w' => e = .returned (.tuple #[.slice none 0 0, .int .i64 (playersGo hs [] [a, b])]) ∧ Below w.heap.size w w' := by
  have HCP := Lib.hid (fun W (hw : Below w.heap.size w W) X cx (hp : PlayersR W X [a, b]) => checkPlayers_any X H cx ch hs [a, b] W (hr.keep hbl hw) (fun x hx => Nat.lt_of_lt_of_le (hbl x hx) hw.size) hl hp (by simp) (fun p hp => by
    rcases List.mem_cons.1 hp with rfl | hp
    · exact la
    · obtain rfl := List.mem_singleton.1 hp
      exact lb))
  have hnb : (playersGo hs [] [a, b] != 0) = true := by simpa using hn
  have HA := Lib.hid ha
  have HB := Lib.hid hb
  clear hr hbl ha hb hn
  unfold plV
  generalize playersGo hs [] [a, b] = q at HCP hnb
  go_enter Tryz.func27, Tryz.ntmps27
  go_wp2_with fail
  generalize hW0 : ((w.alloc (.cells #[.string a.nm, .slice A a.l.length c, .int .i64 a.h] 55)).alloc (.cells #[.string b.nm, .slice B b.l.length d, .int .i64 b.h] 55)).alloc (.cells #[.string a.nm, .slice A a.l.length c, .int .i64 a.h, .string b.nm, .slice B b.l.length d, .int .i64 b.h] 55) = W0
  obtain ⟨a1, a2, a3, a4, a5⟩ := three_allocs w _ _ _ _ _ _ hW0
  have HAB0 := Lib.hid a4
  have HX0 := Lib.hid (PlayersR.two a3 (HA.out.keep a4) (HB.out.keep a4))
  clear hW0 a1 a2 a3 a4 a5
  refine (HCP.out W0 HAB0.out _ _ HX0.out).mono ?_
  rintro e w1 ⟨rfl, hb1⟩
  have HAB1 := Lib.hid (HAB0.out.trans (hb1.mono HAB0.out.size))
  clear hb1 HCP HX0
  go_wp2
  go_ret2
  exact ⟨rfl, HAB1.out⟩

end Go.Proofs.YtbckfkopdojggaaGreatDoor
