/- Merged: ParR ParS. -/
import Derived.Test.YtbckfkopdojggaaGreatDoorParA
import Derived.OrdersHeld
import Derived.Deep.RegionHeld3
import Derived.Test.YtbckfkopdojggaaGreatDoorMgF
import Derived.Test.YtbckfkopdojggaaGreatDoorMgD
import Derived.Deep.DeepCutAuto
import Derived.Deep.CutBlock
import Derived.BigQuiet
import Derived.Deep.QuietTactic
import Derived.Outline
/- TopLinksPartners: a region that lays three boxes and fills them, in whatever order. -/
set_option linter.unusedVariables false
set_option linter.unusedSimpArgs false
namespace Go.Proofs.YtbckfkopdojggaaGreatDoor
open Go Go.RowKit

attribute [local go_sem] Oper.semAt_some

def findR3 : Code → Nat → Option (Array Oper)
  | .region id ops _, n => if id = n then some ops else none
  | .seq a b, n => match findR3 a n with | some r => some r | none => findR3 b n
  | _, _ => none
noncomputable def opsP3 : Array Oper := ((Tryz.f6.body.bind fun c => tailP 3 c).bind fun c => findR3 c 3).getD #[]
noncomputable def opP3 (i : Nat) : Oper := (opsP3[i]?).getD default

def puo (t : Nat) (o : Option (Nat × Bool)) (a : Act) : Act := match o with | none => a | some v => a.put (some t) (.pointer (some ⟨v.1, 0, none⟩))
theorem put_puo {s t : Nat} (h : s ≠ t) (o : Option (Nat × Bool)) (v : Value) (a : Act) : (puo s o a).put (some t) v = puo s o (a.put (some t) v) := by
  cases o with
  | none => rfl
  | some u => simp only [puo, Act.put]; rw [Array.setIfInBounds_comm _ _ h]
theorem eval_puo {s t : Nat} (h : s ≠ t) (o : Option (Nat × Bool)) (a : Act) : (puo s o a).eval (.tmp t) = a.eval (.tmp t) := by
  cases o with
  | none => rfl
  | some u => simp [puo, Act.put, Act.eval, Array.getD_eq_getD_getElem?, Array.getElem?_setIfInBounds_ne h]
theorem eval_puo_self {t : Nat} (b : Nat) (f : Bool) {a : Act} (h : t < a.tmps.size) : (puo t (some (b, f)) a).eval (.tmp t) = .pointer (some ⟨b, 0, none⟩) := by
  simp [puo, Act.put, Act.eval, Array.getD_eq_getD_getElem?, Array.getElem?_setIfInBounds_self, h]
theorem size_puo (s : Nat) (o : Option (Nat × Bool)) (a : Act) : (puo s o a).tmps.size = a.tmps.size := by
  cases o <;> simp [puo, Act.put]
theorem ev_ne {s t : Nat} (h : s ≠ t) (v : Value) (a : Act) : (a.put (some s) v).eval (.tmp t) = a.eval (.tmp t) := by
  simp [Act.put, Act.eval, Array.getD_eq_getD_getElem?, Array.getElem?_setIfInBounds_ne h]
theorem ev_self {t : Nat} {v : Value} {a : Act} (h : t < a.tmps.size) : (a.put (some t) v).eval (.tmp t) = v := by
  simp [Act.put, Act.eval, Array.getD_eq_getD_getElem?, Array.getElem?_setIfInBounds_self, h]
theorem sz_put (s : Nat) (v : Value) (a : Act) : (a.put (some s) v).tmps.size = a.tmps.size := by simp [Act.put]

/-- Three boxes' slots. -/
def C3 (a : Act) (o1 o2 o3 : Option (Nat × Bool)) : Act := puo 3 o1 (puo 4 o2 (puo 5 o3 a))
theorem c3_1 (a : Act) (n : Nat) (o2 o3 : Option (Nat × Bool)) : (C3 a none o2 o3).put (some 3) (.pointer (some ⟨n, 0, none⟩)) = C3 a (some (n, false)) o2 o3 := rfl
theorem c3_2 (a : Act) (n : Nat) (o1 o3 : Option (Nat × Bool)) : (C3 a o1 none o3).put (some 4) (.pointer (some ⟨n, 0, none⟩)) = C3 a o1 (some (n, false)) o3 := by
  unfold C3; rw [put_puo (by decide)]; rfl
theorem c3_3 (a : Act) (n : Nat) (o1 o2 : Option (Nat × Bool)) : (C3 a o1 o2 none).put (some 5) (.pointer (some ⟨n, 0, none⟩)) = C3 a o1 o2 (some (n, false)) := by
  unfold C3; rw [put_puo (by decide), put_puo (by decide)]; rfl
theorem c3_eval {t : Nat} (h1 : 3 ≠ t) (h2 : 4 ≠ t) (h3 : 5 ≠ t) (a : Act) (o1 o2 o3 : Option (Nat × Bool)) : (C3 a o1 o2 o3).eval (.tmp t) = a.eval (.tmp t) := by
  unfold C3; rw [eval_puo h1, eval_puo h2, eval_puo h3]
theorem c3_e1 {a : Act} (h : 5 < a.tmps.size) (n : Nat) (f : Bool) (o2 o3 : Option (Nat × Bool)) : (C3 a (some (n, f)) o2 o3).eval (.tmp 3) = .pointer (some ⟨n, 0, none⟩) := by
  unfold C3; rw [eval_puo_self]; simp only [size_puo]; omega
theorem c3_e2 {a : Act} (h : 5 < a.tmps.size) (n : Nat) (f : Bool) (o1 o3 : Option (Nat × Bool)) : (C3 a o1 (some (n, f)) o3).eval (.tmp 4) = .pointer (some ⟨n, 0, none⟩) := by
  unfold C3; rw [eval_puo (by decide), eval_puo_self]; simp only [size_puo]; omega
theorem c3_e3 {a : Act} (h : 5 < a.tmps.size) (n : Nat) (f : Bool) (o1 o2 : Option (Nat × Bool)) : (C3 a o1 o2 (some (n, f))).eval (.tmp 5) = .pointer (some ⟨n, 0, none⟩) := by
  unfold C3; rw [eval_puo (by decide), eval_puo (by decide), eval_puo_self]; omega
/-- Whether a box is filled makes no difference to the frame. -/
theorem c3_f1 (a : Act) (n : Nat) (f g : Bool) (o2 o3 : Option (Nat × Bool)) : C3 a (some (n, f)) o2 o3 = C3 a (some (n, g)) o2 o3 := rfl
theorem c3_f2 (a : Act) (n : Nat) (f g : Bool) (o1 o3 : Option (Nat × Bool)) : C3 a o1 (some (n, f)) o3 = C3 a o1 (some (n, g)) o3 := rfl
theorem c3_f3 (a : Act) (n : Nat) (f g : Bool) (o1 o2 : Option (Nat × Bool)) : C3 a o1 o2 (some (n, f)) = C3 a o1 o2 (some (n, g)) := rfl

def zP : Array Value := #[.string ⟨#[]⟩, .slice none 0 0, .int .i64 0]
def cP (p : Pl) (A : Option Addr) (c : Nat) : Array Value := #[.string p.nm, .slice A p.l.length c, .int .i64 p.h]

theorem step_alloc3 {w : World} {ops : Array Oper} {o : Oper} {a : Act} {K : Act → World → Prop} {Q : Exit → Act → World → Prop} {E : Prop} (hgd : o.guard = none) (ho : o.op = .alloc 55)
    (h : K (a.put o.dst (.pointer (some ⟨w.heap.size, 0, none⟩))) (w.alloc (.cells zP 55))) :
    if Region.wanted o (yielded ops a.tmps) = true then Oper.wp Tryz.prog o a w K Q else E := by
  have hw : Region.wanted o (yielded ops a.tmps) = true := by simp [Region.wanted, hgd]
  rw [if_pos hw]
  obtain ⟨d, op, ty, pos, after, guard⟩ := o
  dsimp only at ho hgd h
  subst ho
  unfold zP at h
  go_simp
  exact h
theorem step_store3 {w : World} {ops : Array Oper} {o : Oper} {a : Act} {K : Act → World → Prop} {Q : Exit → Act → World → Prop} {E : Prop} (hgd : o.guard = none) (s t : Nat) (ho : o.op = .store 55 (.tmp s) (.tmp t)) (hd : o.dst = none)
    (b : Nat) (p : Pl) (A : Option Addr) (c : Nat) (hx : a.eval (.tmp s) = .pointer (some ⟨b, 0, none⟩)) (hy : a.eval (.tmp t) = .agg (cP p A c)) (hB : BlkV w b 55 zP)
    (h : K a (((w.setCell ⟨b, 0, none⟩ (.string p.nm)).setCell ⟨b, 1, none⟩ (.slice A p.l.length c)).setCell ⟨b, 2, none⟩ (.int .i64 p.h))) :
    if Region.wanted o (yielded ops a.tmps) = true then Oper.wp Tryz.prog o a w K Q else E := by
  have hw : Region.wanted o (yielded ops a.tmps) = true := by simp [Region.wanted, hgd]
  rw [if_pos hw]
  obtain ⟨d, op, ty, pos, after, guard⟩ := o
  dsimp only at ho hgd hd
  subst ho
  subst hd
  unfold cP at hy
  simp only [Act.eval, Array.getD_eq_getD_getElem?] at hx hy
  have k0 := hB.cell 0
  have k1 := hB.cell 1
  have k2 := hB.cell 2
  have f0 := hB.frozen 0
  have f1 := hB.frozen 1
  have f2 := hB.frozen 2
  simp only [zP, List.getElem?_toArray, List.getElem?_cons_zero, List.getElem?_cons_succ] at k0 k1 k2
  have hh : K { tmps := a.tmps, defers := a.defers } (((w.setCell ⟨b, 0, none⟩ (.string p.nm)).setCell ⟨b, 1, none⟩ (.slice A p.l.length c)).setCell ⟨b, 2, none⟩ (.int .i64 p.h)) := h
  go_simp
  exact h

/-- What a box holds. -/
def Bx (base : Nat) (w : World) (o : Option (Nat × Bool)) (cs : Array Value) : Prop := ∀ b f, o = some (b, f) → base ≤ b ∧ BlkV w b 55 (if f then cs else zP)
def Ds (o1 o2 : Option (Nat × Bool)) : Prop := ∀ b f b' f', o1 = some (b, f) → o2 = some (b', f') → b ≠ b'
def rem3 (o : Option (Nat × Bool)) : Nat := match o with | none => 2 | some (_, false) => 1 | some (_, true) => 0
theorem Bx.alloc {base : Nat} {w : World} {o : Option (Nat × Bool)} {cs : Array Value} (h : Bx base w o cs) (ob : Obj) : Bx base (w.alloc ob) o cs := fun b f e => ⟨(h b f e).1, (h b f e).2.alloc ob⟩
theorem Bx.new {base : Nat} {w : World} {cs : Array Value} (h : base ≤ w.heap.size) : Bx base (w.alloc (.cells zP 55)) (some (w.heap.size, false)) cs := fun b f e => by
  cases e
  exact ⟨h, BlkV.new w _ _⟩
theorem Bx.far {base : Nat} {w : World} {o : Option (Nat × Bool)} {cs : Array Value} {n : Nat} {f : Bool} (h : Bx base w o cs) (hd : Ds (some (n, f)) o) (v0 v1 v2 : Value) : Bx base (((w.setCell ⟨n, 0, none⟩ v0).setCell ⟨n, 1, none⟩ v1).setCell ⟨n, 2, none⟩ v2) o cs := fun b g e => by
  have hne : b ≠ n := fun q => hd n f b g rfl e q.symm
  exact ⟨(h b g e).1, (((h b g e).2.far (p := ⟨n, 0, none⟩) hne _).far (p := ⟨n, 1, none⟩) hne _).far (p := ⟨n, 2, none⟩) hne _⟩
theorem Bx.fill {base : Nat} {w : World} {n : Nat} {p : Pl} {A : Option Addr} {c : Nat} (h : Bx base w (some (n, false)) (cP p A c)) : Bx base (((w.setCell ⟨n, 0, none⟩ (.string p.nm)).setCell ⟨n, 1, none⟩ (.slice A p.l.length c)).setCell ⟨n, 2, none⟩ (.int .i64 p.h)) (some (n, true)) (cP p A c) := fun b f e => by
  cases e
  obtain ⟨h1, h2⟩ := h n false rfl
  exact ⟨h1, by simpa [zP, cP] using ((h2.set 0 (.string p.nm)).set 1 (.slice A p.l.length c)).set 2 (.int .i64 p.h)⟩
theorem Ds.new {base : Nat} {w : World} {o : Option (Nat × Bool)} {cs : Array Value} (h : Bx base w o cs) (f : Bool) : Ds (some (w.heap.size, f)) o := fun b g b' g' e e' => by
  cases e
  have := (h b' g' e').2.lt
  omega
theorem Ds.symm {o1 o2 : Option (Nat × Bool)} (h : Ds o1 o2) : Ds o2 o1 := fun b f b' f' e e' q => h b' f' b f e' e q.symm
theorem Ds.turn {n : Nat} {f g : Bool} {o : Option (Nat × Bool)} (h : Ds (some (n, f)) o) : Ds (some (n, g)) o := fun b k b' k' e e' => by
  cases e
  exact h n f b' k' rfl e'
theorem Below.fill {base n : Nat} {W w : World} (h : Below base W w) (hb : base ≤ n) (v0 v1 v2 : Value) : Below base W (((w.setCell ⟨n, 0, none⟩ v0).setCell ⟨n, 1, none⟩ v1).setCell ⟨n, 2, none⟩ v2) :=
  ((h.setCell (p := ⟨n, 0, none⟩) hb v0).setCell (p := ⟨n, 1, none⟩) hb v1).setCell (p := ⟨n, 2, none⟩) hb v2

def alo (o : Option (Nat × Bool)) : Bool := o.isSome
def sto (o : Option (Nat × Bool)) : Bool := match o with | some (_, true) => true | _ => false
def L3 (a b c d e f : Bool) : Array Bool := #[true, true, true, true, true, true, true, true, true, true, true, true, a, b, c, d, e, f]
theorem ready3 (a b c d e f : Bool) : Region.ready .any opsP3 (L3 a b c d e f) = (if a then [] else [12]) ++ (if b then [] else [13]) ++ (if c then [] else [14]) ++ (if a && b && c then (if d then (if e then (if f then [] else [17]) else [16]) else [15]) else []) := by
  cases a <;> cases b <;> cases c <;> cases d <;> cases e <;> cases f <;> kernel_rfl

section
variable {Q : Exit → Act → World → Prop} {S : World → Prop} {W : World} {a : Act} {base : Nat} {pa pb pc : Pl} {A B C : Option Addr} {c d e : Nat}

set_option maxRecDepth 100000 in
set_option maxHeartbeats 4000000 in
theorem stage3 (hsz : 5 < a.tmps.size) (e1 : a.eval (.tmp 41) = .agg (cP pa A c)) (e2 : a.eval (.tmp 45) = .agg (cP pb B d)) (e3 : a.eval (.tmp 49) = .agg (cP pc C e)) (hS : ∀ w', Below base W w' → S w')
    (fin : ∀ x y z w', Below base W w' → BlkV w' x 55 (cP pa A c) → BlkV w' y 55 (cP pb B d) → BlkV w' z 55 (cP pc C e) → Q .normal (C3 a (some (x, true)) (some (y, true)) (some (z, true))) w') :
    ∀ (m : Nat) (o1 o2 o3 : Option (Nat × Bool)) (w : World), rem3 o1 + rem3 o2 + rem3 o3 = m → Below base W w → Bx base w o1 (cP pa A c) → Bx base w o2 (cP pb B d) → Bx base w o3 (cP pc C e) → Ds o1 o2 → Ds o1 o3 → Ds o2 o3 → base ≤ w.heap.size →
      wpAnyH Tryz.prog .any opsP3 Q S m (L3 (alo o1) (alo o2) (alo o3) (sto o1) (sto o2) (sto o3)) (C3 a o1 o2 o3) w := by
  intro m
  induction m with
  | zero =>
    intro o1 o2 o3 w hm hB h1 h2 h3 d12 d13 d23 hb
    have full : ∀ o : Option (Nat × Bool), rem3 o = 0 → ∃ n, o = some (n, true) := fun o h => by
      match o, h with
      | some (n, true), _ => exact ⟨n, rfl⟩
      | some (n, false), h => cases h
      | none, h => cases h
    obtain ⟨x, rfl⟩ := full o1 (by omega)
    obtain ⟨y, rfl⟩ := full o2 (by omega)
    obtain ⟨z, rfl⟩ := full o3 (by omega)
    refine wpAnyH_done (by rw [ready3]; rfl) ?_ _
    exact fin x y z w hB (h1 x true rfl).2 (h2 y true rfl).2 (h3 z true rfl).2
  | succ m ih =>
    intro o1 o2 o3 w hm hB h1 h2 h3 d12 d13 d23 hb
    have hBn : Below base W (w.alloc (.cells zP 55)) := hB.alloc hb _
    have hne : (if alo o1 then ([] : List Nat) else [12]) ++ (if alo o2 then [] else [13]) ++ (if alo o3 then [] else [14]) ++ (if alo o1 && alo o2 && alo o3 then (if sto o1 then (if sto o2 then (if sto o3 then [] else [17]) else [16]) else [15]) else []) ≠ [] := by
      match o1, o2, o3, hm with
      | none, _, _, _ => simp [alo]
      | some _, none, _, _ => simp [alo]
      | some _, some _, none, _ => simp [alo]
      | some (_, false), some (_, _), some (_, _), _ => simp [alo, sto]
      | some (_, true), some (_, false), some (_, _), _ => simp [alo, sto]
      | some (_, true), some (_, true), some (_, false), _ => simp [alo, sto]
      | some (_, true), some (_, true), some (_, true), hm => simp [rem3] at hm
    refine wpAnyH_all (ready3 _ _ _ _ _ _) hne (fun i hi => ?_)
    simp only [List.mem_append] at hi
    rcases hi with ((hi | hi) | hi) | hi
    · cases o1 with
      | some t => simp [alo] at hi
      | none =>
        obtain rfl : i = 12 := by simpa [alo] using hi
        refine wpOp_step (show opsP3[12]? = some (opP3 12) by kernel_rfl) (fun K hK => ?_)
        refine step_alloc3 (show (opP3 12).guard = none by kernel_rfl) (show (opP3 12).op = .alloc 55 by kernel_rfl) ?_
        rw [show (opP3 12).dst = some 3 by kernel_rfl, c3_1]
        exact hK _ _ ⟨hS _ hBn, ih (some (w.heap.size, false)) o2 o3 _ (by simp only [rem3] at hm ⊢; omega) hBn (Bx.new hb) (h2.alloc _) (h3.alloc _) (Ds.new h2 _) (Ds.new h3 _) d23 (by simp; omega)⟩
    · cases o2 with
      | some t => simp [alo] at hi
      | none =>
        obtain rfl : i = 13 := by simpa [alo] using hi
        refine wpOp_step (show opsP3[13]? = some (opP3 13) by kernel_rfl) (fun K hK => ?_)
        refine step_alloc3 (show (opP3 13).guard = none by kernel_rfl) (show (opP3 13).op = .alloc 55 by kernel_rfl) ?_
        rw [show (opP3 13).dst = some 4 by kernel_rfl, c3_2]
        exact hK _ _ ⟨hS _ hBn, ih o1 (some (w.heap.size, false)) o3 _ (by simp only [rem3] at hm ⊢; omega) hBn (h1.alloc _) (Bx.new hb) (h3.alloc _) (Ds.new h1 _).symm d13 (Ds.new h3 _) (by simp; omega)⟩
    · cases o3 with
      | some t => simp [alo] at hi
      | none =>
        obtain rfl : i = 14 := by simpa [alo] using hi
        refine wpOp_step (show opsP3[14]? = some (opP3 14) by kernel_rfl) (fun K hK => ?_)
        refine step_alloc3 (show (opP3 14).guard = none by kernel_rfl) (show (opP3 14).op = .alloc 55 by kernel_rfl) ?_
        rw [show (opP3 14).dst = some 5 by kernel_rfl, c3_3]
        exact hK _ _ ⟨hS _ hBn, ih o1 o2 (some (w.heap.size, false)) _ (by simp only [rem3] at hm ⊢; omega) hBn (h1.alloc _) (h2.alloc _) (Bx.new hb) d12 (Ds.new h1 _).symm (Ds.new h2 _).symm (by simp; omega)⟩
    · obtain ⟨⟨x, s1⟩, rfl⟩ : ∃ t, o1 = some t := by cases o1 with | none => simp [alo] at hi | some t => exact ⟨t, rfl⟩
      obtain ⟨⟨y, s2⟩, rfl⟩ : ∃ t, o2 = some t := by cases o2 with | none => simp [alo] at hi | some t => exact ⟨t, rfl⟩
      obtain ⟨⟨z, s3⟩, rfl⟩ : ∃ t, o3 = some t := by cases o3 with | none => simp [alo] at hi | some t => exact ⟨t, rfl⟩
      cases s1 with
      | false =>
        obtain rfl : i = 15 := by simpa [alo, sto] using hi
        have hB' := Below.fill hB (h1 x false rfl).1 (.string pa.nm) (.slice A pa.l.length c) (.int .i64 pa.h)
        refine wpOp_step (show opsP3[15]? = some (opP3 15) by kernel_rfl) (fun K hK => ?_)
        refine step_store3 (show (opP3 15).guard = none by kernel_rfl) 3 41 (show (opP3 15).op = .store 55 (.tmp 3) (.tmp 41) by kernel_rfl) (show (opP3 15).dst = none by kernel_rfl) x pa A c (c3_e1 hsz x false _ _) ((c3_eval (by decide) (by decide) (by decide) _ _ _ _).trans e1) (h1 x false rfl).2 ?_
        exact hK _ _ ⟨hS _ hB', by rw [c3_f1 a x false true]; exact ih (some (x, true)) (some (y, s2)) (some (z, s3)) _ (by simp only [rem3] at hm ⊢; omega) hB' h1.fill (h2.far d12 _ _ _) (h3.far d13 _ _ _) d12.turn d13.turn d23 (by simp; omega)⟩
      | true =>
        cases s2 with
        | false =>
          obtain rfl : i = 16 := by simpa [alo, sto] using hi
          have hB' := Below.fill hB (h2 y false rfl).1 (.string pb.nm) (.slice B pb.l.length d) (.int .i64 pb.h)
          refine wpOp_step (show opsP3[16]? = some (opP3 16) by kernel_rfl) (fun K hK => ?_)
          refine step_store3 (show (opP3 16).guard = none by kernel_rfl) 4 45 (show (opP3 16).op = .store 55 (.tmp 4) (.tmp 45) by kernel_rfl) (show (opP3 16).dst = none by kernel_rfl) y pb B d (c3_e2 hsz y false _ _) ((c3_eval (by decide) (by decide) (by decide) _ _ _ _).trans e2) (h2 y false rfl).2 ?_
          exact hK _ _ ⟨hS _ hB', by rw [c3_f2 a y false true]; exact ih (some (x, true)) (some (y, true)) (some (z, s3)) _ (by simp only [rem3] at hm ⊢; omega) hB' (h1.far d12.symm _ _ _) h2.fill (h3.far d23 _ _ _) d12.symm.turn.symm d13 d23.turn (by simp; omega)⟩
        | true =>
          cases s3 with
          | false =>
            obtain rfl : i = 17 := by simpa [alo, sto] using hi
            have hB' := Below.fill hB (h3 z false rfl).1 (.string pc.nm) (.slice C pc.l.length e) (.int .i64 pc.h)
            refine wpOp_step (show opsP3[17]? = some (opP3 17) by kernel_rfl) (fun K hK => ?_)
            refine step_store3 (show (opP3 17).guard = none by kernel_rfl) 5 49 (show (opP3 17).op = .store 55 (.tmp 5) (.tmp 49) by kernel_rfl) (show (opP3 17).dst = none by kernel_rfl) z pc C e (c3_e3 hsz z false _ _) ((c3_eval (by decide) (by decide) (by decide) _ _ _ _).trans e3) (h3 z false rfl).2 ?_
            exact hK _ _ ⟨hS _ hB', by rw [c3_f3 a z false true]; exact ih (some (x, true)) (some (y, true)) (some (z, true)) _ (by simp only [rem3] at hm ⊢; omega) hB' (h1.far d13.symm _ _ _) (h2.far d23.symm _ _ _) h3.fill d12 d13.symm.turn.symm d23.symm.turn.symm (by simp; omega)⟩
          | true => simp [alo, sto] at hi
end

def act3P (a : Act) (gx : Nat) (a0 : Addr) (np c0 : Nat) (pa pb pc : Pl) (A B C : Option Addr) (c d e : Nat) : Act := ((((((((((((a.put (some 38) (.pointer (some ⟨gx, 1, none⟩))).put (some 39) (.slice (some a0) np c0)).put (some 40) (.pointer (some a0))).put (some 41) (.agg (cP pa A c))).put (some 42) (.pointer (some ⟨gx, 1, none⟩))).put (some 43) (.slice (some a0) np c0)).put (some 44) (.pointer (some ⟨a0.block, a0.off + 3, none⟩))).put (some 45) (.agg (cP pb B d))).put (some 46) (.pointer (some ⟨gx, 1, none⟩))).put (some 47) (.slice (some a0) np c0)).put (some 48) (.pointer (some ⟨a0.block, a0.off + 6, none⟩))).put (some 49) (.agg (cP pc C e)))

theorem exec_at3 {ρ : Operand → Value} {oi : Oper} {op : Op} {ty : TypeId} {d : Option Tmp} (h : oi.op = op) (ht : oi.type = ty) : execOp ρ oi = execOp ρ ⟨d, op, ty, "", #[], none⟩ := by
  obtain ⟨d', op', ty', pos, after, guard⟩ := oi
  subst h; subst ht
  rfl
theorem take3 {Q : Exit → Act → World → Prop} {S : World → Prop} (i d : Nat) (op : Op) (ty : TypeId) (v : Value) {fuel : Nat} {listed : Array Bool} {a : Act} {w : World}
    (hi : ∃ oi, opsP3[i]? = some oi ∧ oi.guard = none ∧ oi.op = op ∧ oi.type = ty ∧ oi.dst = some d) (hf : Region.free .any opsP3 listed i = true) (hr : (Region.ready .any opsP3 listed).contains i = true)
    (hQ : ∀ c (a' : Act) (v' : Value) w, Q (.panic c) (a'.put (some d) v') w → Q (.panic c) a' w) (hS : S w) (hy : ∀ w, S w → (execOp a.eval ⟨some d, op, ty, "", #[], none⟩).run Tryz.prog w = .ok (.value v) w)
    (h : wpAnyH Tryz.prog .any opsP3 Q S fuel (listed.setIfInBounds i true) (a.put (some d) v) w) : wpAnyH Tryz.prog .any opsP3 Q S (fuel + 1) listed a w := by
  obtain ⟨oi, h1, hg, h2, h3, h4⟩ := hi
  refine wpAnyH_take (i := i) (oi := oi) (v := v) h1 (by kernel_rfl) hf hr (fun c a' w' => by rw [h4]; exact hQ c a' v w') (.inl ⟨by simp [Region.wanted, hg], fun w' hw' => ?_⟩) hS (by rw [h4]; exact h)
  rw [exec_at3 h2 h3]
  exact hy w' hw'

section
variable {ρ : Operand → Value} {d : Option Tmp} {ty : TypeId} {w : World}
theorem ex3_field {x : Operand} {g : Nat} (hx : ρ x = .pointer (some ⟨g, 0, none⟩)) : (execOp ρ ⟨d, .fieldAddr 25 x 1, ty, "", #[], none⟩).run Tryz.prog w = .ok (.value (.pointer (some ⟨g, 1, none⟩))) w := by
  unfold execOp
  simp only [hx]
  go_simp
theorem ex3_loadS {x : Operand} {p : Addr} {A : Option Addr} {n c : Nat} (hx : ρ x = .pointer (some p)) (hc : w.cell? p = some (.slice A n c)) : (execOp ρ ⟨d, .load 23 x, ty, "", #[], none⟩).run Tryz.prog w = .ok (.value (.slice A n c)) w := by
  unfold execOp
  simp only [hx]
  go_simp
theorem ex3_index0 {x : Operand} {a0 : Addr} {n c : Nat} (hx : ρ x = .slice (some a0) n c) (hi : ρ (.const (.int .i64 0)) = .int .i64 0) (hk : 0 < n) : (execOp ρ ⟨d, .indexAddr 23 x (.const (.int .i64 0)), ty, "", #[], none⟩).run Tryz.prog w = .ok (.value (.pointer (some a0))) w := by
  unfold execOp
  simp only [hx, hi]
  have h2 : (0 : Int) < (n : Int) := by omega
  go_simp
theorem ex3_index1 {x : Operand} {a0 : Addr} {n c : Nat} (hx : ρ x = .slice (some a0) n c) (hi : ρ (.const (.int .i64 1)) = .int .i64 1) (hk : 1 < n) : (execOp ρ ⟨d, .indexAddr 23 x (.const (.int .i64 1)), ty, "", #[], none⟩).run Tryz.prog w = .ok (.value (.pointer (some ⟨a0.block, a0.off + 3, none⟩))) w := by
  unfold execOp
  simp only [hx, hi]
  have h2 : (1 : Int) < (n : Int) := by omega
  go_simp
theorem ex3_index2 {x : Operand} {a0 : Addr} {n c : Nat} (hx : ρ x = .slice (some a0) n c) (hi : ρ (.const (.int .i64 2)) = .int .i64 2) (hk : 2 < n) : (execOp ρ ⟨d, .indexAddr 23 x (.const (.int .i64 2)), ty, "", #[], none⟩).run Tryz.prog w = .ok (.value (.pointer (some ⟨a0.block, a0.off + 6, none⟩))) w := by
  unfold execOp
  simp only [hx, hi]
  have h2 : (2 : Int) < (n : Int) := by omega
  go_simp
theorem ex3_loadP {x : Operand} {q : Addr} {p : Pl} {A : Option Addr} {c : Nat} (hx : ρ x = .pointer (some q)) (h0 : w.cell? q = some (.string p.nm)) (h1 : w.cell? ⟨q.block, q.off + 1, none⟩ = some (.slice A p.l.length c)) (h2 : w.cell? ⟨q.block, q.off + 2, none⟩ = some (.int .i64 p.h)) : (execOp ρ ⟨d, .load 55 x, ty, "", #[], none⟩).run Tryz.prog w = .ok (.value (.agg (cP p A c))) w := by
  unfold execOp cP
  simp only [hx]
  go_simp
end
/-- What the region reads. -/
def R3 (gx : Nat) (a0 : Addr) (np c0 : Nat) (pa pb pc : Pl) (A B C : Option Addr) (c d e : Nat) (w' : World) : Prop := w'.cell? ⟨gx, 1, none⟩ = some (.slice (some a0) np c0) ∧ w'.cell? a0 = some (.string pa.nm) ∧ w'.cell? ⟨a0.block, a0.off + 1, none⟩ = some (.slice A pa.l.length c) ∧ w'.cell? ⟨a0.block, a0.off + 2, none⟩ = some (.int .i64 pa.h) ∧ w'.cell? ⟨a0.block, a0.off + 3, none⟩ = some (.string pb.nm) ∧ w'.cell? ⟨a0.block, a0.off + 3 + 1, none⟩ = some (.slice B pb.l.length d) ∧ w'.cell? ⟨a0.block, a0.off + 3 + 2, none⟩ = some (.int .i64 pb.h) ∧ w'.cell? ⟨a0.block, a0.off + 6, none⟩ = some (.string pc.nm) ∧ w'.cell? ⟨a0.block, a0.off + 6 + 1, none⟩ = some (.slice C pc.l.length e) ∧ w'.cell? ⟨a0.block, a0.off + 6 + 2, none⟩ = some (.int .i64 pc.h)
theorem stage3' {Q : Exit → Act → World → Prop} {S : World → Prop} {W : World} {a : Act} {base : Nat} {pa pb pc : Pl} {A B C : Option Addr} {c d e : Nat} {fuel : Nat} {listed : Array Bool} (hf : fuel = 6) (hl : listed = L3 false false false false false false)
    (hsz : 5 < a.tmps.size) (e1 : a.eval (.tmp 41) = .agg (cP pa A c)) (e2 : a.eval (.tmp 45) = .agg (cP pb B d)) (e3 : a.eval (.tmp 49) = .agg (cP pc C e)) (hS : ∀ w', Below base W w' → S w') (hb : base ≤ W.heap.size)
    (fin : ∀ x y z w', Below base W w' → BlkV w' x 55 (cP pa A c) → BlkV w' y 55 (cP pb B d) → BlkV w' z 55 (cP pc C e) → Q .normal (C3 a (some (x, true)) (some (y, true)) (some (z, true))) w') :
    wpAnyH Tryz.prog .any opsP3 Q S fuel listed a W := by
  subst hf
  subst hl
  have n1 : ∀ cs, Bx base W none cs := fun cs b f h => by cases h
  have n2 : Ds none none := fun b f b' f' h _ => by cases h
  exact stage3 hsz e1 e2 e3 hS fin 6 none none none W rfl (Below.refl _ _) (n1 _) (n1 _) (n1 _) n2 n2 n2 hb
set_option maxRecDepth 100000 in
set_option maxHeartbeats 4000000 in
theorem region3P {id : Nat} {ops : Array Oper} {Q : Exit → Act → World → Prop} {a : Act} {wq : World} {gx : Nat} {a0 : Addr} {np c0 : Nat} {pa pb pc : Pl} {A B C : Option Addr} {c d e : Nat} (hops : ops = opsP3) (hm : Tryz.prog.follows .mixedOrders = true) (hsz : 50 < a.tmps.size) (hn : 3 ≤ np)
    (e1 : a.eval (.tmp 1) = .pointer (some ⟨gx, 0, none⟩)) (hc : ∀ w', Below wq.heap.size wq w' → R3 gx a0 np c0 pa pb pc A B C c d e w')
    (fin : ∀ x y z w', Below wq.heap.size wq w' → BlkV w' x 55 (cP pa A c) → BlkV w' y 55 (cP pb B d) → BlkV w' z 55 (cP pc C e) →
      Q .normal (C3 (act3P a gx a0 np c0 pa pb pc A B C c d e) (some (x, true)) (some (y, true)) (some (z, true))) w') :
    (Code.region id ops true).wp Tryz.prog Q a wq := by
  subst hops
  have k0 : 0 < np := by omega
  have k1 : 1 < np := by omega
  have k2 : 2 < np := by omega
  refine wp_region_noPanic ?_
  refine wp_region_held_drew (S := R3 gx a0 np c0 pa pb pc A B C c d e) hm (hc _ (Below.refl _ wq).drew) (fun hHeld => ?_)
  have hf : opsP3.size = 18 := by kernel_rfl
  rw [hf]
  refine take3 0 38 (.fieldAddr 25 (.tmp 1) 1) (opP3 0).type (.pointer (some ⟨gx, 1, none⟩)) ⟨opP3 0, by kernel_rfl, by kernel_rfl, by kernel_rfl, rfl, by kernel_rfl⟩ (by kernel_rfl) (by kernel_rfl) (fun _ _ _ _ h => h) hHeld (fun w' hs => ex3_field (by with_reducible repeat (first | assumption | refine (ev_ne (by omega) _ _).trans ?_ | exact ev_self (by first | omega | (simp only [sz_put]; omega))))) ?_
  refine take3 1 39 (.load 23 (.tmp 38)) (opP3 1).type (.slice (some a0) np c0) ⟨opP3 1, by kernel_rfl, by kernel_rfl, by kernel_rfl, rfl, by kernel_rfl⟩ (by kernel_rfl) (by kernel_rfl) (fun _ _ _ _ h => h) hHeld (fun w' hs => ex3_loadS (by with_reducible repeat (first | assumption | refine (ev_ne (by omega) _ _).trans ?_ | exact ev_self (by first | omega | (simp only [sz_put]; omega)))) hs.1) ?_
  refine take3 2 40 (.indexAddr 23 (.tmp 39) (.const (.int .i64 0))) (opP3 2).type (.pointer (some a0)) ⟨opP3 2, by kernel_rfl, by kernel_rfl, by kernel_rfl, rfl, by kernel_rfl⟩ (by kernel_rfl) (by kernel_rfl) (fun _ _ _ _ h => h) hHeld (fun w' hs => ex3_index0 (by with_reducible repeat (first | assumption | refine (ev_ne (by omega) _ _).trans ?_ | exact ev_self (by first | omega | (simp only [sz_put]; omega)))) rfl (by omega)) ?_
  refine take3 3 41 (.load 55 (.tmp 40)) (opP3 3).type (.agg (cP pa A c)) ⟨opP3 3, by kernel_rfl, by kernel_rfl, by kernel_rfl, rfl, by kernel_rfl⟩ (by kernel_rfl) (by kernel_rfl) (fun _ _ _ _ h => h) hHeld (fun w' hs => ex3_loadP (by with_reducible repeat (first | assumption | refine (ev_ne (by omega) _ _).trans ?_ | exact ev_self (by first | omega | (simp only [sz_put]; omega)))) hs.2.1 hs.2.2.1 hs.2.2.2.1) ?_
  refine take3 4 42 (.fieldAddr 25 (.tmp 1) 1) (opP3 4).type (.pointer (some ⟨gx, 1, none⟩)) ⟨opP3 4, by kernel_rfl, by kernel_rfl, by kernel_rfl, rfl, by kernel_rfl⟩ (by kernel_rfl) (by kernel_rfl) (fun _ _ _ _ h => h) hHeld (fun w' hs => ex3_field (by with_reducible repeat (first | assumption | refine (ev_ne (by omega) _ _).trans ?_ | exact ev_self (by first | omega | (simp only [sz_put]; omega))))) ?_
  refine take3 5 43 (.load 23 (.tmp 42)) (opP3 5).type (.slice (some a0) np c0) ⟨opP3 5, by kernel_rfl, by kernel_rfl, by kernel_rfl, rfl, by kernel_rfl⟩ (by kernel_rfl) (by kernel_rfl) (fun _ _ _ _ h => h) hHeld (fun w' hs => ex3_loadS (by with_reducible repeat (first | assumption | refine (ev_ne (by omega) _ _).trans ?_ | exact ev_self (by first | omega | (simp only [sz_put]; omega)))) hs.1) ?_
  refine take3 6 44 (.indexAddr 23 (.tmp 43) (.const (.int .i64 1))) (opP3 6).type (.pointer (some ⟨a0.block, a0.off + 3, none⟩)) ⟨opP3 6, by kernel_rfl, by kernel_rfl, by kernel_rfl, rfl, by kernel_rfl⟩ (by kernel_rfl) (by kernel_rfl) (fun _ _ _ _ h => h) hHeld (fun w' hs => ex3_index1 (by with_reducible repeat (first | assumption | refine (ev_ne (by omega) _ _).trans ?_ | exact ev_self (by first | omega | (simp only [sz_put]; omega)))) rfl (by omega)) ?_
  refine take3 7 45 (.load 55 (.tmp 44)) (opP3 7).type (.agg (cP pb B d)) ⟨opP3 7, by kernel_rfl, by kernel_rfl, by kernel_rfl, rfl, by kernel_rfl⟩ (by kernel_rfl) (by kernel_rfl) (fun _ _ _ _ h => h) hHeld (fun w' hs => ex3_loadP (by with_reducible repeat (first | assumption | refine (ev_ne (by omega) _ _).trans ?_ | exact ev_self (by first | omega | (simp only [sz_put]; omega)))) hs.2.2.2.2.1 hs.2.2.2.2.2.1 hs.2.2.2.2.2.2.1) ?_
  refine take3 8 46 (.fieldAddr 25 (.tmp 1) 1) (opP3 8).type (.pointer (some ⟨gx, 1, none⟩)) ⟨opP3 8, by kernel_rfl, by kernel_rfl, by kernel_rfl, rfl, by kernel_rfl⟩ (by kernel_rfl) (by kernel_rfl) (fun _ _ _ _ h => h) hHeld (fun w' hs => ex3_field (by with_reducible repeat (first | assumption | refine (ev_ne (by omega) _ _).trans ?_ | exact ev_self (by first | omega | (simp only [sz_put]; omega))))) ?_
  refine take3 9 47 (.load 23 (.tmp 46)) (opP3 9).type (.slice (some a0) np c0) ⟨opP3 9, by kernel_rfl, by kernel_rfl, by kernel_rfl, rfl, by kernel_rfl⟩ (by kernel_rfl) (by kernel_rfl) (fun _ _ _ _ h => h) hHeld (fun w' hs => ex3_loadS (by with_reducible repeat (first | assumption | refine (ev_ne (by omega) _ _).trans ?_ | exact ev_self (by first | omega | (simp only [sz_put]; omega)))) hs.1) ?_
  refine take3 10 48 (.indexAddr 23 (.tmp 47) (.const (.int .i64 2))) (opP3 10).type (.pointer (some ⟨a0.block, a0.off + 6, none⟩)) ⟨opP3 10, by kernel_rfl, by kernel_rfl, by kernel_rfl, rfl, by kernel_rfl⟩ (by kernel_rfl) (by kernel_rfl) (fun _ _ _ _ h => h) hHeld (fun w' hs => ex3_index2 (by with_reducible repeat (first | assumption | refine (ev_ne (by omega) _ _).trans ?_ | exact ev_self (by first | omega | (simp only [sz_put]; omega)))) rfl (by omega)) ?_
  refine take3 11 49 (.load 55 (.tmp 48)) (opP3 11).type (.agg (cP pc C e)) ⟨opP3 11, by kernel_rfl, by kernel_rfl, by kernel_rfl, rfl, by kernel_rfl⟩ (by kernel_rfl) (by kernel_rfl) (fun _ _ _ _ h => h) hHeld (fun w' hs => ex3_loadP (by with_reducible repeat (first | assumption | refine (ev_ne (by omega) _ _).trans ?_ | exact ev_self (by first | omega | (simp only [sz_put]; omega)))) hs.2.2.2.2.2.2.2.1 hs.2.2.2.2.2.2.2.2.1 hs.2.2.2.2.2.2.2.2.2) ?_
  have hsz2 : 50 < (act3P a gx a0 np c0 pa pb pc A B C c d e).tmps.size := by unfold act3P; simp only [sz_put]; omega
  have q1 : (act3P a gx a0 np c0 pa pb pc A B C c d e).eval (.tmp 41) = .agg (cP pa A c) := by unfold act3P; exact (by with_reducible repeat (first | assumption | refine (ev_ne (by omega) _ _).trans ?_ | exact ev_self (by first | omega | (simp only [sz_put]; omega))))
  have q2 : (act3P a gx a0 np c0 pa pb pc A B C c d e).eval (.tmp 45) = .agg (cP pb B d) := by unfold act3P; exact (by with_reducible repeat (first | assumption | refine (ev_ne (by omega) _ _).trans ?_ | exact ev_self (by first | omega | (simp only [sz_put]; omega))))
  have q3 : (act3P a gx a0 np c0 pa pb pc A B C c d e).eval (.tmp 49) = .agg (cP pc C e) := by unfold act3P; exact (by with_reducible repeat (first | assumption | refine (ev_ne (by omega) _ _).trans ?_ | exact ev_self (by first | omega | (simp only [sz_put]; omega))))
  change wpAnyH _ _ _ _ _ _ _ (act3P a gx a0 np c0 pa pb pc A B C c d e) _
  refine stage3' (base := wq.heap.size) rfl (by kernel_rfl) (by omega) q1 q2 q3 (fun w' h => hc w' ((Below.refl _ wq).drew.trans h)) (by simp) (fun x y z w' hb h1 h2 h3 => ?_)
  refine NoPanic.normal ?_
  exact fin x y z w' ((Below.refl _ wq).drew.trans hb) h1 h2 h3
end Go.Proofs.YtbckfkopdojggaaGreatDoor

/- TopLinksPartners: three players in boxes. -/
namespace Go.Proofs.YtbckfkopdojggaaGreatDoor
open Go.RowKit

set_option maxRecDepth 100000 in
set_option maxHeartbeats 16000000 in
theorem partners_start (X : Option Addr) (a0 : Addr) (ch c0 nh np : Nat) (pa pb pc : Pl) (A B C : Option Addr) (c d e : Nat) (w : World) (h3 : 3 ≤ np) (p9 : a0.block < w.heap.size)
    (hp : w.cell? a0 = some (.string pa.nm) ∧ w.cell? ⟨a0.block, a0.off + 1, none⟩ = some (.slice A pa.l.length c) ∧ w.cell? ⟨a0.block, a0.off + 2, none⟩ = some (.int .i64 pa.h) ∧ w.cell? ⟨a0.block, a0.off + 3, none⟩ = some (.string pb.nm) ∧ w.cell? ⟨a0.block, a0.off + 3 + 1, none⟩ = some (.slice B pb.l.length d) ∧ w.cell? ⟨a0.block, a0.off + 3 + 2, none⟩ = some (.int .i64 pb.h) ∧ w.cell? ⟨a0.block, a0.off + 6, none⟩ = some (.string pc.nm) ∧ w.cell? ⟨a0.block, a0.off + 6 + 1, none⟩ = some (.slice C pc.l.length e) ∧ w.cell? ⟨a0.block, a0.off + 6 + 2, none⟩ = some (.int .i64 pc.h))
    (kF : ∀ W, Below w.heap.size w W → Calls Tryz.prog 19 #[.agg #[.slice X nh ch, .slice (some a0) np c0]] W fun e w' => e = .returned (.bool true) ∧ Below W.heap.size W w')
    (kT : ∀ (u2 u6 u7 u8 u9 u10 u11 u12 u13 u14 u15 u16 u17 u18 u19 u20 u21 u22 u23 u24 u25 u26 u27 u28 u29 u30 u31 u32 u33 u34 u35 u36 u37 u38 u39 u40 u41 u42 u43 u44 u45 u46 u47 u48 u49 u50 u51 u52 u53 u54 u55 u56 u57 u58 u59 u60 u61 u62 u63 u64 u65 u66 u67 u68 u69 u70 u71 u72 u73 u74 u75 u76 u77 u78 u79 u80 u81 u82 u83 u84 u85 u86 u87 u88 u89 u90 u91 u92 u93 u94 u95 u96 u97 u98 u99 u100 u101 u102 u103 u104 u105 u106 u107 u108 u109 u110 u111 u112 u113 u114 u115 u116 u117 u118 u119 u120 u121 u122 u123 u124 u125 u126 u127 u128 u129 u130 u131 u132 u133 u134 u135 u136 u137 u138 u139 u140 u141 u142 u143 u144 u145 u146 u147 u148 u149 u150 u151 u152 u153 u154 u155 u156 u157 u158 u159 u160 u161 u162 u163 u164 u165 u166 u167 u168 u169 u170 u171 u172 u173 u174 u175 u176 u177 u178 u179 u180 u181 u182 u183 u184 u185 u186 u187 u188 u189 u190 u191 u192 u193 u194 u195 u196 u197 u198 u199 u200 u201 u202 u203 u204 u205 u206 u207 u208 u209 u210 u211 u212 u213 u214 u215 u216 u217 u218 u219 u220 u221 u222 u223 u224 u225 u226 u227 u228 u229 u230 u231 u232 u233 u234 u235 u236 u237 u238 u239 u240 u241 u242 u243 u244 u245 u246 u247 u248 u249 u250 u251 u252 u253 u254 u255 u256 u257 u258 u259 u260 u261 u262 u263 u264 u265 u266 u267 : Value) x y z W, HeldPl x y z X (some a0) ch c0 nh np pa pb pc A B C c d e w W → Code.wp Tryz.prog (partT 4) (bodyPost Tryz.prog Tryz.f6 (fun e w' => e = .returned (.bool true) ∧ Below w.heap.size w w')) { tmps := #[.agg #[.slice X nh ch, .slice (some a0) np c0], .pointer (some ⟨w.heap.size, 0, none⟩), u2, .pointer (some ⟨x, 0, none⟩), .pointer (some ⟨y, 0, none⟩), .pointer (some ⟨z, 0, none⟩), u6, u7, u8, u9, u10, u11, u12, u13, u14, u15, u16, u17, u18, u19, u20, u21, u22, u23, u24, u25, u26, u27, u28, u29, u30, u31, u32, u33, u34, u35, u36, u37, u38, u39, u40, u41, u42, u43, u44, u45, u46, u47, u48, u49, u50, u51, u52, u53, u54, u55, u56, u57, u58, u59, u60, u61, u62, u63, u64, u65, u66, u67, u68, u69, u70, u71, u72, u73, u74, u75, u76, u77, u78, u79, u80, u81, u82, u83, u84, u85, u86, u87, u88, u89, u90, u91, u92, u93, u94, u95, u96, u97, u98, u99, u100, u101, u102, u103, u104, u105, u106, u107, u108, u109, u110, u111, u112, u113, u114, u115, u116, u117, u118, u119, u120, u121, u122, u123, u124, u125, u126, u127, u128, u129, u130, u131, u132, u133, u134, u135, u136, u137, u138, u139, u140, u141, u142, u143, u144, u145, u146, u147, u148, u149, u150, u151, u152, u153, u154, u155, u156, u157, u158, u159, u160, u161, u162, u163, u164, u165, u166, u167, u168, u169, u170, u171, u172, u173, u174, u175, u176, u177, u178, u179, u180, u181, u182, u183, u184, u185, u186, u187, u188, u189, u190, u191, u192, u193, u194, u195, u196, u197, u198, u199, u200, u201, u202, u203, u204, u205, u206, u207, u208, u209, u210, u211, u212, u213, u214, u215, u216, u217, u218, u219, u220, u221, u222, u223, u224, u225, u226, u227, u228, u229, u230, u231, u232, u233, u234, u235, u236, u237, u238, u239, u240, u241, u242, u243, u244, u245, u246, u247, u248, u249, u250, u251, u252, u253, u254, u255, u256, u257, u258, u259, u260, u261, u262, u263, u264, u265, u266, u267], defers := [] } W) :
    Calls Tryz.prog 6 #[.agg #[.slice X nh ch, .slice (some a0) np c0]] w (fun e w' => e = .returned (.bool true) ∧ Below w.heap.size w w') := by
  have HKF := Lib.hid kF
  have HKT := Lib.hid kT
  clear kF kT
  have hlt : decide ((np : Int) < 3) = false := decide_eq_false (by omega)
  have hp0 : (0 : Int) < (np : Int) := by omega
  have hp1 : (1 : Int) < (np : Int) := by omega
  have hp2 : (2 : Int) < (np : Int) := by omega
  have hn0 : 0 < np := by omega
  have hn1 : 1 < np := by omega
  have hn2 : 2 < np := by omega
  have HPW : Hid (∀ W, Below w.heap.size w W → W.cell? a0 = some (.string pa.nm) ∧ W.cell? ⟨a0.block, a0.off + 1, none⟩ = some (.slice A pa.l.length c) ∧ W.cell? ⟨a0.block, a0.off + 2, none⟩ = some (.int .i64 pa.h) ∧ W.cell? ⟨a0.block, a0.off + 3, none⟩ = some (.string pb.nm) ∧ W.cell? ⟨a0.block, a0.off + 3 + 1, none⟩ = some (.slice B pb.l.length d) ∧ W.cell? ⟨a0.block, a0.off + 3 + 2, none⟩ = some (.int .i64 pb.h) ∧ W.cell? ⟨a0.block, a0.off + 6, none⟩ = some (.string pc.nm) ∧ W.cell? ⟨a0.block, a0.off + 6 + 1, none⟩ = some (.slice C pc.l.length e) ∧ W.cell? ⟨a0.block, a0.off + 6 + 2, none⟩ = some (.int .i64 pc.h)) := Lib.hid (fun W h => by
    obtain ⟨p0, p1, p2, p3, p4, p5, p6, p7, p8⟩ := hp
    exact ⟨(h.cell p9).trans p0, (h.cell (p := ⟨_, _, none⟩) p9).trans p1, (h.cell (p := ⟨_, _, none⟩) p9).trans p2, (h.cell (p := ⟨_, _, none⟩) p9).trans p3, (h.cell (p := ⟨_, _, none⟩) p9).trans p4, (h.cell (p := ⟨_, _, none⟩) p9).trans p5, (h.cell (p := ⟨_, _, none⟩) p9).trans p6, (h.cell (p := ⟨_, _, none⟩) p9).trans p7, (h.cell (p := ⟨_, _, none⟩) p9).trans p8⟩)
  clear hp
  go_enter Tryz.func6, Tryz.ntmps6
  go_wp2_with fail
  generalize hW0 : w.alloc (.cells #[.slice X nh ch, .slice (some a0) np c0] 25) = W0
  obtain ⟨a1, a2, a3⟩ := one_alloc w _ _ hW0
  have HBX := Lib.hid a1
  have HB0 := Lib.hid a2
  clear hW0 a1 a2 a3
  refine (HKF.out W0 HB0.out).mono ?_
  rintro ee w1 ⟨rfl, hb1⟩
  dsimp only
  have hbx := HBX.out.below hb1 HBX.out.lt
  have x0 := hbx.cell 0
  have x1 := hbx.cell 1
  simp only [List.getElem?_toArray, List.getElem?_cons_zero, List.getElem?_cons_succ] at x0 x1
  have HX1 := Lib.hid hbx
  have HB1 := Lib.hid (HB0.out.trans (hb1.mono HB0.out.size))
  clear hbx hb1
  obtain ⟨q0, q1, q2, q3, q4, q5, q6, q7, q8⟩ := HPW.out _ HB1.out
  have hz0 : w.heap.size < w1.heap.size := HX1.out.lt
  have hz1 : a0.block < w1.heap.size := Nat.lt_of_lt_of_le p9 HB1.out.size
  have hz2 : w.heap.size < w1.heap.size + 1 := by omega
  have hz3 : w.heap.size < w1.heap.size + 1 + 1 := by omega
  have hz4 : a0.block < w1.heap.size + 1 := by omega
  have hz5 : a0.block < w1.heap.size + 1 + 1 := by omega
  go_upto_region 3 with fail
  go_cut [3, 4, 5] (fun v3 v4 v5 wx => ∃ x y z, v3 = .pointer (some ⟨x, 0, none⟩) ∧ v4 = .pointer (some ⟨y, 0, none⟩) ∧ v5 = .pointer (some ⟨z, 0, none⟩) ∧ HeldPl x y z X (some a0) ch c0 nh np pa pb pc A B C c d e w wx)
  case first =>
    refine region3P (gx := w.heap.size) (a0 := a0) (np := np) (c0 := c0) (pa := pa) (pb := pb) (pc := pc) (A := A) (B := B) (C := C) (c := c) (d := d) (e := e) (by kernel_rfl) (by kernel_rfl) (by simp) h3 rfl ?_ ?_
    · intro w' h
      have hx' := (HX1.out.below h HX1.out.lt).cell 1
      exact ⟨hx', HPW.out w' (HB1.out.trans (h.mono HB1.out.size))⟩
    · intro x y z w' h k1 k2 k3
      simp only [C3, puo, act3P, Act.put, List.setIfInBounds_toArray, List.set_cons_zero, List.set_cons_succ]
      go_wp2_with fail
      go_meet
      exact ⟨x, y, z, rfl, rfl, rfl, HX1.out.below h HX1.out.lt, k1, k2, k3, HB1.out.trans (h.mono HB1.out.size)⟩
  case rest =>
    obtain ⟨x, y, z, rfl, rfl, rfl, hx⟩ := hcut
    apply_assumption
    exact HKT.out _ _ _ _ _ _ _ _ _ _ _ _ _ _ _ _ _ _ _ _ _ _ _ _ _ _ _ _ _ _ _ _ _ _ _ _ _ _ _ _ _ _ _ _ _ _ _ _ _ _ _ _ _ _ _ _ _ _ _ _ _ _ _ _ _ _ _ _ _ _ _ _ _ _ _ _ _ _ _ _ _ _ _ _ _ _ _ _ _ _ _ _ _ _ _ _ _ _ _ _ _ _ _ _ _ _ _ _ _ _ _ _ _ _ _ _ _ _ _ _ _ _ _ _ _ _ _ _ _ _ _ _ _ _ _ _ _ _ _ _ _ _ _ _ _ _ _ _ _ _ _ _ _ _ _ _ _ _ _ _ _ _ _ _ _ _ _ _ _ _ _ _ _ _ _ _ _ _ _ _ _ _ _ _ _ _ _ _ _ _ _ _ _ _ _ _ _ _ _ _ _ _ _ _ _ _ _ _ _ _ _ _ _ _ _ _ _ _ _ _ _ _ _ _ _ _ _ _ _ _ _ _ _ _ _ _ _ _ _ _ _ _ _ _ _ _ _ _ _ _ _ _ _ _ _ _ _ _ _ _ _ _ _ x y z _ hx
end Go.Proofs.YtbckfkopdojggaaGreatDoor
