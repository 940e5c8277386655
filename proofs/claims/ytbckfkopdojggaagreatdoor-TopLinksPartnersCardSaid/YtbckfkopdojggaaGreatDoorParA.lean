/- TopLinksPartners: the law's start: a field that is not valid, or has fewer than three players; three players in boxes. -/
import Derived.Test.YtbckfkopdojggaaGreatDoorMgF
import Derived.Test.YtbckfkopdojggaaGreatDoorMgD
import Derived.Deep.RegionHeld3
import Derived.Deep.DeepCutAuto
import Derived.Deep.CutBlock
import Derived.BigQuiet
import Derived.Deep.QuietTactic
import Derived.Outline
set_option linter.unusedVariables false
set_option linter.unusedSimpArgs false
namespace Go.Proofs.YtbckfkopdojggaaGreatDoor
open Go.RowKit

def headP (n : Nat) : Code → Bool
  | .region id _ _ => id == n
  | .seq a _ => headP n a
  | _ => false
/-- The code from a region on. -/
def tailP (n : Nat) : Code → Option Code
  | .seq a b => if headP n a then some (.seq a b) else tailP n b
  | c => if headP n c then some c else none
noncomputable def partT (n : Nat) : Code := (Tryz.f6.body.bind fun c => tailP n c).getD .skip

/-- The field's box and three players' boxes; all below a world. -/
def HeldPl (x y z : Nat) (X A0 : Option Addr) (ch c0 nh np : Nat) (pa pb pc : Pl) (A B C : Option Addr) (c d e : Nat) (w W : World) : Prop :=
  BlkV W w.heap.size 25 #[.slice X nh ch, .slice A0 np c0] ∧ BlkV W x 55 #[.string pa.nm, .slice A pa.l.length c, .int .i64 pa.h] ∧ BlkV W y 55 #[.string pb.nm, .slice B pb.l.length d, .int .i64 pb.h] ∧ BlkV W z 55 #[.string pc.nm, .slice C pc.l.length e, .int .i64 pc.h] ∧ Below w.heap.size w W
section
variable {x y z : Nat} {X A0 : Option Addr} {ch c0 nh np : Nat} {pa pb pc : Pl} {A B C : Option Addr} {c d e : Nat} {w W W' : World}
theorem HeldPl.below (h : HeldPl x y z X A0 ch c0 nh np pa pb pc A B C c d e w W) (hb : Below W.heap.size W W') : HeldPl x y z X A0 ch c0 nh np pa pb pc A B C c d e w W' :=
  ⟨h.1.below hb h.1.lt, h.2.1.below hb h.2.1.lt, h.2.2.1.below hb h.2.2.1.lt, h.2.2.2.1.below hb h.2.2.2.1.lt, h.2.2.2.2.trans (hb.mono h.2.2.2.2.size)⟩
theorem HeldPl.low (h : HeldPl x y z X A0 ch c0 nh np pa pb pc A B C c d e w W) : Below w.heap.size w W := h.2.2.2.2
theorem HeldPl.s11 (h : HeldPl x y z X A0 ch c0 nh np pa pb pc A B C c d e w W) :
    W.cell? ⟨w.heap.size, 0, none⟩ = some (.slice X nh ch) ∧ W.cell? ⟨w.heap.size, 1, none⟩ = some (.slice A0 np c0) ∧ W.cell? ⟨x, 0, none⟩ = some (.string pa.nm) ∧ W.cell? ⟨x, 1, none⟩ = some (.slice A pa.l.length c) ∧ W.cell? ⟨x, 2, none⟩ = some (.int .i64 pa.h) ∧
    W.cell? ⟨y, 0, none⟩ = some (.string pb.nm) ∧ W.cell? ⟨y, 1, none⟩ = some (.slice B pb.l.length d) ∧ W.cell? ⟨y, 2, none⟩ = some (.int .i64 pb.h) ∧
    W.cell? ⟨z, 0, none⟩ = some (.string pc.nm) ∧ W.cell? ⟨z, 1, none⟩ = some (.slice C pc.l.length e) ∧ W.cell? ⟨z, 2, none⟩ = some (.int .i64 pc.h) :=
  ⟨h.1.cell 0, h.1.cell 1, h.2.1.cell 0, h.2.1.cell 1, h.2.1.cell 2, h.2.2.1.cell 0, h.2.2.1.cell 1, h.2.2.1.cell 2, h.2.2.2.1.cell 0, h.2.2.2.1.cell 1, h.2.2.2.1.cell 2⟩
end

set_option maxRecDepth 100000 in
set_option maxHeartbeats 16000000 in
theorem partners_few (X A0 : Option Addr) (ch c0 nh np : Nat) (w : World) (fq : Bool) (hn : fq = false ∨ (fq = true ∧ np < 3))
    (kF : ∀ W, Below w.heap.size w W → Calls Tryz.prog 19 #[.agg #[.slice X nh ch, .slice A0 np c0]] W fun e w' => e = .returned (.bool fq) ∧ Below W.heap.size W w')
    (kL : ∀ W, Below w.heap.size w W → Calls Tryz.prog 20 #[] W fun e w' => e = .returned (.bool true) ∧ Below W.heap.size W w') :
    Calls Tryz.prog 6 #[.agg #[.slice X nh ch, .slice A0 np c0]] w fun e w' => e = .returned (.bool true) ∧ Below w.heap.size w w' := by
  have HKF := Lib.hid kF
  have HKL := Lib.hid kL
  clear kF kL
  have hlt : fq = true → decide ((np : Int) < 3) = true := fun h => by
    rcases hn with h2 | ⟨_, h2⟩
    · rw [h] at h2; cases h2
    · exact decide_eq_true (by omega)
  clear hn
  go_enter Tryz.func6, Tryz.ntmps6
  go_wp2_with fail
  generalize hW0 : w.alloc (.cells #[.slice X nh ch, .slice A0 np c0] 25) = W0
  obtain ⟨a1, a2, a3⟩ := one_alloc w _ _ hW0
  have HBX := Lib.hid a1
  have HB0 := Lib.hid a2
  clear hW0 a1 a2 a3
  refine (HKF.out W0 HB0.out).mono ?_
  rintro e w1 ⟨rfl, hb1⟩
  have hbx := HBX.out.below hb1 HBX.out.lt
  have x0 := hbx.cell 0
  have x1 := hbx.cell 1
  simp only [List.getElem?_toArray, List.getElem?_cons_zero, List.getElem?_cons_succ] at x0 x1
  have HB1 := Lib.hid (HB0.out.trans (hb1.mono HB0.out.size))
  clear hbx hb1
  cases fq
  · go_wp2_with fail
    refine (HKL.out _ HB1.out).mono ?_
    rintro e w2 ⟨rfl, hb2⟩
    have HB2 := Lib.hid (HB1.out.trans (hb2.mono HB1.out.size))
    clear hb2
    go_wp2
    go_ret
    exact ⟨rfl, HB2.out⟩
  · have hlt2 := hlt rfl
    clear hlt
    go_wp2_with fail
    refine (HKL.out _ HB1.out).mono ?_
    rintro e w2 ⟨rfl, hb2⟩
    have HB2 := Lib.hid (HB1.out.trans (hb2.mono HB1.out.size))
    clear hb2
    go_wp2
    go_ret
    exact ⟨rfl, HB2.out⟩

end Go.Proofs.YtbckfkopdojggaaGreatDoor
