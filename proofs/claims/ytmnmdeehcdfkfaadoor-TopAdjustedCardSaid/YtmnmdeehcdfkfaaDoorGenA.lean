/- Words for the contracts: errors by tests, lists of integers in memory. -/
import Derived.Test.YtmnmdeehcdfkfaaDoorProg
import Derived.WalkKit
import Derived.WalkSpells
import Derived.WalkLawsBesides
import Derived.Lib.Hide
namespace Go.Proofs.YtmnmdeehcdfkfaaDoor
open Go.RowKit

def letB (r : Int) : Bool := (decide (65 ≤ r) && decide (r ≤ 90)) || (decide (97 ≤ r) && decide (r ≤ 122))
/-- The results of unless and within, as closed words: the walk doesn't take them apart. -/
def unlessI (b : Bool) (n : Int) : Int := if b then 0 else n
def withinI (n a b : Int) : Int := if a ≤ n ∧ n ≤ b then 0 else 3
def digB (r : Int) : Bool := decide (48 ≤ r) && decide (r ≤ 57)

/-- A slice's address under which the integers of a list lie, one a cell. -/
def Ints (w : World) (A : Option Addr) (xs : List Int) : Prop :=
  ∀ j, j < xs.length → ∃ a, A = some a ∧ w.cell? (a.add j) = some (.int .i64 (xs.getD j 0))

def firstI : List Int → Int
  | [] => 0
  | x :: l => if x = 0 then firstI l else x

theorem firstI_drop (xs : List Int) (k : Nat) (h : k < xs.length) :
    firstI (xs.drop k) = if xs.getD k 0 = 0 then firstI (xs.drop (k + 1)) else xs.getD k 0 := by
  rw [List.drop_eq_getElem_cons h]
  simp [firstI, List.getD, List.getElem?_eq_getElem h]

theorem Ints.of_block {w : World} {g T : Nat} {fr : Nat × Nat} {cs : Array Value} (h : w.heap[g]? = some (.cells cs T fr)) (xs : List Int)
    (hx : ∀ j, j < xs.length → cs[j]? = some (.int .i64 (xs.getD j 0))) : Ints w (some ⟨g, 0, none⟩) xs := fun j hj => by
  refine ⟨_, rfl, ?_⟩
  have e : (Addr.add ⟨g, 0, none⟩ j) = ⟨g, j, none⟩ := by
    unfold Addr.add
    split
    · rename_i h0; rw [h0]
    · simp
  rw [e, cell_of_row w g j cs T fr h, hx j hj]

theorem Ints.two (w : World) (g T : Nat) (x y : Int) (hg : w.heap.size = g) :
    Ints (w.alloc (.cells #[.int .i64 x, .int .i64 y] T)) (some ⟨g, 0, none⟩) [x, y] := by
  subst hg
  exact Ints.of_block (heap_alloc_new w _) _ fun j hj => match j, hj with
    | 0, _ => rfl
    | 1, _ => rfl

theorem Ints.three (w : World) (g T : Nat) (x y z : Int) (hg : w.heap.size = g) :
    Ints (w.alloc (.cells #[.int .i64 x, .int .i64 y, .int .i64 z] T)) (some ⟨g, 0, none⟩) [x, y, z] := by
  subst hg
  exact Ints.of_block (heap_alloc_new w _) _ fun j hj => match j, hj with
    | 0, _ => rfl
    | 1, _ => rfl
    | 2, _ => rfl

def pairedI (n m : Nat) : Int := if n = m then 0 else 2
def sizedI (n : Nat) (m : Int) : Int := if n = 0 then 12 else if (n : Int) ≤ m then 0 else 5

end Go.Proofs.YtmnmdeehcdfkfaaDoor
