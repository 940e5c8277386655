/- The small functions of package course: unless, within, first, isIndex; each returns what its Lean function says and leaves the world alone. -/
import Derived.Test.YtclhohfkacgooaaProg
import Derived.WalkKit
import Derived.WalkSpells
import Derived.WalkLawsBesides
import Derived.Lib.Hide
namespace Go.Proofs.Ytclhohfkacgooaa
open Go.RowKit

/-- The results of unless and within, as closed words: the walk doesn't take them apart. -/
def unlessI (b : Bool) (n : Int) : Int := if b then 0 else n
def withinI (n a b : Int) : Int := if a ≤ n ∧ n ≤ b then 0 else 3
def indexB (n l : Int) : Bool := decide (0 ≤ n ∧ n < l)

set_option maxHeartbeats 400000 in
theorem unless_any (b : Bool) (n : Int) (w : World) :
    Calls Try.prog 29 #[.bool b, .int .i64 n] w fun e w' => e = .returned (.int .i64 (unlessI b n)) ∧ w = w' := by
  cases b
  all_goals
    go_enter Try.func29, Try.ntmps29
    go_wp2
    go_ret
    exact ⟨rfl, rfl⟩

set_option maxHeartbeats 400000 in
theorem within_any (n a b : Int) (w : World) :
    Calls Try.prog 28 #[.int .i64 n, .int .i64 a, .int .i64 b] w fun e w' => e = .returned (.int .i64 (withinI n a b)) ∧ w = w' := by
  by_cases h1 : a ≤ n <;> by_cases h2 : n ≤ b
  all_goals
    go_enter Try.func28, Try.ntmps28
    go_wp2_with (go_at_call 29; refine (unless_any _ _ _).mono ?_; rintro e w' ⟨rfl, rfl⟩)
    go_ret
    exact ⟨by simp [withinI, unlessI, h1, h2], rfl⟩

set_option maxHeartbeats 400000 in
theorem isIndex_any (n l : Int) (w : World) :
    Calls Try.prog 30 #[.int .i64 n, .int .i64 l] w fun e w' => e = .returned (.bool (indexB n l)) ∧ w = w' := by
  by_cases h1 : 0 ≤ n <;> by_cases h2 : n < l
  all_goals
    go_enter Try.func30, Try.ntmps30
    go_wp2
    go_ret
    exact ⟨by simp [indexB, h1, h2], rfl⟩

theorem isIndex_is (n l : Int) (b : Bool) (h : indexB n l = b) (w : World) :
    Calls Try.prog 30 #[.int .i64 n, .int .i64 l] w fun e w' => e = .returned (.bool b) ∧ w = w' := by
  subst h; exact isIndex_any n l w

/-- A slice's address under which the integers of a list lie, one a cell. -/
def Ints (w : World) (A : Option Addr) (xs : List Int) : Prop :=
  ∀ j, j < xs.length → ∃ a, A = some a ∧ w.cell? (a.add j) = some (.int .i64 (xs.getD j 0))

def firstI : List Int → Int
  | [] => 0
  | x :: l => if x = 0 then firstI l else x

theorem firstI_drop (xs : List Int) (k : Nat) (h : k < xs.length) :
    firstI (xs.drop k) = if xs.getD k 0 = 0 then firstI (xs.drop (k + 1)) else xs.getD k 0 := by
  rw [List.drop_eq_getElem_cons h]
  simp [firstI, List.getD, List.getElem?_eq_getElem h]

set_option maxHeartbeats 400000 in
theorem first_any (A : Option Addr) (c : Nat) (xs : List Int) (w : World) (hl : xs.length ≤ 4611686018427387904) (h : Ints w A xs) :
    Calls Try.prog 24 #[.slice A xs.length c] w fun e w' => e = .returned (.int .i64 (firstI xs)) ∧ w = w' := by
  have H := Lib.hid h
  clear h
  go_enter Try.func24, Try.ntmps24
  go_wp2
  go_loop [7] (fun i => ∃ k : Nat, k ≤ xs.length ∧ i = .int .i64 k ∧ firstI (xs.drop k) = firstI xs) (fun i => xs.length - (intOf i).toNat)
  case atStart => exact ⟨0, Nat.zero_le _, rfl, rfl⟩
  case round =>
    obtain ⟨k, hk, rfl, hd⟩ := hrel
    have HD := Lib.hid hd
    clear hd
    by_cases hlt : k < xs.length
    · obtain ⟨a, rfl, hc⟩ := H.out k hlt
      have hs := Lib.hid (firstI_drop xs k hlt)
      generalize xs.getD k 0 = x at hc hs
      by_cases hx : x = 0
      · subst hx
        go_wp2
        go_round
        case rel => exact ⟨k + 1, by omega, by go_num, by have := hs.out; simp at this; rw [← this]; exact HD.out⟩
        case measure => simp [intOf]; omega
      · have hxb : (x != 0) = true := by simpa using hx
        go_wp2
        go_ret
        have := hs.out
        rw [if_neg hx] at this
        exact ⟨by rw [← this, HD.out]; rfl, rfl⟩
    · have : k = xs.length := by omega
      go_wp2
      go_ret
      have hd := HD.out
      rw [List.drop_eq_nil_of_le (by omega)] at hd
      exact ⟨by rw [← hd]; rfl, rfl⟩

theorem Ints.of_block {w : World} {g T : Nat} {fr : Nat × Nat} {cs : Array Value} (h : w.heap[g]? = some (.cells cs T fr)) (xs : List Int)
    (hx : ∀ j, j < xs.length → cs[j]? = some (.int .i64 (xs.getD j 0))) : Ints w (some ⟨g, 0, none⟩) xs := fun j hj => by
  refine ⟨_, rfl, ?_⟩
  have e : (Addr.add ⟨g, 0, none⟩ j) = ⟨g, j, none⟩ := by
    unfold Addr.add
    split
    · rename_i h0; rw [h0]
    · simp
  rw [e, cell_of_row w g j cs T fr h, hx j hj]

theorem Ints.two (w : World) (g T : Nat) (x y : Int) (hg : w.heap.size = g) :
    Ints (w.alloc (.cells #[.int .i64 x, .int .i64 y] T)) (some ⟨g, 0, none⟩) [x, y] := by
  subst hg
  exact Ints.of_block (heap_alloc_new w _) _ fun j hj => match j, hj with
    | 0, _ => rfl
    | 1, _ => rfl

theorem Ints.three (w : World) (g T : Nat) (x y z : Int) (hg : w.heap.size = g) :
    Ints (w.alloc (.cells #[.int .i64 x, .int .i64 y, .int .i64 z] T)) (some ⟨g, 0, none⟩) [x, y, z] := by
  subst hg
  exact Ints.of_block (heap_alloc_new w _) _ fun j hj => match j, hj with
    | 0, _ => rfl
    | 1, _ => rfl
    | 2, _ => rfl

end Go.Proofs.Ytclhohfkacgooaa
