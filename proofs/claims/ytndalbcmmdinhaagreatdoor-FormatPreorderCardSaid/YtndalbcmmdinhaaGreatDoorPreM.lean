/- FormatPreorder: its plain mathematics. -/
import Derived.Test.YtndalbcmmdinhaaGreatDoorMgC
set_option linter.unusedVariables false
set_option linter.unusedSimpArgs false
namespace Go.Proofs.YtndalbcmmdinhaaGreatDoor
open ForMath

theorem ranksM_len (ls : List (List Int)) : (ranks ls).length = ls.length := by simp [ranks]
theorem ranksM_at (ls : List (List Int)) (k : Nat) (h : k < ls.length) : (ranks ls).getD k 0 = 1 + ((ForMath.ahead ls (ls.getD k []) : Nat) : Int) := by
  simp [ranks, ForMath.ahead, List.getD, List.getElem?_eq_getElem h]
theorem mem_getD {α : Type} {l : List α} {k : Nat} (d : α) (h : k < l.length) : l.getD k d ∈ l := by simp [List.getD, List.getElem?_eq_getElem h]
/-- A smaller rank, just if count-back says so. -/
theorem pre_lt (n : Nat) (ls : List (List Int)) (hl : ∀ y ∈ ls, y.length = n) (i k : Nat) (hi : i < ls.length) (hk : k < ls.length) :
    decide ((ranks ls).getD i 0 < (ranks ls).getD k 0) = decide (cback (ls.getD i []) (ls.getD k []) < 0) := by
  rw [ranksM_at ls i hi, ranksM_at ls k hk]
  have h := ahead_lt n ls hl (ls.getD i []) (ls.getD k []) (mem_getD _ hi) (mem_getD _ hk)
  exact decide_eq_decide.2 ⟨fun g => h.1 (by omega), fun g => by have := h.2 g; omega⟩
/-- One more than the ranks below this one among the first k. -/
def lessT (ls : List (List Int)) (x : Int) (k : Nat) : Int := 1 + ((((ranks ls).take k).filter fun r => decide (r < x)).length : Int)
theorem lessT_zero (ls : List (List Int)) (x : Int) : lessT ls x 0 = 1 := rfl
theorem lessT_succ (ls : List (List Int)) (x : Int) (k : Nat) (h : k < ls.length) : lessT ls x (k + 1) = if (ranks ls).getD k 0 < x then lessT ls x k + 1 else lessT ls x k := by
  unfold lessT
  have hk : k < (ranks ls).length := by rw [ranksM_len]; exact h
  rw [List.take_succ_eq_append_getElem hk, List.filter_append]
  have e : (ranks ls).getD k 0 = (ranks ls)[k] := by simp [List.getD, List.getElem?_eq_getElem hk]
  rw [e]
  by_cases g : (ranks ls)[k] < x
  · rw [if_pos g, List.filter_cons_of_pos (by simpa using g)]
    simp only [List.filter_nil, List.length_append, List.length_cons, List.length_nil]
    omega
  · rw [if_neg g, List.filter_cons_of_neg (by simpa using g)]
    simp
theorem lessT_bound (ls : List (List Int)) (x : Int) (k : Nat) : 1 ≤ lessT ls x k ∧ lessT ls x k ≤ 1 + (k : Int) := by
  unfold lessT
  have h1 := List.length_filter_le (fun r => decide (r < x)) ((ranks ls).take k)
  have h2 := List.length_take_le k (ranks ls)
  omega
theorem lessT_all (n : Nat) (ls : List (List Int)) (hl : ∀ y ∈ ls, y.length = n) (i k : Nat) (hi : i < ls.length) (hk : ls.length ≤ k) : lessT ls ((ranks ls).getD i 0) k = (ranks ls).getD i 0 := by
  have h := ahead_count n ls hl (ls.getD i []) (mem_getD _ hi)
  rw [ranksM_at ls i hi]
  unfold lessT
  rw [List.take_of_length_le (by rw [ranksM_len]; exact hk)]
  have e : ((ranks ls).filter fun r => decide (r < 1 + ((ForMath.ahead ls (ls.getD i []) : Nat) : Int))).length = ((ls.map (ForMath.ahead ls)).filter fun r => decide (r < ForMath.ahead ls (ls.getD i []))).length := by
    have e1 : ranks ls = (ls.map (ForMath.ahead ls)).map fun r : Nat => (1 : Int) + (r : Int) := by simp [ranks, ForMath.ahead]
    rw [e1, List.filter_map, List.length_map]
    congr 1
    apply List.filter_congr
    intro r _
    show decide ((1 : Int) + (r : Int) < 1 + ((ForMath.ahead ls (ls.getD i []) : Nat) : Int)) = _
    exact decide_eq_decide.2 ⟨fun g => by omega, fun g => by omega⟩
  rw [e, h]
/-- Count-back between lists of one length: its range, its two ways, itself, three of them. -/
theorem pre_two (n : Nat) (ls : List (List Int)) (hl : ∀ y ∈ ls, y.length = n) (i k : Nat) (hi : i < ls.length) (hk : k < ls.length) :
    cback (ls.getD k []) (ls.getD i []) = -cback (ls.getD i []) (ls.getD k []) := cback_anti _ _ (by rw [hl _ (mem_getD _ hi), hl _ (mem_getD _ hk)])
theorem pre_three (n : Nat) (ls : List (List Int)) (hl : ∀ y ∈ ls, y.length = n) (i k m : Nat) (hi : i < ls.length) (hk : k < ls.length)
    (h1 : cback (ls.getD i []) (ls.getD k []) ≤ 0) (h2 : cback (ls.getD k []) (ls.getD m []) ≤ 0) : cback (ls.getD i []) (ls.getD m []) ≤ 0 :=
  (cback_trans _ _ _ (by rw [hl _ (mem_getD _ hi), hl _ (mem_getD _ hk)]) h1 h2).1
end Go.Proofs.YtndalbcmmdinhaaGreatDoor
