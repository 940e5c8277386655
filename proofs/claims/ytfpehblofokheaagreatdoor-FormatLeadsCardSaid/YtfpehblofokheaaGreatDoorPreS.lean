/- Lists that are short. -/
import Derived.Test.YtfpehblofokheaaGreatDoorMgG
import Derived.Outline
set_option linter.unusedVariables false
set_option linter.unusedSimpArgs false
namespace Go.Proofs.YtfpehblofokheaaGreatDoor
open Go.RowKit

theorem lineI_if (n : Nat) (y : List Int) : lineI numsC n y = if numsI y 36 = 0 then (if y.length = n then 0 else 2) else numsI y 36 := by
  unfold lineI numsC
  by_cases g1 : numsI y 36 = 0
  · rw [g1]
    by_cases g2 : y.length = n
    · rw [decide_eq_true g2, if_pos g2]; rfl
    · rw [decide_eq_false g2, if_neg g2]; rfl
  · rw [if_neg g1]
    simp only [firstI, if_neg g1]
def shortLB (ls : List (List Int)) : Bool := ls.all fun y => decide (y.length ≤ 39)
theorem shortL_len {ls : List (List Int)} (h : shortLB ls = true) : ∀ y ∈ ls, y.length ≤ 39 := fun y hy => by
  unfold shortLB at h
  simpa using List.all_eq_true.1 h y hy
end Go.Proofs.YtfpehblofokheaaGreatDoor
