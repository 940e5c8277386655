/- A number's numeral. -/
import Derived.Test.YtfpehblofokheaaGreatDoorMgA
import Derived.Lib.ItoaNum
set_option linter.unusedVariables false
set_option linter.unusedSimpArgs false
namespace Go.Proofs.YtfpehblofokheaaGreatDoor
open Go.RowKit

/-- A small number's numeral. -/
def numB (n : Nat) : ByteArray := ⟨(Lib.decDigits n).toArray⟩
theorem numB_size (n : Nat) (h : n < 100) : (numB n).size ≤ 100 := by
  by_cases g : n < 10
  · unfold numB; rw [Lib.decDigits_one g]; simp [ByteArray.size]
  · unfold numB; rw [Lib.decDigits_two g h]; simp [ByteArray.size]

end Go.Proofs.YtfpehblofokheaaGreatDoor
