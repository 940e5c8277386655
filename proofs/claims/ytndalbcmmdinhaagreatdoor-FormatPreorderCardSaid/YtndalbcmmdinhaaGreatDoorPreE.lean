/- FormatPreorder: for any lists. -/
import Derived.Test.YtndalbcmmdinhaaGreatDoorPreD
import Derived.Test.YtndalbcmmdinhaaGreatDoorPreB
set_option linter.unusedVariables false
set_option linter.unusedSimpArgs false
namespace Go.Proofs.YtndalbcmmdinhaaGreatDoor
open Go.RowKit
theorem pre_any (A : Option Addr) (c : Nat) (ls : List (List Int)) (w : World) (h : ListsR w A ls) :
    Calls Tryz.prog 8 #[.slice A ls.length c] w fun e w' => e = .returned (.bool true) ∧ Below w.heap.size w w' := by
  by_cases hn : ls.length ≤ 6 ∧ shortLB ls = true ∧ ranksE ls = 0
  · exact pre_main A c ls w h hn.1 hn.2.1 hn.2.2
  · exact pre_wrong A c ls w h hn
end Go.Proofs.YtndalbcmmdinhaaGreatDoor
