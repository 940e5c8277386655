/- FormatTurned: the law, for any lists. -/
import Derived.Test.YtkhhkicfeaeddaaGreatDoorTurW
import Derived.Test.YtkhhkicfeaeddaaGreatDoorTurC
set_option linter.unusedVariables false
set_option linter.unusedSimpArgs false
namespace Go.Proofs.YtkhhkicfeaeddaaGreatDoor
open Go.RowKit

theorem turned_any (A B : Option Addr) (c d : Nat) (xa xb : List (Int × ByteArray)) (r0 r1 : Int) (w : World) (ha : EntriesR w A xa) (hb : EntriesR w B xb) (la : xa.length ≤ 4611686018427387904) (lb : xb.length ≤ 4611686018427387904) :
    Calls Tryz.prog 5 #[.slice A xa.length c, .slice B xb.length d, .agg #[.int .i64 r0, .int .i64 r1]] w fun e w' => e = .returned (.bool true) ∧ Below w.heap.size w w' := by
  cases h1 : briefB xa
  · exact turned_w1 A B c d xa xb r0 r1 w ha hb la lb h1
  · cases h2 : briefB xb
    · exact turned_w2 A B c d xa xb r0 r1 w ha hb la lb h1 h2
    · by_cases h3 : netsI xa = 0
      · by_cases h4 : netsI xb = 0
        · by_cases h5 : xa.length = xb.length
          · exact turned_yes A B c d xa xb r0 r1 w ha hb h1 h2 (sidesE_of h3 h4 h5)
          · exact turned_w5 A B c d xa xb r0 r1 w ha hb la lb h1 h2 h3 h4 h5
        · exact turned_w4 A B c d xa xb r0 r1 w ha hb la lb h1 h2 h3 _ rfl h4
      · exact turned_w3 A B c d xa xb r0 r1 w ha hb la lb h1 h2 _ rfl h3
end Go.Proofs.YtkhhkicfeaeddaaGreatDoor
