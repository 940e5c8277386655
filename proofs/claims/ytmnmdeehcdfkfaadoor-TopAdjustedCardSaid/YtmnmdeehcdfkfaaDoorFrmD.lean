/- netOf. -/
import Derived.Test.YtmnmdeehcdfkfaaDoorFrmC
import Derived.Outline
namespace Go.Proofs.YtmnmdeehcdfkfaaDoor
open Go.RowKit

def noMark : ByteArray := ⟨#[]⟩
/-- The net strokes of an entry where g strokes are given: the mark x or -, or the strokes less g. -/
def netV (g : Int) (e : Int × ByteArray) : Int × ByteArray := if markK e.2 = 2 ∨ markK e.2 = 3 then (0, e.2) else (e.1 - g, noMark)

set_option maxRecDepth 100000 in
set_option maxHeartbeats 1000000 in
theorem netOf_any (s g : Int) (m : ByteArray) (w : World) (hs : -1000 ≤ s ∧ s ≤ 1000) (hg : -10000 ≤ g ∧ g ≤ 10000) :
    Calls Tryd.prog 55 #[.agg #[.int .i64 s, .string m], .int .i64 g] w fun e w' => e = .returned (.agg #[.int .i64 (netV g (s, m)).1, .string (netV g (s, m)).2]) ∧ Below w.heap.size w w' := by
  rcases mark_cases m with ⟨h1, h2, h3, h4, h5⟩ | ⟨h1, h2, h3, h4, h5⟩ | ⟨h1, h2, h3, h4, h5⟩ | ⟨h1, h2, h3, h4, h5⟩ | ⟨h1, h2, h3, h4, h5⟩
  all_goals
    have H5 := Lib.hid h5
    clear h5
    go_enter Tryd.func55, Tryd.ntmps55
    go_wp2
    refine bodyPost_ret (v := .agg #[.int .i64 (netV g (s, m)).1, .string (netV g (s, m)).2]) ?_ rfl ⟨rfl, ?_⟩
    · unfold netV
      rw [show markK (s, m).2 = markK m from rfl, H5.out]
      simp [results, Tryd.results55, go_sem, noMark]
    · repeat first | exact Below.refl _ _ | apply Below.drew | refine Below.setCell ?_ (by simp <;> omega) _ | refine Below.alloc ?_ (by simp <;> omega) _

end Go.Proofs.YtmnmdeehcdfkfaaDoor
