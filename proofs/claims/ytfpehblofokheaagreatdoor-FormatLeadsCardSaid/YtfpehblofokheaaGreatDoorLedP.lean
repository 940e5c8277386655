/- Playoff of lists with an error. -/
import Derived.Test.YtfpehblofokheaaGreatDoorMgJ
import Derived.Outline
set_option linter.unusedVariables false
set_option linter.unusedSimpArgs false
namespace Go.Proofs.YtfpehblofokheaaGreatDoor
open Go.RowKit

set_option maxRecDepth 100000 in
set_option maxHeartbeats 1000000 in
theorem fmPlayoff_no (A : Option Addr) (c : Nat) (ls : List (List Int)) (z : Int) (w : World) (hls : ListsR w A ls) (hl : ls.length ≤ 4611686018427387904) (hll : ∀ y ∈ ls, y.length ≤ 4611686018427387904) (hE : playE ls = z) (hz : z ≠ 0) :
    Calls Tryz.prog 14 #[.slice A ls.length c] w fun e w' => e = .returned (.tuple #[.slice none 0 0, .int .i64 0, .int .i64 z]) ∧ Below w.heap.size w w' := by
  have HCL := Lib.hid (checkLists_play A c ls w hls hl hll)
  have HF : Hid (firstI [unlessI (decide (2 ≤ (ls.length : Int))) 2, unlessI (decide ((ls.length : Int) ≤ 200)) 5, listsI playC ls] = z) := Lib.hid hE
  have hzb : (z != 0) = true := by simpa using hz
  clear hls hE hll hz
  go_enter Tryz.func14, Tryz.ntmps14
  go_wp2_with fail
  refine (fmUnless_any _ _ _).mono ?_; rintro e w1 ⟨rfl, rfl⟩
  go_wp2_with fail
  refine (fmUnless_any _ _ _).mono ?_; rintro e w1 ⟨rfl, rfl⟩
  go_wp2_with fail
  refine HCL.out.mono ?_
  rintro e w2 ⟨rfl, hb2⟩
  have HB2 := Lib.hid hb2
  clear hb2
  go_wp2_with fail
  refine (fmFirst_any _ _ [_, _, _] _ (by simp) (Ints.three _ _ _ _ _ _ rfl)).mono ?_
  rintro e w3 ⟨rfl, rfl⟩
  rw [HF.out]
  go_wp2
  refine bodyPost_ret (v := .tuple #[.slice none 0 0, .int .i64 0, .int .i64 z]) ?_ rfl ⟨rfl, HB2.out.alloc HB2.out.size _⟩
  simp [results, Tryz.results14, go_sem]
end Go.Proofs.YtfpehblofokheaaGreatDoor
