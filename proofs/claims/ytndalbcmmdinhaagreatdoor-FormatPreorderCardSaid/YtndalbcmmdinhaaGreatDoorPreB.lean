/- The law FormatPreorder where its premises fail: chapter 5's fixed examples. -/
import Derived.Test.YtndalbcmmdinhaaGreatDoorAwkD
import Derived.Test.YtndalbcmmdinhaaGreatDoorPreA
import Derived.Outline
set_option linter.unusedVariables false
set_option linter.unusedSimpArgs false
namespace Go.Proofs.YtndalbcmmdinhaaGreatDoor
open Go.RowKit

set_option maxRecDepth 100000 in
set_option maxHeartbeats 2000000 in
theorem pre_wrong (A : Option Addr) (c : Nat) (ls : List (List Int)) (w : World) (h : ListsR w A ls) (hn : ¬ (ls.length ≤ 6 ∧ shortLB ls = true ∧ ranksE ls = 0)) :
    Calls Tryz.prog 8 #[.slice A ls.length c] w fun e w' => e = .returned (.bool true) ∧ Below w.heap.size w w' := by
  have H := Lib.hid h
  clear h
  by_cases h1 : ls.length ≤ 6
  · have b1 : decide ((6 : Int) < (ls.length : Int)) = false := decide_eq_false (by omega)
    have HS := Lib.hid (shortL_any A c ls w H.out (by omega))
    cases h2 : shortLB ls
    · rw [h2] at HS
      clear hn h2
      go_enter Tryz.func8, Tryz.ntmps8
      go_wp2_with fail
      refine HS.out.mono ?_
      rintro e w1 ⟨rfl, rfl⟩
      go_wp2_with fail
      refine (awake_any _).mono ?_
      rintro e w4 ⟨rfl, hb4⟩
      have HB4 := Lib.hid hb4
      clear hb4
      go_wp2
      go_ret
      exact ⟨rfl, HB4.out⟩
    · have h3 : ranksE ls ≠ 0 := fun g => hn ⟨h1, h2, g⟩
      have HC := Lib.hid (refLists_any A c ls w H.out (fun y hy => by have := shortL_len h2 y hy; omega))
      have hnb : (ranksE ls != 0) = true := bne_iff_ne.2 h3
      rw [show firstI [sizedI ls.length 200, listsI numsC ls] = ranksE ls from rfl] at HC
      rw [h2] at HS
      clear hn h2 h3
      generalize ranksE ls = q at HC hnb
      go_enter Tryz.func8, Tryz.ntmps8
      go_wp2_with fail
      refine HS.out.mono ?_
      rintro e w1 ⟨rfl, rfl⟩
      go_wp2_with fail
      refine HC.out.mono ?_
      rintro e w2 ⟨rfl, n, rfl⟩
      have HB2 := Lib.hid (below_drewN (Below.refl w.heap.size w) n)
      go_wp2_with fail
      refine (awake_any _).mono ?_
      rintro e w4 ⟨rfl, hb4⟩
      have HB4 := Lib.hid (HB2.out.trans (hb4.mono HB2.out.size))
      clear hb4
      go_wp2
      go_ret
      exact ⟨rfl, HB4.out⟩
  · have b1 : decide ((6 : Int) < (ls.length : Int)) = true := decide_eq_true (by omega)
    clear hn
    go_enter Tryz.func8, Tryz.ntmps8
    go_wp2_with fail
    refine (awake_any _).mono ?_
    rintro e w4 ⟨rfl, hb4⟩
    have HB4 := Lib.hid hb4
    clear hb4
    go_wp2
    go_ret
    exact ⟨rfl, HB4.out⟩
end Go.Proofs.YtndalbcmmdinhaaGreatDoor
