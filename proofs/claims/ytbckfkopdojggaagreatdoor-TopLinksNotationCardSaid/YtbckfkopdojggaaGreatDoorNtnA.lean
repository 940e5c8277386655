/- The reference's SameEntries of a list and itself. -/
import Derived.Test.YtbckfkopdojggaaGreatDoorMgD
import Derived.Laws.StructEq
import Derived.BigQuiet
import Derived.Deep.QuietTactic
import Derived.Outline
set_option linter.unusedVariables false
set_option linter.unusedSimpArgs false
namespace Go.Proofs.YtbckfkopdojggaaGreatDoor
open Go.RowKit

set_option maxRecDepth 100000 in
set_option maxHeartbeats 4000000 in
theorem sameEntries_any (A B : Option Addr) (c d : Nat) (nl : List (Int × ByteArray)) (w : World) (ha : EntriesR w A nl) (hb : EntriesR w B nl) (hl : nl.length ≤ 1000) :
    Calls Tryz.prog 23 #[.slice A nl.length c, .slice B nl.length d] w fun e w' => e = .returned (.bool true) ∧ ∃ n, w' = w.drewN n := by
  have HA := Lib.hid ha
  have HB := Lib.hid hb
  have hbn := bne_self_eq_false' (nl.length : Int)
  clear ha hb
  go_enter Tryz.func23, Tryz.ntmps23
  go_wp2
  go_loopw [5] (fun kv w' => ∃ k n : Nat, k ≤ nl.length ∧ w' = w.drewN n ∧ kv = .int .i64 k) (fun kv _ => nl.length - (intOf kv).toNat)
  case atStart => exact ⟨0, 0, Nat.zero_le _, rfl, rfl⟩
  case round =>
    obtain ⟨k, n, hk, rfl, rfl⟩ := hrel
    have hk0 : (0 : Int) ≤ (k : Int) := Int.natCast_nonneg _
    by_cases hlt : k < nl.length
    · have hk1 : (k : Int) < (nl.length : Int) := by omega
      obtain ⟨a, rfl, d0, d1, _⟩ := HA.out k hlt
      obtain ⟨b, rfl, e0, e1, _⟩ := HB.out k hlt
      generalize nl.getD k (0, ByteArray.empty) = en at d0 d1 e0 e1
      obtain ⟨s, m⟩ := en
      simp only at d0 d1 e0 e1
      have hs : (s == s) = true := beq_self_eq_true s
      have hm : (m.toList == m.toList) = true := beq_self_eq_true _
      go_wp2
      go_quiet (fail)
      go_wp2
      go_roundw
      case rel => exact ⟨k + 1, _, by omega, rfl, by go_num⟩
      case measure => simp [intOf]; omega
    · go_wp2
      go_ret
      exact ⟨rfl, n, rfl⟩

end Go.Proofs.YtbckfkopdojggaaGreatDoor
