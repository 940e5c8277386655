/- card.leading: how many entries at the beginning are equal. -/
import Derived.Test.YtbckfkopdojggaaGreatDoorMgB
import Derived.Outline
import Derived.Laws.StructEq
import Derived.Lib.Strings
set_option linter.unusedVariables false
set_option linter.unusedSimpArgs false
namespace Go.Proofs.YtbckfkopdojggaaGreatDoor
open Go.RowKit

def LeadN (l : List (Int × ByteArray)) (n : Nat) : Prop :=
  1 ≤ n ∧ n ≤ l.length ∧ (∀ j, j < n → l.getD j (0, ByteArray.empty) = l.getD 0 (0, ByteArray.empty)) ∧ (n < l.length → l.getD n (0, ByteArray.empty) ≠ l.getD 0 (0, ByteArray.empty))

set_option maxRecDepth 100000 in
set_option maxHeartbeats 1000000 in
theorem leading_any (A : Option Addr) (c : Nat) (l : List (Int × ByteArray)) (w : World) (hr : EntriesR w A l) (h0 : 0 < l.length) (hl : l.length ≤ 4611686018427387904) :
    Calls Tryz.prog 117 #[.slice A l.length c] w fun e w' => ∃ n : Nat, e = .returned (.int .i64 n) ∧ LeadN l n ∧ ∃ k, w' = w.drewN k := by
  have HR := Lib.hid hr
  clear hr
  obtain ⟨a, rfl, z0, z1, _⟩ := HR.out 0 h0
  generalize hz : l.getD 0 (0, ByteArray.empty) = z at z0 z1
  have HZ := Lib.hid hz
  clear hz
  obtain ⟨s0, m0⟩ := z
  rw [Nat.zero_mul, Addr.add_zero'] at z0 z1
  simp only at z0 z1
  go_enter Tryz.func117, Tryz.ntmps117
  go_wp2
  go_loopw [3] (fun i w' => ∃ k n : Nat, 1 ≤ k ∧ k ≤ l.length ∧ w' = w.drewN n ∧ i = .int .i64 k ∧ ∀ j, j < k → l.getD j (0, ByteArray.empty) = (s0, m0)) (fun i _ => l.length - (intOf i).toNat)
  case atStart => exact ⟨1, 0, Nat.le_refl _, h0, rfl, rfl, fun j hj => by cases j with | zero => exact HZ.out | succ j => omega⟩
  case round =>
    obtain ⟨k, n, hk1, hk, rfl, rfl, hj⟩ := hrel
    have HJ := Lib.hid hj
    clear hj
    by_cases hlt : k < l.length
    · obtain ⟨a', ha', c0, c1, _⟩ := HR.out k hlt
      obtain rfl : a = a' := by injection ha'
      clear ha'
      generalize hx : l.getD k (0, ByteArray.empty) = x at c0 c1
      have HX := Lib.hid hx
      clear hx
      obtain ⟨s, m⟩ := x
      simp only at c0 c1
      have hlti : (k : Int) < (l.length : Int) := by omega
      have hk0 : (0 : Int) ≤ (k : Int) := Int.natCast_nonneg _
      have hl0 : (0 : Int) < (l.length : Int) := by omega
      cases hs : (s == s0)
      · have HS := Lib.hid hs
        go_wp2
        go_quiet (fail)
        go_wp2
        go_ret
        refine ⟨k, rfl, ⟨hk1, hk, fun j hj => ?_, fun _ e => ?_⟩, drewN2 _ _ _⟩
        · rw [HJ.out j hj, HZ.out]
        · rw [HX.out, HZ.out] at e
          have := HS.out
          simp only [Prod.mk.injEq] at e
          simp [e.1] at this
      · have HS := Lib.hid hs
        cases hm : (m.toList == m0.toList)
        · have HM := Lib.hid hm
          go_wp2
          go_quiet (fail)
          go_wp2
          go_ret
          refine ⟨k, rfl, ⟨hk1, hk, fun j hj => ?_, fun _ e => ?_⟩, drewN2 _ _ _⟩
          · rw [HJ.out j hj, HZ.out]
          · rw [HX.out, HZ.out] at e
            have := HM.out
            simp only [Prod.mk.injEq] at e
            simp [e.2] at this
        · have HE : Hid ((s, m) = (s0, m0)) := by
            show _ = _
            rw [eq_of_beq hs]
            congr 1
            have h9 : m.data.toList = m0.data.toList := by rw [← Lib.toList_data, ← Lib.toList_data, eq_of_beq hm]
            rw [← Lib.mk_data m, ← Lib.mk_data m0, h9]
          have HM := Lib.hid hm
          go_wp2
          go_quiet (fail)
          go_wp2
          go_roundw
          case rel =>
            refine ⟨k + 1, _, by omega, by omega, rfl, by go_num, fun j hj => ?_⟩
            by_cases e : j = k
            · rw [e, HX.out, HE.out]
            · exact HJ.out j (by omega)
          case measure => simp [intOf]; omega
    · have HK := Lib.hid (show k = l.length by omega)
      go_wp2
      go_quiet (fail)
      go_wp2
      go_ret
      refine ⟨k, rfl, ⟨hk1, hk, fun j hj => ?_, fun h => absurd h hlt⟩, drewN2 _ _ _⟩
      rw [HJ.out j hj, HZ.out]
end Go.Proofs.YtbckfkopdojggaaGreatDoor
