/- The reference's SameNets of a list and itself; the law's nets. -/
import Derived.Test.YtkhhkicfeaeddaaGreatDoorScoA
import Derived.Laws.StructEq
import Derived.Outline
set_option linter.unusedVariables false
set_option linter.unusedSimpArgs false
namespace Go.Proofs.YtkhhkicfeaeddaaGreatDoor
open Go.RowKit

set_option maxRecDepth 100000 in
set_option maxHeartbeats 4000000 in
theorem sameNets_any (A B : Option Addr) (c d : Nat) (nl : List (Int × ByteArray)) (w : World) (ha : EntriesR w A nl) (hb : EntriesR w B nl) (hl : nl.length ≤ 1000) :
    Calls Tryz.prog 25 #[.slice A nl.length c, .slice B nl.length d] w fun e w' => e = .returned (.bool true) ∧ ∃ n, w' = w.drewN n := by
  have HA := Lib.hid ha
  have HB := Lib.hid hb
  have hbn := bne_self_eq_false' (nl.length : Int)
  clear ha hb
  go_enter Tryz.func25, Tryz.ntmps25
  go_wp2
  go_loopw [5] (fun kv w' => ∃ k n : Nat, k ≤ nl.length ∧ w' = w.drewN n ∧ kv = .int .i64 k) (fun kv _ => nl.length - (intOf kv).toNat)
  case atStart => exact ⟨0, 0, Nat.zero_le _, rfl, rfl⟩
  case round =>
    obtain ⟨k, n, hk, rfl, rfl⟩ := hrel
    have hk0 : (0 : Int) ≤ (k : Int) := Int.natCast_nonneg _
    by_cases hlt : k < nl.length
    · have hk1 : (k : Int) < (nl.length : Int) := by omega
      obtain ⟨a, rfl, d0, d1, _⟩ := HA.out k hlt
      obtain ⟨b, rfl, e0, e1, _⟩ := HB.out k hlt
      generalize nl.getD k (0, ByteArray.empty) = en at d0 d1 e0 e1
      obtain ⟨s, m⟩ := en
      simp only at d0 d1 e0 e1
      have hs : (s == s) = true := beq_self_eq_true s
      have hm : (m.toList == m.toList) = true := beq_self_eq_true _
      go_wp2
      go_quiet (fail)
      go_wp2
      go_roundw
      case rel => exact ⟨k + 1, _, by omega, rfl, by go_num⟩
      case measure => simp [intOf]; omega
    · go_wp2
      go_ret
      exact ⟨rfl, n, rfl⟩

set_option maxRecDepth 100000 in
set_option maxHeartbeats 4000000 in
theorem lawNets_any (A : Option Addr) (c : Nat) (nl : List (Int × ByteArray)) (w : World) (he : EntriesR w A nl) (hl : nl.length ≤ 1000) :
    Calls Tryz.prog 8 #[.slice A nl.length c] w fun e w' => ∃ v, e = .returned v ∧ PairsOwn w' w.heap.size 91 v nl ∧ Below w.heap.size w w' := by
  have HE := Lib.hid he
  clear he
  go_enter Tryz.func8, Tryz.ntmps8
  go_wp2
  go_loopw [3, 8] (fun v kv w' => ∃ k : Nat, k ≤ nl.length ∧ kv = .int .i64 k ∧ PairsOwn w' w.heap.size 91 v (nl.take k) ∧ Below w.heap.size w w') (fun _ kv _ => nl.length - (intOf kv).toNat)
  case atStart => exact ⟨0, Nat.zero_le _, rfl, PairsOwn.nil _ _ _, Below.refl _ _⟩
  case round =>
    obtain ⟨k, hk, rfl, hown, hb⟩ := hrel
    have HOWN := Lib.hid hown
    have HB := Lib.hid hb
    clear hown hb
    have hk0 : (0 : Int) ≤ (k : Int) := Int.natCast_nonneg _
    by_cases hlt : k < nl.length
    · have hk1 : (k : Int) < (nl.length : Int) := by omega
      obtain ⟨a, rfl, d0, d1, _⟩ := (HE.out.keep HB.out) k hlt
      have HTK : Hid (nl.take (k + 1) = nl.take k ++ [nl.getD k (0, ByteArray.empty)]) := Lib.hid (by
        rw [List.take_succ_eq_append_getElem hlt]; simp [List.getD, List.getElem?_eq_getElem hlt])
      have HLEN : Hid ((nl.take k).length ≤ 1000) := Lib.hid (by have := List.length_take_le k nl; omega)
      have ha := (Below.refl wr.heap.size wr).alloc (Nat.le_refl _) (.cells #[.int .i64 (nl.getD k (0, ByteArray.empty)).1, .string (nl.getD k (0, ByteArray.empty)).2] 70)
      have hen := BlkV.new wr 70 #[.int .i64 (nl.getD k (0, ByteArray.empty)).1, .string (nl.getD k (0, ByteArray.empty)).2]
      have HAPP := Lib.hid (append_net w.heap.size (nl.getD k (0, ByteArray.empty)) _ u3 _ (by have := HB.out.size; have := ha.size; omega) HLEN.out (HOWN.out.below ha))
      have HBA := Lib.hid (HB.out.trans (ha.mono HB.out.size))
      rw [show (wr.alloc (.cells #[.int .i64 (nl.getD k (0, ByteArray.empty)).1, .string (nl.getD k (0, ByteArray.empty)).2] 70)).heap.size = wr.heap.size + 1 by simp] at HAPP
      clear ha
      generalize nl.take k = tk at HTK HAPP HOWN
      generalize nl.getD k (0, ByteArray.empty) = en at d0 d1 HTK HAPP hen HBA
      obtain ⟨s, m⟩ := en
      simp only at d0 d1 HTK HAPP hen HBA
      have e0 := hen.cell 0
      have e1 := hen.cell 1
      simp only [List.getElem?_toArray, List.getElem?_cons_zero, List.getElem?_cons_succ] at e0 e1
      clear hen
      obtain ⟨v', w4, hrun, ho, hb4⟩ := HAPP.out
      have HRUN := Lib.hid hrun
      have HO := Lib.hid ho
      have HB4 := Lib.hid (HBA.out.trans hb4)
      clear hrun ho hb4 HAPP HOWN HBA
      go_wp2_with (at_builtin; refine wpList_append_go rfl _ _ 27 rfl _ _ v' w4 rfl rfl HRUN.out ?_)
      go_roundw
      case rel => exact ⟨k + 1, by omega, by go_num, by rw [HTK.out]; exact HO.out, HB4.out⟩
      case measure => simp [intOf]; omega
    · have HF : Hid (nl.take k = nl) := Lib.hid (List.take_of_length_le (by omega))
      go_wp2
      go_ret
      exact ⟨_, rfl, by have := HOWN.out; rwa [HF.out] at this, HB.out⟩
end Go.Proofs.YtkhhkicfeaeddaaGreatDoor
