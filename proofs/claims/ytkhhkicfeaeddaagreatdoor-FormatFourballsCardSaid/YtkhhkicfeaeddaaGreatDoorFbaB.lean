/- The reference's Fourball. -/
import Derived.Test.YtkhhkicfeaeddaaGreatDoorFbaM
import Derived.Test.YtkhhkicfeaeddaaGreatDoorFbaA
import Derived.Outline
set_option linter.unusedVariables false
set_option linter.unusedSimpArgs false
namespace Go.Proofs.YtkhhkicfeaeddaaGreatDoor
open Go.RowKit

set_option maxRecDepth 100000 in
set_option maxHeartbeats 8000000 in
theorem refFourball_any (A H : Option Addr) (c ch : Nat) (hs : List (Int × Int)) (ps : List Pl) (w : World)
    (hrn : ∀ W, Below w.heap.size w W → ∀ p ∈ ps, ∀ B d, EntriesR W B p.l → Calls Tryz.prog 57 #[.slice H hs.length ch, .agg #[.string p.nm, .slice B p.l.length d, .int .i64 p.h]] W fun e w' => ∃ A' c', e = .returned (.slice A' hs.length c') ∧ EntriesR w' A' (netsOf hs p.h p.l) ∧ Below W.heap.size W w')
    (hnl : ∀ p ∈ ps, (netsOf hs p.h p.l).length = hs.length) (hp : PlayersR w A ps) (h1 : 0 < ps.length) (hl : ps.length ≤ 1000) (hlh : hs.length ≤ 1000) :
    Calls Tryz.prog 24 #[.slice H hs.length ch, .slice A ps.length c] w fun e w' => ∃ v, e = .returned v ∧ PairsOwn w' w.heap.size 91 v (joinedL minM hs ps) ∧ Below w.heap.size w w' := by
  have HRN := Lib.hid hrn
  have HP := Lib.hid hp
  have HNL := Lib.hid hnl
  have HJL := Lib.hid (joinedL_len minM hs ps)
  have HFI : Hid (∀ i, i < hs.length → ∀ e ∈ netsAt hs ps i, fineN e) := Lib.hid (fun i hi => netsAt_fine hnl hi)
  clear hrn hp hnl
  go_enter Tryz.func24, Tryz.ntmps24
  go_wp2
  go_loopw [5, 6] (fun v iv w' => ∃ i : Nat, i ≤ hs.length ∧ iv = .int .i64 i ∧ PairsOwn w' w.heap.size 91 v ((joinedL minM hs ps).take i) ∧ Below w.heap.size w w') (fun _ iv _ => hs.length - (intOf iv).toNat)
  case atStart => exact ⟨0, Nat.zero_le _, rfl, PairsOwn.nil _ _ _, Below.refl _ _⟩
  case round =>
    obtain ⟨i, hi, rfl, hown, hb⟩ := hrel
    have HOWN := Lib.hid hown
    have HB := Lib.hid hb
    clear hown hb
    have hi0 : (0 : Int) ≤ (i : Int) := Int.natCast_nonneg _
    by_cases hlt : i < hs.length
    · have hi1 : (i : Int) < (hs.length : Int) := by omega
      have HFN := Lib.hid (HFI.out i hlt)
      have HAL : Hid ((netsAt hs ps i).length = ps.length) := Lib.hid (netsAt_len hs ps i)
      have HAG := Lib.hid (fun k hk => netsAt_get hs ps i k hk)
      have HTK : Hid ((joinedL minM hs ps).take (i + 1) = (joinedL minM hs ps).take i ++ [minM (netsAt hs ps i)]) := Lib.hid (by
        have hh : i < (joinedL minM hs ps).length := by rw [HJL.out]; exact hlt
        rw [List.take_succ_eq_append_getElem hh]
        have := joinedL_at minM hs ps i hlt
        rw [List.getD, List.getElem?_eq_getElem hh] at this
        simp only [Option.getD_some] at this
        rw [this])
      have HLEN : Hid (((joinedL minM hs ps).take i).length ≤ 1000) := Lib.hid (by have := List.length_take_le i (joinedL minM hs ps); omega)
      generalize (joinedL minM hs ps).take i = tk at HOWN HTK HLEN
      generalize hna : netsAt hs ps i = na at HFN HAL HAG HTK
      have hg0 := BlkV.new wr 91 #[.int .i64 0, .string ⟨#[45]⟩]
      have HG0 := Lib.hid hg0
      have HB0 := Lib.hid ((Below.refl wr.heap.size wr).alloc (Nat.le_refl _) (.cells #[.int .i64 0, .string ⟨#[45]⟩] 91))
      clear hg0 hna
      go_wp2
      go_loopw [8] (fun kv w' => ∃ (k : Nat) (b : Int × ByteArray), k ≤ ps.length ∧ kv = .int .i64 k ∧ b = bestN (na.take k) ∧ BlkV w' wr.heap.size 91 #[.int .i64 b.1, .string b.2] ∧ Below wr.heap.size wr w') (fun kv _ => ps.length - (intOf kv).toNat)
      case atStart => exact ⟨0, (0, dashB), Nat.zero_le _, rfl, rfl, HG0.out, HB0.out⟩
      case round =>
        rename_i wl _
        obtain ⟨k, b, hk, rfl, hbn, hblk, hbl⟩ := hrel
        have HBN := Lib.hid hbn
        have HBLK := Lib.hid hblk
        have HBL := Lib.hid hbl
        have HBW := Lib.hid (HB.out.trans (hbl.mono HB.out.size))
        clear hbn hblk hbl
        have hk0 : (0 : Int) ≤ (k : Int) := Int.natCast_nonneg _
        by_cases hkl : k < ps.length
        · have hk1 : (k : Int) < (ps.length : Int) := by omega
          have hmem : ps.getD k plD ∈ ps := by simp [List.getD, List.getElem?_eq_getElem hkl]
          obtain ⟨a, B, d, rfl, d0, d1, d2, _, he⟩ := (HP.out.keep HBW.out) k hkl
          have HC := Lib.hid (HRN.out _ HBW.out _ hmem B d he)
          have HLN := Lib.hid (HNL.out _ hmem)
          have hag := HAG.out k hkl
          have HSTEP := Lib.hid (bestN_take (l := na) k (by rw [HAL.out]; exact hkl))
          have HFK : Hid (fineN (na.getD k (0, ByteArray.empty))) := Lib.hid (HFN.out _ (by simp [List.getD, List.getElem?_eq_getElem (show k < na.length by rw [HAL.out]; exact hkl)]))
          have HFB : Hid (fineN b) := Lib.hid (by rw [HBN.out]; exact bestN_fine _ _ dash_fine (fun e he => HFN.out e (List.mem_of_mem_take he)))
          clear hmem he
          generalize ps.getD k plD = y at d0 d1 d2 HC HLN hag
          obtain ⟨nm, l, h⟩ := y
          simp only at d0 d1 d2 HC HLN hag
          rw [hag] at HSTEP HFK
          rw [← HBN.out] at HSTEP
          clear hag
          generalize netsOf hs h l = nl at HC HLN HSTEP HFK
          go_wp2_with fail
          refine HC.out.mono ?_
          rintro e w2 ⟨A2, c2, rfl, he2, hb2⟩
          have HB2 := Lib.hid (HBL.out.trans (hb2.mono HBL.out.size))
          have HG2 := Lib.hid (HBLK.out.below hb2 HBLK.out.lt)
          obtain ⟨a2, rfl, x0, x1, _⟩ := he2 i (by rw [HLN.out]; exact hlt)
          clear he2 hb2 d0 d1 d2 HC
          obtain ⟨en, hen⟩ : ∃ en, nl.getD i (0, ByteArray.empty) = en := ⟨_, rfl⟩
          rw [hen] at x0 x1 HSTEP HFK
          clear hen
          obtain ⟨s, m⟩ := en
          simp only at x0 x1
          obtain ⟨bs, bm⟩ := b
          have hgn := HG2.out.alloc (.cells #[.int .i64 s, .string m] 91)
          have hnn := BlkV.new w2 91 #[.int .i64 s, .string m]
          have HB3 := Lib.hid (HB2.out.alloc HB2.out.size (.cells #[.int .i64 s, .string m] 91))
          have HGN := Lib.hid hgn
          have g0 := hgn.cell 0
          have g1 := hgn.cell 1
          have n0 := hnn.cell 0
          have n1 := hnn.cell 1
          have gf0 := hgn.frozen 0
          have gf1 := hgn.frozen 1
          simp only [List.getElem?_toArray, List.getElem?_cons_zero, List.getElem?_cons_succ] at g0 g1 n0 n1
          clear hgn hnn
          have HUP := Lib.hid (step_up HFB.out HFK.out)
          rw [HUP.out] at HSTEP
          have HV : Hid (upB (bs, bm) (s, m) = ((m.toList.isEmpty && (!bm.toList.isEmpty || decide (s < bs))) || (m.toList == [120] && bm.toList == [45]))) := Lib.hid rfl
          have HKN := Lib.hid (fine_kinds HFK.out)
          have HKB := Lib.hid (fine_kinds HFB.out)
          clear HUP HFK HFB
          rcases HKN.out with ⟨_, a1, a2', a3⟩ | ⟨_, a1, a2', a3, _⟩ | ⟨_, a1, a2', a3, _⟩ <;> rcases HKB.out with ⟨_, b1, b2, b3⟩ | ⟨_, b1, b2, b3, _⟩ | ⟨_, b1, b2, b3, _⟩ <;> cases hd : decide (s < bs)
          all_goals
            simp only at a1 a2' a3 b1 b2 b3
            rw [a1, a2', b1, b3, hd] at HV
            rw [HV.out] at HSTEP
            clear HKN HKB
            go_wp2
            go_roundw
            case rel =>
              first
                | exact ⟨k + 1, (s, m), by omega, by go_num, by rw [HSTEP.out]; rfl, (HGN.out.set 0 (.int .i64 s)).set 1 (.string m), (HB3.out.setCell (p := ⟨_, 0, none⟩) (Nat.le_refl _) _).setCell (p := ⟨_, 1, none⟩) (Nat.le_refl _) _⟩
                | exact ⟨k + 1, (bs, bm), by omega, by go_num, by rw [HSTEP.out]; rfl, HGN.out, HB3.out⟩
            case measure => simp [intOf]; omega
        · have hke : k = ps.length := by omega
          have HBM : Hid (b = minM na) := Lib.hid (by
            rw [HBN.out, List.take_of_length_le (by rw [HAL.out]; omega)]
            exact bestN_min HFN.out (by rw [HAL.out]; exact h1))
          rw [← HBM.out] at HTK
          have g0 := HBLK.out.cell 0
          have g1 := HBLK.out.cell 1
          simp only [List.getElem?_toArray, List.getElem?_cons_zero, List.getElem?_cons_succ] at g0 g1
          clear hke HBM HBN
          obtain ⟨bs, bm⟩ := b
          simp only at g0 g1
          obtain ⟨v', w4, hrun, ho, hb4⟩ := append_net w.heap.size (bs, bm) _ u5 tk HBW.out.size HLEN.out (HOWN.out.below HBL.out)
          simp only at hrun
          have HRUN := Lib.hid hrun
          have HO := Lib.hid ho
          have HB4 := Lib.hid (HBW.out.trans hb4)
          clear hrun ho hb4
          go_wp2_with (at_builtin; refine wpList_append_go rfl _ _ 27 rfl _ _ v' w4 rfl rfl HRUN.out ?_)
          go_roundw
          case rel => exact ⟨i + 1, by omega, by go_num, by rw [HTK.out]; exact HO.out, HB4.out⟩
          case measure => simp [intOf]; omega
    · have HF : Hid ((joinedL minM hs ps).take i = joinedL minM hs ps) := Lib.hid (List.take_of_length_le (by rw [HJL.out]; omega))
      go_wp2
      go_ret
      exact ⟨_, rfl, by have := HOWN.out; rwa [HF.out] at this, HB.out⟩
end Go.Proofs.YtkhhkicfeaeddaaGreatDoor
