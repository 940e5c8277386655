/- The checks of format where there are no holes: an empty slice's address may lie nowhere. -/
import Derived.Test.YtbckfkopdojggaaGreatDoorSumS
import Derived.Test.YtbckfkopdojggaaGreatDoorMgF
import Derived.Outline
set_option linter.unusedVariables false
set_option linter.unusedSimpArgs false
namespace Go.Proofs.YtbckfkopdojggaaGreatDoor
open Go.RowKit

set_option maxRecDepth 100000 in
set_option maxHeartbeats 1000000 in
theorem checkHoles_nil (A : Option Addr) (c : Nat) (hs : List (Int × Int)) (w : World) (hz : hs = []) :
    Calls Tryz.prog 50 #[.slice A hs.length c] w fun e w' => e = .returned (.int .i64 (holesI hs)) ∧ Below w.heap.size w w' := by
  subst hz
  rw [show holesI [] = 12 from rfl]
  go_enter Tryz.func50, Tryz.ntmps50
  go_wp2_with fail
  refine (sizedHole_any _ ([] : List (Int × Int)).length _ _ _ (by simp)).mono ?_; rintro e w1 ⟨rfl, hb1⟩
  rw [show sizedI ([] : List (Int × Int)).length 36 = 12 from rfl]
  go_wp2
  go_ret
  exact ⟨rfl, hb1⟩

set_option maxRecDepth 100000 in
set_option maxHeartbeats 4000000 in
theorem checkCard_nil (A B : Option Addr) (c d : Nat) (hs : List (Int × Int)) (player : ByteArray) (l : List (Int × ByteArray)) (w : World) (hz : hs = [])
    (he : EntriesR w B l) (hl2 : l.length ≤ 4611686018427387904) :
    Calls Tryz.prog 163 #[.slice A hs.length c, .agg #[.string player, .slice B l.length d]] w fun e w' => e = .returned (.int .i64 (cardI hs player l)) ∧ Below w.heap.size w w' := by
  have HZ := Lib.hid hz
  have HE := Lib.hid he
  have HS0 := Lib.hid (fun o => below_drewN ((Below.refl w.heap.size w).alloc (Nat.le_refl _) o) 1)
  clear hz he
  go_enter Tryz.func163, Tryz.ntmps163
  go_wp2
  go_region_held3 (fun w' => w'.cell? ⟨w.heap.size, 0, none⟩ = some (.string player) ∧ w'.cell? ⟨w.heap.size, 1, none⟩ = some (.slice B l.length d) ∧ Hid (Below w.heap.size w w'))
    ((first | assumption | exact keep2 hb1 (by assumption) (Nat.le_refl _) | exact keep2_alloc _ (by assumption) (Nat.le_refl _) | exact ⟨by go_simp, by go_simp, HS0.out _⟩))
    (first
      | (go_at_call 192; refine (cardIsName_any _ _).mono ?_; rintro e w1 ⟨rfl, hb1⟩)
      | (go_at_call 50; refine (checkHoles_nil _ _ hs _ HZ.out).mono ?_; rintro e w1 ⟨rfl, hb1⟩)
      | (go_at_call 64; refine (checkEntries_any _ _ l _ hl2 (HE.out.keep (heldB (by assumption)))).mono ?_; rintro e w1 ⟨rfl, hb1⟩)
      | (go_at_call 193; refine (pairedEntryHole_any _ _ _ _ _ _ _).mono ?_; rintro e w1 ⟨rfl, rfl⟩)
      | (go_at_call 62; refine (first_any _ _ [_, _, _, _] _ (by simp) (Ints.four _ _ _ _ _ _ _ rfl)).mono ?_; rintro e w1 ⟨rfl, rfl⟩)
      | (go_at_call 105; refine (unless_any _ _ _).mono ?_; rintro e w1 ⟨rfl, rfl⟩))
  all_goals go_wp2
  all_goals go_ret
  all_goals exact ⟨rfl, by first | exact heldB (by assumption) | exact (heldB (by assumption)).alloc (heldB (B := w.heap.size) (w := w) (by assumption)).size _⟩

set_option maxRecDepth 100000 in
set_option maxHeartbeats 4000000 in
theorem fmCheckPlayer_nil (A B : Option Addr) (c d : Nat) (hs : List (Int × Int)) (nm : ByteArray) (l : List (Int × ByteArray)) (h : Int) (w : World) (hz : hs = [])
    (he : EntriesR w B l) (hl2 : l.length ≤ 4611686018427387904) :
    Calls Tryz.prog 106 #[.slice A hs.length c, .agg #[.string nm, .slice B l.length d, .int .i64 h]] w fun e w' => e = .returned (.int .i64 (playerI hs nm l h)) ∧ Below w.heap.size w w' := by
  have HZ := Lib.hid hz
  have HE := Lib.hid he
  have HS0 := Lib.hid (fun o => below_drewN ((Below.refl w.heap.size w).alloc (Nat.le_refl _) o) 1)
  clear hz he
  go_enter Tryz.func106, Tryz.ntmps106
  go_wp2
  go_region_held3 (fun w' => w'.cell? ⟨w.heap.size, 0, none⟩ = some (.string nm) ∧ w'.cell? ⟨w.heap.size, 1, none⟩ = some (.slice B l.length d) ∧ w'.cell? ⟨w.heap.size, 2, none⟩ = some (.int .i64 h) ∧ Hid (Below w.heap.size w w'))
    ((first | assumption | exact keep3 hb1 (by assumption) (Nat.le_refl _) | exact keep3_alloc _ (by assumption) (Nat.le_refl _) | exact ⟨by go_simp, by go_simp, by go_simp, HS0.out _⟩))
    (first
      | (go_at_call 50; refine (checkHoles_nil _ _ hs _ HZ.out).mono ?_; rintro e w1 ⟨rfl, hb1⟩)
      | (go_at_call 163; refine (checkCard_nil _ _ _ _ hs _ l _ HZ.out (HE.out.keep (heldC (by assumption))) hl2).mono ?_; rintro e w1 ⟨rfl, hb1⟩)
      | (go_at_call 75; refine (fmCheckHandicap_any _ _).mono ?_; rintro e w1 ⟨rfl, rfl⟩)
      | (go_at_call 49; refine (fmFirst_any _ _ [_, _, _] _ (by simp) (Ints.three _ _ _ _ _ _ rfl)).mono ?_; rintro e w1 ⟨rfl, rfl⟩))
  all_goals go_wp2
  all_goals go_ret
  all_goals exact ⟨rfl, by first | exact heldC (by assumption) | exact (heldC (by assumption)).alloc (heldC (B := w.heap.size) (w := w) (by assumption)).size _⟩

set_option maxRecDepth 100000 in
set_option maxHeartbeats 4000000 in
theorem checkPlayers_nil (A H : Option Addr) (c ch : Nat) (hs : List (Int × Int)) (ps : List Pl) (w : World) (hz : hs = [])
    (hp : PlayersR w A ps) (hl1 : ps.length ≤ 4611686018427387904) (hl2 : ∀ p ∈ ps, p.l.length ≤ 4611686018427387904) :
    Calls Tryz.prog 52 #[.slice H hs.length ch, .slice A ps.length c] w fun e w' => e = .returned (.int .i64 (playersGo hs [] ps)) ∧ Below w.heap.size w w' := by
  have HP := Lib.hid hp
  have HL2 := Lib.hid hl2
  have HCP := Lib.hid (fun W (hb : Below w.heap.size w W) B d nm l h (he : EntriesR W B l) hl2 => fmCheckPlayer_nil H B ch d hs nm l h W hz he hl2)
  have hmm := @run_makeMap Tryz.prog
  clear hz hp hl2
  go_enter Tryz.func52, Tryz.ntmps52
  go_wp2
  go_loopw [13] (fun i w' => ∃ k : Nat, k ≤ ps.length ∧ i = .int .i64 k ∧ w'.heap[w.heap.size]? = some (.map (setTx 0 ((ps.take k).map (·.nm))).toArray k) ∧ Below w.heap.size w w' ∧ playersGo hs ((ps.take k).map (·.nm)) (ps.drop k) = playersGo hs [] ps) (fun i _ => ps.length - (intOf i).toNat)
  case atStart => exact ⟨0, Nat.zero_le _, rfl, (MapKept.heap_alloc w _).1, (Below.refl _ _).alloc (Nat.le_refl _) _, rfl⟩
  case round =>
    obtain ⟨k, hk, rfl, hm, hb, hd⟩ := hrel
    have HM := Lib.hid hm
    have HB := Lib.hid hb
    have HD := Lib.hid hd
    clear hm hb hd
    by_cases hlt : k < ps.length
    · have HDR := Lib.hid (playersGo_drop hs ps k hlt)
      have HTK : Hid ((ps.take (k + 1)).map (·.nm) = (ps.take k).map (·.nm) ++ [(ps.getD k plD).nm]) := Lib.hid (by
        rw [List.take_succ_eq_append_getElem hlt, List.map_append]; simp [List.getD, List.getElem?_eq_getElem hlt])
      have HLK : Hid (((ps.take k).map (·.nm)).length = k) := Lib.hid (by simp; omega)
      have HPL : Hid ((ps.getD k plD).l.length ≤ 4611686018427387904) := Lib.hid (by
        have := HL2.out _ (List.getElem_mem hlt); simpa [List.getD, List.getElem?_eq_getElem hlt] using this)
      obtain ⟨a, B, d, rfl, p0, p1, p2, p3, p4⟩ := HP.out k hlt
      have q0 := (HB.out.cell p3).trans p0
      have q1 := (HB.out.cell (p := ⟨_, _, none⟩) p3).trans p1
      have q2 := (HB.out.cell (p := ⟨_, _, none⟩) p3).trans p2
      have HE := Lib.hid p4
      clear p0 p1 p2 p3 p4
      generalize ps.getD k plD = p at q0 q1 q2 HE HPL HTK HDR
      generalize (ps.take k).map (·.nm) = S at HM HD HTK HDR HLK
      have HQ := Lib.hid (HDR.out S)
      have HS0 : Hid (HeldP wr.heap.size w.heap.size k S p B d w (wr.alloc (.cells #[.string p.nm, .slice B p.l.length d, .int .i64 p.h] 55)).drew) :=
        Lib.hid ⟨(BlkV.new wr _ _).drew, ((Below.heap_alloc wr _ _ (Array.getElem?_eq_some_iff.1 HM.out).1).trans HM.out), (HB.out.alloc HB.out.size _).drew⟩
      have HEE := Lib.hid (fun W (hb : Below w.heap.size w W) => HE.out.keep hb)
      by_cases he : firstI [playerI hs p.nm p.l p.h, unlessI (!decide (p.nm ∈ S)) 9] = 0
      · have hz : (firstI [playerI hs p.nm p.l p.h, unlessI (!decide (p.nm ∈ S)) 9] != 0) = false := by rw [he]; rfl
        have HNI : Hid (p.nm ∉ S) := Lib.hid (fun hm => by
          have := firstI_zero _ he (unlessI (!decide (p.nm ∈ S)) 9) (by simp)
          rw [decide_eq_true hm] at this
          simp [unlessI] at this)
        have HZ : Hid (firstI [plI hs p, unlessI (!decide (p.nm ∈ S)) 9] = 0) := Lib.hid he
        clear he
        go_wp2
        go_region_held3 (fun W => W.cell? ⟨wr.heap.size, 0, none⟩ = some (.string p.nm) ∧ W.cell? ⟨wr.heap.size, 1, none⟩ = some (.slice B p.l.length d) ∧ W.cell? ⟨wr.heap.size, 2, none⟩ = some (.int .i64 p.h) ∧
          (Instr.lookup 174 (.map (some w.heap.size)) (.string p.nm) false).run Tryz.prog W = .ok (.bool (decide (p.nm ∈ S))) W ∧ (Instr.mapUpdate 174 (.map (some w.heap.size)) (.string p.nm) (.bool true)).run Tryz.prog W = .ok () (putObj W w.heap.size (.map (setTx 0 (S ++ [p.nm])).toArray (k + 1))) ∧ Hid (HeldP wr.heap.size w.heap.size k S p B d w W))
          ((first | with_reducible assumption | exact (HeldP.below (heldP6 (by with_reducible assumption)) hb1).s5 HNI HLK | exact (HeldP.below (heldP6 (by with_reducible assumption)) ((Below.refl _ _).alloc (Nat.le_refl _) _)).s5 HNI HLK | exact (HeldP.below HS0.out ((Below.refl _ _).alloc (Nat.le_refl _) _)).s5 HNI HLK | exact HS0.out.s5 HNI HLK))
          (first
            | (go_at_call 106; (refine (HCP.out _ (heldP6 (by assumption)).2.2 _ _ _ _ _ (HEE.out _ (heldP6 (by assumption)).2.2) HPL.out).mono ?_); rintro e w1 ⟨rfl, hb1⟩)
            | (go_at_call 51; (with_reducible refine (fmUnless_any _ _ _).mono ?_); rintro e w1 ⟨rfl, rfl⟩)
            | (go_at_call 49; refine (fmFirst_any _ _ [_, _] _ (by simp) (Ints.two _ _ _ _ _ rfl)).mono ?_; rintro e w1 ⟨rfl, rfl⟩))
        all_goals
          go_split_ands
          go_wp2
          go_roundw
          case rel =>
            refine ⟨k + 1, by omega, by go_num, ?_, ?_, ?_⟩
            · rw [HTK.out]; exact putObj_at (HeldP.below (by first | exact Hid.out (by assumption) | exact HS0.out) (Below.refl _ _)).2.1
            · exact (Hid.out (by assumption) : HeldP _ _ _ _ _ _ _ _ _).2.2.trans (putObj_below _ _ _ _ (Nat.le_refl _))
            · rw [HTK.out, ← HD.out, HQ.out, if_pos HZ.out]
          case measure => simp [intOf]; omega
      · have hz : (firstI [playerI hs p.nm p.l p.h, unlessI (!decide (p.nm ∈ S)) 9] != 0) = true := by simpa using he
        have HZ : Hid (¬ firstI [plI hs p, unlessI (!decide (p.nm ∈ S)) 9] = 0) := Lib.hid he
        clear he
        go_wp2
        go_region_held3 (fun W => W.cell? ⟨wr.heap.size, 0, none⟩ = some (.string p.nm) ∧ W.cell? ⟨wr.heap.size, 1, none⟩ = some (.slice B p.l.length d) ∧ W.cell? ⟨wr.heap.size, 2, none⟩ = some (.int .i64 p.h) ∧
          (Instr.lookup 174 (.map (some w.heap.size)) (.string p.nm) false).run Tryz.prog W = .ok (.bool (decide (p.nm ∈ S))) W ∧ Hid (HeldP wr.heap.size w.heap.size k S p B d w W))
          ((first | with_reducible assumption | exact (HeldP.below (heldP5 (by with_reducible assumption)) hb1).s4 | exact (HeldP.below (heldP5 (by with_reducible assumption)) ((Below.refl _ _).alloc (Nat.le_refl _) _)).s4 | exact (HeldP.below HS0.out ((Below.refl _ _).alloc (Nat.le_refl _) _)).s4 | exact HS0.out.s4))
          (first
            | (go_at_call 106; (refine (HCP.out _ (heldP5 (by assumption)).2.2 _ _ _ _ _ (HEE.out _ (heldP5 (by assumption)).2.2) HPL.out).mono ?_); rintro e w1 ⟨rfl, hb1⟩)
            | (go_at_call 51; (with_reducible refine (fmUnless_any _ _ _).mono ?_); rintro e w1 ⟨rfl, rfl⟩)
            | (go_at_call 49; refine (fmFirst_any _ _ [_, _] _ (by simp) (Ints.two _ _ _ _ _ rfl)).mono ?_; rintro e w1 ⟨rfl, rfl⟩))
        all_goals
          go_wp2
          go_ret
          exact ⟨by rw [← HD.out, HQ.out, if_neg HZ.out]; rfl, (heldP5 (by assumption)).2.2⟩
    · have hfin : playersGo hs [] ps = 0 := by rw [← HD.out, List.drop_eq_nil_of_le (by omega)]; rfl
      have HF := Lib.hid hfin
      clear hfin
      go_wp2
      go_ret
      exact ⟨by rw [HF.out]; rfl, HB.out⟩

set_option maxRecDepth 100000 in
set_option maxHeartbeats 4000000 in
theorem refCard_nil (A B : Option Addr) (c d : Nat) (nm : ByteArray) (l : List (Int × ByteArray)) (w : World) :
    Calls Tryz.prog 157 #[.slice A ([] : List (Int × Int)).length c, .agg #[.string nm, .slice B l.length d]] w fun e w' => e = .returned (.int .i64 12) ∧ Below w.heap.size w w' := by
  go_enter Tryz.func157, Tryz.ntmps157
  go_wp2_with fail
  refine (refCheckHoles_any A c [] _ (fun j hj => absurd hj (Nat.not_lt_zero _))).mono ?_
  rintro e w1 ⟨rfl, n1, rfl⟩
  rw [show holesI [] = 12 from rfl]
  go_wp2
  go_ret
  exact ⟨rfl, below_drewN ((Below.refl _ _).alloc (Nat.le_refl _) _) _⟩

set_option maxRecDepth 100000 in
set_option maxHeartbeats 4000000 in
theorem refPlayer_nil (A B : Option Addr) (c d : Nat) (nm : ByteArray) (l : List (Int × ByteArray)) (h : Int) (w : World) :
    Calls Tryz.prog 96 #[.slice A ([] : List (Int × Int)).length c, .agg #[.string nm, .slice B l.length d, .int .i64 h]] w fun e w' => e = .returned (.int .i64 12) ∧ Below w.heap.size w w' := by
  go_enter Tryz.func96, Tryz.ntmps96
  go_wp2_with fail
  refine (refCard_nil A B c d nm l _).mono ?_
  rintro e w1 ⟨rfl, hb1⟩
  have HB := Lib.hid (((Below.refl w.heap.size w).alloc (Nat.le_refl _) (.cells #[.string nm, .slice B l.length d, .int .i64 h] 84)).trans (hb1.mono (by simp)))
  clear hb1
  go_wp2
  go_ret
  exact ⟨rfl, HB.out⟩

end Go.Proofs.YtbckfkopdojggaaGreatDoor
