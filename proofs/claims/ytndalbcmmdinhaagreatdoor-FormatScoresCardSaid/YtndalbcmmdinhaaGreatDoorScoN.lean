/- The checks of format where there are no holes: an empty slice's address may lie nowhere. -/
import Derived.Test.YtndalbcmmdinhaaGreatDoorGivA
import Derived.Test.YtndalbcmmdinhaaGreatDoorSumA
import Derived.Test.YtndalbcmmdinhaaGreatDoorMgE
import Derived.Outline
set_option linter.unusedVariables false
set_option linter.unusedSimpArgs false
namespace Go.Proofs.YtndalbcmmdinhaaGreatDoor
open Go.RowKit

theorem checkHoles_nil (A : Option Addr) (c : Nat) (hs : List (Int × Int)) (w : World) (hz : hs = []) :
    Calls Tryz.prog 54 #[.slice A hs.length c] w fun e w' => e = .returned (.int .i64 (holesI hs)) ∧ Below w.heap.size w w' := by
  subst hz
  exact checkHoles_none A c w

set_option maxRecDepth 100000 in
set_option maxHeartbeats 4000000 in
theorem checkCard_nil (A B : Option Addr) (c d : Nat) (hs : List (Int × Int)) (player : ByteArray) (l : List (Int × ByteArray)) (w : World) (hz : hs = [])
    (he : EntriesR w B l) (hl2 : l.length ≤ 4611686018427387904) :
    Calls Tryz.prog 68 #[.slice A hs.length c, .agg #[.string player, .slice B l.length d]] w fun e w' => e = .returned (.int .i64 (cardI hs player l)) ∧ Below w.heap.size w w' := by
  have HZ := Lib.hid hz
  have HE := Lib.hid he
  have HS0 := Lib.hid (fun o => below_drewN ((Below.refl w.heap.size w).alloc (Nat.le_refl _) o) 1)
  clear hz he
  go_enter Tryz.func68, Tryz.ntmps68
  go_wp2
  go_region_held3 (fun w' => w'.cell? ⟨w.heap.size, 0, none⟩ = some (.string player) ∧ w'.cell? ⟨w.heap.size, 1, none⟩ = some (.slice B l.length d) ∧ Hid (Below w.heap.size w w'))
    ((first | assumption | exact keep2 hb1 (by assumption) (Nat.le_refl _) | exact keep2_alloc _ (by assumption) (Nat.le_refl _) | exact ⟨by go_simp, by go_simp, HS0.out _⟩))
    (first
      | (go_at_call 112; refine (cardIsName_any _ _).mono ?_; rintro e w1 ⟨rfl, hb1⟩)
      | (go_at_call 54; refine (checkHoles_nil _ _ hs _ HZ.out).mono ?_; rintro e w1 ⟨rfl, hb1⟩)
      | (go_at_call 114; refine (checkEntries_any _ _ l _ hl2 (HE.out.keep (heldB (by assumption)))).mono ?_; rintro e w1 ⟨rfl, hb1⟩)
      | (go_at_call 113; refine (pairedEntryHole_any _ _ _ _ _ _ _).mono ?_; rintro e w1 ⟨rfl, rfl⟩)
      | (go_at_call 97; refine (first_any _ _ [_, _, _, _] _ (by simp) (Ints.four _ _ _ _ _ _ _ rfl)).mono ?_; rintro e w1 ⟨rfl, rfl⟩)
      | (go_at_call 99; refine (unless_any _ _ _).mono ?_; rintro e w1 ⟨rfl, rfl⟩))
  all_goals go_wp2
  all_goals go_ret
  all_goals exact ⟨rfl, by first | exact heldB (by assumption) | exact (heldB (by assumption)).alloc (heldB (B := w.heap.size) (w := w) (by assumption)).size _⟩

set_option maxRecDepth 100000 in
set_option maxHeartbeats 4000000 in
theorem fmCheckPlayer_nil (A B : Option Addr) (c d : Nat) (hs : List (Int × Int)) (nm : ByteArray) (l : List (Int × ByteArray)) (h : Int) (w : World) (hz : hs = [])
    (he : EntriesR w B l) (hl2 : l.length ≤ 4611686018427387904) :
    Calls Tryz.prog 21 #[.slice A hs.length c, .agg #[.string nm, .slice B l.length d, .int .i64 h]] w fun e w' => e = .returned (.int .i64 (playerI hs nm l h)) ∧ Below w.heap.size w w' := by
  have HZ := Lib.hid hz
  have HE := Lib.hid he
  have HS0 := Lib.hid (fun o => below_drewN ((Below.refl w.heap.size w).alloc (Nat.le_refl _) o) 1)
  clear hz he
  go_enter Tryz.func21, Tryz.ntmps21
  go_wp2
  go_region_held3 (fun w' => w'.cell? ⟨w.heap.size, 0, none⟩ = some (.string nm) ∧ w'.cell? ⟨w.heap.size, 1, none⟩ = some (.slice B l.length d) ∧ w'.cell? ⟨w.heap.size, 2, none⟩ = some (.int .i64 h) ∧ Hid (Below w.heap.size w w'))
    ((first | assumption | exact keep3 hb1 (by assumption) (Nat.le_refl _) | exact keep3_alloc _ (by assumption) (Nat.le_refl _) | exact ⟨by go_simp, by go_simp, by go_simp, HS0.out _⟩))
    (first
      | (go_at_call 54; refine (checkHoles_nil _ _ hs _ HZ.out).mono ?_; rintro e w1 ⟨rfl, hb1⟩)
      | (go_at_call 68; refine (checkCard_nil _ _ _ _ hs _ l _ HZ.out (HE.out.keep (heldC (by assumption))) hl2).mono ?_; rintro e w1 ⟨rfl, hb1⟩)
      | (go_at_call 55; refine (fmCheckHandicap_any _ _).mono ?_; rintro e w1 ⟨rfl, rfl⟩)
      | (go_at_call 53; refine (fmFirst_any _ _ [_, _, _] _ (by simp) (Ints.three _ _ _ _ _ _ rfl)).mono ?_; rintro e w1 ⟨rfl, rfl⟩))
  all_goals go_wp2
  all_goals go_ret
  all_goals exact ⟨rfl, by first | exact heldC (by assumption) | exact (heldC (by assumption)).alloc (heldC (B := w.heap.size) (w := w) (by assumption)).size _⟩

set_option maxRecDepth 100000 in
set_option maxHeartbeats 1000000 in
theorem readRound_nil (A B : Option Addr) (c d : Nat) (hs : List (Int × Int)) (nm : ByteArray) (l : List (Int × ByteArray)) (h : Int) (w : World) (hz : hs = [])
    (he : EntriesR w B l) (hl2 : l.length ≤ 4611686018427387904) (hn : playerI hs nm l h ≠ 0) :
    Calls Tryz.prog 60 #[.slice A hs.length c, .agg #[.string nm, .slice B l.length d, .int .i64 h]] w fun e w' => e = .returned (.tuple #[.agg #[.slice none 0 0, .slice none 0 0], .int .i64 (playerI hs nm l h)]) ∧ Below w.heap.size w w' := by
  have HC := Lib.hid (fun W (hb : Below w.heap.size w W) => fmCheckPlayer_nil A B c d hs nm l h W hz (he.keep hb) hl2)
  have hnb : (playerI hs nm l h != 0) = true := by simpa using hn
  clear hz he hn
  generalize playerI hs nm l h = q at HC hnb
  go_enter Tryz.func60, Tryz.ntmps60
  go_wp2_with fail
  generalize hW0 : (w.alloc (.cells #[.string nm, .slice B l.length d, .int .i64 h] 37)).alloc (.cells #[.slice none 0 0, .slice none 0 0] 99) = W0
  obtain ⟨_, hb, hB, hsz⟩ := two_allocs w _ _ _ _ hW0
  have HB0 := Lib.hid hB
  have HBL := Lib.hid hb
  have HSZ := Lib.hid hsz
  clear hW0 hb hB hsz
  refine (HC.out W0 HB0.out).mono ?_
  rintro e w1 ⟨rfl, hb1⟩
  have HB := Lib.hid (HB0.out.trans (hb1.mono HB0.out.size))
  have hbl := HBL.out.below hb1 (by rw [HSZ.out]; omega)
  have c0 := hbl.cell 0
  have c1 := hbl.cell 1
  have f0 := hbl.frozen 0
  have f1 := hbl.frozen 1
  have HBL1 := Lib.hid hbl
  clear hb1 hbl HC
  go_wp2
  refine bodyPost_ret (v := .tuple #[.agg #[.slice none 0 0, .slice none 0 0], .int .i64 q]) ?_ rfl ⟨rfl, (HB.out.setCell (by simp) _).setCell (by simp) _⟩
  have q2 := (HBL1.out.set 0 (.slice none 0 0)).set 1 (.slice none 0 0)
  have q3 := q2.cell 0
  have q4 := q2.cell 1
  simp [results, Tryz.results60, go_sem, q3, q4]

set_option maxRecDepth 100000 in
set_option maxHeartbeats 1000000 in
theorem byPar_nil (A B : Option Addr) (c d : Nat) (hs : List (Int × Int)) (nm : ByteArray) (l : List (Int × ByteArray)) (h o : Int) (f : Value) (w : World) (hz : hs = [])
    (he : EntriesR w B l) (hl2 : l.length ≤ 4611686018427387904) (hn : playerI hs nm l h ≠ 0) :
    Calls Tryz.prog 64 #[.slice A hs.length c, .agg #[.string nm, .slice B l.length d, .int .i64 h], .int .i64 o, f] w (RowNo (playerI hs nm l h) w) := by
  have HC := Lib.hid (fun W (hb : Below w.heap.size w W) => readRound_nil A B c d hs nm l h W hz (he.keep hb) hl2 hn)
  have hmk : ∀ w, (Instr.makeSlice 25 (.int .i64 0) (.int .i64 0)).run Tryz.prog w = .ok (.slice (some ⟨w.heap.size, 0, none⟩) 0 0) (w.alloc (.cells (rowI (nils 0)) 3)) := make_ints 0 (by omega)
  clear hz he hn
  generalize playerI hs nm l h = q at HC ⊢
  go_enter Tryz.func64, Tryz.ntmps64
  go_wp2_with fail
  refine (HC.out _ ((Below.refl _ _).alloc (Nat.le_refl _) _)).mono ?_
  rintro e w1 ⟨rfl, hb1⟩
  have HB1 := Lib.hid (((Below.refl w.heap.size w).alloc (Nat.le_refl _) (.cells #[.string nm, .slice B l.length d, .int .i64 h] 37)).trans (hb1.mono (by simp)))
  clear hb1 HC
  go_wp2
  go_loopw [28] (fun i w' => i = .int .i64 0 ∧ Below w.heap.size w w') (fun i _ => 0)
  case atStart => exact ⟨rfl, (HB1.out.alloc HB1.out.size _).alloc (by have := HB1.out.size; simp; omega) _⟩
  case round =>
    obtain ⟨rfl, hb⟩ := hrel
    have HB := Lib.hid hb
    clear hb
    go_wp2
    go_ret2
    exact ⟨w1.heap.size + 1, rfl, HB.out⟩

set_option maxRecDepth 100000 in
set_option maxHeartbeats 1000000 in
theorem fmPoints_nil (A B : Option Addr) (c d : Nat) (hs : List (Int × Int)) (nm : ByteArray) (l : List (Int × ByteArray)) (h : Int) (w : World) (hz : hs = [])
    (he : EntriesR w B l) (hl2 : l.length ≤ 4611686018427387904) (hn : playerI hs nm l h ≠ 0) :
    Calls Tryz.prog 19 #[.slice A hs.length c, .agg #[.string nm, .slice B l.length d, .int .i64 h]] w (RowNo (playerI hs nm l h) w) := by
  have HC := Lib.hid (fun W (hb : Below w.heap.size w W) f => byPar_nil A B c d hs nm l h (0) f W hz (he.keep hb) hl2 hn)
  clear hz he hn
  generalize playerI hs nm l h = q at HC ⊢
  go_enter Tryz.func19, Tryz.ntmps19
  go_wp2_with fail
  refine (HC.out _ ((Below.refl _ _).alloc (Nat.le_refl _) _) _).mono ?_
  rintro e w1 ⟨g, rfl, hb1⟩
  have HB1 := Lib.hid (((Below.refl w.heap.size w).alloc (Nat.le_refl _) (.cells #[.string nm, .slice B l.length d, .int .i64 h] 37)).trans (hb1.mono (by simp)))
  clear hb1 HC
  go_wp2
  go_ret2
  exact ⟨g, rfl, HB1.out⟩

set_option maxRecDepth 100000 in
set_option maxHeartbeats 1000000 in
theorem fmAgainst_nil (A B : Option Addr) (c d : Nat) (hs : List (Int × Int)) (nm : ByteArray) (l : List (Int × ByteArray)) (h : Int) (w : World) (hz : hs = [])
    (he : EntriesR w B l) (hl2 : l.length ≤ 4611686018427387904) (hn : playerI hs nm l h ≠ 0) :
    Calls Tryz.prog 20 #[.slice A hs.length c, .agg #[.string nm, .slice B l.length d, .int .i64 h]] w (RowNo (playerI hs nm l h) w) := by
  have HC := Lib.hid (fun W (hb : Below w.heap.size w W) f => byPar_nil A B c d hs nm l h (-1) f W hz (he.keep hb) hl2 hn)
  clear hz he hn
  generalize playerI hs nm l h = q at HC ⊢
  go_enter Tryz.func20, Tryz.ntmps20
  go_wp2_with fail
  refine (HC.out _ ((Below.refl _ _).alloc (Nat.le_refl _) _) _).mono ?_
  rintro e w1 ⟨g, rfl, hb1⟩
  have HB1 := Lib.hid (((Below.refl w.heap.size w).alloc (Nat.le_refl _) (.cells #[.string nm, .slice B l.length d, .int .i64 h] 37)).trans (hb1.mono (by simp)))
  clear hb1 HC
  go_wp2
  go_ret2
  exact ⟨g, rfl, HB1.out⟩

set_option maxRecDepth 100000 in
set_option maxHeartbeats 1000000 in
theorem fmNets_nil (A B : Option Addr) (c d : Nat) (hs : List (Int × Int)) (nm : ByteArray) (l : List (Int × ByteArray)) (h : Int) (w : World) (hz : hs = [])
    (he : EntriesR w B l) (hl2 : l.length ≤ 4611686018427387904) (hn : playerI hs nm l h ≠ 0) :
    Calls Tryz.prog 17 #[.slice A hs.length c, .agg #[.string nm, .slice B l.length d, .int .i64 h]] w fun e w' => e = .returned (.tuple #[.slice none 0 0, .int .i64 (playerI hs nm l h)]) ∧ Below w.heap.size w w' := by
  have HC := Lib.hid (fun W (hb : Below w.heap.size w W) => readRound_nil A B c d hs nm l h W hz (he.keep hb) hl2 hn)
  clear hz he hn
  generalize playerI hs nm l h = q at HC ⊢
  go_enter Tryz.func17, Tryz.ntmps17
  go_wp2_with fail
  refine (HC.out _ ((Below.refl _ _).alloc (Nat.le_refl _) _)).mono ?_
  rintro e w1 ⟨rfl, hb1⟩
  have HB1 := Lib.hid (((Below.refl w.heap.size w).alloc (Nat.le_refl _) (.cells #[.string nm, .slice B l.length d, .int .i64 h] 37)).trans (hb1.mono (by simp)))
  clear hb1 HC
  go_wp2
  go_ret2
  exact ⟨rfl, HB1.out.alloc HB1.out.size _⟩

set_option maxRecDepth 100000 in
set_option maxHeartbeats 1000000 in
theorem fmGross_nil (A B : Option Addr) (c d : Nat) (hs : List (Int × Int)) (nm : ByteArray) (l : List (Int × ByteArray)) (h : Int) (w : World) (hz : hs = [])
    (he : EntriesR w B l) (hl2 : l.length ≤ 4611686018427387904) (hn : playerI hs nm l h ≠ 0) :
    Calls Tryz.prog 16 #[.slice A hs.length c, .agg #[.string nm, .slice B l.length d, .int .i64 h]] w fun e w' =>
      e = .returned (.tuple #[.int .i64 (grossR hs nm l h).1, .int .i64 (grossR hs nm l h).2]) ∧ Below w.heap.size w w' := by
  have HC := Lib.hid (fun W (hb : Below w.heap.size w W) => readRound_nil A B c d hs nm l h W hz (he.keep hb) hl2 hn)
  have hnb : (playerI hs nm l h != 0) = true := by simpa using hn
  have HR : Hid (grossR hs nm l h = (0, playerI hs nm l h)) := Lib.hid (by unfold grossR; rw [if_neg hn])
  clear hz hn he
  generalize playerI hs nm l h = q at HC hnb HR
  go_enter Tryz.func16, Tryz.ntmps16
  go_wp2_with fail
  refine (HC.out _ ((Below.refl _ _).alloc (Nat.le_refl _) _)).mono ?_
  rintro e w1 ⟨rfl, hb1⟩
  have HB1 := Lib.hid (((Below.refl w.heap.size w).alloc (Nat.le_refl _) (.cells #[.string nm, .slice B l.length d, .int .i64 h] 37)).trans (hb1.mono (by simp)))
  clear hb1 HC
  go_wp2
  go_ret2
  exact ⟨by rw [HR.out]; rfl, HB1.out.alloc HB1.out.size _⟩

set_option maxRecDepth 100000 in
set_option maxHeartbeats 1000000 in
theorem fmScore_nil (A B : Option Addr) (c d : Nat) (hs : List (Int × Int)) (nm : ByteArray) (l : List (Int × ByteArray)) (h : Int) (w : World) (hz : hs = [])
    (he : EntriesR w B l) (hl2 : l.length ≤ 4611686018427387904) (hn : playerI hs nm l h ≠ 0) :
    Calls Tryz.prog 18 #[.slice A hs.length c, .agg #[.string nm, .slice B l.length d, .int .i64 h]] w fun e w' =>
      e = .returned (.tuple #[.int .i64 (scoreR hs nm l h).1, .int .i64 (scoreR hs nm l h).2]) ∧ Below w.heap.size w w' := by
  have HC := Lib.hid (fun W (hb : Below w.heap.size w W) => readRound_nil A B c d hs nm l h W hz (he.keep hb) hl2 hn)
  have hnb : (playerI hs nm l h != 0) = true := by simpa using hn
  have HR : Hid (scoreR hs nm l h = (0, playerI hs nm l h)) := Lib.hid (by unfold scoreR; rw [if_neg hn])
  clear hz hn he
  generalize playerI hs nm l h = q at HC hnb HR
  go_enter Tryz.func18, Tryz.ntmps18
  go_wp2_with fail
  refine (HC.out _ ((Below.refl _ _).alloc (Nat.le_refl _) _)).mono ?_
  rintro e w1 ⟨rfl, hb1⟩
  have HB1 := Lib.hid (((Below.refl w.heap.size w).alloc (Nat.le_refl _) (.cells #[.string nm, .slice B l.length d, .int .i64 h] 37)).trans (hb1.mono (by simp)))
  clear hb1 HC
  go_wp2
  go_ret2
  exact ⟨by rw [HR.out]; rfl, HB1.out.alloc HB1.out.size _⟩

set_option maxRecDepth 100000 in
set_option maxHeartbeats 4000000 in
theorem refCard_nil (A B : Option Addr) (c d : Nat) (nm : ByteArray) (l : List (Int × ByteArray)) (w : World) :
    Calls Tryz.prog 59 #[.slice A ([] : List (Int × Int)).length c, .agg #[.string nm, .slice B l.length d]] w fun e w' => e = .returned (.int .i64 12) ∧ Below w.heap.size w w' := by
  go_enter Tryz.func59, Tryz.ntmps59
  go_wp2_with fail
  refine (refCheckHoles_any A c [] _ (fun j hj => absurd hj (Nat.not_lt_zero _))).mono ?_
  rintro e w1 ⟨rfl, n1, rfl⟩
  rw [show holesI [] = 12 from rfl]
  go_wp2
  go_ret
  exact ⟨rfl, below_drewN ((Below.refl _ _).alloc (Nat.le_refl _) _) _⟩

set_option maxRecDepth 100000 in
set_option maxHeartbeats 4000000 in
theorem refPlayer_nil (A B : Option Addr) (c d : Nat) (nm : ByteArray) (l : List (Int × ByteArray)) (h : Int) (w : World) :
    Calls Tryz.prog 15 #[.slice A ([] : List (Int × Int)).length c, .agg #[.string nm, .slice B l.length d, .int .i64 h]] w fun e w' => e = .returned (.int .i64 12) ∧ Below w.heap.size w w' := by
  go_enter Tryz.func15, Tryz.ntmps15
  go_wp2_with fail
  refine (refCard_nil A B c d nm l _).mono ?_
  rintro e w1 ⟨rfl, hb1⟩
  have HB := Lib.hid (((Below.refl w.heap.size w).alloc (Nat.le_refl _) (.cells #[.string nm, .slice B l.length d, .int .i64 h] 38)).trans (hb1.mono (by simp)))
  clear hb1
  go_wp2
  go_ret
  exact ⟨rfl, HB.out⟩

end Go.Proofs.YtndalbcmmdinhaaGreatDoor
