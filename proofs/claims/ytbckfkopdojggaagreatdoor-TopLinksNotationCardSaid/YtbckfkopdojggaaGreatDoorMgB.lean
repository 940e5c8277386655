/- Merged: CardR CardI CardJ CardK CardL. -/
import Derived.Test.YtbckfkopdojggaaGreatDoorMgA
import Derived.Deep.RegionWith
import Derived.Laws.EntriesVeiled
import Derived.StillTailTactics
import Derived.Deep.RegionHeld3
/- The reference's CheckCard returns cardI. -/
set_option linter.unusedVariables false
set_option linter.unusedSimpArgs false
namespace Go.Proofs.YtbckfkopdojggaaGreatDoor
open Go.RowKit

theorem add_block (a : Addr) (n : Nat) : (a.add n).block = a.block := by unfold Addr.add; split <;> rfl

theorem HolesR.keep {w w' : World} {A : Option Addr} {hs : List (Int × Int)} {B : Nat} (h : HolesR w A hs) (hbl : ∀ a, A = some a → a.block < B) (hb : Below B w w') : HolesR w' A hs := fun j hj => by
  obtain ⟨a, rfl, h0, h1⟩ := h j hj
  have hab : (a.add (j * 2)).block < B := by rw [add_block]; exact hbl a rfl
  exact ⟨a, rfl, (hb.cell hab).trans h0, (hb.cell (p := ⟨_, _, none⟩) hab).trans h1⟩

theorem EntriesR.keep {w w' : World} {A : Option Addr} {l : List (Int × ByteArray)} (h : EntriesR w A l) (hb : Below w.heap.size w w') : EntriesR w' A l := fun j hj => by
  obtain ⟨a, rfl, h0, h1, h2⟩ := h j hj
  exact ⟨a, rfl, (hb.cell h2).trans h0, (hb.cell (p := ⟨_, _, none⟩) h2).trans h1, Nat.lt_of_lt_of_le h2 hb.size⟩

def cardI (hs : List (Int × Int)) (player : ByteArray) (l : List (Int × ByteArray)) : Int :=
  firstI [holesI hs, unlessI (nameB player) 8, pairedI l.length hs.length, entriesI l]

set_option maxRecDepth 100000 in
set_option maxHeartbeats 2000000 in
theorem refCheckCard_any (A B : Option Addr) (c d : Nat) (hs : List (Int × Int)) (player : ByteArray) (l : List (Int × ByteArray)) (w : World) (hr : HolesR w A hs) (hbl : ∀ a, A = some a → a.block < w.heap.size)
    (hl : hs.length ≤ 4611686018427387904) (he : EntriesR w B l) (hl2 : l.length ≤ 4611686018427387904) :
    Calls Tryz.prog 157 #[.slice A hs.length c, .agg #[.string player, .slice B l.length d]] w fun e w' => e = .returned (.int .i64 (cardI hs player l)) ∧ Below w.heap.size w w' := by
  have box := fun o => (Below.refl w.heap.size w).alloc (Nat.le_refl _) o
  have HR := Lib.hid (fun o => hr.keep hbl (box o))
  have HE := Lib.hid he
  clear hr he
  by_cases h1 : holesI hs = 0
  · have b1 : (holesI hs == 0) = true := by rw [h1]; rfl
    have H1 := Lib.hid h1
    clear h1
    cases h2 : nameB player
    · go_enter Tryz.func157, Tryz.ntmps157
      go_wp2_with fail
      refine (refCheckHoles_any _ _ hs _ (HR.out _)).mono ?_; rintro e w1 ⟨rfl, nq, rfl⟩
      go_wp2_with fail
      refine (refIsName_any _ _).mono ?_; rintro e w2 ⟨rfl, rfl⟩
      go_wp2
      go_ret
      refine ⟨?_, below_drewN ((Below.refl _ _).alloc (Nat.le_refl _) _) _⟩
      unfold cardI
      simp only [firstI, H1.out, h2]
      rfl
    · by_cases h3 : l.length = hs.length
      · have b3 : ((l.length : Int) != (hs.length : Int)) = false := by rw [h3]; simp
        have H3 := Lib.hid h3
        clear h3
        go_enter Tryz.func157, Tryz.ntmps157
        go_wp2_with fail
        refine (refCheckHoles_any _ _ hs _ (HR.out _)).mono ?_; rintro e w1 ⟨rfl, nq, rfl⟩
        go_wp2_with fail
        refine (refIsName_any _ _).mono ?_; rintro e w2 ⟨rfl, rfl⟩
        go_wp2_with fail
        refine (refCheckEntries_any _ _ l _ hl2 (HE.out.keep (below_drewN ((Below.refl _ _).alloc (Nat.le_refl _) _) _))).mono ?_; rintro e w2 ⟨rfl, hb2⟩
        go_wp2
        go_ret
        refine ⟨?_, (below_drewN ((Below.refl _ _).alloc (Nat.le_refl _) _) _).trans (hb2.mono (by simp))⟩
        unfold cardI
        simp only [firstI, H1.out, h2, pairedI, H3.out, unlessI]
        simp
      · have b3 : ((l.length : Int) != (hs.length : Int)) = true := by rw [bne_iff_ne]; omega
        have H3 := Lib.hid h3
        clear h3
        go_enter Tryz.func157, Tryz.ntmps157
        go_wp2_with fail
        refine (refCheckHoles_any _ _ hs _ (HR.out _)).mono ?_; rintro e w1 ⟨rfl, nq, rfl⟩
        go_wp2_with fail
        refine (refIsName_any _ _).mono ?_; rintro e w2 ⟨rfl, rfl⟩
        go_wp2
        go_ret
        refine ⟨?_, below_drewN ((Below.refl _ _).alloc (Nat.le_refl _) _) _⟩
        unfold cardI
        simp only [firstI, H1.out, h2, pairedI, if_neg H3.out, unlessI]
        rfl
  · have b1 : (holesI hs == 0) = false := beq_eq_false_iff_ne.2 h1
    have H1 := Lib.hid h1
    clear h1
    go_enter Tryz.func157, Tryz.ntmps157
    go_wp2_with fail
    refine (refCheckHoles_any _ _ hs _ (HR.out _)).mono ?_; rintro e w1 ⟨rfl, nq, rfl⟩
    go_wp2
    go_ret
    refine ⟨?_, below_drewN ((Below.refl _ _).alloc (Nat.le_refl _) _) _⟩
    unfold cardI
    simp only [firstI, if_neg H1.out]
    rfl

end Go.Proofs.YtbckfkopdojggaaGreatDoor

/- The program's checkEntry returns entryI. -/
namespace Go.Proofs.YtbckfkopdojggaaGreatDoor
open Go.RowKit

theorem marks_at (w : World) (g : Nat) (h : w.heap.size = g) : (w.alloc marksObj).heap[g]? = some marksObj := by
  subst h
  exact (MapKept.heap_alloc w _).1
theorem marks_past (w : World) (g : Nat) (o : Obj) (h : w.heap[g]? = some marksObj) : (w.alloc o).heap[g]? = some marksObj := by
  have hl : g < w.heap.size := by
    rcases Nat.lt_or_ge g w.heap.size with hlt | hge
    · exact hlt
    · rw [Array.getElem?_eq_none hge] at h; cases h
  exact (Below.heap_alloc w o g hl).trans h

set_option maxRecDepth 100000 in
set_option maxHeartbeats 4000000 in
theorem checkEntry_none (n : Int) (m : ByteArray) (w : World) (hv : markVal m = none) :
    Calls Tryz.prog 114 #[.agg #[.int .i64 n, .string m]] w fun e w' => e = .returned (.int .i64 (13)) ∧ Below w.heap.size w w' := by
  have l1 := fun (B : Obj) => look_marks ((w.alloc B).alloc marksObj).drew (w.heap.size + 1) m (marks_at (w.alloc B) _ (by simp))
  have l2 := fun (B C : Obj) => look_marks (((w.alloc B).alloc marksObj).alloc C).drew (w.heap.size + 1) m (marks_past _ _ _ (marks_at (w.alloc B) _ (by simp)))
  have l3 := fun (B C : Obj) => look_marks (((w.alloc B).alloc C).alloc marksObj).drew (w.heap.size + 2) m (marks_at ((w.alloc B).alloc C) _ (by simp))
  rw [hv] at l1 l2 l3
  simp only [fnV] at l1 l2 l3
  clear hv
  go_enter Tryz.func114, Tryz.ntmps114
  go_wp2
  go_region_with (go_at_call 116; refine (marks_any _).mono ?_; rintro e w1 ⟨rfl, rfl⟩)
  all_goals
    go_wp2
    all_goals go_ret
    all_goals refine ⟨by first | rfl | (simp [unlessI] <;> omega), ?_⟩
    all_goals repeat first | exact Below.refl _ _ | apply Below.drew | refine Below.alloc ?_ (by simp <;> omega) _ | refine Below.setCell ?_ (by simp <;> omega) _

set_option maxRecDepth 100000 in
set_option maxHeartbeats 4000000 in
theorem checkEntry_played (n : Int) (m : ByteArray) (w : World) (g : Nat) (hv : markVal m = some (166, g)) :
    Calls Tryz.prog 114 #[.agg #[.int .i64 n, .string m]] w fun e w' => e = .returned (.int .i64 (if 1 ≤ n ∧ n ≤ 99 then 0 else 3)) ∧ Below w.heap.size w w' := by
  have l1 := fun (B : Obj) => look_marks ((w.alloc B).alloc marksObj).drew (w.heap.size + 1) m (marks_at (w.alloc B) _ (by simp))
  have l2 := fun (B C : Obj) => look_marks (((w.alloc B).alloc marksObj).alloc C).drew (w.heap.size + 1) m (marks_past _ _ _ (marks_at (w.alloc B) _ (by simp)))
  have l3 := fun (B C : Obj) => look_marks (((w.alloc B).alloc C).alloc marksObj).drew (w.heap.size + 2) m (marks_at ((w.alloc B).alloc C) _ (by simp))
  rw [hv] at l1 l2 l3
  simp only [fnV] at l1 l2 l3
  clear hv
  go_enter Tryz.func114, Tryz.ntmps114
  go_wp2
  go_region_with (go_at_call 116; refine (marks_any _).mono ?_; rintro e w1 ⟨rfl, rfl⟩)
  all_goals
    go_wp2_with (first | (go_at_call 166; refine (played_any _ _).mono ?_; rintro e w1 ⟨rfl, rfl⟩) | (go_at_call 105; refine (unless_any _ _ _).mono ?_; rintro e w1 ⟨rfl, rfl⟩))
    all_goals go_ret
    all_goals refine ⟨by first | rfl | (simp [unlessI] <;> omega), ?_⟩
    all_goals repeat first | exact Below.refl _ _ | apply Below.drew | refine Below.alloc ?_ (by simp <;> omega) _ | refine Below.setCell ?_ (by simp <;> omega) _

set_option maxRecDepth 100000 in
set_option maxHeartbeats 4000000 in
theorem checkEntry_unplayed (n : Int) (m : ByteArray) (w : World) (g : Nat) (hv : markVal m = some (167, g)) :
    Calls Tryz.prog 114 #[.agg #[.int .i64 n, .string m]] w fun e w' => e = .returned (.int .i64 (if n = 0 then 0 else 3)) ∧ Below w.heap.size w w' := by
  have l1 := fun (B : Obj) => look_marks ((w.alloc B).alloc marksObj).drew (w.heap.size + 1) m (marks_at (w.alloc B) _ (by simp))
  have l2 := fun (B C : Obj) => look_marks (((w.alloc B).alloc marksObj).alloc C).drew (w.heap.size + 1) m (marks_past _ _ _ (marks_at (w.alloc B) _ (by simp)))
  have l3 := fun (B C : Obj) => look_marks (((w.alloc B).alloc C).alloc marksObj).drew (w.heap.size + 2) m (marks_at ((w.alloc B).alloc C) _ (by simp))
  rw [hv] at l1 l2 l3
  simp only [fnV] at l1 l2 l3
  clear hv
  go_enter Tryz.func114, Tryz.ntmps114
  go_wp2
  go_region_with (go_at_call 116; refine (marks_any _).mono ?_; rintro e w1 ⟨rfl, rfl⟩)
  all_goals
    go_wp2_with (first | (go_at_call 167; refine (unplayed_any _ _).mono ?_; rintro e w1 ⟨rfl, rfl⟩) | (go_at_call 105; refine (unless_any _ _ _).mono ?_; rintro e w1 ⟨rfl, rfl⟩))
    all_goals go_ret
    all_goals refine ⟨by first | rfl | (simp [unlessI] <;> omega), ?_⟩
    all_goals repeat first | exact Below.refl _ _ | apply Below.drew | refine Below.alloc ?_ (by simp <;> omega) _ | refine Below.setCell ?_ (by simp <;> omega) _

theorem checkEntry_any (n : Int) (m : ByteArray) (w : World) :
    Calls Tryz.prog 114 #[.agg #[.int .i64 n, .string m]] w fun e w' => e = .returned (.int .i64 (entryI n m)) ∧ Below w.heap.size w w' := by
  rcases mark_cases m with ⟨_, _, _, _, h5⟩ | ⟨_, _, _, _, h5⟩ | ⟨_, _, _, _, h5⟩ | ⟨_, _, _, _, h5⟩ | ⟨_, _, _, _, h5⟩
  all_goals unfold entryI; rw [h5]
  · exact checkEntry_played n m w _ (by unfold markVal; rw [h5]; rfl)
  · exact checkEntry_played n m w _ (by unfold markVal; rw [h5]; rfl)
  · exact checkEntry_unplayed n m w _ (by unfold markVal; rw [h5]; rfl)
  · exact checkEntry_unplayed n m w _ (by unfold markVal; rw [h5]; rfl)
  · exact checkEntry_none n m w (by unfold markVal; rw [h5]; rfl)

end Go.Proofs.YtbckfkopdojggaaGreatDoor

/- The program's checkEntries and CheckHoles. -/
namespace Go.Proofs.YtbckfkopdojggaaGreatDoor
open Go.RowKit

set_option maxHeartbeats 2000000 in
theorem checkEntries_any (A : Option Addr) (c : Nat) (l : List (Int × ByteArray)) (w : World) (hl : l.length ≤ 4611686018427387904) (hr : EntriesR w A l) :
    Calls Tryz.prog 64 #[.slice A l.length c] w fun e w' => e = .returned (.int .i64 (entriesI l)) ∧ Below w.heap.size w w' := by
  have HR := Lib.hid hr
  clear hr
  go_enter Tryz.func64, Tryz.ntmps64
  go_wp2
  go_loopw [8] (fun i w' => ∃ k : Nat, k ≤ l.length ∧ i = .int .i64 k ∧ Below w.heap.size w w' ∧ entriesI (l.drop k) = entriesI l) (fun i _ => l.length - (intOf i).toNat)
  case atStart => exact ⟨0, Nat.zero_le _, rfl, Below.refl _ _, rfl⟩
  case round =>
    obtain ⟨k, hk, rfl, hb, hd⟩ := hrel
    have HD := Lib.hid hd
    clear hd
    by_cases hlt : k < l.length
    · obtain ⟨a, rfl, hc0, hc1, hbl⟩ := HR.out k hlt
      have hd0 := (hb.cell hbl).trans hc0
      have hd1 := (hb.cell (p := ⟨_, _, none⟩) hbl).trans hc1
      clear hc0 hc1
      have HS := Lib.hid (fun n m => entriesI_drop l k hlt n m)
      generalize hpx : l.getD k (0, ByteArray.empty) = px at hd0 hd1
      obtain ⟨n, m⟩ := px
      have HS2 := Lib.hid (HS.out n m hpx)
      clear hpx HS
      by_cases he : entryI n m = 0
      · have HE := Lib.hid he
        have hz : (entryI n m != 0) = false := by rw [he]; rfl
        clear he
        go_wp2_with fail
        refine (checkEntry_any _ _ _).mono ?_; rintro e w1 ⟨rfl, hb1⟩
        go_wp2
        go_roundw
        case rel => exact ⟨k + 1, by omega, by go_num, (hb.alloc hb.size _).trans (hb1.mono (by have := hb.size; simp; omega)), by rw [← HD.out, HS2.out, if_pos HE.out]⟩
        case measure => simp [intOf]; omega
      · have HE := Lib.hid he
        have hz : (entryI n m != 0) = true := by rw [bne_iff_ne]; exact he
        clear he
        go_wp2_with fail
        refine (checkEntry_any _ _ _).mono ?_; rintro e w1 ⟨rfl, hb1⟩
        go_wp2
        go_ret
        exact ⟨by rw [← HD.out, HS2.out, if_neg HE.out]; rfl, (hb.alloc hb.size _).trans (hb1.mono (by have := hb.size; simp; omega))⟩
    · have hks := Lib.hid (show k = l.length by omega)
      go_wp2
      go_ret
      have hd := HD.out
      rw [List.drop_eq_nil_of_le (by have := hks.out; omega)] at hd
      exact ⟨by rw [← hd]; rfl, hb⟩

def putObj (w : World) (b : Nat) (o : Obj) : World := { w with heap := w.heap.setIfInBounds b o }
theorem putObj_at {w : World} {b : Nat} {o o' : Obj} (h : w.heap[b]? = some o) : (putObj w b o').heap[b]? = some o' := (MapKept.heap_set h).1
theorem putObj_below (w : World) (b B : Nat) (o : Obj) (hB : B ≤ b) : Below B w (putObj w b o) :=
  ⟨rfl, rfl, rfl, by simp [putObj], fun k hk => by
    show (w.heap.setIfInBounds b o)[k]? = _
    rw [Array.getElem?_setIfInBounds, if_neg (by omega)]⟩

theorem run_put_at {P : Program} (w : World) {t kt et : TypeId} {d : TypeDesc} {es : Array MapEntry} {clock b : Nat} (hm : P.underlying t = some (.map kt et)) (hd : P.underlying kt = some d)
    (hb : w.heap[b]? = some (.map es clock)) (key v : Value) (hk : MapKept.IsKey d key) (hf : Instr.findNow d key es.toList 0 = some none) :
    (Instr.mapUpdate t (.map (some b)) key v).run P w = .ok () (putObj w b (.map (es.push { key, val := v, born := clock }) (clock + 1))) := by
  unfold Instr.mapUpdate
  simp only [Sem.run_bind, run_underlying hm, Result.andThen_ok, MapKept.run_getObj_map hb, MapKept.run_checkKey hd hk, MapKept.run_findKey hd hf, MapKept.run_setObj_map _ hb]
  rfl

theorem run_get_yes {P : Program} (w : World) {t kt et : TypeId} {d : TypeDesc} {es : Array MapEntry} {clock b i : Nat} {v : Value} (hm : P.underlying t = some (.map kt et)) (hd : P.underlying kt = some d)
    (hb : w.heap[b]? = some (.map es clock)) (key : Value) (hk : MapKept.IsKey d key) (hf : Instr.findNow d key es.toList 0 = some (some (i, v))) :
    (Instr.lookup t (.map (some b)) key false).run P w = .ok v w := by
  unfold Instr.lookup
  simp only [Sem.run_bind, run_underlying hm, Result.andThen_ok, MapKept.run_getObj_map hb, MapKept.run_checkKey hd hk, MapKept.run_findKey hd hf, Sem.run_pure]
  rfl

theorem run_get_no {P : Program} (w : World) {t kt et : TypeId} {d : TypeDesc} {es : Array MapEntry} {clock b : Nat} {z : Value} (hm : P.underlying t = some (.map kt et)) (hd : P.underlying kt = some d)
    (hz : (zeroValue et).run P w = .ok z w)
    (hb : w.heap[b]? = some (.map es clock)) (key : Value) (hk : MapKept.IsKey d key) (hf : Instr.findNow d key es.toList 0 = some none) :
    (Instr.lookup t (.map (some b)) key false).run P w = .ok z w := by
  unfold Instr.lookup
  simp only [Sem.run_bind, run_underlying hm, Result.andThen_ok, MapKept.run_getObj_map hb, MapKept.run_checkKey hd hk, MapKept.run_findKey hd hf, Sem.run_pure, hz]
  rfl

/-- The entries of a set of integers, in the order in which they came. -/
def setEs : Nat → List Int → List MapEntry
  | _, [] => []
  | i, x :: l => ⟨.int .i64 x, .bool true, i⟩ :: setEs (i + 1) l
theorem setEs_snoc (i : Nat) (l : List Int) (x : Int) : setEs i (l ++ [x]) = setEs i l ++ [⟨.int .i64 x, .bool true, i + l.length⟩] := by
  induction l generalizing i with
  | nil => rfl
  | cons y l ih => simp only [List.cons_append, setEs, ih, List.length_cons]; rw [Nat.add_assoc, Nat.add_comm 1]
theorem find_setEs (x : Int) (l : List Int) (i j : Nat) :
    if x ∈ l then ∃ q, Instr.findNow (.int .i64) (.int .i64 x) (setEs i l) j = some (some (q, .bool true)) else Instr.findNow (.int .i64) (.int .i64 x) (setEs i l) j = some none := by
  induction l generalizing i j with
  | nil => simp [setEs, Instr.findNow]
  | cons y l ih =>
    by_cases h : x = y
    · subst h
      simp [setEs, Instr.findNow, Instr.sameNow]
    · have hb : (x == y) = false := beq_eq_false_iff_ne.2 h
      have := ih (i + 1) (j + 1)
      simp only [setEs, Instr.findNow, Instr.sameNow, if_true, hb, List.mem_cons, h, false_or]
      exact this

end Go.Proofs.YtbckfkopdojggaaGreatDoor

/- The program's CheckHoles returns holesI. -/
namespace Go.Proofs.YtbckfkopdojggaaGreatDoor
open Go.RowKit

theorem Ints.drew {w : World} {A : Option Addr} {xs : List Int} (h : Ints w A xs) : Ints w.drew A xs := h

theorem zeroBool (w : World) : (zeroValue 4).run Tryz.prog w = .ok (.bool false) w := by kernel_rfl

theorem look_set (w : World) (b n : Nat) (l : List Int) (x : Int) (hb : w.heap[b]? = some (.map (setEs 0 l).toArray n)) :
    (Instr.lookup 173 (.map (some b)) (.int .i64 x) false).run Tryz.prog w = .ok (.bool (decide (x ∈ l))) w := by
  have h := find_setEs x l 0 0
  by_cases hx : x ∈ l
  · rw [if_pos hx] at h
    obtain ⟨q, hq⟩ := h
    rw [decide_eq_true hx]
    exact run_get_yes (i := q) w Tryz.underlying173 Tryz.underlying3 hb _ rfl hq
  · rw [if_neg hx] at h
    rw [decide_eq_false hx]
    exact run_get_no w Tryz.underlying173 Tryz.underlying3 (zeroBool w) hb _ rfl h

set_option maxRecDepth 100000 in
set_option maxHeartbeats 2000000 in
theorem checkHoles_any (A : Option Addr) (c : Nat) (hs : List (Int × Int)) (w : World) (hr : HolesR w A hs) (hbl : ∀ a, A = some a → a.block < w.heap.size) (hl : hs.length ≤ 4611686018427387904) :
    Calls Tryz.prog 50 #[.slice A hs.length c] w fun e w' => e = .returned (.int .i64 (holesI hs)) ∧ Below w.heap.size w w' := by
  have HR := Lib.hid hr
  clear hr
  have hmm := @run_makeMap Tryz.prog
  by_cases h1 : hs.length = 0 ∨ 36 < hs.length
  · have hz : (sizedI hs.length 36 != 0) = true := by
      unfold sizedI
      rcases h1 with h | h
      · rw [if_pos h]; rfl
      · rw [if_neg (by omega), if_neg (by omega)]; rfl
    have hv : Hid (sizedI hs.length 36 = holesI hs) := by
      show _ = _
      unfold sizedI holesI
      rcases h1 with h | h
      · rw [if_pos h, if_pos h]
      · rw [if_neg (by omega), if_neg (by omega), if_neg (by omega), if_pos h]
    clear h1
    go_enter Tryz.func50, Tryz.ntmps50
    go_wp2_with fail
    refine (sizedHole_any _ _ _ _ _ hl).mono ?_; rintro e w1 ⟨rfl, hb1⟩
    go_wp2
    go_ret
    exact ⟨by rw [← hv.out]; rfl, hb1⟩
  have hz : (sizedI hs.length 36 != 0) = false := by
    unfold sizedI
    rw [if_neg (by omega), if_pos (by omega)]; rfl
  have HI : Hid (holesI hs = holesGo hs.length [] hs) := by
    show _ = _
    rw [holesI, if_neg (by omega), if_neg (by omega)]
  clear h1
  go_enter Tryz.func50, Tryz.ntmps50
  go_wp2_with fail
  refine (sizedHole_any _ _ _ _ _ hl).mono ?_; rintro e w1 ⟨rfl, hb1⟩
  go_wp2
  go_loopw [16] (fun i w' => ∃ k : Nat, k ≤ hs.length ∧ Below w1.heap.size w1 w' ∧ w'.heap[w1.heap.size]? = some (.map (setEs 0 ((hs.take k).map (·.2))).toArray k) ∧ i = .int .i64 k ∧ holesGo hs.length ((hs.take k).map (·.2)).reverse (hs.drop k) = holesGo hs.length [] hs) (fun i _ => hs.length - (intOf i).toNat)
  case atStart => exact ⟨0, Nat.zero_le _, (Below.refl _ _).alloc (Nat.le_refl _) _, (MapKept.heap_alloc w1 _).1, rfl, rfl⟩
  case round =>
    obtain ⟨k, hk, hb, hm, rfl, hd⟩ := hrel
    have HD := Lib.hid hd
    clear hd
    by_cases hlt : k < hs.length
    · obtain ⟨a, rfl, hc0, hc1⟩ := HR.out k hlt
      have hba := hbl a rfl
      have hab : (a.add (k * 2)).block < w.heap.size := by unfold Addr.add; split <;> exact hba
      have hd0 := (hb.cell (p := a.add (k * 2)) (by have := hb1.size; omega)).trans ((hb1.cell hab).trans hc0)
      have hd1 := (hb.cell (p := ⟨(a.add (k * 2)).block, _, none⟩) (by have := hb1.size; simp; omega)).trans ((hb1.cell (p := ⟨_, _, none⟩) hab).trans hc1)
      clear hc0 hc1
      have HS := Lib.hid (fun p x => holesGo_drop hs hs.length k hlt p x)
      generalize hpx : hs.getD k (0, 0) = px at hd0 hd1
      obtain ⟨p, x⟩ := px
      have HS2 := Lib.hid (HS.out p x hpx)
      have HPX := Lib.hid hpx
      clear hpx HS
      have hms : w1.heap.size < wr.heap.size := by
        rcases Nat.lt_or_ge w1.heap.size wr.heap.size with hlt' | hge
        · exact hlt'
        · rw [Array.getElem?_eq_none hge] at hm; cases hm
      have l1 := fun (B : Obj) => look_set (wr.alloc B).drew w1.heap.size k _ x ((Below.heap_alloc wr B _ hms).trans hm)
      generalize hxs : (hs.take k).map (·.2) = xs at hm l1 HS2 HD
      have HXS := Lib.hid hxs
      clear hxs
      have HSet : Hid (setEs 0 ((hs.take (k + 1)).map (·.2)) = setEs 0 xs ++ [⟨.int .i64 x, .bool true, k⟩]) := by
        show _ = _
        have e : hs[k] = (p, x) := by rw [← HPX.out]; simp [List.getD, List.getElem?_eq_getElem hlt]
        rw [List.take_succ_eq_append_getElem hlt, e, List.map_append, HXS.out]
        have := setEs_snoc 0 xs x
        have hlen : xs.length = k := by rw [← HXS.out, List.length_map, List.length_take]; omega
        rw [hlen, Nat.zero_add] at this
        exact this
      by_cases he : firstI [withinI p 3 6, withinI x 1 ↑hs.length, unlessI (!decide (x ∈ xs)) 9] = 0
      · have hz2 : (firstI [withinI p 3 6, withinI x 1 ↑hs.length, unlessI (!decide (x ∈ xs)) 9] != 0) = false := by rw [he]; rfl
        have hgood : ((3 ≤ p ∧ p ≤ 6) ∧ (1 ≤ x ∧ x ≤ hs.length)) ∧ ¬ x ∈ xs := by
          simp only [firstI, withinI, unlessI] at he
          by_cases g1 : 3 ≤ p ∧ p ≤ 6
          · by_cases g2 : 1 ≤ x ∧ x ≤ (hs.length : Int)
            · by_cases g3 : x ∈ xs
              · simp [g1, g2, g3] at he
              · exact ⟨⟨g1, g2⟩, g3⟩
            · simp [g1, g2] at he
          · simp [g1] at he
        have HS3 : Hid (_ = _) := HS2.out.trans ((if_neg (by omega)).trans (if_neg hgood.2))
        have hnf := find_setEs x xs 0 0
        rw [if_neg hgood.2] at hnf
        have p1 := fun (B C : Obj) => run_put_at (P := Tryz.prog) ((wr.alloc B).alloc C).drew Tryz.underlying173 Tryz.underlying3 ((Below.heap_alloc (wr.alloc B) C _ (by simp; omega)).trans ((Below.heap_alloc wr B _ hms).trans hm)) (.int .i64 x) (.bool true) rfl hnf
        have HM := Lib.hid (fun (B C : Obj) (o : Obj) => putObj_at (w := ((wr.alloc B).alloc C).drew) (o' := o) ((Below.heap_alloc (wr.alloc B) C _ (by simp; omega)).trans ((Below.heap_alloc wr B _ hms).trans hm)))
        clear he hgood hnf HS2
        go_wp2
        go_region_held3 (fun w' => w'.cell? ⟨wr.heap.size, 0, none⟩ = some (.int .i64 p) ∧ w'.cell? ⟨wr.heap.size, 1, none⟩ = some (.int .i64 x)) (go_keep) (first | (go_at_call 104; refine (within_any _ _ _ _).mono ?_; rintro e w2 ⟨rfl, rfl⟩) | (go_at_call 105; refine (unless_any _ _ _).mono ?_; rintro e w2 ⟨rfl, rfl⟩) | (go_at_call 62; refine (first_any _ _ [_, _, _] _ (by simp) (Ints.three _ _ _ _ _ _ (by simp)).drew).mono ?_; rintro e w2 ⟨rfl, rfl⟩))
        all_goals
          go_wp2
          go_roundw
          case rel =>
            refine ⟨k + 1, by omega, ?_, ?_, by go_num, by rw [← HD.out, HS3.out]⟩
            · exact (((hb.alloc hb.size _).alloc (by have := hb.size; simp; omega) _).drew).trans (putObj_below _ _ _ _ (Nat.le_refl _))
            · rw [HSet.out]; refine (HM.out _ _ _).trans ?_; simp
          case measure => simp [intOf]; omega
      · have hz2 : (firstI [withinI p 3 6, withinI x 1 ↑hs.length, unlessI (!decide (x ∈ xs)) 9] != 0) = true := by rw [bne_iff_ne]; exact he
        have hval : Hid (firstI [withinI p 3 6, withinI x 1 ↑hs.length, unlessI (!decide (x ∈ xs)) 9] = holesI hs) := by
          show _ = _
          rw [HI.out, ← HD.out, HS2.out]
          simp only [firstI, withinI, unlessI] at he ⊢
          by_cases g1 : 3 ≤ p ∧ p ≤ 6
          · by_cases g2 : 1 ≤ x ∧ x ≤ (hs.length : Int)
            · by_cases g3 : x ∈ xs
              · simp [g1, g2, g3]
              · exact absurd (by simp [g1, g2, g3]) he
            · simp [g1, g2]
          · simp [g1]
        clear he HS2 HD HI
        go_wp2
        go_region_held3 (fun w' => w'.cell? ⟨wr.heap.size, 0, none⟩ = some (.int .i64 p) ∧ w'.cell? ⟨wr.heap.size, 1, none⟩ = some (.int .i64 x)) (go_keep) (first | (go_at_call 104; refine (within_any _ _ _ _).mono ?_; rintro e w2 ⟨rfl, rfl⟩) | (go_at_call 105; refine (unless_any _ _ _).mono ?_; rintro e w2 ⟨rfl, rfl⟩) | (go_at_call 62; refine (first_any _ _ [_, _, _] _ (by simp) (Ints.three _ _ _ _ _ _ (by simp)).drew).mono ?_; rintro e w2 ⟨rfl, rfl⟩))
        all_goals
          go_wp2
          go_ret
          refine ⟨by rw [← hval.out]; rfl, hb1.trans (Below.mono ?_ hb1.size)⟩
          exact ((hb.alloc hb.size _).alloc (by have := hb.size; simp; omega) _).drew
    · have hks := Lib.hid (show k = hs.length by omega)
      go_wp2
      go_ret
      have hd := HD.out
      rw [List.drop_eq_nil_of_le (by have := hks.out; omega)] at hd
      exact ⟨by rw [HI.out, ← hd]; rfl, hb1.trans (hb.mono hb1.size)⟩

end Go.Proofs.YtbckfkopdojggaaGreatDoor

/- CheckCard of the reference and of the program: both return cardI. -/
namespace Go.Proofs.YtbckfkopdojggaaGreatDoor
open Go.RowKit

theorem Ints.four (w : World) (g T : Nat) (x y z u : Int) (hg : w.heap.size = g) :
    Ints (w.alloc (.cells #[.int .i64 x, .int .i64 y, .int .i64 z, .int .i64 u] T)) (some ⟨g, 0, none⟩) [x, y, z, u] := by
  subst hg
  exact Ints.of_block (heap_alloc_new w _) _ fun j hj => match j, hj with
    | 0, _ => rfl
    | 1, _ => rfl
    | 2, _ => rfl
    | 3, _ => rfl

theorem cell_lt {W : World} {g i : Nat} {v : Value} (h : W.cell? ⟨g, i, none⟩ = some v) : g < W.heap.size := by
  rcases Nat.lt_or_ge g W.heap.size with hlt | hge
  · exact hlt
  · unfold World.cell? at h
    rw [show W.heap[(⟨g, i, none⟩ : Addr).block]? = none from Array.getElem?_eq_none hge] at h
    cases h

theorem heldB {C D : Prop} {B : Nat} {w W : World} (h : C ∧ D ∧ Hid (Below B w W)) : Below B w W := h.2.2

theorem keep2 {w W w1 : World} {B g : Nat} {u v : Value} (hb : Below W.heap.size W w1) (h : W.cell? ⟨g, 0, none⟩ = some u ∧ W.cell? ⟨g, 1, none⟩ = some v ∧ Hid (Below B w W)) (hB : B ≤ w.heap.size) :
    w1.cell? ⟨g, 0, none⟩ = some u ∧ w1.cell? ⟨g, 1, none⟩ = some v ∧ Hid (Below B w w1) :=
  ⟨(hb.cell (p := ⟨_, _, none⟩) (cell_lt h.1)).trans h.1, (hb.cell (p := ⟨_, _, none⟩) (cell_lt h.1)).trans h.2.1, h.2.2.out.trans (hb.mono (Nat.le_trans hB h.2.2.out.size))⟩

theorem keep2_alloc {w W : World} {B g : Nat} {u v : Value} (o : Obj) (h : W.cell? ⟨g, 0, none⟩ = some u ∧ W.cell? ⟨g, 1, none⟩ = some v ∧ Hid (Below B w W)) (hB : B ≤ w.heap.size) :
    (W.alloc o).cell? ⟨g, 0, none⟩ = some u ∧ (W.alloc o).cell? ⟨g, 1, none⟩ = some v ∧ Hid (Below B w (W.alloc o)) :=
  keep2 ((Below.refl _ _).alloc (Nat.le_refl _) _) h hB

set_option maxRecDepth 100000 in
set_option maxHeartbeats 4000000 in
theorem checkCard_any (A B : Option Addr) (c d : Nat) (hs : List (Int × Int)) (player : ByteArray) (l : List (Int × ByteArray)) (w : World) (hr : HolesR w A hs) (hbl : ∀ a, A = some a → a.block < w.heap.size)
    (hl : hs.length ≤ 4611686018427387904) (he : EntriesR w B l) (hl2 : l.length ≤ 4611686018427387904) :
    Calls Tryz.prog 163 #[.slice A hs.length c, .agg #[.string player, .slice B l.length d]] w fun e w' => e = .returned (.int .i64 (cardI hs player l)) ∧ Below w.heap.size w w' := by
  have HR := Lib.hid hr
  have HB := Lib.hid hbl
  have HE := Lib.hid he
  have HS0 := Lib.hid (fun o => below_drewN ((Below.refl w.heap.size w).alloc (Nat.le_refl _) o) 1)
  clear hr he hbl
  go_enter Tryz.func163, Tryz.ntmps163
  go_wp2
  go_region_held3 (fun w' => w'.cell? ⟨w.heap.size, 0, none⟩ = some (.string player) ∧ w'.cell? ⟨w.heap.size, 1, none⟩ = some (.slice B l.length d) ∧ Hid (Below w.heap.size w w'))
    ((first | assumption | exact keep2 hb1 (by assumption) (Nat.le_refl _) | exact keep2_alloc _ (by assumption) (Nat.le_refl _) | exact ⟨by go_simp, by go_simp, HS0.out _⟩))
    (first
      | (go_at_call 192; refine (cardIsName_any _ _).mono ?_; rintro e w1 ⟨rfl, hb1⟩)
      | (go_at_call 50; refine (checkHoles_any _ _ hs _ (HR.out.keep HB.out (heldB (by assumption))) (fun a h => Nat.lt_of_lt_of_le (HB.out a h) (heldB (B := w.heap.size) (w := w) (by assumption)).size) hl).mono ?_; rintro e w1 ⟨rfl, hb1⟩)
      | (go_at_call 64; refine (checkEntries_any _ _ l _ hl2 (HE.out.keep (heldB (by assumption)))).mono ?_; rintro e w1 ⟨rfl, hb1⟩)
      | (go_at_call 193; refine (pairedEntryHole_any _ _ _ _ _ _ _).mono ?_; rintro e w1 ⟨rfl, rfl⟩)
      | (go_at_call 62; refine (first_any _ _ [_, _, _, _] _ (by simp) (Ints.four _ _ _ _ _ _ _ rfl)).mono ?_; rintro e w1 ⟨rfl, rfl⟩)
      | (go_at_call 105; refine (unless_any _ _ _).mono ?_; rintro e w1 ⟨rfl, rfl⟩))
  all_goals go_wp2
  all_goals go_ret
  all_goals exact ⟨rfl, by first | exact heldB (by assumption) | exact (heldB (by assumption)).alloc (heldB (B := w.heap.size) (w := w) (by assumption)).size _⟩

end Go.Proofs.YtbckfkopdojggaaGreatDoor
