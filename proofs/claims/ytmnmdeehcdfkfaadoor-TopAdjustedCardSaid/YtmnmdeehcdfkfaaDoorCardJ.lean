/- The program's checkEntries and CheckHoles. -/
import Derived.Test.YtmnmdeehcdfkfaaDoorCardI
import Derived.StillTailTactics
namespace Go.Proofs.YtmnmdeehcdfkfaaDoor
open Go.RowKit

set_option maxHeartbeats 2000000 in
theorem checkEntries_any (A : Option Addr) (c : Nat) (l : List (Int × ByteArray)) (w : World) (hl : l.length ≤ 4611686018427387904) (hr : EntriesR w A l) :
    Calls Tryd.prog 36 #[.slice A l.length c] w fun e w' => e = .returned (.int .i64 (entriesI l)) ∧ Below w.heap.size w w' := by
  have HR := Lib.hid hr
  clear hr
  go_enter Tryd.func36, Tryd.ntmps36
  go_wp2
  go_loopw [8] (fun i w' => ∃ k : Nat, k ≤ l.length ∧ i = .int .i64 k ∧ Below w.heap.size w w' ∧ entriesI (l.drop k) = entriesI l) (fun i _ => l.length - (intOf i).toNat)
  case atStart => exact ⟨0, Nat.zero_le _, rfl, Below.refl _ _, rfl⟩
  case round =>
    obtain ⟨k, hk, rfl, hb, hd⟩ := hrel
    have HD := Lib.hid hd
    clear hd
    by_cases hlt : k < l.length
    · obtain ⟨a, rfl, hc0, hc1, hbl⟩ := HR.out k hlt
      have hd0 := (hb.cell hbl).trans hc0
      have hd1 := (hb.cell (p := ⟨_, _, none⟩) hbl).trans hc1
      clear hc0 hc1
      have HS := Lib.hid (fun n m => entriesI_drop l k hlt n m)
      generalize hpx : l.getD k (0, ByteArray.empty) = px at hd0 hd1
      obtain ⟨n, m⟩ := px
      have HS2 := Lib.hid (HS.out n m hpx)
      clear hpx HS
      by_cases he : entryI n m = 0
      · have HE := Lib.hid he
        have hz : (entryI n m != 0) = false := by rw [he]; rfl
        clear he
        go_wp2_with fail
        refine (checkEntry_any _ _ _).mono ?_; rintro e w1 ⟨rfl, hb1⟩
        go_wp2
        go_roundw
        case rel => exact ⟨k + 1, by omega, by go_num, (hb.alloc hb.size _).trans (hb1.mono (by have := hb.size; simp; omega)), by rw [← HD.out, HS2.out, if_pos HE.out]⟩
        case measure => simp [intOf]; omega
      · have HE := Lib.hid he
        have hz : (entryI n m != 0) = true := by rw [bne_iff_ne]; exact he
        clear he
        go_wp2_with fail
        refine (checkEntry_any _ _ _).mono ?_; rintro e w1 ⟨rfl, hb1⟩
        go_wp2
        go_ret
        exact ⟨by rw [← HD.out, HS2.out, if_neg HE.out]; rfl, (hb.alloc hb.size _).trans (hb1.mono (by have := hb.size; simp; omega))⟩
    · have hks := Lib.hid (show k = l.length by omega)
      go_wp2
      go_ret
      have hd := HD.out
      rw [List.drop_eq_nil_of_le (by have := hks.out; omega)] at hd
      exact ⟨by rw [← hd]; rfl, hb⟩

def putObj (w : World) (b : Nat) (o : Obj) : World := { w with heap := w.heap.setIfInBounds b o }
theorem putObj_at {w : World} {b : Nat} {o o' : Obj} (h : w.heap[b]? = some o) : (putObj w b o').heap[b]? = some o' := (MapKept.heap_set h).1
theorem putObj_below (w : World) (b B : Nat) (o : Obj) (hB : B ≤ b) : Below B w (putObj w b o) :=
  ⟨rfl, rfl, rfl, by simp [putObj], fun k hk => by
    show (w.heap.setIfInBounds b o)[k]? = _
    rw [Array.getElem?_setIfInBounds, if_neg (by omega)]⟩

theorem run_put_at {P : Program} (w : World) {t kt et : TypeId} {d : TypeDesc} {es : Array MapEntry} {clock b : Nat} (hm : P.underlying t = some (.map kt et)) (hd : P.underlying kt = some d)
    (hb : w.heap[b]? = some (.map es clock)) (key v : Value) (hk : MapKept.IsKey d key) (hf : Instr.findNow d key es.toList 0 = some none) :
    (Instr.mapUpdate t (.map (some b)) key v).run P w = .ok () (putObj w b (.map (es.push { key, val := v, born := clock }) (clock + 1))) := by
  unfold Instr.mapUpdate
  simp only [Sem.run_bind, run_underlying hm, Result.andThen_ok, MapKept.run_getObj_map hb, MapKept.run_checkKey hd hk, MapKept.run_findKey hd hf, MapKept.run_setObj_map _ hb]
  rfl

theorem run_get_yes {P : Program} (w : World) {t kt et : TypeId} {d : TypeDesc} {es : Array MapEntry} {clock b i : Nat} {v : Value} (hm : P.underlying t = some (.map kt et)) (hd : P.underlying kt = some d)
    (hb : w.heap[b]? = some (.map es clock)) (key : Value) (hk : MapKept.IsKey d key) (hf : Instr.findNow d key es.toList 0 = some (some (i, v))) :
    (Instr.lookup t (.map (some b)) key false).run P w = .ok v w := by
  unfold Instr.lookup
  simp only [Sem.run_bind, run_underlying hm, Result.andThen_ok, MapKept.run_getObj_map hb, MapKept.run_checkKey hd hk, MapKept.run_findKey hd hf, Sem.run_pure]
  rfl

theorem run_get_no {P : Program} (w : World) {t kt et : TypeId} {d : TypeDesc} {es : Array MapEntry} {clock b : Nat} {z : Value} (hm : P.underlying t = some (.map kt et)) (hd : P.underlying kt = some d)
    (hz : (zeroValue et).run P w = .ok z w)
    (hb : w.heap[b]? = some (.map es clock)) (key : Value) (hk : MapKept.IsKey d key) (hf : Instr.findNow d key es.toList 0 = some none) :
    (Instr.lookup t (.map (some b)) key false).run P w = .ok z w := by
  unfold Instr.lookup
  simp only [Sem.run_bind, run_underlying hm, Result.andThen_ok, MapKept.run_getObj_map hb, MapKept.run_checkKey hd hk, MapKept.run_findKey hd hf, Sem.run_pure, hz]
  rfl

/-- The entries of a set of integers, in the order in which they came. -/
def setEs : Nat → List Int → List MapEntry
  | _, [] => []
  | i, x :: l => ⟨.int .i64 x, .bool true, i⟩ :: setEs (i + 1) l
theorem setEs_snoc (i : Nat) (l : List Int) (x : Int) : setEs i (l ++ [x]) = setEs i l ++ [⟨.int .i64 x, .bool true, i + l.length⟩] := by
  induction l generalizing i with
  | nil => rfl
  | cons y l ih => simp only [List.cons_append, setEs, ih, List.length_cons]; rw [Nat.add_assoc, Nat.add_comm 1]
theorem find_setEs (x : Int) (l : List Int) (i j : Nat) :
    if x ∈ l then ∃ q, Instr.findNow (.int .i64) (.int .i64 x) (setEs i l) j = some (some (q, .bool true)) else Instr.findNow (.int .i64) (.int .i64 x) (setEs i l) j = some none := by
  induction l generalizing i j with
  | nil => simp [setEs, Instr.findNow]
  | cons y l ih =>
    by_cases h : x = y
    · subst h
      simp [setEs, Instr.findNow, Instr.sameNow]
    · have hb : (x == y) = false := beq_eq_false_iff_ne.2 h
      have := ih (i + 1) (j + 1)
      simp only [setEs, Instr.findNow, Instr.sameNow, if_true, hb, List.mem_cons, h, false_or]
      exact this

end Go.Proofs.YtmnmdeehcdfkfaaDoor
