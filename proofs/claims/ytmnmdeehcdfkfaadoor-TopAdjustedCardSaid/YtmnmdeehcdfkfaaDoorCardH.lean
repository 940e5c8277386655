/- The program's marks, checkEntry and checkEntries. -/
import Derived.Test.YtmnmdeehcdfkfaaDoorCardG
namespace Go.Proofs.YtmnmdeehcdfkfaaDoor
open Go.RowKit

set_option maxHeartbeats 400000 in
theorem played_any (n : Int) (w : World) :
    Calls Tryd.prog 62 #[.int .i64 n] w fun e w' => e = .returned (.bool (decide (1 ≤ n ∧ n ≤ 99))) ∧ w = w' := by
  by_cases g1 : 1 ≤ n <;> by_cases g2 : n ≤ 99
  all_goals
    go_enter Tryd.func62, Tryd.ntmps62
    go_wp2
    go_ret
    exact ⟨by simp [g1, g2], rfl⟩

set_option maxHeartbeats 400000 in
theorem unplayed_any (n : Int) (w : World) :
    Calls Tryd.prog 63 #[.int .i64 n] w fun e w' => e = .returned (.bool (decide (n = 0))) ∧ w = w' := by
  go_enter Tryd.func63, Tryd.ntmps63
  go_wp2
  go_ret
  exact ⟨by by_cases h : n = 0 <;> simp [h], rfl⟩

section
open Go.MapKept
theorem alloc_setInBounds (w : World) (o o' : Obj) : ({ w.alloc o with heap := (w.alloc o).heap.setIfInBounds w.heap.size o' } : World) = w.alloc o' := by
  show ({ w with heap := (w.heap.push o).setIfInBounds w.heap.size o' } : World) = { w with heap := w.heap.push o' }
  congr 1
  rw [Array.setIfInBounds, dif_pos (by simp)]
  apply Array.ext
  · simp
  · intro i h1 h2
    simp only [Array.getElem_set, Array.getElem_push]
    split
    · rename_i e; subst e; simp
    · rename_i e
      split
      · rfl
      · rename_i e2; simp at h2; omega

theorem run_put_new {P : Program} (w : World) {t kt et : TypeId} {d : TypeDesc} {es : Array MapEntry} {clock : Nat} (hm : P.underlying t = some (.map kt et)) (hd : P.underlying kt = some d)
    (key v : Value) (hk : MapKept.IsKey d key) (hf : Instr.findNow d key es.toList 0 = some none) :
    (Instr.mapUpdate t (.map (some w.heap.size)) key v).run P (w.alloc (.map es clock)) = .ok () (w.alloc (.map (es.push { key, val := v, born := clock }) (clock + 1))) := by
  have hb := (MapKept.heap_alloc w (.map es clock)).1
  unfold Instr.mapUpdate
  simp only [Sem.run_bind, run_underlying hm, Result.andThen_ok, MapKept.run_getObj_map hb, MapKept.run_checkKey hd hk, MapKept.run_findKey hd hf, MapKept.run_setObj_map _ hb]
  exact congrArg _ (alloc_setInBounds w _ _)

theorem run_look_yes {P : Program} (w : World) {t kt et : TypeId} {d : TypeDesc} {es : Array MapEntry} {clock b i : Nat} {v : Value} (hm : P.underlying t = some (.map kt et)) (hd : P.underlying kt = some d)
    (hb : w.heap[b]? = some (.map es clock)) (key : Value) (hk : MapKept.IsKey d key) (hf : Instr.findNow d key es.toList 0 = some (some (i, v))) :
    (Instr.lookup t (.map (some b)) key true).run P w = .ok (.tuple #[v, .bool true]) w := by
  unfold Instr.lookup
  simp only [Sem.run_bind, run_underlying hm, Result.andThen_ok, MapKept.run_getObj_map hb, MapKept.run_checkKey hd hk, MapKept.run_findKey hd hf, Sem.run_pure]
  rfl

theorem run_look_no {P : Program} (w : World) {t kt et : TypeId} {d : TypeDesc} {es : Array MapEntry} {clock b : Nat} {z : Value} (hm : P.underlying t = some (.map kt et)) (hd : P.underlying kt = some d)
    (hz : (zeroValue et).run P w = .ok z w)
    (hb : w.heap[b]? = some (.map es clock)) (key : Value) (hk : MapKept.IsKey d key) (hf : Instr.findNow d key es.toList 0 = some none) :
    (Instr.lookup t (.map (some b)) key true).run P w = .ok (.tuple #[z, .bool false]) w := by
  unfold Instr.lookup
  simp only [Sem.run_bind, run_underlying hm, Result.andThen_ok, MapKept.run_getObj_map hb, MapKept.run_checkKey hd hk, MapKept.run_findKey hd hf, Sem.run_pure, hz]
  rfl
end

def fnV (n : Nat) : Value := .func (.func n) #[] #[]
/-- The map that marks makes: for each mark its test of strokes, and how its word is made. -/
def marksObj : Obj := .map #[
  { key := .string ⟨#[]⟩, val := .agg #[fnV 62, fnV 64], born := 0 },
  { key := .string ⟨#[99]⟩, val := .agg #[fnV 62, fnV 65], born := 1 },
  { key := .string ⟨#[120]⟩, val := .agg #[fnV 63, fnV 66], born := 2 },
  { key := .string ⟨#[45]⟩, val := .agg #[fnV 63, fnV 67], born := 3 }] 4

set_option maxRecDepth 100000 in
set_option maxHeartbeats 400000 in
theorem marks_any (w : World) :
    Calls Tryd.prog 60 #[] w fun e w' => e = .returned (.map (some w.heap.size)) ∧ w.alloc marksObj = w' := by
  have hmm := @run_makeMap Tryd.prog
  have i0 := fun v => run_put_new (P := Tryd.prog) w (t := 91) (es := #[]) (clock := 0) Tryd.underlying91 Tryd.underlying9 (.string ⟨#[]⟩) v trivial rfl
  have i1 := fun v v0 => run_put_new (P := Tryd.prog) w (t := 91) (es := #[⟨.string ⟨#[]⟩, v0, 0⟩]) (clock := 1) Tryd.underlying91 Tryd.underlying9 (.string ⟨#[99]⟩) v trivial (by kernel_rfl)
  have i2 := fun v v0 v1 => run_put_new (P := Tryd.prog) w (t := 91) (es := #[⟨.string ⟨#[]⟩, v0, 0⟩, ⟨.string ⟨#[99]⟩, v1, 1⟩]) (clock := 2) Tryd.underlying91 Tryd.underlying9 (.string ⟨#[120]⟩) v trivial (by kernel_rfl)
  have i3 := fun v v0 v1 v2 => run_put_new (P := Tryd.prog) w (t := 91) (es := #[⟨.string ⟨#[]⟩, v0, 0⟩, ⟨.string ⟨#[99]⟩, v1, 1⟩, ⟨.string ⟨#[120]⟩, v2, 2⟩]) (clock := 3) Tryd.underlying91 Tryd.underlying9 (.string ⟨#[45]⟩) v trivial (by kernel_rfl)
  simp only [List.push_toArray, List.nil_append, List.cons_append, Nat.zero_add, Nat.reduceAdd] at i0 i1 i2 i3
  go_enter Tryd.func60, Tryd.ntmps60
  go_wp2
  go_ret
  exact ⟨rfl, rfl⟩

theorem bytes_of_toList {m : ByteArray} {l : List UInt8} (h : m.toList = l) : m = ⟨l.toArray⟩ := by
  rw [ByteArray.toList_eq] at h
  rw [← h]

/-- What marks has of a text: which functions, or none. -/
def markVal (m : ByteArray) : Option (Nat × Nat) :=
  match markK m with
  | 0 => some (62, 64)
  | 1 => some (62, 65)
  | 2 => some (63, 66)
  | 3 => some (63, 67)
  | _ => none

theorem zeroMark (w : World) : (zeroValue 89).run Tryd.prog w = .ok (.agg #[.nilFunc, .nilFunc]) w := by kernel_rfl

theorem look_marks (W : World) (b : Nat) (m : ByteArray) (hb : W.heap[b]? = some marksObj) :
    (Instr.lookup 91 (.map (some b)) (.string m) true).run Tryd.prog W = .ok (.tuple #[match markVal m with | some (f, g) => .agg #[fnV f, fnV g] | none => .agg #[.nilFunc, .nilFunc], .bool (markVal m).isSome]) W := by
  unfold marksObj at hb
  unfold markVal
  rcases mark_cases m with ⟨h1, h2, h3, h4, h5⟩ | ⟨h1, h2, h3, h4, h5⟩ | ⟨h1, h2, h3, h4, h5⟩ | ⟨h1, h2, h3, h4, h5⟩ | ⟨h1, h2, h3, h4, h5⟩
  · rw [h5]
    have e := bytes_of_toList (List.isEmpty_iff.1 h1)
    subst e
    exact run_look_yes (i := 0) W Tryd.underlying91 Tryd.underlying9 hb _ trivial (by kernel_rfl)
  · rw [h5]
    have e := bytes_of_toList (beq_iff_eq.1 h2)
    subst e
    exact run_look_yes (i := 1) W Tryd.underlying91 Tryd.underlying9 hb _ trivial (by kernel_rfl)
  · rw [h5]
    have e := bytes_of_toList (beq_iff_eq.1 h3)
    subst e
    exact run_look_yes (i := 2) W Tryd.underlying91 Tryd.underlying9 hb _ trivial (by kernel_rfl)
  · rw [h5]
    have e := bytes_of_toList (beq_iff_eq.1 h4)
    subst e
    exact run_look_yes (i := 3) W Tryd.underlying91 Tryd.underlying9 hb _ trivial (by kernel_rfl)
  · rw [h5]
    refine run_look_no W Tryd.underlying91 Tryd.underlying9 (zeroMark W) hb _ trivial ?_
    have ne : ∀ l : List UInt8, m.toList ≠ l → (m == (⟨l.toArray⟩ : ByteArray)) = false := fun l hl => by
      cases hq : (m == (⟨l.toArray⟩ : ByteArray)) with
      | false => rfl
      | true => exact absurd (by rw [(MapKept.bytes_beq _ _).1 hq, ByteArray.toList_eq]) hl
    have n0 := ne [] (fun e => by rw [e] at h1; cases h1)
    have n1 := ne [99] (beq_eq_false_iff_ne.1 h2)
    have n2 := ne [120] (beq_eq_false_iff_ne.1 h3)
    have n3 := ne [45] (beq_eq_false_iff_ne.1 h4)
    simp only [Instr.findNow, Instr.sameNow] at *
    rw [show (m == (⟨#[]⟩ : ByteArray)) = false from n0, show (m == (⟨#[99]⟩ : ByteArray)) = false from n1, show (m == (⟨#[120]⟩ : ByteArray)) = false from n2, show (m == (⟨#[45]⟩ : ByteArray)) = false from n3]

end Go.Proofs.YtmnmdeehcdfkfaaDoor
