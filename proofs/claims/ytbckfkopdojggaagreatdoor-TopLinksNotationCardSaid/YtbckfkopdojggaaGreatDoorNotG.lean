/- slices.Repeat of one entry. -/
import Derived.Test.YtbckfkopdojggaaGreatDoorNotF
import Derived.Test.YtbckfkopdojggaaGreatDoorMgC
import Derived.Deep.RegionLaw
import Derived.RegionTactic
set_option linter.unusedVariables false
set_option linter.unusedSimpArgs false
namespace Go.Proofs.YtbckfkopdojggaaGreatDoor
open Go Go.RowKit

def nilE : Int × ByteArray := (0, ⟨#[]⟩)
theorem pairCells_append (a b : List (Int × ByteArray)) : pairCells (a ++ b) = pairCells a ++ pairCells b := by simp [pairCells]
theorem made_pairs (n : Nat) : madeCells (Value.agg #[.int .i64 0, .string ⟨#[]⟩]).cells (n * 2) = (pairCells (List.replicate n nilE)).toArray := by
  apply Array.ext
  · simp [madeCells, pairCells_len]
  · intro i h1 h2
    have hi : i < n * 2 := by simpa [madeCells] using h1
    obtain ⟨p1, p2⟩ := pairCells_at (List.replicate n nilE) (i / 2) (by simp; omega)
    have e : (List.replicate n nilE).getD (i / 2) (0, ByteArray.empty) = nilE := by
      rw [List.getD, List.getElem?_replicate, if_pos (by omega)]; rfl
    rw [e] at p1 p2
    have h3 : i < (pairCells (List.replicate n nilE)).length := by rw [pairCells_len]; simpa using hi
    rcases Nat.mod_two_eq_zero_or_one i with h | h
    · rw [show i / 2 * 2 = i by omega, List.getElem?_eq_getElem h3] at p1
      simp only [Option.some.injEq] at p1
      simp only [madeCells, Value.cells, Array.getElem_map, Array.getElem_range, List.getElem_toArray, p1]
      simp [h, nilE]
    · rw [show i / 2 * 2 + 1 = i by omega, List.getElem?_eq_getElem h3] at p2
      simp only [Option.some.injEq] at p2
      simp only [madeCells, Value.cells, Array.getElem_map, Array.getElem_range, List.getElem_toArray, p2]
      simp [h, nilE]

theorem info_entry : (Tryz.prog.info? 73).map (fun i => (i.zero, i.size, i.bytes)) = some (some (.agg #[.int .i64 0, .string ⟨#[]⟩]), 2, 24) := by kernel_rfl
def PairsR (w : World) (g : Nat) (l : List (Int × ByteArray)) : Prop := w.heap[g]? = some (.cells (pairCells l).toArray 73 (0, 0))
theorem PairsR.cell {w : World} {g : Nat} {l : List (Int × ByteArray)} (h : PairsR w g l) {j : Nat} {v : Value} (hv : (pairCells l)[j]? = some v) : w.cell? ⟨g, j, none⟩ = some v := by
  rw [cell_of_row w g j _ _ _ h]; simpa using hv
theorem make_entries (n : Nat) (hn : n ≤ 1073741824) (w : World) :
    (Instr.makeSlice 51 (.int .i64 (n : Int)) (.int .i64 (n : Int))).run Tryz.prog w = .ok (.slice (some ⟨w.heap.size, 0, none⟩) n n) (w.alloc (.cells (pairCells (List.replicate n nilE)).toArray 73)) := by
  obtain ⟨i0, hi, hz0, hz1, hz2⟩ := info_parts info_entry
  have hr := run_make (P := Tryz.prog) w 51 73 i0 _ Tryz.underlying51 hi hz0 .i64 .i64 n n (by omega) (by omega) (by rw [hz2]; omega) (by omega)
  rw [hz1] at hr
  simp only [Int.toNat_natCast] at hr
  rw [made_pairs] at hr
  exact hr

def partE (n k : Nat) (e : Int × ByteArray) : List (Int × ByteArray) := List.replicate k e ++ List.replicate (n - k) nilE
theorem partE_length {n k : Nat} {e : Int × ByteArray} (h : k ≤ n) : (partE n k e).length = n := by simp [partE]; omega
theorem partE_full (n : Nat) (e : Int × ByteArray) : partE n n e = List.replicate n e := by simp [partE]
theorem partE_splice {n k m : Nat} {e : Int × ByteArray} (h : k + m ≤ n) :
    (pairCells (partE n k e)).take (k * 2) ++ pairCells (List.replicate m e) ++ (pairCells (partE n k e)).drop (k * 2 + (pairCells (List.replicate m e)).length) = pairCells (partE n (k + m) e) := by
  have l1 := pairCells_len (List.replicate k e)
  have l2 := pairCells_len (List.replicate m e)
  have l3 := pairCells_len (List.replicate m nilE)
  simp only [List.length_replicate] at l1 l2 l3
  have e1 : partE n k e = List.replicate k e ++ (List.replicate m nilE ++ List.replicate (n - (k + m)) nilE) := by
    unfold partE; rw [List.replicate_append_replicate, show m + (n - (k + m)) = n - k by omega]
  rw [e1, pairCells_append, pairCells_append, l2, List.take_left' l1, ← List.append_assoc (pairCells (List.replicate k e)), List.drop_left' (by rw [List.length_append, l1, l3])]
  rw [← pairCells_append, List.replicate_append_replicate, ← pairCells_append]
  rfl
theorem pair_cells_one (l : List (Int × ByteArray)) : ∀ v ∈ pairCells l, v.oneCell' = true := fun v hv => by
  unfold pairCells at hv
  obtain ⟨e, _, he⟩ := List.mem_flatMap.1 hv
  simp at he
  rcases he with rfl | rfl <;> rfl

/-- copy into a row of entries of the call's own. -/
theorem copyE (w : World) (g off dLen dCap : Nat) (s sLen sCap : Nat) (n k m : Nat) (e : Int × ByteArray) (hg : PairsR w g (partE n k e)) (ho : off = k * 2) (hm : m = Nat.min sLen dLen) (hkm : k + m ≤ n)
    (hsrc : ∀ j v, (pairCells (List.replicate m e))[j]? = some v → w.cell? ⟨s, j, none⟩ = some v) :
    ∃ w', (Builtin.copy_ #[51, 51] 3 #[.slice (some ⟨g, off, none⟩) dLen dCap, .slice (some ⟨s, 0, none⟩) sLen sCap]).run Tryz.prog w = .ok (.int .i64 (m : Int)) w' ∧
      Hid (PairsR w' g (partE n (k + m) e)) ∧ Hid (Below g w w') := by
  have hrun := run_copy_two Tryz.prog w 51 51 3 73 g off dLen dCap ⟨s, 0, none⟩ sLen sCap (pairCells (partE n k e)).toArray 73 (pairCells (List.replicate m e)) Tryz.underlying51 (by kernel_rfl) hg
    (by rw [pairCells_len, List.length_replicate, hm]) (fun j v hv => by rw [add_zero_at]; exact hsrc j v hv) (by simp [pairCells_len, partE]; omega) (pair_cells_one _)
  rw [← hm] at hrun
  refine ⟨_, hrun, ?_, Lib.hid (below_setRow (Below.refl _ _) (Nat.le_refl _) _)⟩
  show _ = _
  rw [setRow_heap w g _ _ 73 _ hg]
  simp only [ho]
  rw [partE_splice hkm]

theorem partE_src {n k m : Nat} {e : Int × ByteArray} (hm : m ≤ k) (j : Nat) (v : Value) (h : (pairCells (List.replicate m e))[j]? = some v) : (pairCells (partE n k e))[j]? = some v := by
  have e1 : partE n k e = List.replicate m e ++ (List.replicate (k - m) e ++ List.replicate (n - k) nilE) := by
    unfold partE; rw [← List.append_assoc, List.replicate_append_replicate, show m + (k - m) = k by omega]
  rw [e1, pairCells_append, List.getElem?_append_left (List.getElem?_eq_some_iff.1 h).1]
  exact h

set_option maxRecDepth 100000 in
set_option maxHeartbeats 1000000 in
theorem repeatE_any (n : Nat) (e : Int × ByteArray) (g : Nat) (w : World) (h1 : 1 ≤ n) (h2 : n ≤ 36) (hg : PairsR w g [e]) :
    Calls Tryz.prog 201 #[.slice (some ⟨g, 0, none⟩) 1 1, .int .i64 (n : Int)] w fun r w' => r = .returned (.slice (some ⟨w.heap.size, 0, none⟩) n n) ∧ PairsR w' w.heap.size (List.replicate n e) ∧ Below w.heap.size w w' := by
  have hmk := make_entries n (by omega)
  have hnew : PairsR (w.alloc (.cells (pairCells (List.replicate n nilE)).toArray 73)) w.heap.size (partE n 0 e) := by
    have := heap_alloc_new w (.cells (pairCells (List.replicate n nilE)).toArray 73)
    simpa [PairsR, partE] using this
  have hsrc : ∀ j v, (pairCells (List.replicate 1 e))[j]? = some v → (w.alloc (.cells (pairCells (List.replicate n nilE)).toArray 73)).cell? ⟨g, j, none⟩ = some v := fun j v hv => by
    have : PairsR (w.alloc (.cells (pairCells (List.replicate n nilE)).toArray 73)) g [e] := (Below.heap_alloc w _ g (Array.getElem?_eq_some_iff.1 hg).1).trans hg
    exact this.cell hv
  obtain ⟨w1, hc1, hr1, hb1⟩ := copyE _ w.heap.size 0 n n g 1 1 n 0 1 e hnew rfl (Nat.min_eq_left h1).symm (by omega) hsrc
  have HR1 : Hid (PairsR w1 w.heap.size (partE n 1 e)) := Lib.hid (by have := hr1.out; simpa using this)
  have HB1 : Hid (Below w.heap.size w w1) := Lib.hid (((Below.refl _ w).alloc (Nat.le_refl _) _).trans hb1.out)
  clear hr1 hb1 hnew hsrc
  have HG := Lib.hid hg
  clear hg
  go_enter Tryz.func201, Tryz.ntmps201
  go_wp2_with fail
  refine (Tryz.bits_Mul 1 n (by omega) (by omega) _).mono ?_; rintro r w' ⟨rfl, rfl⟩
  have e0 : 1 * n / 18446744073709551616 = 0 := by omega
  have e1 : 1 * n % 18446744073709551616 = n := by omega
  rw [e0, e1]
  clear e0 e1
  go_wp2
  go_loopw [8] (fun i wr => ∃ k : Nat, 1 ≤ k ∧ k ≤ n ∧ i = .int .i64 k ∧ PairsR wr w'.heap.size (partE n k e) ∧ Below w'.heap.size w' wr) (fun i _ => n - (intOf i).toNat)
  case atStart => exact ⟨1, Nat.le_refl _, h1, rfl, HR1.out, HB1.out⟩
  case round =>
    obtain ⟨k, hk1, hk, rfl, hrow, hbel⟩ := hrel
    by_cases hlt : k < n
    · have hrd : PairsR wr.drew w'.heap.size (partE n k e) := hrow
      obtain ⟨w2, hc2, hr2, hb2⟩ := copyE wr.drew w'.heap.size (k * 2) (n - k) (n - k) w'.heap.size k n n k (min k (n - k)) e hrd rfl rfl (by omega)
        (fun j v hv => hrd.cell (partE_src (by omega) j v hv))
      have HR2 : Hid (PairsR w2 w'.heap.size (partE n (k + min k (n - k)) e)) := hr2
      have HB2 : Hid (Below w'.heap.size w' w2) := Lib.hid (hbel.drew.trans hb2.out)
      clear hr2 hb2 hrow hrd hbel HR1 HB1
      have hne : ¬ n = k := by omega
      go_wp2
      go_region
      go_wp2
      go_roundw
      case rel => exact ⟨k + min k (n - k), by omega, by omega, by go_num, HR2.out, HB2.out⟩
      case measure => simp [intOf]; omega
    · obtain rfl : k = n := by omega
      go_wp2
      go_ret
      rw [partE_full] at hrow
      exact ⟨rfl, hrow, hbel⟩
end Go.Proofs.YtbckfkopdojggaaGreatDoor
