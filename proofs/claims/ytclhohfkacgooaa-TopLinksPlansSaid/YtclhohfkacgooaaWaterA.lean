/- slices.Repeat of one limit: as many rounds with this limit. -/
import Derived.Test.YtclhohfkacgooaaRowI
import Derived.Test.YtclhohfkacgooaaWaterM
import Derived.Test.YtclhohfkacgooaaShelf
import Derived.Deep.RegionLaw
import Derived.RegionTactic
namespace Go.Proofs.Ytclhohfkacgooaa
open Go.RowKit WaterMath

def part (n k : Nat) (limit : Int) : List Int := List.replicate k limit ++ List.replicate (n - k) 0
theorem part_length {n k : Nat} {limit : Int} (h : k ≤ n) : (part n k limit).length = n := by simp [part]; omega
theorem part_full (n : Nat) (limit : Int) : part n n limit = full n limit := by simp [part, full]
theorem part_splice {n k m : Nat} {limit : Int} (h : k + m ≤ n) :
    splice ((part n k limit).map (Value.int .i64)) k ((List.replicate m limit).map (Value.int .i64)) = (part n (k + m) limit).map (Value.int .i64) := by
  unfold splice part
  simp only [List.map_append, List.map_replicate, List.length_replicate]
  rw [List.take_left' (by simp), List.drop_append]
  simp only [List.length_replicate, List.drop_replicate]
  rw [show k - (k + m) = 0 by omega, show k + m - k = m by omega, show n - k - m = n - (k + m) by omega]
  simp only [List.replicate_zero, List.nil_append]
  rw [← List.append_assoc, List.replicate_append_replicate]

theorem one_cells (cs : List Int) : ∀ v ∈ cs.map (Value.int .i64), v.oneCell' = true := fun v hv => by
  obtain ⟨x, _, rfl⟩ := List.mem_map.1 hv; rfl

/-- copy into a row of integers of the call's own. -/
theorem copyI (w : World) (g off dLen dCap : Nat) (ad : Addr) (sLen sCap : Nat) (cur cs : List Int) (hg : RowI w g cur) (hn : cs.length = Nat.min sLen dLen)
    (hsrc : ∀ j, j < cs.length → w.cell? (ad.add j) = some (.int .i64 (cs.getD j 0))) (hfit : off + cs.length ≤ cur.length) :
    ∃ w', (Builtin.copy_ #[23, 23] 3 #[.slice (some ⟨g, off, none⟩) dLen dCap, .slice (some ad) sLen sCap]).run Try.prog w = .ok (.int .i64 (cs.length : Int)) w' ∧
      Hid (w'.heap[g]? = some (.cells (splice (cur.map (Value.int .i64)) off (cs.map (Value.int .i64))).toArray 3 (0, 0))) ∧ Hid (Below g w w') := by
  have hrun := run_copy_row (P := Try.prog) w 23 23 3 3 g off dLen dCap ad sLen sCap (rowI cur) 3 (cs.map (Value.int .i64)) Try.underlying23 (by kernel_rfl) hg (by rw [List.length_map]; exact hn)
    (fun j v hv => by
      rw [List.getElem?_map] at hv
      rcases Nat.lt_or_ge j cs.length with hj | hj
      · rw [hsrc j hj]
        rw [List.getElem?_eq_getElem hj] at hv
        simpa [List.getD, List.getElem?_eq_getElem hj] using hv
      · rw [List.getElem?_eq_none hj] at hv; cases hv)
    (by rw [List.length_map, size_rowI]; exact hfit) (one_cells cs)
  rw [List.length_map] at hrun
  refine ⟨_, hrun, ?_, Lib.hid (below_setRow (Below.refl _ _) (Nat.le_refl _) _)⟩
  show _ = _
  simpa [splice, rowI] using setRow_heap w g _ _ 3 _ hg

set_option maxRecDepth 100000 in
set_option maxHeartbeats 1000000 in
theorem repeat_any (n : Nat) (limit : Int) (g : Nat) (w : World) (h1 : 1 ≤ n) (h2 : n ≤ 8) (hg : RowI w g [limit]) :
    Calls Try.prog 18 #[.slice (some ⟨g, 0, none⟩) 1 1, .int .i64 (n : Int)] w fun e w' => e = .returned (.slice (some ⟨w.heap.size, 0, none⟩) n n) ∧ RowI w' w.heap.size (full n limit) ∧ Below w.heap.size w w' := by
  have hmk := make_ints n (by omega)
  obtain ⟨w1, hc1, hr1, hb1⟩ := copyI (w.alloc (.cells (rowI (nils n)) 3)) w.heap.size 0 n n ⟨g, 0, none⟩ 1 1 (nils n) [limit] (RowI.new w _) (by simp; exact (Nat.min_eq_left h1).symm)
    (fun j hj => by
      obtain rfl : j = 0 := by simp at hj; exact hj
      exact (hg.alloc _).cell (j := 0) (by simp)) (by simp [nils]; omega)
  have HR1 : Hid (RowI w1 w.heap.size (part n 1 limit)) := by
    have := hr1.out
    have h2 := part_splice (n := n) (k := 0) (m := 1) (limit := limit) (by omega)
    simp only [part, List.replicate_zero, List.nil_append, Nat.sub_zero] at h2
    simp only [nils] at this
    rw [show ([limit] : List Int) = List.replicate 1 limit from rfl, h2] at this
    exact this
  have HB1 : Hid (Below w.heap.size w w1) := Lib.hid (((Below.refl _ w).alloc (Nat.le_refl _) _).trans hb1.out)
  clear hr1 hb1
  go_enter Try.func18, Try.ntmps18
  go_wp2_with fail
  refine (Try.bits_Mul 1 n (by omega) (by omega) _).mono ?_; rintro e w' ⟨rfl, rfl⟩
  have e0 : 1 * n / 18446744073709551616 = 0 := by omega
  have e1 : 1 * n % 18446744073709551616 = n := by omega
  rw [e0, e1]
  clear e0 e1
  go_wp2
  go_loopw [8] (fun i wr => ∃ k : Nat, 1 ≤ k ∧ k ≤ n ∧ i = .int .i64 k ∧ RowI wr w'.heap.size (part n k limit) ∧ Below w'.heap.size w' wr) (fun i _ => n - (intOf i).toNat)
  case atStart => exact ⟨1, Nat.le_refl _, h1, rfl, HR1.out, HB1.out⟩
  case round =>
    obtain ⟨k, hk1, hk, rfl, hrow, hbel⟩ := hrel
    by_cases hlt : k < n
    · obtain ⟨w2, hc2, hr2, hb2⟩ := copyI wr.drew w'.heap.size k (n - k) (n - k) ⟨w'.heap.size, 0, none⟩ k n (part n k limit) (List.replicate (min k (n - k)) limit) hrow (by simp)
        (fun j hj => by
          rw [List.length_replicate] at hj
          rw [add_zero_at]
          have h3 := RowI.cell (w := wr.drew) hrow (j := j) (by rw [part_length hk]; omega)
          rw [h3]
          congr 2
          have e1 : (part n k limit).getD j 0 = limit := by
            unfold part
            simp only [List.getD]
            rw [List.getElem?_append_left (by simp; omega), List.getElem?_replicate, if_pos (by omega)]; rfl
          rw [e1, List.getD, List.getElem?_replicate, if_pos (by omega)]; rfl) (by rw [List.length_replicate, part_length hk]; omega)
      have HR2 : Hid (RowI w2 w'.heap.size (part n (k + min k (n - k)) limit)) := by
        have := hr2.out
        rw [part_splice (by omega)] at this
        exact this
      have HB2 : Hid (Below w'.heap.size w' w2) := Lib.hid (hbel.drew.trans hb2.out)
      rw [List.length_replicate] at hc2
      clear hr2 hb2 hrow hbel HR1 HB1
      have hne : ¬ n = k := by omega
      go_wp2
      go_region
      go_wp2
      go_roundw
      case rel => exact ⟨k + min k (n - k), by omega, by omega, by go_num, HR2.out, HB2.out⟩
      case measure => simp [intOf]; omega
    · obtain rfl : k = n := by omega
      go_wp2
      go_ret
      rw [part_full] at hrow
      exact ⟨rfl, hrow, hbel⟩

end Go.Proofs.Ytclhohfkacgooaa
