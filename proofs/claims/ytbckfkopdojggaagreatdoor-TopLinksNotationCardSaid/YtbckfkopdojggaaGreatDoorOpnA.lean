/- Arguments of the laws of chapter 5, opened: holes, numbers, lists of numbers. -/
import Derived.Test.YtbckfkopdojggaaGreatDoorRows
import Derived.Test.YtbckfkopdojggaaGreatDoorMgG
import Derived.ProofKit
import Derived.LaidMore
import Derived.SizedLaws
import Derived.OpenShut
import Derived.SevenTiedAt
import Derived.Stop.Joined
import Derived.Deep.Slices
import Derived.Deep.Strs
set_option linter.unusedVariables false
set_option linter.unusedSimpArgs false
namespace Go.Proofs.YtbckfkopdojggaaGreatDoor
open Go.ChangeShapes Go.WideShapes Go.ChangeAt Go.ChangeMaps Go.RowKit

theorem own0 : ownKnob Tryz.prog.godebug = none := by kernel_rfl
theorem laidOut0 : laidOutB Tryz.prog = true := by kernel_rfl
theorem cellsInt0 : Tryz.prog.cellsOf 3 = 1 := by kernel_rfl
theorem cellsStr0 : Tryz.prog.cellsOf 9 = 1 := by kernel_rfl
theorem cellsHole0 : Tryz.prog.cellsOf 118 = 2 := by kernel_rfl

section
variable {H : Type} {enc : TypeId × Value → H} {W : World} {d : DataW H} {p : List MemPlace}

set_option maxRecDepth 100000 in
theorem open_holes {a0 : Option Addr} {len cap : Nat} (h : DataW.Trod enc Tryz.prog W 0 (fun _ => true) true 22 (.slice a0 len cap) d p) :
    ∃ R : List (Int × Int), R.length = len ∧ HolesR W a0 R ∧ (R = [] ∨ ∀ a, a0 = some a → a.block < W.heap.size) := by
  obtain ⟨fuel, hf⟩ := h
  rcases Deep.open_slice Tryz.underlying22 hf with ⟨hcs, hx⟩ | ⟨a, len', cap', m, n, D, Pl, hcs, hb, hl, hm, hmm, hx, he⟩
  · simp [Value.cells] at hcs
    obtain ⟨rfl, rfl, rfl⟩ := hcs
    exact ⟨[], rfl, fun j hj => absurd hj (Nat.not_lt_zero _), .inl rfl⟩
  · simp [Value.cells] at hcs
    obtain ⟨rfl, rfl, rfl⟩ := hcs
    simp only [if_true] at hmm
    have each : ∀ i, i < m → ∃ q : Int × Int, W.cell? (a.add (i * 2)) = some (.int .i64 q.1) ∧ W.cell? ⟨(a.add (i * 2)).block, (a.add (i * 2)).off + 1, none⟩ = some (.int .i64 q.2) := by
      intro i hi
      obtain ⟨cs', h1, h2⟩ := he i hi
      rw [cellsHole0] at h1
      obtain ⟨_, hlen, hcell⟩ := World.cells?_some h1
      obtain ⟨y0, y1, n', hxx, _, g0, g1⟩ := trod_struct2 Tryz.underlying118 h2
      match cs', hlen with
      | [u0, u1], _ =>
        have e0 := hcell 0 (by omega)
        have e1 := hcell 1 (by omega)
        simp [cellsInt0] at g0 g1
        obtain ⟨z0, k0, _⟩ := DataW.trod_int Tryz.underlying3 g0
        obtain ⟨z1, k1, _⟩ := DataW.trod_int Tryz.underlying3 g1
        simp only [List.cons.injEq, and_true] at k0 k1
        subst k0; subst k1
        exact ⟨(z0, z1), e0, e1⟩
    obtain ⟨q, hq⟩ := Deep.choose_lt each
    refine ⟨(List.range len).map q, by simp, ?_, ?_⟩
    · intro j hj
      have hj' : j < len := by simpa using hj
      have hjq : ((List.range len).map q).getD j (0, 0) = q j := by simp [List.getD, hj']
      obtain ⟨c0, c1⟩ := hq j (by omega)
      rw [hjq]
      exact ⟨a, rfl, c0, c1⟩
    · by_cases h0 : len = 0
      · left; simp [h0]
      · right
        intro a' ha'
        injection ha' with ha'
        subst ha'
        have := World.block_lt_of_cell? _ _ (hq 0 (by omega)).1
        rwa [add_block] at this

set_option maxRecDepth 100000 in
theorem open_row {fuel : Nat} {cs : List Value} {x : DataW H × List MemPlace} (h : DataW.trod enc Tryz.prog W 0 (fun _ => true) true fuel 35 cs = some x) :
    ∃ (B : Option Addr) (cap : Nat) (xs : List Int), cs = [.slice B xs.length cap] ∧ xs.length ≤ cap ∧ IntsAt W W.heap.size B xs := by
  rcases open_ints Tryz.underlying35 Tryz.underlying3 cellsInt0 h with ⟨hcs, hx⟩ | ⟨a, len, cap, zs, hcs, _, hl, hm, hz, hx, hcell, hwz⟩
  · exact ⟨none, 0, [], hcs, Nat.le_refl _, fun j hj => absurd hj (Nat.not_lt_zero _)⟩
  · simp only [if_true] at hz
    have hlen : (zs.take len).length = len := by simp; omega
    refine ⟨some a, cap, zs.take len, by rw [hlen]; exact hcs, by rw [hlen]; exact hl, ?_⟩
    intro j hj
    have hj' : j < len := by omega
    have hc := hcell j (by omega)
    refine ⟨a, rfl, ?_, ?_⟩
    · have := World.block_lt_of_cell? _ _ hc
      rwa [block_of_add] at this
    · rw [hc]
      simp [List.getD, List.getElem?_take_of_lt hj']
theorem open_nums {a0 : Option Addr} {len cap : Nat} (h : DataW.Trod enc Tryz.prog W 0 (fun _ => true) true 35 (.slice a0 len cap) d p) :
    ∃ xs : List Int, xs.length = len ∧ xs.length ≤ cap ∧ IntsAt W W.heap.size a0 xs := by
  obtain ⟨fuel, hf⟩ := h
  obtain ⟨B, c, xs, e, hc, hi⟩ := open_row hf
  simp [Value.cells] at e
  obtain ⟨rfl, rfl, rfl⟩ := e
  exact ⟨xs, rfl, hc, hi⟩
theorem cellsRow0 : Tryz.prog.cellsOf 35 = 1 := by kernel_rfl
set_option maxRecDepth 100000 in
theorem open_lists {a0 : Option Addr} {len cap : Nat} (h : DataW.Trod enc Tryz.prog W 0 (fun _ => true) true 26 (.slice a0 len cap) d p) :
    ∃ ls : List (List Int), ls.length = len ∧ ListsR W a0 ls := by
  obtain ⟨fuel, hf⟩ := h
  rcases Deep.open_slice1 Tryz.underlying26 cellsRow0 hf with ⟨hcs, hx⟩ | ⟨a, len', cap', m, n, V, D, Pl, hcs, hb, hl, hm, hmm, hx, he⟩
  · simp [Value.cells] at hcs
    obtain ⟨rfl, rfl, rfl⟩ := hcs
    exact ⟨[], rfl, fun j hj => absurd hj (Nat.not_lt_zero _)⟩
  · simp [Value.cells] at hcs
    obtain ⟨rfl, rfl, rfl⟩ := hcs
    simp only [if_true] at hmm
    have each : ∀ i, i < m → ∃ q : List Int, ∃ B c, W.cell? (a.add i) = some (.slice B q.length c) ∧ q.length ≤ c ∧ IntsAt W W.heap.size B q := by
      intro i hi
      obtain ⟨g1, g2⟩ := he i hi
      obtain ⟨B, c, xs, e, hc, hi2⟩ := open_row g2
      simp only [List.cons.injEq, and_true] at e
      rw [e] at g1
      exact ⟨xs, B, c, g1, hc, hi2⟩
    obtain ⟨q, hq⟩ := Deep.choose_lt each
    refine ⟨(List.range len).map q, by simp, ?_⟩
    intro j hj
    have hj' : j < len := by simpa using hj
    have hjq : ((List.range len).map q).getD j [] = q j := by simp [List.getD, hj']
    obtain ⟨B, c, c0, c1, c2⟩ := hq j (by omega)
    rw [hjq]
    exact ⟨a, B, c, rfl, c0, World.block_lt_of_cell? _ _ c0, c1, c2⟩
end
end Go.Proofs.YtbckfkopdojggaaGreatDoor
