/- Arguments of the laws of chapter 5, opened: net strokes, states, two numbers. -/
import Derived.Test.YtkhhkicfeaeddaaGreatDoorOpnB
import Derived.Test.YtkhhkicfeaeddaaGreatDoorMatM
set_option linter.unusedVariables false
set_option linter.unusedSimpArgs false
namespace Go.Proofs.YtkhhkicfeaeddaaGreatDoor
open Go.ChangeShapes Go.WideShapes Go.ChangeAt Go.ChangeMaps Go.RowKit

theorem cellsNet0 : Tryz.prog.cellsOf 70 = 2 := by kernel_rfl
theorem bytesNet0 : Tryz.prog.bytesOf 70 = 24 := by kernel_rfl

section
variable {H : Type} {enc : TypeId × Value → H} {W : World} {d : DataW H} {p : List MemPlace}

set_option maxRecDepth 100000 in
theorem open_nets {a0 : Option Addr} {len cap : Nat} (h : DataW.Trod enc Tryz.prog W 0 (fun _ => true) true 22 (.slice a0 len cap) d p) :
    ∃ l : List (Int × ByteArray), l.length = len ∧ EntriesR W a0 l ∧ (l = [] ∨ ∃ es sp, d = .slice es sp ∧ es.length = l.length) := by
  obtain ⟨fuel, hf⟩ := h
  rcases Deep.open_slice Tryz.underlying22 hf with ⟨hcs, hx⟩ | ⟨a, len', cap', m, n, D, Pl, hcs, hb, hl, hm, hmm, hx, he⟩
  · simp [Value.cells] at hcs
    obtain ⟨rfl, rfl, rfl⟩ := hcs
    exact ⟨[], rfl, fun j hj => absurd hj (Nat.not_lt_zero _), .inl rfl⟩
  · simp [Value.cells] at hcs
    obtain ⟨rfl, rfl, rfl⟩ := hcs
    simp only [if_true] at hmm
    have each : ∀ i, i < m → ∃ q : Int × ByteArray, W.cell? (a.add (i * 2)) = some (.int .i64 q.1) ∧ W.cell? ⟨(a.add (i * 2)).block, (a.add (i * 2)).off + 1, none⟩ = some (.string q.2) := by
      intro i hi
      obtain ⟨cs', h1, h2⟩ := he i hi
      rw [cellsNet0] at h1
      obtain ⟨_, hlen, hcell⟩ := World.cells?_some h1
      obtain ⟨y0, y1, n', hxx, _, g0, g1⟩ := trod_struct2 Tryz.underlying70 h2
      match cs', hlen with
      | [u0, u1], _ =>
        have e0 := hcell 0 (by omega)
        have e1 := hcell 1 (by omega)
        simp [cellsInt0, cellsStr0] at g0 g1
        obtain ⟨z0, k0, _⟩ := DataW.trod_int Tryz.underlying3 g0
        obtain ⟨z1, k1, _⟩ := DataW.trod_string Tryz.underlying9 g1
        simp only [List.cons.injEq, and_true] at k0 k1
        subst k0; subst k1
        exact ⟨(z0, z1), e0, e1⟩
    obtain ⟨q, hq⟩ := Deep.choose_lt each
    refine ⟨(List.range len).map q, by simp, ?_, .inr ⟨_, _, congrArg Prod.fst hx, by simp⟩⟩
    intro j hj
    have hj' : j < len := by simpa using hj
    have hjq : ((List.range len).map q).getD j (0, ByteArray.empty) = q j := by simp [List.getD, hj']
    obtain ⟨c0, c1⟩ := hq j (by omega)
    rw [hjq]
    exact ⟨a, rfl, c0, c1, World.block_lt_of_cell? _ _ c0⟩
theorem cellsBool0 : Tryz.prog.cellsOf 4 = 1 := by kernel_rfl
theorem cellsState0 : Tryz.prog.cellsOf 24 = 3 := by kernel_rfl
set_option maxRecDepth 100000 in
theorem open_state {v : Value} (hv : ∃ cs, v = .agg cs ∧ cs.size = Tryz.prog.cellsOf 24) (h : DataW.Trod enc Tryz.prog W 0 (fun _ => true) true 24 v d p) :
    ∃ (u t : Int) (o : Bool), v = .agg #[.int .i64 u, .int .i64 t, .bool o] := by
  obtain ⟨cs, rfl, hsz⟩ := hv
  obtain ⟨fuel, hf⟩ := h
  obtain ⟨y0, y1, y2, n', hxx, _, g0, g1, g2⟩ := Deep.trod_struct3 Tryz.underlying24 hf
  rw [cellsState0] at hsz
  obtain ⟨cl⟩ := cs
  match cl, hsz with
  | [u0, u1, u2], _ =>
    simp [Value.cells, cellsInt0, cellsBool0] at g0 g1 g2
    obtain ⟨z0, k0, _⟩ := DataW.trod_int Tryz.underlying3 g0
    obtain ⟨z1, k1, _⟩ := DataW.trod_int Tryz.underlying3 g1
    obtain ⟨z2, k2, _⟩ := DataW.trod_bool Tryz.underlying4 g2
    simp only [List.cons.injEq, and_true] at k0 k1 k2
    subst k0; subst k1; subst k2
    exact ⟨z0, z1, z2, rfl⟩
set_option maxRecDepth 100000 in
theorem okWide_array {base n : Nat} {e t : TypeId} {v : Value} (ht : Tryz.prog.underlying t = some (.array n e)) (h : Value.okWide Tryz.prog W .any base t v) : ∃ cs, v = .agg cs ∧ cs.size = Tryz.prog.cellsOf t := by
  simp only [Value.okWide, ht] at h
  obtain ⟨cs, h1, h2, _⟩ := h
  exact ⟨cs, h1, h2⟩
theorem cellsTwo0 : Tryz.prog.cellsOf 67 = 2 := by kernel_rfl
set_option maxRecDepth 100000 in
theorem open_two {v : Value} (hv : ∃ cs, v = .agg cs ∧ cs.size = Tryz.prog.cellsOf 67) (h : DataW.Trod enc Tryz.prog W 0 (fun _ => true) true 67 v d p) :
    ∃ r0 r1 : Int, v = .agg #[.int .i64 r0, .int .i64 r1] := by
  obtain ⟨cs, rfl, hsz⟩ := hv
  obtain ⟨fuel, hf⟩ := h
  obtain ⟨xs, m, _, _, _, hn, hi⟩ := DataW.trod_array Tryz.underlying67 hf
  rw [cellsTwo0] at hsz
  obtain ⟨cl⟩ := cs
  match cl, hsz, xs, hn with
  | [u0, u1], _, [x0, x1], _ =>
    have g0 := hi 0 (by omega)
    have g1 := hi 1 (by omega)
    simp [Value.cells, cellsInt0] at g0 g1
    obtain ⟨z0, k0, _⟩ := DataW.trod_int Tryz.underlying3 g0
    obtain ⟨z1, k1, _⟩ := DataW.trod_int Tryz.underlying3 g1
    simp only [List.cons.injEq, and_true] at k0 k1
    subst k0; subst k1
    exact ⟨z0, z1, rfl⟩
theorem nets_bound {ts : List TypeId} {ds : List (DataW H)} {j : Nat} {l : List (Int × ByteArray)} {dj : DataW H} (hsz : (DataW.weightsEach Tryz.prog ts ds).all (· ≤ reachBytes) = true) (ht : ts[j]? = some 22) (hd : ds[j]? = some dj)
    (hb : l = [] ∨ ∃ es sp, dj = .slice es sp ∧ es.length = l.length) : l.length ≤ 4611686018427387904 := by
  rcases hb with rfl | ⟨es, sp, rfl, hel⟩
  · simp
  · have := sized_slice hsz (j := j) (t := 22) (e := 70) ht hd Tryz.underlying22
    rw [bytesNet0] at this
    simp only [reachBytes] at this
    omega
end
end Go.Proofs.YtkhhkicfeaeddaaGreatDoor
