/- Arguments of the laws of chapter 5, opened: entries, players. -/
import Derived.Test.YtbckfkopdojggaaGreatDoorOpnA
set_option linter.unusedVariables false
set_option linter.unusedSimpArgs false
namespace Go.Proofs.YtbckfkopdojggaaGreatDoor
open Go.ChangeShapes Go.WideShapes Go.ChangeAt Go.ChangeMaps Go.RowKit

theorem cellsEntry0 : Tryz.prog.cellsOf 73 = 2 := by kernel_rfl
theorem cellsCard0 : Tryz.prog.cellsOf 53 = 2 := by kernel_rfl
theorem cellsPlayer0 : Tryz.prog.cellsOf 55 = 3 := by kernel_rfl
theorem cellsEntries0 : Tryz.prog.cellsOf 51 = 1 := by kernel_rfl

section
variable {H : Type} {enc : TypeId × Value → H} {W : World} {d : DataW H} {p : List MemPlace}

set_option maxRecDepth 100000 in
theorem open_entries {fuel : Nat} {cs : List Value} {x : DataW H × List MemPlace} (h : DataW.trod enc Tryz.prog W 0 (fun _ => true) true fuel 51 cs = some x) :
    ∃ (B : Option Addr) (cap : Nat) (l : List (Int × ByteArray)), cs = [.slice B l.length cap] ∧ EntriesR W B l ∧ (l = [] ∨ ∃ es sp, x.1 = .slice es sp ∧ es.length = l.length) := by
  rcases Deep.open_slice Tryz.underlying51 h with ⟨hcs, hx⟩ | ⟨a, len, cap, m, n, D, Pl, hcs, hb, hl, hm, hmm, hx, he⟩
  · exact ⟨none, 0, [], hcs, fun j hj => absurd hj (Nat.not_lt_zero _), .inl rfl⟩
  · simp only [if_true] at hmm
    have each : ∀ i, i < m → ∃ q : Int × ByteArray, W.cell? (a.add (i * 2)) = some (.int .i64 q.1) ∧ W.cell? ⟨(a.add (i * 2)).block, (a.add (i * 2)).off + 1, none⟩ = some (.string q.2) := by
      intro i hi
      obtain ⟨cs', h1, h2⟩ := he i hi
      rw [cellsEntry0] at h1
      obtain ⟨_, hlen, hcell⟩ := World.cells?_some h1
      obtain ⟨y0, y1, n', hxx, _, g0, g1⟩ := trod_struct2 Tryz.underlying73 h2
      match cs', hlen with
      | [u0, u1], _ =>
        have e0 := hcell 0 (by omega)
        have e1 := hcell 1 (by omega)
        simp [cellsInt0, cellsStr0] at g0 g1
        obtain ⟨z0, k0, _⟩ := DataW.trod_int Tryz.underlying3 g0
        obtain ⟨z1, k1, _⟩ := DataW.trod_string Tryz.underlying9 g1
        simp only [List.cons.injEq, and_true] at k0 k1
        subst k0; subst k1
        exact ⟨(z0, z1), e0, e1⟩
    obtain ⟨q, hq⟩ := Deep.choose_lt each
    refine ⟨some a, cap, (List.range len).map q, by simpa using hcs, ?_, .inr ⟨_, _, congrArg Prod.fst hx, by simp⟩⟩
    intro j hj
    have hj' : j < len := by simpa using hj
    have hjq : ((List.range len).map q).getD j (0, ByteArray.empty) = q j := by simp [List.getD, hj']
    obtain ⟨c0, c1⟩ := hq j (by omega)
    rw [hjq]
    exact ⟨a, rfl, c0, c1, World.block_lt_of_cell? _ _ c0⟩

set_option maxRecDepth 100000 in
theorem open_player {v : Value} (hv : ∃ cs, v = .agg cs ∧ cs.size = Tryz.prog.cellsOf 55) (h : DataW.Trod enc Tryz.prog W 0 (fun _ => true) true 55 v d p) :
    ∃ (nm : ByteArray) (B : Option Addr) (cap : Nat) (l : List (Int × ByteArray)) (hc : Int), v = .agg #[.string nm, .slice B l.length cap, .int .i64 hc] ∧ EntriesR W B l := by
  obtain ⟨cs, rfl, hsz⟩ := hv
  obtain ⟨fuel, hf⟩ := h
  obtain ⟨y0, y1, n', hxx, _, g0, g1⟩ := trod_struct2 Tryz.underlying55 hf
  rw [cellsPlayer0] at hsz
  obtain ⟨cl⟩ := cs
  match cl, hsz with
  | [u0, u1, u2], _ =>
    simp [Value.cells, cellsCard0, cellsInt0] at g0 g1
    obtain ⟨z, k2, _⟩ := DataW.trod_int Tryz.underlying3 g1
    obtain ⟨x0, x1, n2, _, _, f0, f1⟩ := trod_struct2 Tryz.underlying53 g0
    simp [cellsStr0, cellsEntries0] at f0 f1
    obtain ⟨nm, k0, _⟩ := DataW.trod_string Tryz.underlying9 f0
    obtain ⟨B, cap, l, k1, hE, hb⟩ := open_entries f1
    simp only [List.cons.injEq, and_true] at k0 k1 k2
    subst k0; subst k1; subst k2
    exact ⟨nm, B, cap, l, z, rfl, hE⟩
end
end Go.Proofs.YtbckfkopdojggaaGreatDoor
