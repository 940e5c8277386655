/- Arguments of the laws of chapter 5, opened: a field. -/
import Derived.Test.YtbckfkopdojggaaGreatDoorOpnD
import Derived.Test.YtbckfkopdojggaaGreatDoorOpnA
set_option linter.unusedVariables false
set_option linter.unusedSimpArgs false
namespace Go.Proofs.YtbckfkopdojggaaGreatDoor
open Go.ChangeShapes Go.WideShapes Go.ChangeAt Go.ChangeMaps Go.RowKit

theorem cellsField0 : Tryz.prog.cellsOf 25 = 2 := by kernel_rfl
theorem cellsHoles0 : Tryz.prog.cellsOf 22 = 1 := by kernel_rfl
theorem cellsPlayers0 : Tryz.prog.cellsOf 23 = 1 := by kernel_rfl

section
variable {H : Type} {enc : TypeId × Value → H} {W : World} {d : DataW H} {p : List MemPlace}

set_option maxRecDepth 100000 in
theorem open_field {v : Value} (hv : ∃ cs, v = .agg cs ∧ cs.size = Tryz.prog.cellsOf 25) (h : DataW.Trod enc Tryz.prog W 0 (fun _ => true) true 25 v d p) :
    ∃ (X A : Option Addr) (ch c : Nat) (hs : List (Int × Int)) (ps : List Pl), v = .agg #[.slice X hs.length ch, .slice A ps.length c] ∧ HolesR W X hs ∧ (hs = [] ∨ ∀ a, X = some a → a.block < W.heap.size) ∧ PlayersR W A ps ∧
      (ps = [] ∨ ∃ D es sp, d = .agg [D, .slice es sp] ∧ es.length = ps.length) := by
  obtain ⟨cs, rfl, hsz⟩ := hv
  obtain ⟨fuel, hf⟩ := h
  obtain ⟨⟨y0, q0⟩, ⟨y1, q1⟩, n', hxx, _, g0, g1⟩ := trod_struct2 Tryz.underlying25 hf
  rw [cellsField0] at hsz
  obtain ⟨cl⟩ := cs
  match cl, hsz with
  | [u0, u1], _ =>
    simp [Value.cells, cellsHoles0, cellsPlayers0] at g0 g1
    obtain ⟨X, lh, ch, rfl⟩ : ∃ X l c, u0 = .slice X l c := by
      rcases Deep.open_slice Tryz.underlying22 g0 with ⟨hcs, _⟩ | ⟨a, len, cap, m, n, D, Pz, hcs, _⟩
      · exact ⟨_, _, _, by simpa using hcs⟩
      · exact ⟨_, _, _, by simpa using hcs⟩
    obtain ⟨A, lp, c, rfl⟩ : ∃ X l c, u1 = .slice X l c := by
      rcases Deep.open_slice Tryz.underlying23 g1 with ⟨hcs, _⟩ | ⟨a, len, cap, m, n, D, Pz, hcs, _⟩
      · exact ⟨_, _, _, by simpa using hcs⟩
      · exact ⟨_, _, _, by simpa using hcs⟩
    obtain ⟨hs, rfl, hR, hbl⟩ := open_holes (d := y0) (p := q0) ⟨n', by simpa [Value.cells] using g0⟩
    obtain ⟨ps, rfl, hP, bP⟩ := open_playerlist (d := y1) (p := q1) ⟨n', by simpa [Value.cells] using g1⟩
    refine ⟨X, A, ch, c, hs, ps, rfl, hR, hbl, hP, ?_⟩
    rcases bP with e | ⟨es, sp, e1, e2⟩
    · exact .inl e
    · exact .inr ⟨y0, es, sp, by rw [(Prod.mk.inj hxx).1, e1], e2⟩

theorem field_bound {ts : List TypeId} {ds : List (DataW H)} {j : Nat} {ps : List Pl} {dj : DataW H} (hsz : (DataW.weightsEach Tryz.prog ts ds).all (· ≤ reachBytes) = true) (ht : ts[j]? = some 25) (hd : ds[j]? = some dj)
    (hb : ps = [] ∨ ∃ D es sp, dj = .agg [D, .slice es sp] ∧ es.length = ps.length) : ps.length * 48 ≤ 140737488355328 := by
  rcases hb with rfl | ⟨D, es, sp, rfl, hel⟩
  · simp
  · have := List.all_eq_true.1 hsz _ (DataW.weights_mem_each ht hd ((es.length + sp.length) * Tryz.prog.bytesOf 55) (by
      show _ ∈ DataW.weights Tryz.prog 25 _
      simp [DataW.weights, DataW.weightsEach, Tryz.underlying25, Tryz.underlying23]))
    rw [bytesPlayer0] at this
    have h2 : (es.length + sp.length) * 48 ≤ reachBytes := by simpa using this
    simp only [reachBytes] at h2
    omega
end
end Go.Proofs.YtbckfkopdojggaaGreatDoor
