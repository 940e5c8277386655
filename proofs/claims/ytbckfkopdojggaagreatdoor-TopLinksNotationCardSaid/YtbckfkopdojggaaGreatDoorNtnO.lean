/- TopLinksNotation: a field opened, with the room of its cards' slices. -/
import Derived.Test.YtbckfkopdojggaaGreatDoorNtnC
import Derived.Test.YtbckfkopdojggaaGreatDoorOpnA
set_option linter.unusedVariables false
set_option linter.unusedSimpArgs false
namespace Go.Proofs.YtbckfkopdojggaaGreatDoor
open Go.ChangeShapes Go.WideShapes Go.ChangeAt Go.ChangeMaps Go.RowKit

theorem cellsEntry0N : Tryz.prog.cellsOf 73 = 2 := by kernel_rfl
theorem cellsCard0N : Tryz.prog.cellsOf 53 = 2 := by kernel_rfl
theorem cellsPlayer0N : Tryz.prog.cellsOf 55 = 3 := by kernel_rfl
theorem cellsEntries0N : Tryz.prog.cellsOf 51 = 1 := by kernel_rfl

theorem cellsField0N : Tryz.prog.cellsOf 25 = 2 := by kernel_rfl
theorem cellsHoles0N : Tryz.prog.cellsOf 22 = 1 := by kernel_rfl
theorem cellsPlayers0N : Tryz.prog.cellsOf 23 = 1 := by kernel_rfl

theorem bytesPlayer0N : Tryz.prog.bytesOf 55 = 48 := by kernel_rfl

section
variable {H : Type} {enc : TypeId × Value → H} {W : World} {d : DataW H} {p : List MemPlace}

set_option maxRecDepth 100000 in
theorem open_entriesN {fuel : Nat} {cs : List Value} {x : DataW H × List MemPlace} (h : DataW.trod enc Tryz.prog W 0 (fun _ => true) true fuel 51 cs = some x) :
    ∃ (B : Option Addr) (cap : Nat) (l : List (Int × ByteArray)), cs = [.slice B l.length cap] ∧ EntriesR W B l ∧ l.length ≤ cap := by
  rcases Deep.open_slice Tryz.underlying51 h with ⟨hcs, hx⟩ | ⟨a, len, cap, m, n, D, Pl, hcs, hb, hl, hm, hmm, hx, he⟩
  · exact ⟨none, 0, [], hcs, fun j hj => absurd hj (Nat.not_lt_zero _), Nat.le_refl _⟩
  · simp only [if_true] at hmm
    have each : ∀ i, i < m → ∃ q : Int × ByteArray, W.cell? (a.add (i * 2)) = some (.int .i64 q.1) ∧ W.cell? ⟨(a.add (i * 2)).block, (a.add (i * 2)).off + 1, none⟩ = some (.string q.2) := by
      intro i hi
      obtain ⟨cs', h1, h2⟩ := he i hi
      rw [cellsEntry0N] at h1
      obtain ⟨_, hlen, hcell⟩ := World.cells?_some h1
      obtain ⟨y0, y1, n', hxx, _, g0, g1⟩ := trod_struct2 Tryz.underlying73 h2
      match cs', hlen with
      | [u0, u1], _ =>
        have e0 := hcell 0 (by omega)
        have e1 := hcell 1 (by omega)
        simp [cellsInt0, cellsStr0] at g0 g1
        obtain ⟨z0, k0, _⟩ := DataW.trod_int Tryz.underlying3 g0
        obtain ⟨z1, k1, _⟩ := DataW.trod_string Tryz.underlying9 g1
        simp only [List.cons.injEq, and_true] at k0 k1
        subst k0; subst k1
        exact ⟨(z0, z1), e0, e1⟩
    obtain ⟨q, hq⟩ := Deep.choose_lt each
    refine ⟨some a, cap, (List.range len).map q, by simpa using hcs, ?_, by simpa using hl⟩
    intro j hj
    have hj' : j < len := by simpa using hj
    have hjq : ((List.range len).map q).getD j (0, ByteArray.empty) = q j := by simp [List.getD, hj']
    obtain ⟨c0, c1⟩ := hq j (by omega)
    rw [hjq]
    exact ⟨a, rfl, c0, c1, World.block_lt_of_cell? _ _ c0⟩

set_option maxRecDepth 100000 in
theorem open_plN {fuel : Nat} {cs : List Value} {x : DataW H × List MemPlace} (hlen : cs.length = 3) (h : DataW.trod enc Tryz.prog W 0 (fun _ => true) true fuel 55 cs = some x) :
    ∃ (nm : ByteArray) (B : Option Addr) (cap : Nat) (l : List (Int × ByteArray)) (hc : Int), cs = [.string nm, .slice B l.length cap, .int .i64 hc] ∧ EntriesR W B l ∧ l.length ≤ cap := by
  obtain ⟨y0, y1, n', hxx, _, g0, g1⟩ := trod_struct2 Tryz.underlying55 h
  match cs, hlen with
  | [u0, u1, u2], _ =>
    simp [cellsCard0N, cellsInt0] at g0 g1
    obtain ⟨z, k2, _⟩ := DataW.trod_int Tryz.underlying3 g1
    obtain ⟨x0, x1, n2, _, _, f0, f1⟩ := trod_struct2 Tryz.underlying53 g0
    simp [cellsStr0, cellsEntries0N] at f0 f1
    obtain ⟨nm, k0, _⟩ := DataW.trod_string Tryz.underlying9 f0
    obtain ⟨B, cap, l, k1, hE, hb⟩ := open_entriesN f1
    simp only [List.cons.injEq, and_true] at k0 k1 k2
    subst k0; subst k1; subst k2
    exact ⟨nm, B, cap, l, z, rfl, hE, hb⟩

set_option maxRecDepth 100000 in
theorem open_playerlistN {a0 : Option Addr} {len cap : Nat} (h : DataW.Trod enc Tryz.prog W 0 (fun _ => true) true 23 (.slice a0 len cap) d p) :
    ∃ ps : List Pl, ps.length = len ∧ PlayersR W a0 ps ∧ CapsR W a0 ps ∧ (ps = [] ∨ ∃ es sp, d = .slice es sp ∧ es.length = ps.length) := by
  obtain ⟨fuel, hf⟩ := h
  rcases Deep.open_slice Tryz.underlying23 hf with ⟨hcs, hx⟩ | ⟨a, len', cap', m, n, D, Pz, hcs, hb, hl, hm, hmm, hx, he⟩
  · simp [Value.cells] at hcs
    obtain ⟨rfl, rfl, rfl⟩ := hcs
    exact ⟨[], rfl, fun j hj => absurd hj (Nat.not_lt_zero _), fun j hj => absurd hj (Nat.not_lt_zero _), .inl rfl⟩
  · simp [Value.cells] at hcs
    obtain ⟨rfl, rfl, rfl⟩ := hcs
    simp only [if_true] at hmm
    have each : ∀ i, i < m → ∃ q : Pl, ∃ B c, W.cell? (a.add (i * 3)) = some (.string q.nm) ∧ W.cell? ⟨(a.add (i * 3)).block, (a.add (i * 3)).off + 1, none⟩ = some (.slice B q.l.length c) ∧ W.cell? ⟨(a.add (i * 3)).block, (a.add (i * 3)).off + 2, none⟩ = some (.int .i64 q.h) ∧ EntriesR W B q.l ∧ q.l.length ≤ c := by
      intro i hi
      obtain ⟨cs', h1, h2⟩ := he i hi
      rw [cellsPlayer0N] at h1
      obtain ⟨_, hlen, hcell⟩ := World.cells?_some h1
      obtain ⟨nm, B, c, l, hc, rfl, hE, hcap⟩ := open_plN (by simpa using hlen) h2
      exact ⟨⟨nm, l, hc⟩, B, c, hcell 0 (by omega), hcell 1 (by omega), hcell 2 (by omega), hE, hcap⟩
    obtain ⟨q, hq⟩ := Deep.choose_lt each
    refine ⟨(List.range len).map q, by simp, ?_, ?_, .inr ⟨_, _, congrArg Prod.fst hx, by simp⟩⟩
    · intro j hj
      have hj' : j < len := by simpa using hj
      have hjq : ((List.range len).map q).getD j plD = q j := by simp [List.getD, hj']
      obtain ⟨B, c, c0, c1, c2, hE, _⟩ := hq j (by omega)
      rw [hjq]
      exact ⟨a, B, c, rfl, c0, c1, c2, World.block_lt_of_cell? _ _ c0, hE⟩
    · intro j hj a' B' d' ea hc'
      have hj' : j < len := by simpa using hj
      have hjq : ((List.range len).map q).getD j plD = q j := by simp [List.getD, hj']
      obtain ⟨B, c, c0, c1, c2, hE, hcp⟩ := hq j (by omega)
      injection ea with ea
      subst ea
      rw [hjq] at hc' ⊢
      rw [c1] at hc'
      injection hc' with hc'
      injection hc' with _ _ e3
      omega

set_option maxRecDepth 100000 in
theorem open_fieldN {v : Value} (hv : ∃ cs, v = .agg cs ∧ cs.size = Tryz.prog.cellsOf 25) (h : DataW.Trod enc Tryz.prog W 0 (fun _ => true) true 25 v d p) :
    ∃ (X A : Option Addr) (ch c : Nat) (hs : List (Int × Int)) (ps : List Pl), v = .agg #[.slice X hs.length ch, .slice A ps.length c] ∧ HolesR W X hs ∧ (hs = [] ∨ ∀ a, X = some a → a.block < W.heap.size) ∧ PlayersR W A ps ∧ CapsR W A ps ∧
      (ps = [] ∨ ∃ D es sp, d = .agg [D, .slice es sp] ∧ es.length = ps.length) := by
  obtain ⟨cs, rfl, hsz⟩ := hv
  obtain ⟨fuel, hf⟩ := h
  obtain ⟨⟨y0, q0⟩, ⟨y1, q1⟩, n', hxx, _, g0, g1⟩ := trod_struct2 Tryz.underlying25 hf
  rw [cellsField0N] at hsz
  obtain ⟨cl⟩ := cs
  match cl, hsz with
  | [u0, u1], _ =>
    simp [Value.cells, cellsHoles0N, cellsPlayers0N] at g0 g1
    obtain ⟨X, lh, ch, rfl⟩ : ∃ X l c, u0 = .slice X l c := by
      rcases Deep.open_slice Tryz.underlying22 g0 with ⟨hcs, _⟩ | ⟨a, len, cap, m, n, D, Pz, hcs, _⟩
      · exact ⟨_, _, _, by simpa using hcs⟩
      · exact ⟨_, _, _, by simpa using hcs⟩
    obtain ⟨A, lp, c, rfl⟩ : ∃ X l c, u1 = .slice X l c := by
      rcases Deep.open_slice Tryz.underlying23 g1 with ⟨hcs, _⟩ | ⟨a, len, cap, m, n, D, Pz, hcs, _⟩
      · exact ⟨_, _, _, by simpa using hcs⟩
      · exact ⟨_, _, _, by simpa using hcs⟩
    obtain ⟨hs, rfl, hR, hbl⟩ := open_holes (d := y0) (p := q0) ⟨n', by simpa [Value.cells] using g0⟩
    obtain ⟨ps, rfl, hP, hC, bP⟩ := open_playerlistN (d := y1) (p := q1) ⟨n', by simpa [Value.cells] using g1⟩
    refine ⟨X, A, ch, c, hs, ps, rfl, hR, hbl, hP, hC, ?_⟩
    rcases bP with e | ⟨es, sp, e1, e2⟩
    · exact .inl e
    · exact .inr ⟨y0, es, sp, by rw [(Prod.mk.inj hxx).1, e1], e2⟩

theorem field_boundN {ts : List TypeId} {ds : List (DataW H)} {j : Nat} {ps : List Pl} {dj : DataW H} (hsz : (DataW.weightsEach Tryz.prog ts ds).all (· ≤ reachBytes) = true) (ht : ts[j]? = some 25) (hd : ds[j]? = some dj)
    (hb : ps = [] ∨ ∃ D es sp, dj = .agg [D, .slice es sp] ∧ es.length = ps.length) : ps.length * 48 ≤ 140737488355328 := by
  rcases hb with rfl | ⟨D, es, sp, rfl, hel⟩
  · simp
  · have := List.all_eq_true.1 hsz _ (DataW.weights_mem_each ht hd ((es.length + sp.length) * Tryz.prog.bytesOf 55) (by
      show _ ∈ DataW.weights Tryz.prog 25 _
      simp [DataW.weights, DataW.weightsEach, Tryz.underlying25, Tryz.underlying23]))
    rw [bytesPlayer0N] at this
    have h2 : (es.length + sp.length) * 48 ≤ reachBytes := by simpa using this
    simp only [reachBytes] at h2
    omega
end
end Go.Proofs.YtbckfkopdojggaaGreatDoor
