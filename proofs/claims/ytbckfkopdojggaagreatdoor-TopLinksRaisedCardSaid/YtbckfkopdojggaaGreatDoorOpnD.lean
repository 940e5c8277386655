/- Arguments of the laws of chapter 5, opened: lists of players. -/
import Derived.Test.YtbckfkopdojggaaGreatDoorOpnB
import Derived.Test.YtbckfkopdojggaaGreatDoorMgF
set_option linter.unusedVariables false
set_option linter.unusedSimpArgs false
namespace Go.Proofs.YtbckfkopdojggaaGreatDoor
open Go.ChangeShapes Go.WideShapes Go.ChangeAt Go.ChangeMaps Go.RowKit

theorem bytesPlayer0 : Tryz.prog.bytesOf 55 = 48 := by kernel_rfl

section
variable {H : Type} {enc : TypeId × Value → H} {W : World} {d : DataW H} {p : List MemPlace}

set_option maxRecDepth 100000 in
theorem open_pl {fuel : Nat} {cs : List Value} {x : DataW H × List MemPlace} (hlen : cs.length = 3) (h : DataW.trod enc Tryz.prog W 0 (fun _ => true) true fuel 55 cs = some x) :
    ∃ (nm : ByteArray) (B : Option Addr) (cap : Nat) (l : List (Int × ByteArray)) (hc : Int), cs = [.string nm, .slice B l.length cap, .int .i64 hc] ∧ EntriesR W B l := by
  obtain ⟨y0, y1, n', hxx, _, g0, g1⟩ := trod_struct2 Tryz.underlying55 h
  match cs, hlen with
  | [u0, u1, u2], _ =>
    simp [cellsCard0, cellsInt0] at g0 g1
    obtain ⟨z, k2, _⟩ := DataW.trod_int Tryz.underlying3 g1
    obtain ⟨x0, x1, n2, _, _, f0, f1⟩ := trod_struct2 Tryz.underlying53 g0
    simp [cellsStr0, cellsEntries0] at f0 f1
    obtain ⟨nm, k0, _⟩ := DataW.trod_string Tryz.underlying9 f0
    obtain ⟨B, cap, l, k1, hE, hb⟩ := open_entries f1
    simp only [List.cons.injEq, and_true] at k0 k1 k2
    subst k0; subst k1; subst k2
    exact ⟨nm, B, cap, l, z, rfl, hE⟩

set_option maxRecDepth 100000 in
theorem open_playerlist {a0 : Option Addr} {len cap : Nat} (h : DataW.Trod enc Tryz.prog W 0 (fun _ => true) true 23 (.slice a0 len cap) d p) :
    ∃ ps : List Pl, ps.length = len ∧ PlayersR W a0 ps ∧ (ps = [] ∨ ∃ es sp, d = .slice es sp ∧ es.length = ps.length) := by
  obtain ⟨fuel, hf⟩ := h
  rcases Deep.open_slice Tryz.underlying23 hf with ⟨hcs, hx⟩ | ⟨a, len', cap', m, n, D, Pz, hcs, hb, hl, hm, hmm, hx, he⟩
  · simp [Value.cells] at hcs
    obtain ⟨rfl, rfl, rfl⟩ := hcs
    exact ⟨[], rfl, fun j hj => absurd hj (Nat.not_lt_zero _), .inl rfl⟩
  · simp [Value.cells] at hcs
    obtain ⟨rfl, rfl, rfl⟩ := hcs
    simp only [if_true] at hmm
    have each : ∀ i, i < m → ∃ q : Pl, ∃ B c, W.cell? (a.add (i * 3)) = some (.string q.nm) ∧ W.cell? ⟨(a.add (i * 3)).block, (a.add (i * 3)).off + 1, none⟩ = some (.slice B q.l.length c) ∧ W.cell? ⟨(a.add (i * 3)).block, (a.add (i * 3)).off + 2, none⟩ = some (.int .i64 q.h) ∧ EntriesR W B q.l := by
      intro i hi
      obtain ⟨cs', h1, h2⟩ := he i hi
      rw [cellsPlayer0] at h1
      obtain ⟨_, hlen, hcell⟩ := World.cells?_some h1
      obtain ⟨nm, B, c, l, hc, rfl, hE⟩ := open_pl (by simpa using hlen) h2
      exact ⟨⟨nm, l, hc⟩, B, c, hcell 0 (by omega), hcell 1 (by omega), hcell 2 (by omega), hE⟩
    obtain ⟨q, hq⟩ := Deep.choose_lt each
    refine ⟨(List.range len).map q, by simp, ?_, .inr ⟨_, _, congrArg Prod.fst hx, by simp⟩⟩
    intro j hj
    have hj' : j < len := by simpa using hj
    have hjq : ((List.range len).map q).getD j plD = q j := by simp [List.getD, hj']
    obtain ⟨B, c, c0, c1, c2, hE⟩ := hq j (by omega)
    rw [hjq]
    exact ⟨a, B, c, rfl, c0, c1, c2, World.block_lt_of_cell? _ _ c0, hE⟩
theorem players_bound {ts : List TypeId} {ds : List (DataW H)} {j : Nat} {ps : List Pl} {dj : DataW H} (hsz : (DataW.weightsEach Tryz.prog ts ds).all (· ≤ reachBytes) = true) (ht : ts[j]? = some 23) (hd : ds[j]? = some dj)
    (hb : ps = [] ∨ ∃ es sp, dj = .slice es sp ∧ es.length = ps.length) : ps.length ≤ 4611686018427387904 := by
  rcases hb with rfl | ⟨es, sp, rfl, hel⟩
  · simp
  · have := sized_slice hsz (j := j) (t := 23) (e := 55) ht hd Tryz.underlying23
    rw [bytesPlayer0] at this
    simp only [reachBytes] at this
    omega
end
end Go.Proofs.YtbckfkopdojggaaGreatDoor
