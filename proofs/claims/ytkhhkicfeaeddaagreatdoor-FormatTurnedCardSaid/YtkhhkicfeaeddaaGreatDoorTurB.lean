/- FormatTurned: the closure that raises the net strokes of a hole: its walk. -/
import Derived.Test.YtkhhkicfeaeddaaGreatDoorTurA
import Derived.Test.YtkhhkicfeaeddaaGreatDoorScoA
import Derived.Outline
set_option linter.unusedVariables false
set_option linter.unusedSimpArgs false
namespace Go.Proofs.YtkhhkicfeaeddaaGreatDoor
open Go.RowKit

theorem own_empty (w : World) : (w.alloc (.cells #[] 70)).ownsRow w.heap.size 70 2 (.slice (some ⟨w.heap.size, 0, none⟩) 0 0) 0 [] :=
  ⟨rfl, .inr ⟨w.heap.size, 0, #[], rfl, Nat.le_refl _, heap_alloc_new w _, by decide, by decide, rfl, rfl⟩⟩

set_option maxRecDepth 100000 in
set_option maxHeartbeats 4000000 in
theorem up_any (A : Option Addr) (c bk br k : Nat) (r : Int) (nl : List (Int × ByteArray)) (w : World) (he : EntriesR w A nl) (hk : k < nl.length) (hr : -50 ≤ r ∧ r ≤ 50) (hs : ∀ e ∈ nl, -999 ≤ e.1 ∧ e.1 ≤ 999) (hl : nl.length ≤ 36)
    (hbk : w.cell? ⟨bk, 0, none⟩ = some (.int .i64 k)) (hbr : w.cell? ⟨br, 0, none⟩ = some (.int .i64 r)) :
    Calls Tryz.prog 30 #[.slice A nl.length c, .pointer (some ⟨bk, 0, none⟩), .pointer (some ⟨br, 0, none⟩)] w (UpOut (riseL k r nl) w) := by
  obtain ⟨a, rfl, _⟩ := he k hk
  have hk0 : (0 : Int) ≤ (k : Int) := Int.natCast_nonneg _
  have hk1 : (k : Int) < (nl.length : Int) := by omega
  have hnb : -999 ≤ (nl.getD k (0, ByteArray.empty)).1 ∧ (nl.getD k (0, ByteArray.empty)).1 ≤ 999 := hs _ (by simp [List.getD, List.getElem?_eq_getElem hk])
  have ha0 := (Below.refl w.heap.size w).alloc (Nat.le_refl _) (.cells #[] 70)
  obtain ⟨g, cap, cur, w4, hrun, hblk, htk, hge, hb4⟩ := append_nets w.heap.size (w.alloc (.cells #[] 70)) (some ⟨w.heap.size, 0, none⟩) 0 a c nl (by simp) (by omega) (by omega) (own_empty w) (he.keep ha0)
  have HRUN := Lib.hid hrun
  have HB4 := Lib.hid (ha0.trans hb4)
  have HGE := Lib.hid hge
  have HBLK := Lib.hid hblk
  have HTK := Lib.hid htk
  have hek := (entries_of_take hblk htk) k hk
  obtain ⟨p1, p2⟩ := pairCells_at nl k hk
  rw [← htk, List.getElem?_take_of_lt (by omega)] at p1 p2
  have q0 : w4.cell? ⟨g, k * 2, none⟩ = some (.int .i64 (nl.getD k (0, ByteArray.empty)).1) := by rw [hblk.cell]; simpa using p1
  have q1 : w4.cell? ⟨g, k * 2 + 1, none⟩ = some (.string (nl.getD k (0, ByteArray.empty)).2) := by rw [hblk.cell]; simpa using p2
  have f0 := hblk.frozen (k * 2)
  have n0 : w4.cell? ⟨bk, 0, none⟩ = some (.int .i64 k) := (HB4.out.cell (p := ⟨bk, 0, none⟩) (World.block_lt_of_cell? _ _ hbk)).trans hbk
  have n1 : w4.cell? ⟨br, 0, none⟩ = some (.int .i64 r) := (HB4.out.cell (p := ⟨br, 0, none⟩) (World.block_lt_of_cell? _ _ hbr)).trans hbr
  have HRL : Hid (riseL k r nl = nl.set k (riseE r (nl.getD k (0, ByteArray.empty)))) := Lib.hid rfl
  have HRE : Hid (riseE r (nl.getD k (0, ByteArray.empty)) = if (nl.getD k (0, ByteArray.empty)).2.toList.isEmpty then ((nl.getD k (0, ByteArray.empty)).1 + r, (nl.getD k (0, ByteArray.empty)).2) else nl.getD k (0, ByteArray.empty)) := Lib.hid rfl
  have HSET := Lib.hid (fun s => set_take htk k s hk)
  have HSAME : Hid (nl.set k (nl.getD k (0, ByteArray.empty)) = nl) := Lib.hid (by
    rw [show nl.getD k (0, ByteArray.empty) = nl[k] by simp [List.getD, List.getElem?_eq_getElem hk]]
    exact List.set_getElem_self hk)
  have HLEN : Hid ((riseL k r nl).length = nl.length) := Lib.hid (riseL_len k r nl)
  clear he hs hrun hblk htk hek p1 p2 hb4 ha0 hge hbk hbr
  generalize nl.getD k (0, ByteArray.empty) = en at q0 q1 hnb HRL HRE HSET HSAME
  obtain ⟨s, m⟩ := en
  simp only at q0 q1 hnb HRE HSET
  have hw : IntKind.i64.wrap (s + r) = s + r := IntWalk.i64_in _ (by omega)
  generalize riseL k r nl = res at HRL HLEN ⊢
  cases hm : m.toList.isEmpty
  all_goals
    rw [hm] at HRE
    go_enter Tryz.func30, Tryz.ntmps30
    go_wp2_with (at_builtin; refine wpList_append_go rfl _ _ 22 rfl _ _ (.slice (some ⟨g, 0, none⟩) nl.length cap) w4 rfl rfl HRUN.out ?_)
  · go_ret
    refine ⟨g, cap, by rw [HLEN.out]; rfl, ?_, HGE.out, HB4.out⟩
    have e : res = nl := by rw [HRL.out, HRE.out]; simpa using HSAME.out
    rw [e]
    exact entries_of_take HBLK.out HTK.out
  · go_region
    all_goals
      go_wp2
      go_ret
      refine ⟨g, cap, by rw [HLEN.out]; rfl, ?_, HGE.out, (HB4.out.setCell (p := ⟨g, k * 2, none⟩) HGE.out (.int .i64 (s + r))).drew⟩
      have e : res = nl.set k (s + r, m) := by rw [HRL.out, HRE.out]; simp
      rw [e]
      exact entries_of_take (HBLK.out.set (k * 2) (.int .i64 (s + r))).drew (HSET.out (s + r))
end Go.Proofs.YtkhhkicfeaeddaaGreatDoor
