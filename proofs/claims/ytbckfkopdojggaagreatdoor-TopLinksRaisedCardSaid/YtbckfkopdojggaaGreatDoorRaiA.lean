/- TopLinksRaised: the closure that gives a player a stroke more on each hole that counts. -/
import Derived.Test.YtbckfkopdojggaaGreatDoorRaiM
import Derived.Test.YtbckfkopdojggaaGreatDoorTurS
import Derived.Test.YtbckfkopdojggaaGreatDoorNotG
import Derived.Test.YtbckfkopdojggaaGreatDoorScoA
import Derived.Outline
set_option linter.unusedVariables false
set_option linter.unusedSimpArgs false
namespace Go.Proofs.YtbckfkopdojggaaGreatDoor
open Go.RowKit

theorem own_emptyE (w : World) : (w.alloc (.cells #[] 73)).ownsRow w.heap.size 73 2 (.slice (some ⟨w.heap.size, 0, none⟩) 0 0) 0 [] :=
  ⟨rfl, .inr ⟨w.heap.size, 0, #[], rfl, Nat.le_refl _, heap_alloc_new w _, by decide, by decide, rfl, rfl⟩⟩
/-- An append of a whole list to an empty row of the call's own. -/
theorem append_ents (base : Nat) (w : World) (B : Option Addr) (cb : Nat) (a : Addr) (c : Nat) (l : List (Int × ByteArray)) (hb : base ≤ w.heap.size) (hl : l.length ≤ 1000) (h0 : 0 < l.length) (hown : w.ownsRow base 73 2 (.slice B 0 cb) 0 []) (he : EntriesR w (some a) l) :
    ∃ g cap cur w', (Builtin.append_ #[51, 51] 51 #[.slice B 0 cb, .slice (some a) l.length c]).run Tryz.prog w = .ok (.slice (some ⟨g, 0, none⟩) l.length cap) w' ∧
      BlkV w' g 73 cur ∧ cur.toList.take (l.length * 2) = pairCells l ∧ base ≤ g ∧ Below base w w' := by
  obtain ⟨i0, hi, hz0, hz1, hz2⟩ := info_parts info_entry
  obtain ⟨v', w', hrun, h2, h3, _, _⟩ := run_append_own_at (P := Tryz.prog) w base 51 51 73 i0 _ 2 24 Tryz.underlying51 hi hz0 hz1 hz2 rfl (by decide) (.slice B 0 cb) 0 [] hown a l.length c (pairCells l) (pairCells_len l)
    (entries_news he) (pair_cells_one2 l) (by unfold maxLen; omega) (by omega) hb
  rw [Nat.zero_add] at h2
  rcases h2.2 with ⟨rfl, h⟩ | ⟨g, cap, cur, rfl, hg, hgb, hnc, hcm, hcs, htk⟩
  · omega
  · refine ⟨g, cap, cur, w', hrun, hgb, by simpa using htk, hg, (Below.refl base w).grown h3 hb (fun k e => ?_)⟩
    rcases hown.2 with ⟨e1, _⟩ | ⟨g', cap', cur', e1, hg', _⟩
    · rw [e1] at e; simp [Value.ownBlock] at e
    · rw [e1] at e; simp [Value.ownBlock] at e; omega

/-- The first k entries have a stroke more. -/
def upK (k : Nat) (l : List Ent) : List Ent := (l.take k).map upE ++ l.drop k
theorem upK_len (k : Nat) (l : List Ent) : (upK k l).length = l.length := by simp [upK]; omega
theorem upK_zero (l : List Ent) : upK 0 l = l := by simp [upK]
theorem upK_all (l : List Ent) : upK l.length l = l.map upE := by simp [upK]
theorem upK_at {k : Nat} {l : List Ent} (h : k < l.length) : (upK k l).getD k (0, ByteArray.empty) = l.getD k (0, ByteArray.empty) := by
  have e : ((l.take k).map upE).length = k := by simp; omega
  simp only [upK, List.getD]
  rw [List.getElem?_append_right (by omega), e, Nat.sub_self, List.getElem?_drop, Nat.add_zero]
theorem upK_succ {k : Nat} {l : List Ent} (h : k < l.length) : upK (k + 1) l = (upK k l).set k (upE (l.getD k (0, ByteArray.empty))) := by
  have e : ((l.take k).map upE).length = k := by simp; omega
  have hd : l.drop k = l.getD k (0, ByteArray.empty) :: l.drop (k + 1) := by
    rw [List.drop_eq_getElem_cons h]
    simp [List.getD, List.getElem?_eq_getElem h]
  unfold upK
  rw [List.set_append_right _ _ (by omega), e, Nat.sub_self, hd, List.set_cons_zero, List.take_succ_eq_append_getElem h, List.map_append, List.append_assoc]
  simp [List.getD, List.getElem?_eq_getElem h]
theorem roomL_snoc {l : List Ent} {e : Ent} (h : roomL l) (he : (markK e.2 = 0 ∨ markK e.2 = 1) → e.1 ≠ 99) : roomL (l ++ [e]) := fun x hx => by
  rcases List.mem_append.1 hx with hx | hx
  · exact h x hx
  · obtain rfl := List.mem_singleton.1 hx
    exact he

/-- What the closure returns. -/
def RaisedOut (nm : ByteArray) (l : List Ent) (h : Int) (B : Option Addr) (d : Nat) (w : World) (e : Ending) (w' : World) : Prop :=
  (roomL l ∧ ∃ g c, e = .returned (.tuple #[.agg #[.string nm, .slice (some ⟨g, 0, none⟩) l.length c, .int .i64 h], .bool true]) ∧ EntriesR w' (some ⟨g, 0, none⟩) (l.map upE) ∧ Below w.heap.size w w') ∨
  (¬ roomL l ∧ e = .returned (.tuple #[.agg #[.string nm, .slice B l.length d, .int .i64 h], .bool false]) ∧ Below w.heap.size w w')

set_option maxRecDepth 100000 in
set_option maxHeartbeats 8000000 in
theorem raised_up (B : Option Addr) (d : Nat) (nm : ByteArray) (l : List Ent) (h : Int) (w : World) (he : EntriesR w B l) (h0 : 0 < l.length) (h36 : l.length ≤ 36) (hs : ∀ e ∈ l, -999 ≤ e.1 ∧ e.1 ≤ 999) :
    Calls Tryz.prog 28 #[.agg #[.string nm, .slice B l.length d, .int .i64 h]] w (RaisedOut nm l h B d w) := by
  obtain ⟨a, rfl, _⟩ := he 0 h0
  have HSS := Lib.hid hs
  obtain ⟨W0, hW0⟩ : ∃ W0, ((w.alloc (.cells #[.string nm, .slice (some a) l.length d, .int .i64 h] 55)).alloc (.cells #[.string ⟨#[]⟩, .slice none 0 0, .int .i64 0] 55)).alloc (.cells #[.string nm, .slice (some a) l.length d, .int .i64 h] 55) = W0 := ⟨_, rfl⟩
  obtain ⟨b1, b2, b3, hB0, hsz⟩ := three_allocs w _ _ _ _ _ _ hW0
  have HSZ := Lib.hid hsz
  have ha0 := (Below.refl W0.heap.size W0).alloc (Nat.le_refl _) (.cells #[] 73)
  obtain ⟨g, cap, cur, w4, hrun, hblk, htk, hge, hb4⟩ := append_ents W0.heap.size (W0.alloc (.cells #[] 73)) (some ⟨W0.heap.size, 0, none⟩) 0 a d l (by simp) (by omega) h0 (own_emptyE W0) ((he.keep hB0).keep ha0)
  rw [hsz, ← hW0] at hrun
  have HRUN := Lib.hid hrun
  have HB04 := Lib.hid (ha0.trans hb4)
  have HGE : Hid (w.heap.size + 3 ≤ g) := Lib.hid (by omega)
  have HB4 := Lib.hid (hB0.trans ((ha0.trans hb4).mono hB0.size))
  have c1 := (b1.below HB04.out b1.lt)
  have c2 := (b2.below HB04.out b2.lt)
  have c3 := (b3.below HB04.out b3.lt)
  have z0 := c3.cell 1
  have z1 := c3.frozen 1
  simp only [List.getElem?_toArray, List.getElem?_cons_zero, List.getElem?_cons_succ] at z0
  obtain ⟨w5, hw5⟩ : ∃ w5, w4.setCell ⟨w.heap.size + 1 + 1, 1, none⟩ (.slice (some ⟨g, 0, none⟩) l.length cap) = w5 := ⟨_, rfl⟩
  have d1 : BlkV w5 w.heap.size 55 #[.string nm, .slice (some a) l.length d, .int .i64 h] := by rw [← hw5]; exact c1.far (p := ⟨w.heap.size + 1 + 1, 1, none⟩) (by simp; omega) _
  have d2 : BlkV w5 (w.heap.size + 1) 55 #[.string ⟨#[]⟩, .slice none 0 0, .int .i64 0] := by rw [← hw5]; exact c2.far (p := ⟨w.heap.size + 1 + 1, 1, none⟩) (by simp) _
  have d3 : BlkV w5 (w.heap.size + 1 + 1) 55 #[.string nm, .slice (some ⟨g, 0, none⟩) l.length cap, .int .i64 h] := by rw [← hw5]; exact c3.set 1 _
  have dg : BlkV w5 g 73 cur := by rw [← hw5]; exact hblk.far (p := ⟨w.heap.size + 1 + 1, 1, none⟩) (by simp; omega) _
  have D1 := Lib.hid d1
  have D2 := Lib.hid d2
  have D3 := Lib.hid d3
  have DG := Lib.hid dg
  have HB5 : Hid (Below w.heap.size w w5) := Lib.hid (by rw [← hw5]; exact HB4.out.setCell (p := ⟨w.heap.size + 1 + 1, 1, none⟩) (by simp; omega) _)
  have HW5 := Lib.hid hw5
  have HTK := Lib.hid htk
  have x1 := d3.cell 1
  simp only [List.getElem?_toArray, List.getElem?_cons_zero, List.getElem?_cons_succ] at x1
  clear hs he hrun hblk htk hb4 ha0 hge b1 b2 b3 c1 c2 c3 hB0 d1 d2 d3 dg hw5 hW0 hsz HB04 HB4
  go_enter Tryz.func28, Tryz.ntmps28
  go_wp2_with (at_builtin; refine wpList_append_go rfl _ _ 51 rfl _ _ (.slice (some ⟨g, 0, none⟩) l.length cap) w4 rfl rfl HRUN.out ?_)
  rw [HW5.out]
  go_wp2
  go_loopw [19] (fun iv wr => ∃ (k : Nat) (cu : Array Value), k ≤ l.length ∧ iv = .int .i64 k ∧ BlkV wr g 73 cu ∧ cu.toList.take (l.length * 2) = pairCells (upK k l) ∧ roomL (l.take k) ∧
    BlkV wr w.heap.size 55 #[.string nm, .slice (some a) l.length d, .int .i64 h] ∧ BlkV wr (w.heap.size + 1) 55 #[.string ⟨#[]⟩, .slice none 0 0, .int .i64 0] ∧ BlkV wr (w.heap.size + 1 + 1) 55 #[.string nm, .slice (some ⟨g, 0, none⟩) l.length cap, .int .i64 h] ∧ Below w.heap.size w wr) (fun iv _ => l.length - (intOf iv).toNat)
  case atStart => exact ⟨0, cur, Nat.zero_le _, rfl, DG.out, by rw [upK_zero]; exact HTK.out, (fun e he => by simp at he), D1.out, D2.out, D3.out, HB5.out⟩
  case round =>
    obtain ⟨k, cu, hk, rfl, hg, htk, hrm, e1, e2, e3, hb⟩ := hrel
    have HBL := Lib.hid hb
    have E1 := Lib.hid e1
    have E2 := Lib.hid e2
    have E3 := Lib.hid e3
    have HG := Lib.hid hg
    have HTK := Lib.hid htk
    have HRM := Lib.hid hrm
    have hk0 : (0 : Int) ≤ (k : Int) := Int.natCast_nonneg _
    clear hb
    by_cases hlt : k < l.length
    · have hk1 : (k : Int) < (l.length : Int) := by omega
      obtain ⟨p1, p2⟩ := pairCells_at (upK k l) k (by rw [upK_len]; exact hlt)
      rw [← htk, List.getElem?_take_of_lt (by omega), upK_at hlt] at p1 p2
      have q0 : wr.cell? ⟨g, k * 2, none⟩ = some (.int .i64 (l.getD k (0, ByteArray.empty)).1) := by rw [hg.cell]; simpa using p1
      have q1 : wr.cell? ⟨g, k * 2 + 1, none⟩ = some (.string (l.getD k (0, ByteArray.empty)).2) := by rw [hg.cell]; simpa using p2
      have HTS : Hid (l.take (k + 1) = l.take k ++ [l.getD k (0, ByteArray.empty)]) := Lib.hid (by
        rw [List.take_succ_eq_append_getElem hlt]; simp [List.getD, List.getElem?_eq_getElem hlt])
      have HUS := Lib.hid (upK_succ (l := l) hlt)
      have HMEM : Hid (l.getD k (0, ByteArray.empty) ∈ l) := Lib.hid (by simp [List.getD, List.getElem?_eq_getElem hlt])
      have hsb := HSS.out _ HMEM.out
      obtain ⟨en, hen⟩ : ∃ en, l.getD k (0, ByteArray.empty) = en := ⟨_, rfl⟩
      rw [hen] at q0 q1 HTS HUS HMEM hsb
      have HEN := Lib.hid hen
      clear hen
      obtain ⟨n, m⟩ := en
      simp only at q0 q1 hsb
      have hlg : g < wr.heap.size := hg.lt
      clear hg htk hrm e1 e2 e3 p1 p2
      have g0 := (HG.out.alloc (.cells #[.int .i64 n, .string m] 73)).frozen (k * 2)
      have g1 := (HG.out.alloc (.cells #[.int .i64 n, .string m] 73)).cell (k * 2)
      rw [← HG.out.cell, q0] at g1
      have y1 := (E3.out.alloc (.cells #[.int .i64 n, .string m] 73)).cell 1
      have t0 := (E2.out.alloc (.cells #[.int .i64 n, .string m] 73)).cell 0
      have t1 := (E2.out.alloc (.cells #[.int .i64 n, .string m] 73)).cell 1
      have t2 := (E2.out.alloc (.cells #[.int .i64 n, .string m] 73)).cell 2
      have t3 := (E2.out.alloc (.cells #[.int .i64 n, .string m] 73)).frozen 0
      have t4 := (E2.out.alloc (.cells #[.int .i64 n, .string m] 73)).frozen 1
      have t5 := (E2.out.alloc (.cells #[.int .i64 n, .string m] 73)).frozen 2
      have v0 := (E1.out.alloc (.cells #[.int .i64 n, .string m] 73)).cell 0
      have v1 := (E1.out.alloc (.cells #[.int .i64 n, .string m] 73)).cell 1
      have v2 := (E1.out.alloc (.cells #[.int .i64 n, .string m] 73)).cell 2
      simp only [List.getElem?_toArray, List.getElem?_cons_zero, List.getElem?_cons_succ] at y1 t0 t1 t2 v0 v1 v2
      rcases mark_cases m with ⟨h1, h2, _, _, h5⟩ | ⟨h1, h2, _, _, h5⟩ | ⟨h1, h2, _, _, h5⟩ | ⟨h1, h2, _, _, h5⟩ | ⟨h1, h2, _, _, h5⟩
      · have hkm : markK m = 0 ∨ markK m = 1 := by omega
        have HKM := Lib.hid hkm
        have HUE : Hid (upE (n, m) = (n + 1, m)) := Lib.hid (by unfold upE; rw [if_pos hkm])
        clear h5 hkm
        cases hq : (n == 99)
        · have hne : n ≠ 99 := by simpa using hq
          have HNE := Lib.hid hne
          have hw : IntKind.i64.wrap (n + 1) = n + 1 := IntWalk.i64_in _ (by omega)
          clear hne
          go_wp2
          go_roundw
          case rel =>
            have hst := set_take (l := upK k l) (by rw [upK_len]; exact HTK.out) k (n + 1) (by rw [upK_len]; exact hlt)
            refine ⟨k + 1, cu.setIfInBounds (k * 2) (.int .i64 (n + 1)), by omega, by go_num, (HG.out.set (k * 2) _).alloc _, ?_, ?_, (E1.out.far (p := ⟨g, k * 2, none⟩) (by have := HGE.out; simp; omega) _).alloc _, (E2.out.far (p := ⟨g, k * 2, none⟩) (by have := HGE.out; simp; omega) _).alloc _, (E3.out.far (p := ⟨g, k * 2, none⟩) (by have := HGE.out; simp; omega) _).alloc _, (HBL.out.setCell (p := ⟨g, k * 2, none⟩) (by have := HGE.out; simp; omega) _).alloc (by have := HBL.out.size; simp; omega) _⟩
            · rw [HUS.out, HUE.out]
              have hm2 : ((upK k l).getD k (0, ByteArray.empty)).2 = m := by rw [upK_at hlt, HEN.out]
              rw [hm2, List.length_set, upK_len] at hst
              exact hst
            · rw [HTS.out]
              exact roomL_snoc HRM.out (fun _ => HNE.out)
          case measure => simp [intOf]; omega
        · have hno : ¬ roomL l := fun hr => hr _ HMEM.out HKM.out (by simpa using hq)
          have HNO := Lib.hid hno
          clear hno
          go_wp2
          refine bodyPost_ret (v := .tuple #[.agg #[.string nm, .slice (some a) l.length d, .int .i64 h], .bool false]) ?_ rfl (.inr ⟨HNO.out, rfl, ?_⟩)
          · have hb2 := (((E2.out.alloc (.cells #[.int .i64 n, .string m] 73)).set 0 (.string nm)).set 1 (.slice (some a) l.length d)).set 2 (.int .i64 h)
            generalize (((wr.alloc (.cells #[.int .i64 n, .string m] 73)).setCell ⟨w.heap.size + 1, 0, none⟩ (.string nm)).setCell ⟨w.heap.size + 1, 1, none⟩ (.slice (some a) l.length d)).setCell ⟨w.heap.size + 1, 2, none⟩ (.int .i64 h) = W9 at hb2 ⊢
            have s0 : W9.cell? ⟨w.heap.size + 1, 0, none⟩ = some (.string nm) := hb2.cell 0
            have s1 : W9.cell? ⟨w.heap.size + 1, 1, none⟩ = some (.slice (some a) l.length d) := hb2.cell 1
            have s2 : W9.cell? ⟨w.heap.size + 1, 2, none⟩ = some (.int .i64 h) := hb2.cell 2
            simp [results, Tryz.results28, go_sem, s0, s1, s2]
          · exact (((HBL.out.alloc HBL.out.size _).setCell (p := ⟨w.heap.size + 1, 0, none⟩) (by simp) _).setCell (p := ⟨w.heap.size + 1, 1, none⟩) (by simp) _).setCell (p := ⟨w.heap.size + 1, 2, none⟩) (by simp) _
      · have hkm : markK m = 0 ∨ markK m = 1 := by omega
        have HKM := Lib.hid hkm
        have HUE : Hid (upE (n, m) = (n + 1, m)) := Lib.hid (by unfold upE; rw [if_pos hkm])
        clear h5 hkm
        cases hq : (n == 99)
        · have hne : n ≠ 99 := by simpa using hq
          have HNE := Lib.hid hne
          have hw : IntKind.i64.wrap (n + 1) = n + 1 := IntWalk.i64_in _ (by omega)
          clear hne
          go_wp2
          go_roundw
          case rel =>
            have hst := set_take (l := upK k l) (by rw [upK_len]; exact HTK.out) k (n + 1) (by rw [upK_len]; exact hlt)
            refine ⟨k + 1, cu.setIfInBounds (k * 2) (.int .i64 (n + 1)), by omega, by go_num, (HG.out.set (k * 2) _).alloc _, ?_, ?_, (E1.out.far (p := ⟨g, k * 2, none⟩) (by have := HGE.out; simp; omega) _).alloc _, (E2.out.far (p := ⟨g, k * 2, none⟩) (by have := HGE.out; simp; omega) _).alloc _, (E3.out.far (p := ⟨g, k * 2, none⟩) (by have := HGE.out; simp; omega) _).alloc _, (HBL.out.setCell (p := ⟨g, k * 2, none⟩) (by have := HGE.out; simp; omega) _).alloc (by have := HBL.out.size; simp; omega) _⟩
            · rw [HUS.out, HUE.out]
              have hm2 : ((upK k l).getD k (0, ByteArray.empty)).2 = m := by rw [upK_at hlt, HEN.out]
              rw [hm2, List.length_set, upK_len] at hst
              exact hst
            · rw [HTS.out]
              exact roomL_snoc HRM.out (fun _ => HNE.out)
          case measure => simp [intOf]; omega
        · have hno : ¬ roomL l := fun hr => hr _ HMEM.out HKM.out (by simpa using hq)
          have HNO := Lib.hid hno
          clear hno
          go_wp2
          refine bodyPost_ret (v := .tuple #[.agg #[.string nm, .slice (some a) l.length d, .int .i64 h], .bool false]) ?_ rfl (.inr ⟨HNO.out, rfl, ?_⟩)
          · have hb2 := (((E2.out.alloc (.cells #[.int .i64 n, .string m] 73)).set 0 (.string nm)).set 1 (.slice (some a) l.length d)).set 2 (.int .i64 h)
            generalize (((wr.alloc (.cells #[.int .i64 n, .string m] 73)).setCell ⟨w.heap.size + 1, 0, none⟩ (.string nm)).setCell ⟨w.heap.size + 1, 1, none⟩ (.slice (some a) l.length d)).setCell ⟨w.heap.size + 1, 2, none⟩ (.int .i64 h) = W9 at hb2 ⊢
            have s0 : W9.cell? ⟨w.heap.size + 1, 0, none⟩ = some (.string nm) := hb2.cell 0
            have s1 : W9.cell? ⟨w.heap.size + 1, 1, none⟩ = some (.slice (some a) l.length d) := hb2.cell 1
            have s2 : W9.cell? ⟨w.heap.size + 1, 2, none⟩ = some (.int .i64 h) := hb2.cell 2
            simp [results, Tryz.results28, go_sem, s0, s1, s2]
          · exact (((HBL.out.alloc HBL.out.size _).setCell (p := ⟨w.heap.size + 1, 0, none⟩) (by simp) _).setCell (p := ⟨w.heap.size + 1, 1, none⟩) (by simp) _).setCell (p := ⟨w.heap.size + 1, 2, none⟩) (by simp) _
      · have HUE : Hid (upE (n, m) = (n, m)) := Lib.hid (by unfold upE; rw [if_neg (by show ¬ (markK m = 0 ∨ markK m = 1); omega)])
        have HKM : Hid (¬ (markK m = 0 ∨ markK m = 1)) := Lib.hid (by omega)
        clear h5
        go_wp2
        go_roundw
        case rel =>
          refine ⟨k + 1, cu, by omega, by go_num, HG.out.alloc _, ?_, ?_, E1.out.alloc _, E2.out.alloc _, E3.out.alloc _, HBL.out.alloc HBL.out.size _⟩
          · rw [HUS.out, HUE.out]
            have hm2 : (upK k l).set k (n, m) = upK k l := by
              have hg2 : (n, m) = (upK k l)[k]'(by rw [upK_len]; exact hlt) := by
                have := upK_at (l := l) hlt
                rw [HEN.out] at this
                simpa [List.getD, List.getElem?_eq_getElem (show k < (upK k l).length by rw [upK_len]; exact hlt)] using this.symm
              rw [hg2]
              exact List.set_getElem_self _
            rw [hm2]
            exact HTK.out
          · rw [HTS.out]
            exact roomL_snoc HRM.out (fun q => absurd q HKM.out)
        case measure => simp [intOf]; omega
      · have HUE : Hid (upE (n, m) = (n, m)) := Lib.hid (by unfold upE; rw [if_neg (by show ¬ (markK m = 0 ∨ markK m = 1); omega)])
        have HKM : Hid (¬ (markK m = 0 ∨ markK m = 1)) := Lib.hid (by omega)
        clear h5
        go_wp2
        go_roundw
        case rel =>
          refine ⟨k + 1, cu, by omega, by go_num, HG.out.alloc _, ?_, ?_, E1.out.alloc _, E2.out.alloc _, E3.out.alloc _, HBL.out.alloc HBL.out.size _⟩
          · rw [HUS.out, HUE.out]
            have hm2 : (upK k l).set k (n, m) = upK k l := by
              have hg2 : (n, m) = (upK k l)[k]'(by rw [upK_len]; exact hlt) := by
                have := upK_at (l := l) hlt
                rw [HEN.out] at this
                simpa [List.getD, List.getElem?_eq_getElem (show k < (upK k l).length by rw [upK_len]; exact hlt)] using this.symm
              rw [hg2]
              exact List.set_getElem_self _
            rw [hm2]
            exact HTK.out
          · rw [HTS.out]
            exact roomL_snoc HRM.out (fun q => absurd q HKM.out)
        case measure => simp [intOf]; omega
      · have HUE : Hid (upE (n, m) = (n, m)) := Lib.hid (by unfold upE; rw [if_neg (by show ¬ (markK m = 0 ∨ markK m = 1); omega)])
        have HKM : Hid (¬ (markK m = 0 ∨ markK m = 1)) := Lib.hid (by omega)
        clear h5
        go_wp2
        go_roundw
        case rel =>
          refine ⟨k + 1, cu, by omega, by go_num, HG.out.alloc _, ?_, ?_, E1.out.alloc _, E2.out.alloc _, E3.out.alloc _, HBL.out.alloc HBL.out.size _⟩
          · rw [HUS.out, HUE.out]
            have hm2 : (upK k l).set k (n, m) = upK k l := by
              have hg2 : (n, m) = (upK k l)[k]'(by rw [upK_len]; exact hlt) := by
                have := upK_at (l := l) hlt
                rw [HEN.out] at this
                simpa [List.getD, List.getElem?_eq_getElem (show k < (upK k l).length by rw [upK_len]; exact hlt)] using this.symm
              rw [hg2]
              exact List.set_getElem_self _
            rw [hm2]
            exact HTK.out
          · rw [HTS.out]
            exact roomL_snoc HRM.out (fun q => absurd q HKM.out)
        case measure => simp [intOf]; omega
    · have hke : k = l.length := by omega
      subst hke
      rw [upK_all] at htk
      have HTA := Lib.hid htk
      have HRA : Hid (roomL l) := Lib.hid (by have := HRM.out; rwa [List.take_length] at this)
      have t0 := E2.out.cell 0
      have t1 := E2.out.cell 1
      have t2 := E2.out.cell 2
      have t3 := E2.out.frozen 0
      have t4 := E2.out.frozen 1
      have t5 := E2.out.frozen 2
      have v0 := E3.out.cell 0
      have v1 := E3.out.cell 1
      have v2 := E3.out.cell 2
      simp only [List.getElem?_toArray, List.getElem?_cons_zero, List.getElem?_cons_succ] at t0 t1 t2 v0 v1 v2
      clear hg htk hrm e1 e2 e3 HTK
      go_wp2
      refine bodyPost_ret (v := .tuple #[.agg #[.string nm, .slice (some ⟨g, 0, none⟩) l.length cap, .int .i64 h], .bool true]) ?_ rfl (.inl ⟨HRA.out, g, cap, rfl, ?_, ?_⟩)
      · have hb2 := ((E2.out.set 0 (.string nm)).set 1 (.slice (some ⟨g, 0, none⟩) l.length cap)).set 2 (.int .i64 h)
        generalize ((wr.setCell ⟨w.heap.size + 1, 0, none⟩ (.string nm)).setCell ⟨w.heap.size + 1, 1, none⟩ (.slice (some ⟨g, 0, none⟩) l.length cap)).setCell ⟨w.heap.size + 1, 2, none⟩ (.int .i64 h) = W9 at hb2 ⊢
        have s0 : W9.cell? ⟨w.heap.size + 1, 0, none⟩ = some (.string nm) := hb2.cell 0
        have s1 : W9.cell? ⟨w.heap.size + 1, 1, none⟩ = some (.slice (some ⟨g, 0, none⟩) l.length cap) := hb2.cell 1
        have s2 : W9.cell? ⟨w.heap.size + 1, 2, none⟩ = some (.int .i64 h) := hb2.cell 2
        simp [results, Tryz.results28, go_sem, s0, s1, s2]
      · have hgg : BlkV (((wr.setCell ⟨w.heap.size + 1, 0, none⟩ (.string nm)).setCell ⟨w.heap.size + 1, 1, none⟩ (.slice (some ⟨g, 0, none⟩) l.length cap)).setCell ⟨w.heap.size + 1, 2, none⟩ (.int .i64 h)) g 73 cu := ((HG.out.far (p := ⟨w.heap.size + 1, 0, none⟩) (by have := HGE.out; simp; omega) _).far (p := ⟨w.heap.size + 1, 1, none⟩) (by have := HGE.out; simp; omega) _).far (p := ⟨w.heap.size + 1, 2, none⟩) (by have := HGE.out; simp; omega) _
        exact entries_of_take hgg (by rw [List.length_map]; exact HTA.out)
      · exact ((HBL.out.setCell (p := ⟨w.heap.size + 1, 0, none⟩) (by simp) _).setCell (p := ⟨w.heap.size + 1, 1, none⟩) (by simp) _).setCell (p := ⟨w.heap.size + 1, 2, none⟩) (by simp) _
end Go.Proofs.YtbckfkopdojggaaGreatDoor
