/- The reference's Aggregate. -/
import Derived.Test.YtkhhkicfeaeddaaGreatDoorFbaM
import Derived.Test.YtkhhkicfeaeddaaGreatDoorFbaA
import Derived.Deep.RegionHeld3
import Derived.Deep.DeepCutAuto
import Derived.Deep.CutBlock
import Derived.Outline
set_option linter.unusedVariables false
set_option linter.unusedSimpArgs false
namespace Go.Proofs.YtkhhkicfeaeddaaGreatDoor
open Go.RowKit

theorem PairsOwn.mono {w : World} {b b' : Nat} {TE : TypeId} {v : Value} {l : List (Int × ByteArray)} (h : PairsOwn w b TE v l) (hb : b' ≤ b) : PairsOwn w b' TE v l := by
  refine ⟨h.1, ?_⟩
  rcases h.2 with hn | ⟨g, cap, cur, e1, e2, rest⟩
  · exact .inl hn
  · exact .inr ⟨g, cap, cur, e1, Nat.le_trans hb e2, rest⟩
def aggL (xa xb : List Nt) (n : Nat) : List Nt := (List.range n).map fun i => aggM (xa.getD i (0, ByteArray.empty)) (xb.getD i (0, ByteArray.empty))
theorem aggL_len (xa xb : List Nt) (n : Nat) : (aggL xa xb n).length = n := by simp [aggL]
theorem aggL_take (xa xb : List Nt) (n i : Nat) (h : i < n) : (aggL xa xb n).take (i + 1) = (aggL xa xb n).take i ++ [aggM (xa.getD i (0, ByteArray.empty)) (xb.getD i (0, ByteArray.empty))] := by
  have hh : i < (aggL xa xb n).length := by rw [aggL_len]; exact h
  rw [List.take_succ_eq_append_getElem hh]
  simp [aggL]
/-- Two players in their boxes, all below. -/
def HeldR (g : Nat) (a b : Pl) (A B : Option Addr) (c d : Nat) (w W : World) : Prop :=
  BlkV W g 64 #[.string a.nm, .slice A a.l.length c, .int .i64 a.h] ∧ BlkV W (g + 1) 64 #[.string b.nm, .slice B b.l.length d, .int .i64 b.h] ∧ Below w.heap.size w W
theorem HeldR.below {g : Nat} {a b : Pl} {A B : Option Addr} {c d : Nat} {w W W' : World} (h : HeldR g a b A B c d w W) (hb : Below W.heap.size W W') : HeldR g a b A B c d w W' :=
  ⟨h.1.below hb h.1.lt, h.2.1.below hb h.2.1.lt, h.2.2.trans (hb.mono h.2.2.size)⟩
theorem HeldR.s6 {g : Nat} {a b : Pl} {A B : Option Addr} {c d : Nat} {w W : World} (h : HeldR g a b A B c d w W) :
    W.cell? ⟨g, 0, none⟩ = some (.string a.nm) ∧ W.cell? ⟨g, 1, none⟩ = some (.slice A a.l.length c) ∧ W.cell? ⟨g, 2, none⟩ = some (.int .i64 a.h) ∧
    W.cell? ⟨g + 1, 0, none⟩ = some (.string b.nm) ∧ W.cell? ⟨g + 1, 1, none⟩ = some (.slice B b.l.length d) ∧ W.cell? ⟨g + 1, 2, none⟩ = some (.int .i64 b.h) ∧ Hid (HeldR g a b A B c d w W) :=
  ⟨h.1.cell 0, h.1.cell 1, h.1.cell 2, h.2.1.cell 0, h.2.1.cell 1, h.2.1.cell 2, Lib.hid h⟩
theorem HeldR.low {g : Nat} {a b : Pl} {A B : Option Addr} {c d : Nat} {w W : World} (h : HeldR g a b A B c d w W) : Below w.heap.size w W := h.2.2
theorem heldR7 {C1 C2 C3 C4 C5 C6 : Prop} {g : Nat} {a b : Pl} {A B : Option Addr} {c d : Nat} {w W : World} (h : C1 ∧ C2 ∧ C3 ∧ C4 ∧ C5 ∧ C6 ∧ Hid (HeldR g a b A B c d w W)) : HeldR g a b A B c d w W := h.2.2.2.2.2.2.out

set_option maxRecDepth 100000 in
set_option maxHeartbeats 8000000 in
theorem refAggregate_any (H A B : Option Addr) (ch c d : Nat) (hs : List (Int × Int)) (a b : Pl) (xa xb : List Nt) (w : World)
    (hna : ∀ W, Below w.heap.size w W → Calls Tryz.prog 57 #[.slice H hs.length ch, .agg #[.string a.nm, .slice A a.l.length c, .int .i64 a.h]] W fun e w' => ∃ A' c', e = .returned (.slice A' hs.length c') ∧ EntriesR w' A' xa ∧ Below W.heap.size W w')
    (hnb : ∀ W, Below w.heap.size w W → Calls Tryz.prog 57 #[.slice H hs.length ch, .agg #[.string b.nm, .slice B b.l.length d, .int .i64 b.h]] W fun e w' => ∃ A' c', e = .returned (.slice A' hs.length c') ∧ EntriesR w' A' xb ∧ Below W.heap.size W w')
    (la : xa.length = hs.length) (lb : xb.length = hs.length) (fa : ∀ e ∈ xa, fineN e) (fb : ∀ e ∈ xb, fineN e) (ba : ∀ e ∈ xa, -1000000 ≤ e.1 ∧ e.1 ≤ 1000000) (bb : ∀ e ∈ xb, -1000000 ≤ e.1 ∧ e.1 ≤ 1000000) (hlh : hs.length ≤ 1000) :
    Calls Tryz.prog 28 #[.slice H hs.length ch, .agg #[.string a.nm, .slice A a.l.length c, .int .i64 a.h], .agg #[.string b.nm, .slice B b.l.length d, .int .i64 b.h]] w fun e w' => ∃ v, e = .returned v ∧ PairsOwn w' w.heap.size 91 v (aggL xa xb hs.length) ∧ Below w.heap.size w w' := by
  have HNA := Lib.hid hna
  have HNB := Lib.hid hnb
  have HLA := Lib.hid la
  have HLB := Lib.hid lb
  have HAT : Hid (∀ i, i < hs.length → (fineN (xa.getD i (0, ByteArray.empty)) ∧ fineN (xb.getD i (0, ByteArray.empty))) ∧ ((-1000000 ≤ (xa.getD i (0, ByteArray.empty)).1 ∧ (xa.getD i (0, ByteArray.empty)).1 ≤ 1000000) ∧ (-1000000 ≤ (xb.getD i (0, ByteArray.empty)).1 ∧ (xb.getD i (0, ByteArray.empty)).1 ≤ 1000000))) := Lib.hid (fun i hi => by
    have ma : xa.getD i (0, ByteArray.empty) ∈ xa := by simp [List.getD, List.getElem?_eq_getElem (show i < xa.length by omega)]
    have mb : xb.getD i (0, ByteArray.empty) ∈ xb := by simp [List.getD, List.getElem?_eq_getElem (show i < xb.length by omega)]
    exact ⟨⟨fa _ ma, fb _ mb⟩, ba _ ma, bb _ mb⟩)
  have HTK := Lib.hid (fun i hi => aggL_take xa xb hs.length i hi)
  have HJL := Lib.hid (aggL_len xa xb hs.length)
  generalize aggL xa xb hs.length = res at HTK HJL ⊢
  clear hna hnb la lb fa fb ba bb
  go_enter Tryz.func28, Tryz.ntmps28
  go_wp2
  generalize hW0 : (w.alloc (.cells #[.string a.nm, .slice A a.l.length c, .int .i64 a.h] 64)).alloc (.cells #[.string b.nm, .slice B b.l.length d, .int .i64 b.h] 64) = W0
  obtain ⟨a1, a2, a3, _⟩ := two_allocs w _ _ _ _ hW0
  have HX0 : Hid (HeldR w.heap.size a b A B c d w W0.drew) := Lib.hid ⟨a1, a2, a3.drew⟩
  clear hW0 a1 a2 a3
  go_region_held3 (fun W => W.cell? ⟨w.heap.size, 0, none⟩ = some (.string a.nm) ∧ W.cell? ⟨w.heap.size, 1, none⟩ = some (.slice A a.l.length c) ∧ W.cell? ⟨w.heap.size, 2, none⟩ = some (.int .i64 a.h) ∧
    W.cell? ⟨w.heap.size + 1, 0, none⟩ = some (.string b.nm) ∧ W.cell? ⟨w.heap.size + 1, 1, none⟩ = some (.slice B b.l.length d) ∧ W.cell? ⟨w.heap.size + 1, 2, none⟩ = some (.int .i64 b.h) ∧ Hid (HeldR w.heap.size a b A B c d w W))
    ((first | with_reducible assumption | exact (HeldR.below (heldR7 (by with_reducible assumption)) hb3.out).s6 | exact (HeldR.below (heldR7 (by with_reducible assumption)) hb2.out).s6 | exact HX0.out.s6))
    (first
      | (go_at_call 57; have _q := HEA.out; (with_reducible refine (HNB.out _ (heldR7 (by with_reducible assumption)).low).mono ?_); clear _q; rintro e w3 ⟨B', d', rfl, heb, hb3⟩; have HEB := Lib.hid heb; have HEA2 := Lib.hid (HEA.out.keep hb3); have hb3 := Lib.hid hb3; clear heb)
      | (go_at_call 57; (with_reducible refine (HNA.out _ (heldR7 (by with_reducible assumption)).low).mono ?_); rintro e w2 ⟨A', c', rfl, hea, hb2⟩; have HEA := Lib.hid hea; have hb2 := Lib.hid hb2; clear hea))
  have HB3 := Lib.hid ((heldR7 (by with_reducible assumption) : HeldR w.heap.size a b A B c d w w3).low)
  go_wp2
  go_loopw [9, 10] (fun v iv w' => ∃ i : Nat, i ≤ hs.length ∧ iv = .int .i64 i ∧ PairsOwn w' w3.heap.size 91 v (res.take i) ∧ Below w3.heap.size w3 w') (fun _ iv _ => hs.length - (intOf iv).toNat)
  case atStart => exact ⟨0, Nat.zero_le _, rfl, PairsOwn.nil _ _ _, Below.refl _ _⟩
  case round =>
    obtain ⟨i, hi, rfl, hown, hb⟩ := hrel
    have HOWN := Lib.hid hown
    have HB := Lib.hid hb
    have HBW := Lib.hid (HB3.out.trans (hb.mono HB3.out.size))
    clear hown hb
    have hi0 : (0 : Int) ≤ (i : Int) := Int.natCast_nonneg _
    by_cases hlt : i < hs.length
    · have hi1 : (i : Int) < (hs.length : Int) := by omega
      obtain ⟨⟨ka, kb⟩, ra, rb⟩ := HAT.out i hlt
      have HTI := Lib.hid (HTK.out i hlt)
      have HLEN : Hid ((res.take i).length ≤ 1000) := Lib.hid (by have := List.length_take_le i res; have := HJL.out; omega)
      obtain ⟨p, rfl, x0, x1, _⟩ := (HEA2.out.keep HB.out) i (by rw [HLA.out]; exact hlt)
      obtain ⟨q, rfl, y0, y1, _⟩ := (HEB.out.keep HB.out) i (by rw [HLB.out]; exact hlt)
      generalize xa.getD i (0, ByteArray.empty) = ea at x0 x1 ka ra HTI
      generalize xb.getD i (0, ByteArray.empty) = eb at y0 y1 kb rb HTI
      generalize res.take i = tk at HOWN HTI HLEN
      obtain ⟨s, m⟩ := ea
      obtain ⟨t, n⟩ := eb
      simp only at x0 x1 y0 y1 ra rb
      have hw : IntKind.i64.wrap (s + t) = s + t := IntWalk.i64_in _ (by omega)
      have HKA := Lib.hid (fine_kinds ka)
      have HKB := Lib.hid (fine_kinds kb)
      have HV : Hid (aggM (s, m) (t, n) = if (m.toList == [45] || n.toList == [45]) = true then (0, dashB) else if (m.toList == [120] || n.toList == [120]) = true then (0, crossB) else (s + t, ⟨#[]⟩)) := Lib.hid rfl
      clear ka kb ra rb
      generalize aggM (s, m) (t, n) = j at HV HTI
      go_wp2
      go_region
      obtain ⟨W1, hW1⟩ : ∃ W1, (wr.alloc (.cells #[.int .i64 (s + t), .string ⟨#[]⟩] 91)).drew = W1 := ⟨_, rfl⟩
      rw [hW1]
      have hbk : BlkV W1 wr.heap.size 91 #[.int .i64 (s + t), .string ⟨#[]⟩] := by subst hW1; exact (BlkV.new wr _ _).drew
      have hb1 : Below wr.heap.size wr W1 := by subst hW1; exact ((Below.refl _ _).alloc (Nat.le_refl _) _).drew
      have x1' : W1.cell? ⟨(p.add (i * 2)).block, (p.add (i * 2)).off + 1, none⟩ = some (.string m) := (hb1.cell (p := ⟨(p.add (i * 2)).block, (p.add (i * 2)).off + 1, none⟩) (World.block_lt_of_cell? _ _ x1)).trans x1
      have y1' : W1.cell? ⟨(q.add (i * 2)).block, (q.add (i * 2)).off + 1, none⟩ = some (.string n) := (hb1.cell (p := ⟨(q.add (i * 2)).block, (q.add (i * 2)).off + 1, none⟩) (World.block_lt_of_cell? _ _ y1)).trans y1
      have gf0 := hbk.frozen 0
      have gf1 := hbk.frozen 1
      have z0 := hbk.cell 0
      have z1 := hbk.cell 1
      simp only [List.getElem?_toArray, List.getElem?_cons_zero, List.getElem?_cons_succ] at z0 z1
      have HBK := Lib.hid hbk
      have HB1 := Lib.hid hb1
      have HAPP := Lib.hid (fun (W2 : World) (hb2 : Below wr.heap.size wr W2) (j : Nt) => append_net w3.heap.size j W2 u9 tk (by have := HB.out.size; have := hb2.size; omega) HLEN.out (HOWN.out.below hb2))
      have HWR := Lib.hid (fun (W2 : World) (hb2 : Below wr.heap.size wr W2) => (show Below w3.heap.size w3 W2 from HB.out.trans (hb2.mono HB.out.size)))
      clear hW1 hbk hb1 x0 x1 y0 y1
      rcases HKA.out with ⟨_, a1, a2, a3⟩ | ⟨_, a1, a2, a3, _⟩ | ⟨_, a1, a2, a3, _⟩ <;> rcases HKB.out with ⟨_, b1, b2, b3⟩ | ⟨_, b1, b2, b3, _⟩ | ⟨_, b1, b2, b3, _⟩
      all_goals
        try simp only at a1 a2 a3 b1 b2 b3
        rw [a2, a3, b2, b3] at HV
        clear HKA HKB
      ·
        have hb2 := HB1.out
        have k0 := z0
        have k1 := z1
        obtain ⟨v', w4, hrun, ho, hb4⟩ := HAPP.out W1 hb2 (s + t, ⟨#[]⟩)
        simp only at hrun
        have HRUN := Lib.hid hrun
        have HO := Lib.hid ho
        have HB4 := Lib.hid ((HWR.out _ hb2).trans hb4)
        have HJ : Hid (j = (s + t, ⟨#[]⟩)) := Lib.hid (by rw [HV.out]; rfl)
        clear hrun ho hb4 hb2
        go_wp2_with (at_builtin; refine wpList_append_go rfl _ _ 27 rfl _ _ v' w4 rfl rfl HRUN.out ?_)
        go_roundw
        case rel => exact ⟨i + 1, by omega, by go_num, by rw [HTI.out, HJ.out]; exact HO.out, HB4.out⟩
        case measure => simp [intOf]; omega
      · have HJ : Hid (j = (0, ⟨#[120]⟩)) := Lib.hid (by rw [HV.out]; rfl)
        go_upto_region 11 with fail
        obtain ⟨W2, hW2⟩ : ∃ W2, ((W1.setCell ⟨wr.heap.size, 0, none⟩ (.int .i64 0)).setCell ⟨wr.heap.size, 1, none⟩ (.string ⟨#[120]⟩)) = W2 := ⟨_, rfl⟩
        rw [hW2]
        have hb2 : Below wr.heap.size wr W2 := by subst hW2; exact (HB1.out.setCell (p := ⟨wr.heap.size, 0, none⟩) (Nat.le_refl _) _).setCell (p := ⟨wr.heap.size, 1, none⟩) (Nat.le_refl _) _
        have hk2 : BlkV W2 wr.heap.size 91 #[.int .i64 0, .string ⟨#[120]⟩] := by subst hW2; exact (HBK.out.set 0 (.int .i64 0)).set 1 (.string ⟨#[120]⟩)
        have k0 := hk2.cell 0
        have k1 := hk2.cell 1
        simp only [List.getElem?_toArray, List.getElem?_cons_zero, List.getElem?_cons_succ] at k0 k1
        clear hk2 hW2 z0 z1 x1' y1' gf0 gf1
        obtain ⟨v', w4, hrun, ho, hb4⟩ := HAPP.out W2 hb2 (0, ⟨#[120]⟩)
        simp only at hrun
        have HRUN := Lib.hid hrun
        have HO := Lib.hid ho
        have HB4 := Lib.hid ((HWR.out _ hb2).trans hb4)
        clear hrun ho hb4 hb2
        go_wp2_with (at_builtin; refine wpList_append_go rfl _ _ 27 rfl _ _ v' w4 rfl rfl HRUN.out ?_)
        go_roundw
        case rel => exact ⟨i + 1, by omega, by go_num, by rw [HTI.out, HJ.out]; exact HO.out, HB4.out⟩
        case measure => simp [intOf]; omega
      · have HJ : Hid (j = (0, ⟨#[45]⟩)) := Lib.hid (by rw [HV.out]; rfl)
        go_upto_region 11 with fail
        obtain ⟨W2, hW2⟩ : ∃ W2, ((W1.setCell ⟨wr.heap.size, 0, none⟩ (.int .i64 0)).setCell ⟨wr.heap.size, 1, none⟩ (.string ⟨#[45]⟩)) = W2 := ⟨_, rfl⟩
        rw [hW2]
        have hb2 : Below wr.heap.size wr W2 := by subst hW2; exact (HB1.out.setCell (p := ⟨wr.heap.size, 0, none⟩) (Nat.le_refl _) _).setCell (p := ⟨wr.heap.size, 1, none⟩) (Nat.le_refl _) _
        have hk2 : BlkV W2 wr.heap.size 91 #[.int .i64 0, .string ⟨#[45]⟩] := by subst hW2; exact (HBK.out.set 0 (.int .i64 0)).set 1 (.string ⟨#[45]⟩)
        have k0 := hk2.cell 0
        have k1 := hk2.cell 1
        simp only [List.getElem?_toArray, List.getElem?_cons_zero, List.getElem?_cons_succ] at k0 k1
        clear hk2 hW2 z0 z1 x1' y1' gf0 gf1
        obtain ⟨v', w4, hrun, ho, hb4⟩ := HAPP.out W2 hb2 (0, ⟨#[45]⟩)
        simp only at hrun
        have HRUN := Lib.hid hrun
        have HO := Lib.hid ho
        have HB4 := Lib.hid ((HWR.out _ hb2).trans hb4)
        clear hrun ho hb4 hb2
        go_wp2_with (at_builtin; refine wpList_append_go rfl _ _ 27 rfl _ _ v' w4 rfl rfl HRUN.out ?_)
        go_roundw
        case rel => exact ⟨i + 1, by omega, by go_num, by rw [HTI.out, HJ.out]; exact HO.out, HB4.out⟩
        case measure => simp [intOf]; omega
      · have HJ : Hid (j = (0, ⟨#[120]⟩)) := Lib.hid (by rw [HV.out]; rfl)
        go_upto_region 11 with fail
        obtain ⟨W2, hW2⟩ : ∃ W2, ((W1.setCell ⟨wr.heap.size, 0, none⟩ (.int .i64 0)).setCell ⟨wr.heap.size, 1, none⟩ (.string ⟨#[120]⟩)) = W2 := ⟨_, rfl⟩
        rw [hW2]
        have hb2 : Below wr.heap.size wr W2 := by subst hW2; exact (HB1.out.setCell (p := ⟨wr.heap.size, 0, none⟩) (Nat.le_refl _) _).setCell (p := ⟨wr.heap.size, 1, none⟩) (Nat.le_refl _) _
        have hk2 : BlkV W2 wr.heap.size 91 #[.int .i64 0, .string ⟨#[120]⟩] := by subst hW2; exact (HBK.out.set 0 (.int .i64 0)).set 1 (.string ⟨#[120]⟩)
        have k0 := hk2.cell 0
        have k1 := hk2.cell 1
        simp only [List.getElem?_toArray, List.getElem?_cons_zero, List.getElem?_cons_succ] at k0 k1
        clear hk2 hW2 z0 z1 x1' y1' gf0 gf1
        obtain ⟨v', w4, hrun, ho, hb4⟩ := HAPP.out W2 hb2 (0, ⟨#[120]⟩)
        simp only at hrun
        have HRUN := Lib.hid hrun
        have HO := Lib.hid ho
        have HB4 := Lib.hid ((HWR.out _ hb2).trans hb4)
        clear hrun ho hb4 hb2
        go_wp2_with (at_builtin; refine wpList_append_go rfl _ _ 27 rfl _ _ v' w4 rfl rfl HRUN.out ?_)
        go_roundw
        case rel => exact ⟨i + 1, by omega, by go_num, by rw [HTI.out, HJ.out]; exact HO.out, HB4.out⟩
        case measure => simp [intOf]; omega
      · have HJ : Hid (j = (0, ⟨#[120]⟩)) := Lib.hid (by rw [HV.out]; rfl)
        go_upto_region 11 with fail
        obtain ⟨W2, hW2⟩ : ∃ W2, ((W1.setCell ⟨wr.heap.size, 0, none⟩ (.int .i64 0)).setCell ⟨wr.heap.size, 1, none⟩ (.string ⟨#[120]⟩)) = W2 := ⟨_, rfl⟩
        rw [hW2]
        have hb2 : Below wr.heap.size wr W2 := by subst hW2; exact (HB1.out.setCell (p := ⟨wr.heap.size, 0, none⟩) (Nat.le_refl _) _).setCell (p := ⟨wr.heap.size, 1, none⟩) (Nat.le_refl _) _
        have hk2 : BlkV W2 wr.heap.size 91 #[.int .i64 0, .string ⟨#[120]⟩] := by subst hW2; exact (HBK.out.set 0 (.int .i64 0)).set 1 (.string ⟨#[120]⟩)
        have k0 := hk2.cell 0
        have k1 := hk2.cell 1
        simp only [List.getElem?_toArray, List.getElem?_cons_zero, List.getElem?_cons_succ] at k0 k1
        clear hk2 hW2 z0 z1 x1' y1' gf0 gf1
        obtain ⟨v', w4, hrun, ho, hb4⟩ := HAPP.out W2 hb2 (0, ⟨#[120]⟩)
        simp only at hrun
        have HRUN := Lib.hid hrun
        have HO := Lib.hid ho
        have HB4 := Lib.hid ((HWR.out _ hb2).trans hb4)
        clear hrun ho hb4 hb2
        go_wp2_with (at_builtin; refine wpList_append_go rfl _ _ 27 rfl _ _ v' w4 rfl rfl HRUN.out ?_)
        go_roundw
        case rel => exact ⟨i + 1, by omega, by go_num, by rw [HTI.out, HJ.out]; exact HO.out, HB4.out⟩
        case measure => simp [intOf]; omega
      · have HJ : Hid (j = (0, ⟨#[45]⟩)) := Lib.hid (by rw [HV.out]; rfl)
        go_upto_region 11 with fail
        obtain ⟨W2, hW2⟩ : ∃ W2, ((W1.setCell ⟨wr.heap.size, 0, none⟩ (.int .i64 0)).setCell ⟨wr.heap.size, 1, none⟩ (.string ⟨#[45]⟩)) = W2 := ⟨_, rfl⟩
        rw [hW2]
        have hb2 : Below wr.heap.size wr W2 := by subst hW2; exact (HB1.out.setCell (p := ⟨wr.heap.size, 0, none⟩) (Nat.le_refl _) _).setCell (p := ⟨wr.heap.size, 1, none⟩) (Nat.le_refl _) _
        have hk2 : BlkV W2 wr.heap.size 91 #[.int .i64 0, .string ⟨#[45]⟩] := by subst hW2; exact (HBK.out.set 0 (.int .i64 0)).set 1 (.string ⟨#[45]⟩)
        have k0 := hk2.cell 0
        have k1 := hk2.cell 1
        simp only [List.getElem?_toArray, List.getElem?_cons_zero, List.getElem?_cons_succ] at k0 k1
        clear hk2 hW2 z0 z1 x1' y1' gf0 gf1
        obtain ⟨v', w4, hrun, ho, hb4⟩ := HAPP.out W2 hb2 (0, ⟨#[45]⟩)
        simp only at hrun
        have HRUN := Lib.hid hrun
        have HO := Lib.hid ho
        have HB4 := Lib.hid ((HWR.out _ hb2).trans hb4)
        clear hrun ho hb4 hb2
        go_wp2_with (at_builtin; refine wpList_append_go rfl _ _ 27 rfl _ _ v' w4 rfl rfl HRUN.out ?_)
        go_roundw
        case rel => exact ⟨i + 1, by omega, by go_num, by rw [HTI.out, HJ.out]; exact HO.out, HB4.out⟩
        case measure => simp [intOf]; omega
      · have HJ : Hid (j = (0, ⟨#[45]⟩)) := Lib.hid (by rw [HV.out]; rfl)
        go_upto_region 11 with fail
        obtain ⟨W2, hW2⟩ : ∃ W2, ((W1.setCell ⟨wr.heap.size, 0, none⟩ (.int .i64 0)).setCell ⟨wr.heap.size, 1, none⟩ (.string ⟨#[45]⟩)) = W2 := ⟨_, rfl⟩
        rw [hW2]
        have hb2 : Below wr.heap.size wr W2 := by subst hW2; exact (HB1.out.setCell (p := ⟨wr.heap.size, 0, none⟩) (Nat.le_refl _) _).setCell (p := ⟨wr.heap.size, 1, none⟩) (Nat.le_refl _) _
        have hk2 : BlkV W2 wr.heap.size 91 #[.int .i64 0, .string ⟨#[45]⟩] := by subst hW2; exact (HBK.out.set 0 (.int .i64 0)).set 1 (.string ⟨#[45]⟩)
        have k0 := hk2.cell 0
        have k1 := hk2.cell 1
        simp only [List.getElem?_toArray, List.getElem?_cons_zero, List.getElem?_cons_succ] at k0 k1
        clear hk2 hW2 z0 z1 x1' y1' gf0 gf1
        obtain ⟨v', w4, hrun, ho, hb4⟩ := HAPP.out W2 hb2 (0, ⟨#[45]⟩)
        simp only at hrun
        have HRUN := Lib.hid hrun
        have HO := Lib.hid ho
        have HB4 := Lib.hid ((HWR.out _ hb2).trans hb4)
        clear hrun ho hb4 hb2
        go_wp2_with (at_builtin; refine wpList_append_go rfl _ _ 27 rfl _ _ v' w4 rfl rfl HRUN.out ?_)
        go_roundw
        case rel => exact ⟨i + 1, by omega, by go_num, by rw [HTI.out, HJ.out]; exact HO.out, HB4.out⟩
        case measure => simp [intOf]; omega
      · have HJ : Hid (j = (0, ⟨#[45]⟩)) := Lib.hid (by rw [HV.out]; rfl)
        go_upto_region 11 with fail
        obtain ⟨W2, hW2⟩ : ∃ W2, ((W1.setCell ⟨wr.heap.size, 0, none⟩ (.int .i64 0)).setCell ⟨wr.heap.size, 1, none⟩ (.string ⟨#[45]⟩)) = W2 := ⟨_, rfl⟩
        rw [hW2]
        have hb2 : Below wr.heap.size wr W2 := by subst hW2; exact (HB1.out.setCell (p := ⟨wr.heap.size, 0, none⟩) (Nat.le_refl _) _).setCell (p := ⟨wr.heap.size, 1, none⟩) (Nat.le_refl _) _
        have hk2 : BlkV W2 wr.heap.size 91 #[.int .i64 0, .string ⟨#[45]⟩] := by subst hW2; exact (HBK.out.set 0 (.int .i64 0)).set 1 (.string ⟨#[45]⟩)
        have k0 := hk2.cell 0
        have k1 := hk2.cell 1
        simp only [List.getElem?_toArray, List.getElem?_cons_zero, List.getElem?_cons_succ] at k0 k1
        clear hk2 hW2 z0 z1 x1' y1' gf0 gf1
        obtain ⟨v', w4, hrun, ho, hb4⟩ := HAPP.out W2 hb2 (0, ⟨#[45]⟩)
        simp only at hrun
        have HRUN := Lib.hid hrun
        have HO := Lib.hid ho
        have HB4 := Lib.hid ((HWR.out _ hb2).trans hb4)
        clear hrun ho hb4 hb2
        go_wp2_with (at_builtin; refine wpList_append_go rfl _ _ 27 rfl _ _ v' w4 rfl rfl HRUN.out ?_)
        go_roundw
        case rel => exact ⟨i + 1, by omega, by go_num, by rw [HTI.out, HJ.out]; exact HO.out, HB4.out⟩
        case measure => simp [intOf]; omega
      · have HJ : Hid (j = (0, ⟨#[45]⟩)) := Lib.hid (by rw [HV.out]; rfl)
        go_upto_region 11 with fail
        obtain ⟨W2, hW2⟩ : ∃ W2, ((W1.setCell ⟨wr.heap.size, 0, none⟩ (.int .i64 0)).setCell ⟨wr.heap.size, 1, none⟩ (.string ⟨#[45]⟩)) = W2 := ⟨_, rfl⟩
        rw [hW2]
        have hb2 : Below wr.heap.size wr W2 := by subst hW2; exact (HB1.out.setCell (p := ⟨wr.heap.size, 0, none⟩) (Nat.le_refl _) _).setCell (p := ⟨wr.heap.size, 1, none⟩) (Nat.le_refl _) _
        have hk2 : BlkV W2 wr.heap.size 91 #[.int .i64 0, .string ⟨#[45]⟩] := by subst hW2; exact (HBK.out.set 0 (.int .i64 0)).set 1 (.string ⟨#[45]⟩)
        have k0 := hk2.cell 0
        have k1 := hk2.cell 1
        simp only [List.getElem?_toArray, List.getElem?_cons_zero, List.getElem?_cons_succ] at k0 k1
        clear hk2 hW2 z0 z1 x1' y1' gf0 gf1
        obtain ⟨v', w4, hrun, ho, hb4⟩ := HAPP.out W2 hb2 (0, ⟨#[45]⟩)
        simp only at hrun
        have HRUN := Lib.hid hrun
        have HO := Lib.hid ho
        have HB4 := Lib.hid ((HWR.out _ hb2).trans hb4)
        clear hrun ho hb4 hb2
        go_wp2_with (at_builtin; refine wpList_append_go rfl _ _ 27 rfl _ _ v' w4 rfl rfl HRUN.out ?_)
        go_roundw
        case rel => exact ⟨i + 1, by omega, by go_num, by rw [HTI.out, HJ.out]; exact HO.out, HB4.out⟩
        case measure => simp [intOf]; omega
    · have HF : Hid (res.take i = res) := Lib.hid (List.take_of_length_le (by rw [HJL.out]; omega))
      go_wp2
      go_ret
      exact ⟨_, rfl, by have := HOWN.out; rw [HF.out] at this; exact this.mono HB3.out.size, HBW.out⟩
end Go.Proofs.YtkhhkicfeaeddaaGreatDoor
