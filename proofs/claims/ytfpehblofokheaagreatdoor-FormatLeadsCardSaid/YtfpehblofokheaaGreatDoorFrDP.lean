/- Fourball and Aggregate, for players without an error. -/
import Derived.Test.YtfpehblofokheaaGreatDoorFrDN
import Derived.Test.YtfpehblofokheaaGreatDoorMgF
import Derived.Outline
set_option linter.unusedVariables false
set_option linter.unusedSimpArgs false
namespace Go.Proofs.YtfpehblofokheaaGreatDoor
open Go.RowKit

/-- Net strokes of holes beside no error. -/
def HolesOut (l : List (Int × ByteArray)) (w : World) (e : Ending) (w' : World) : Prop :=
  ∃ g, e = .returned (.tuple #[.slice (some ⟨g, 0, none⟩) l.length l.length, .int .i64 0]) ∧ NetBlk w' g l ∧ w.heap.size ≤ g ∧ Below w.heap.size w w'

set_option maxRecDepth 100000 in
set_option maxHeartbeats 1000000 in
theorem fmFourball_yes (A H : Option Addr) (c ch : Nat) (hs : List (Int × Int)) (ps : List Pl) (w : World) (hr : HolesR w H hs) (hbl : ∀ a, H = some a → a.block < w.heap.size) (hp : PlayersR w A ps) (hE : joinedE 4 hs ps = 0) :
    Calls Tryz.prog 30 #[.slice H hs.length ch, .slice A ps.length c] w (HolesOut (joinedL minM hs ps) w) := by
  have HJ := Lib.hid (fun W (hb : Below w.heap.size w W) => joinedB_yes A H c ch hs ps W (hr.keep hbl hb) (fun a ha => Nat.lt_of_lt_of_le (hbl a ha) hb.size) (hp.keep hb) hE)
  have HJL := Lib.hid (joinedL_len minM hs ps)
  clear hr hbl hp hE
  generalize joinedL minM hs ps = nl at HJ HJL ⊢
  go_enter Tryz.func30, Tryz.ntmps30
  go_wp2_with fail
  refine (sides_any _).mono ?_
  rintro e w1 ⟨rfl, hW1⟩
  have hlk := look_ball w1 w.heap.size (by subst hW1; exact heap_alloc_new w _)
  simp only [sBall, vBall, fnV] at hlk
  have hb1 : Below w.heap.size w w1 := by subst hW1; exact (Below.refl _ _).alloc (Nat.le_refl _) _
  have HB1 := Lib.hid hb1
  clear hW1 hb1
  go_wp2_with fail
  refine (HJ.out w1 HB1.out).mono ?_
  rintro e w2 ⟨g, rfl, hn, hg, hb2⟩
  have HN := Lib.hid hn
  have HG : Hid (w.heap.size ≤ g) := Lib.hid (Nat.le_trans HB1.out.size hg)
  have HB2 := Lib.hid (HB1.out.trans (hb2.mono HB1.out.size))
  clear hn hg hb2
  go_wp2
  go_ret2
  exact ⟨g, by rw [HJL.out]; rfl, HN.out, HG.out, HB2.out⟩

theorem keep6 {w W w1 : World} {B : Nat} {p1 p2 p3 p4 p5 p6 : Addr} {v1 v2 v3 v4 v5 v6 : Value} (hb : Below W.heap.size W w1) (h : W.cell? p1 = some v1 ∧ W.cell? p2 = some v2 ∧ W.cell? p3 = some v3 ∧ W.cell? p4 = some v4 ∧ W.cell? p5 = some v5 ∧ W.cell? p6 = some v6 ∧ Hid (Below B w W)) (hB : B ≤ w.heap.size) :
    w1.cell? p1 = some v1 ∧ w1.cell? p2 = some v2 ∧ w1.cell? p3 = some v3 ∧ w1.cell? p4 = some v4 ∧ w1.cell? p5 = some v5 ∧ w1.cell? p6 = some v6 ∧ Hid (Below B w w1) :=
  ⟨(hb.cell (World.block_lt_of_cell? _ _ h.1)).trans h.1, (hb.cell (World.block_lt_of_cell? _ _ h.2.1)).trans h.2.1, (hb.cell (World.block_lt_of_cell? _ _ h.2.2.1)).trans h.2.2.1, (hb.cell (World.block_lt_of_cell? _ _ h.2.2.2.1)).trans h.2.2.2.1, (hb.cell (World.block_lt_of_cell? _ _ h.2.2.2.2.1)).trans h.2.2.2.2.1, (hb.cell (World.block_lt_of_cell? _ _ h.2.2.2.2.2.1)).trans h.2.2.2.2.2.1, h.2.2.2.2.2.2.out.trans (hb.mono (Nat.le_trans hB h.2.2.2.2.2.2.out.size))⟩
theorem keep6_ad {w W : World} {B : Nat} {p1 p2 p3 p4 p5 p6 : Addr} {v1 v2 v3 v4 v5 v6 : Value} (o : Obj) (h : W.drew.cell? p1 = some v1 ∧ W.drew.cell? p2 = some v2 ∧ W.drew.cell? p3 = some v3 ∧ W.drew.cell? p4 = some v4 ∧ W.drew.cell? p5 = some v5 ∧ W.drew.cell? p6 = some v6 ∧ Hid (Below B w W.drew)) (hB : B ≤ w.heap.size) :
    (W.alloc o).drew.cell? p1 = some v1 ∧ (W.alloc o).drew.cell? p2 = some v2 ∧ (W.alloc o).drew.cell? p3 = some v3 ∧ (W.alloc o).drew.cell? p4 = some v4 ∧ (W.alloc o).drew.cell? p5 = some v5 ∧ (W.alloc o).drew.cell? p6 = some v6 ∧ Hid (Below B w (W.alloc o).drew) :=
  keep6 (W := W.drew) (w1 := W.drew.alloc o) ((Below.refl _ _).alloc (Nat.le_refl _) o) h hB

set_option maxRecDepth 100000 in
set_option maxHeartbeats 8000000 in
theorem fmAggregate_yes (H A B : Option Addr) (ch c d : Nat) (hs : List (Int × Int)) (a b : Pl) (w : World) (hr : HolesR w H hs) (hbl : ∀ x, H = some x → x.block < w.heap.size)
    (ha : EntriesR w A a.l) (hb : EntriesR w B b.l) (hE : joinedE 2 hs [a, b] = 0) :
    Calls Tryz.prog 34 #[.slice H hs.length ch, plV a A c, plV b B d] w (HolesOut (joinedL totalM hs [a, b]) w) := by
  have HJ : Hid (∀ W g, Below w.heap.size w W → BlkV W g 55 #[.string a.nm, .slice A a.l.length c, .int .i64 a.h, .string b.nm, .slice B b.l.length d, .int .i64 b.h] →
      Calls Tryz.prog 69 #[.agg #[.int .i64 2, .nilFunc, .func (.func 123) #[] #[]], .slice H hs.length ch, .slice (some ⟨g, 0, none⟩) 2 2] W (HolesOut (joinedL totalM hs [a, b]) W)) := Lib.hid (fun W g hbw hblk => by
    have := joinedT_yes (some ⟨g, 0, none⟩) H 2 ch hs [a, b] W (hr.keep hbl hbw) (fun a ha => Nat.lt_of_lt_of_le (hbl a ha) hbw.size) (PlayersR.two hblk (ha.keep hbw) (hb.keep hbw)) hE
    refine this.mono ?_
    rintro e w' ⟨g, rfl, h1, h2, h3⟩
    exact ⟨g, by rw [joinedL_len], h1, h2, h3⟩)
  clear hr hbl ha hb hE
  obtain ⟨an, al, ah⟩ := a
  obtain ⟨bn, bl, bh⟩ := b
  unfold plV
  simp only at HJ ⊢
  generalize joinedL totalM hs [⟨an, al, ah⟩, ⟨bn, bl, bh⟩] = nl at HJ ⊢
  go_enter Tryz.func34, Tryz.ntmps34
  go_wp2
  generalize hW0 : (w.alloc (.cells #[.string an, .slice A al.length c, .int .i64 ah] 55)).alloc (.cells #[.string bn, .slice B bl.length d, .int .i64 bh] 55) = W0
  obtain ⟨a1, a2, a3, a4⟩ := two_allocs w _ _ _ _ hW0
  have HB0 := Lib.hid a3
  have HA1 := Lib.hid a1
  have HA2 := Lib.hid a2
  clear hW0 a3 a4
  have p0 := a1.cell 0
  have p1 := a1.cell 1
  have p2 := a1.cell 2
  have q0 := a2.cell 0
  have q1 := a2.cell 1
  have q2 := a2.cell 2
  simp only [List.getElem?_toArray, List.getElem?_cons_zero, List.getElem?_cons_succ] at p0 p1 p2 q0 q1 q2
  clear a1 a2
  have HS0 : Hid (W0.drew.cell? ⟨w.heap.size, 0, none⟩ = some (.string an) ∧ W0.drew.cell? ⟨w.heap.size, 1, none⟩ = some (.slice A al.length c) ∧ W0.drew.cell? ⟨w.heap.size, 2, none⟩ = some (.int .i64 ah) ∧ W0.drew.cell? ⟨w.heap.size + 1, 0, none⟩ = some (.string bn) ∧ W0.drew.cell? ⟨w.heap.size + 1, 1, none⟩ = some (.slice B bl.length d) ∧ W0.drew.cell? ⟨w.heap.size + 1, 2, none⟩ = some (.int .i64 bh) ∧ Hid (Below W0.heap.size W0 W0.drew)) := Lib.hid ⟨p0, p1, p2, q0, q1, q2, Lib.hid ((Below.refl _ _).drew)⟩
  clear p0 p1 p2 q0 q1 q2
  have l1 : (Instr.lookup 132 (.map (some W0.heap.size)) (.string ⟨#[97, 103, 103, 114, 101, 103, 97, 116, 101]⟩) false).run Tryz.prog (W0.alloc sidesObj).drew = .ok (.agg #[.int .i64 2, .nilFunc, .func (.func 123) #[] #[]]) (W0.alloc sidesObj).drew := look_agg (W0.alloc sidesObj).drew W0.heap.size (heap_alloc_new W0 _)
  have l2 : (Instr.lookup 132 (.map (some W0.heap.size)) (.string ⟨#[97, 103, 103, 114, 101, 103, 97, 116, 101]⟩) false).run Tryz.prog ((W0.alloc sidesObj).alloc (.cells #[.string an, .slice A al.length c, .int .i64 ah, .string bn, .slice B bl.length d, .int .i64 bh] 55)).drew = .ok (.agg #[.int .i64 2, .nilFunc, .func (.func 123) #[] #[]]) ((W0.alloc sidesObj).alloc (.cells #[.string an, .slice A al.length c, .int .i64 ah, .string bn, .slice B bl.length d, .int .i64 bh] 55)).drew := look_agg ((W0.alloc sidesObj).alloc (.cells #[.string an, .slice A al.length c, .int .i64 ah, .string bn, .slice B bl.length d, .int .i64 bh] 55)).drew W0.heap.size ((Below.heap_alloc (W0.alloc sidesObj) _ W0.heap.size (by simp)).trans (heap_alloc_new W0 _))
  have l3 : (Instr.lookup 132 (.map (some (W0.heap.size + 1))) (.string ⟨#[97, 103, 103, 114, 101, 103, 97, 116, 101]⟩) false).run Tryz.prog ((W0.alloc (.cells #[.string an, .slice A al.length c, .int .i64 ah, .string bn, .slice B bl.length d, .int .i64 bh] 55)).alloc sidesObj).drew = .ok (.agg #[.int .i64 2, .nilFunc, .func (.func 123) #[] #[]]) ((W0.alloc (.cells #[.string an, .slice A al.length c, .int .i64 ah, .string bn, .slice B bl.length d, .int .i64 bh] 55)).alloc sidesObj).drew := look_agg ((W0.alloc (.cells #[.string an, .slice A al.length c, .int .i64 ah, .string bn, .slice B bl.length d, .int .i64 bh] 55)).alloc sidesObj).drew (W0.heap.size + 1) (by have := heap_alloc_new (W0.alloc (.cells #[.string an, .slice A al.length c, .int .i64 ah, .string bn, .slice B bl.length d, .int .i64 bh] 55)) sidesObj; rwa [show (W0.alloc (.cells #[.string an, .slice A al.length c, .int .i64 ah, .string bn, .slice B bl.length d, .int .i64 bh] 55)).heap.size = W0.heap.size + 1 by simp] at this)
  have HKA : Hid (BlkV ((W0.alloc sidesObj).alloc (.cells #[.string an, .slice A al.length c, .int .i64 ah, .string bn, .slice B bl.length d, .int .i64 bh] 55)).drew (W0.heap.size + 1) 55 #[.string an, .slice A al.length c, .int .i64 ah, .string bn, .slice B bl.length d, .int .i64 bh]) := Lib.hid (by
    have := BlkV.new (W0.alloc sidesObj) 55 #[.string an, .slice A al.length c, .int .i64 ah, .string bn, .slice B bl.length d, .int .i64 bh]
    rw [show (W0.alloc sidesObj).heap.size = W0.heap.size + 1 by simp] at this
    exact this.drew)
  have HKB : Hid (BlkV ((W0.alloc (.cells #[.string an, .slice A al.length c, .int .i64 ah, .string bn, .slice B bl.length d, .int .i64 bh] 55)).alloc sidesObj).drew W0.heap.size 55 #[.string an, .slice A al.length c, .int .i64 ah, .string bn, .slice B bl.length d, .int .i64 bh]) := Lib.hid (((BlkV.new W0 55 #[.string an, .slice A al.length c, .int .i64 ah, .string bn, .slice B bl.length d, .int .i64 bh]).alloc _).drew)
  have HBA : Hid (Below w.heap.size w ((W0.alloc sidesObj).alloc (.cells #[.string an, .slice A al.length c, .int .i64 ah, .string bn, .slice B bl.length d, .int .i64 bh] 55)).drew) := Lib.hid (((HB0.out.alloc HB0.out.size _).alloc (by have := HB0.out.size; simp; omega) _).drew)
  have HBB : Hid (Below w.heap.size w ((W0.alloc (.cells #[.string an, .slice A al.length c, .int .i64 ah, .string bn, .slice B bl.length d, .int .i64 bh] 55)).alloc sidesObj).drew) := Lib.hid (((HB0.out.alloc HB0.out.size _).alloc (by have := HB0.out.size; simp; omega) _).drew)
  go_region_held3 (fun W => W.cell? ⟨w.heap.size, 0, none⟩ = some (.string an) ∧ W.cell? ⟨w.heap.size, 1, none⟩ = some (.slice A al.length c) ∧ W.cell? ⟨w.heap.size, 2, none⟩ = some (.int .i64 ah) ∧ W.cell? ⟨w.heap.size + 1, 0, none⟩ = some (.string bn) ∧ W.cell? ⟨w.heap.size + 1, 1, none⟩ = some (.slice B bl.length d) ∧ W.cell? ⟨w.heap.size + 1, 2, none⟩ = some (.int .i64 bh) ∧ Hid (Below W0.heap.size W0 W))
    ((first | with_reducible assumption | with_reducible exact keep6 hb2 (by with_reducible assumption) (Nat.le_refl _) | with_reducible exact keep6_ad _ (by with_reducible assumption) (Nat.le_refl _) | with_reducible exact HS0.out))
    (first
    | (go_at_call 68; with_reducible refine (sides_any _).mono ?_; rintro e w1 ⟨rfl, rfl⟩)
    | (go_at_call 69; (with_reducible refine (HJ.out _ _ HBA.out HKA.out).mono ?_); rintro e w2 ⟨g, rfl, hn, hg, hb2⟩; have HN := Lib.hid hn; have HG : Hid (w.heap.size ≤ g) := Lib.hid (Nat.le_trans HBA.out.size hg); have HB2 := Lib.hid (HBA.out.trans (hb2.mono HBA.out.size)); clear hn hg)
    | (go_at_call 69; (with_reducible refine (HJ.out _ _ HBB.out HKB.out).mono ?_); rintro e w2 ⟨g, rfl, hn, hg, hb2⟩; have HN := Lib.hid hn; have HG : Hid (w.heap.size ≤ g) := Lib.hid (Nat.le_trans HBB.out.size hg); have HB2 := Lib.hid (HBB.out.trans (hb2.mono HBB.out.size)); clear hn hg))
  all_goals
    go_wp2
    go_ret2
    exact ⟨g, rfl, HN.out, HG.out, HB2.out⟩
end Go.Proofs.YtfpehblofokheaaGreatDoor
