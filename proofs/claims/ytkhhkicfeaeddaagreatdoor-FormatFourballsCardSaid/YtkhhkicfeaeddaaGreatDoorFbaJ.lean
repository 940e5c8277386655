/- joined, Fourball, Aggregate where there is an error. -/
import Derived.Test.YtkhhkicfeaeddaaGreatDoorFrDP
import Derived.Outline
set_option linter.unusedVariables false
set_option linter.unusedSimpArgs false
namespace Go.Proofs.YtkhhkicfeaeddaaGreatDoor
open Go.RowKit

set_option maxRecDepth 100000 in
set_option maxHeartbeats 4000000 in
theorem joinedB_no (A H : Option Addr) (c ch : Nat) (hs : List (Int × Int)) (ps : List Pl) (w : World) (hch : ∀ W, Below w.heap.size w W → Calls Tryz.prog 60 #[.slice H hs.length ch] W fun e w' => e = .returned (.int .i64 (holesI hs)) ∧ Below W.heap.size W w')
    (hcp : ∀ W, Below w.heap.size w W → Calls Tryz.prog 69 #[.slice H hs.length ch, .slice A ps.length c] W fun e w' => e = .returned (.int .i64 (playersGo hs [] ps)) ∧ Below W.heap.size W w') (hl : ps.length ≤ 4611686018427387904) (z : Int) (hE : joinedE 4 hs ps = z) (hz : z ≠ 0) :
    Calls Tryz.prog 55 #[.agg #[.int .i64 4, .nilFunc, .func (.func 100) #[] #[]], .slice H hs.length ch, .slice A ps.length c] w fun e w' => e = .returned (.tuple #[.slice none 0 0, .int .i64 z]) ∧ Below w.heap.size w w' := by
  have HCH := Lib.hid hch
  have HCP := Lib.hid hcp
  have HF : Hid (firstI [holesI hs, sideI 4 ps.length, playersGo hs [] ps] = z) := Lib.hid hE
  have hzb : (z != 0) = true := by simpa using hz
  clear hch hcp hE hz
  go_enter Tryz.func55, Tryz.ntmps55
  go_wp2
  generalize hW0 : (w.alloc (.cells #[.int .i64 4, .nilFunc, .func (.func 100) #[] #[]] 106)).alloc (.cells #[.slice H hs.length ch] 46) = W0
  obtain ⟨a1, a2, a3, a4⟩ := two_allocs w _ _ _ _ hW0
  have HB0 := Lib.hid a3
  have HSZ0 := Lib.hid a4
  have HA1 := Lib.hid a1
  have HA2 := Lib.hid a2
  have HS0 := Lib.hid (show W0.drew.cell? ⟨w.heap.size, 0, none⟩ = some (.int .i64 4) ∧ W0.drew.cell? ⟨w.heap.size, 1, none⟩ = some .nilFunc ∧ W0.drew.cell? ⟨w.heap.size, 2, none⟩ = some (.func (.func 100) #[] #[]) ∧ W0.drew.cell? ⟨w.heap.size + 1, 0, none⟩ = some (.slice H hs.length ch) ∧ Hid (Below W0.heap.size W0 W0.drew) from ⟨a1.cell 0, a1.cell 1, a1.cell 2, a2.cell 0, Lib.hid ((Below.refl _ _).drew)⟩)
  clear hW0 a1 a2 a3 a4
  go_region_held3 (fun W => W.cell? ⟨w.heap.size, 0, none⟩ = some (.int .i64 4) ∧ W.cell? ⟨w.heap.size, 1, none⟩ = some .nilFunc ∧ W.cell? ⟨w.heap.size, 2, none⟩ = some (.func (.func 100) #[] #[]) ∧ W.cell? ⟨w.heap.size + 1, 0, none⟩ = some (.slice H hs.length ch) ∧ Hid (Below W0.heap.size W0 W))
    ((first | assumption | exact keepQ hb1 (by assumption) (Nat.le_refl _) | exact keepQ ((Below.refl _ _).alloc (Nat.le_refl _) _) (by assumption) (Nat.le_refl _) | exact HS0.out))
    (first
      | (go_at_call 60; refine (HCH.out _ (HB0.out.trans ((heldQ (by assumption)).mono HB0.out.size))).mono ?_; rintro e w1 ⟨rfl, hb1⟩)
      | (go_at_call 93; refine (sideCheck_any 4 _ _ ps.length _ (by omega)).mono ?_; rintro e w1 ⟨rfl, hb1⟩)
      | (go_at_call 69; refine (HCP.out _ (HB0.out.trans ((heldQ (by assumption)).mono HB0.out.size))).mono ?_; rintro e w1 ⟨rfl, hb1⟩)
      | (go_at_call 45; refine (fmFirst_any _ _ [_, _, _] _ (by simp) (Ints.three _ _ _ _ _ _ rfl)).mono ?_; rintro e w1 ⟨rfl, rfl⟩))
  all_goals
    have hLAST := heldQ (by assumption)
    have HLAST := Lib.hid (HB0.out.trans (hLAST.mono HB0.out.size))
    rw [HF.out]
    go_wp2
    go_ret2
    exact ⟨rfl, HLAST.out⟩

set_option maxRecDepth 100000 in
set_option maxHeartbeats 4000000 in
theorem joinedT_no (A H : Option Addr) (c ch : Nat) (hs : List (Int × Int)) (ps : List Pl) (w : World) (hch : ∀ W, Below w.heap.size w W → Calls Tryz.prog 60 #[.slice H hs.length ch] W fun e w' => e = .returned (.int .i64 (holesI hs)) ∧ Below W.heap.size W w')
    (hcp : ∀ W, Below w.heap.size w W → Calls Tryz.prog 69 #[.slice H hs.length ch, .slice A ps.length c] W fun e w' => e = .returned (.int .i64 (playersGo hs [] ps)) ∧ Below W.heap.size W w') (hl : ps.length ≤ 4611686018427387904) (z : Int) (hE : joinedE 2 hs ps = z) (hz : z ≠ 0) :
    Calls Tryz.prog 55 #[.agg #[.int .i64 2, .nilFunc, .func (.func 101) #[] #[]], .slice H hs.length ch, .slice A ps.length c] w fun e w' => e = .returned (.tuple #[.slice none 0 0, .int .i64 z]) ∧ Below w.heap.size w w' := by
  have HCH := Lib.hid hch
  have HCP := Lib.hid hcp
  have HF : Hid (firstI [holesI hs, sideI 2 ps.length, playersGo hs [] ps] = z) := Lib.hid hE
  have hzb : (z != 0) = true := by simpa using hz
  clear hch hcp hE hz
  go_enter Tryz.func55, Tryz.ntmps55
  go_wp2
  generalize hW0 : (w.alloc (.cells #[.int .i64 2, .nilFunc, .func (.func 101) #[] #[]] 106)).alloc (.cells #[.slice H hs.length ch] 46) = W0
  obtain ⟨a1, a2, a3, a4⟩ := two_allocs w _ _ _ _ hW0
  have HB0 := Lib.hid a3
  have HSZ0 := Lib.hid a4
  have HA1 := Lib.hid a1
  have HA2 := Lib.hid a2
  have HS0 := Lib.hid (show W0.drew.cell? ⟨w.heap.size, 0, none⟩ = some (.int .i64 2) ∧ W0.drew.cell? ⟨w.heap.size, 1, none⟩ = some .nilFunc ∧ W0.drew.cell? ⟨w.heap.size, 2, none⟩ = some (.func (.func 101) #[] #[]) ∧ W0.drew.cell? ⟨w.heap.size + 1, 0, none⟩ = some (.slice H hs.length ch) ∧ Hid (Below W0.heap.size W0 W0.drew) from ⟨a1.cell 0, a1.cell 1, a1.cell 2, a2.cell 0, Lib.hid ((Below.refl _ _).drew)⟩)
  clear hW0 a1 a2 a3 a4
  go_region_held3 (fun W => W.cell? ⟨w.heap.size, 0, none⟩ = some (.int .i64 2) ∧ W.cell? ⟨w.heap.size, 1, none⟩ = some .nilFunc ∧ W.cell? ⟨w.heap.size, 2, none⟩ = some (.func (.func 101) #[] #[]) ∧ W.cell? ⟨w.heap.size + 1, 0, none⟩ = some (.slice H hs.length ch) ∧ Hid (Below W0.heap.size W0 W))
    ((first | assumption | exact keepQ hb1 (by assumption) (Nat.le_refl _) | exact keepQ ((Below.refl _ _).alloc (Nat.le_refl _) _) (by assumption) (Nat.le_refl _) | exact HS0.out))
    (first
      | (go_at_call 60; refine (HCH.out _ (HB0.out.trans ((heldQ (by assumption)).mono HB0.out.size))).mono ?_; rintro e w1 ⟨rfl, hb1⟩)
      | (go_at_call 93; refine (sideCheck_any 2 _ _ ps.length _ (by omega)).mono ?_; rintro e w1 ⟨rfl, hb1⟩)
      | (go_at_call 69; refine (HCP.out _ (HB0.out.trans ((heldQ (by assumption)).mono HB0.out.size))).mono ?_; rintro e w1 ⟨rfl, hb1⟩)
      | (go_at_call 45; refine (fmFirst_any _ _ [_, _, _] _ (by simp) (Ints.three _ _ _ _ _ _ rfl)).mono ?_; rintro e w1 ⟨rfl, rfl⟩))
  all_goals
    have hLAST := heldQ (by assumption)
    have HLAST := Lib.hid (HB0.out.trans (hLAST.mono HB0.out.size))
    rw [HF.out]
    go_wp2
    go_ret2
    exact ⟨rfl, HLAST.out⟩

set_option maxRecDepth 100000 in
set_option maxHeartbeats 1000000 in
theorem fmFourball_no (A H : Option Addr) (c ch : Nat) (hs : List (Int × Int)) (ps : List Pl) (w : World) (hch : ∀ W, Below w.heap.size w W → Calls Tryz.prog 60 #[.slice H hs.length ch] W fun e w' => e = .returned (.int .i64 (holesI hs)) ∧ Below W.heap.size W w')
    (hcp : ∀ W, Below w.heap.size w W → Calls Tryz.prog 69 #[.slice H hs.length ch, .slice A ps.length c] W fun e w' => e = .returned (.int .i64 (playersGo hs [] ps)) ∧ Below W.heap.size W w') (hl : ps.length ≤ 4611686018427387904) (z : Int) (hE : joinedE 4 hs ps = z) (hz : z ≠ 0) :
    Calls Tryz.prog 21 #[.slice H hs.length ch, .slice A ps.length c] w fun e w' => e = .returned (.tuple #[.slice none 0 0, .int .i64 z]) ∧ Below w.heap.size w w' := by
  have HJ := Lib.hid (fun W (hb : Below w.heap.size w W) => joinedB_no A H c ch hs ps W (fun X hX => hch X (hb.trans (hX.mono hb.size))) (fun X hX => hcp X (hb.trans (hX.mono hb.size))) hl z hE hz)
  clear hch hcp hE
  go_enter Tryz.func21, Tryz.ntmps21
  go_wp2_with fail
  refine (sides_any _).mono ?_
  rintro e w1 ⟨rfl, hW1⟩
  have hlk := look_ball w1 w.heap.size (by subst hW1; exact heap_alloc_new w _)
  simp only [sBall, vBall, fnV] at hlk
  have hb1 : Below w.heap.size w w1 := by subst hW1; exact (Below.refl _ _).alloc (Nat.le_refl _) _
  have HB1 := Lib.hid hb1
  clear hW1 hb1
  go_wp2_with fail
  refine (HJ.out w1 HB1.out).mono ?_
  rintro e w2 ⟨rfl, hb2⟩
  have HB2 := Lib.hid (HB1.out.trans (hb2.mono HB1.out.size))
  clear hb2
  go_wp2
  go_ret2
  exact ⟨rfl, HB2.out⟩

set_option maxRecDepth 100000 in
set_option maxHeartbeats 8000000 in
theorem fmAggregate_no (H A B : Option Addr) (ch c d : Nat) (hs : List (Int × Int)) (a b : Pl) (w : World) (hch : ∀ W, Below w.heap.size w W → Calls Tryz.prog 60 #[.slice H hs.length ch] W fun e w' => e = .returned (.int .i64 (holesI hs)) ∧ Below W.heap.size W w')
    (hcp : ∀ W X cx, Below w.heap.size w W → PlayersR W X [a, b] → Calls Tryz.prog 69 #[.slice H hs.length ch, .slice X 2 cx] W fun e w' => e = .returned (.int .i64 (playersGo hs [] [a, b])) ∧ Below W.heap.size W w')
    (ha : EntriesR w A a.l) (hb : EntriesR w B b.l) (z : Int) (hE : joinedE 2 hs [a, b] = z) (hz : z ≠ 0) :
    Calls Tryz.prog 26 #[.slice H hs.length ch, plV a A c, plV b B d] w fun e w' => e = .returned (.tuple #[.slice none 0 0, .int .i64 z]) ∧ Below w.heap.size w w' := by
  have HJ : Hid (∀ W g, Below w.heap.size w W → BlkV W g 62 #[.string a.nm, .slice A a.l.length c, .int .i64 a.h, .string b.nm, .slice B b.l.length d, .int .i64 b.h] →
      Calls Tryz.prog 55 #[.agg #[.int .i64 2, .nilFunc, .func (.func 101) #[] #[]], .slice H hs.length ch, .slice (some ⟨g, 0, none⟩) 2 2] W fun e w' => e = .returned (.tuple #[.slice none 0 0, .int .i64 z]) ∧ Below W.heap.size W w') := Lib.hid (fun W g hbw hblk =>
    joinedT_no (some ⟨g, 0, none⟩) H 2 ch hs [a, b] W (fun X hX => hch X (hbw.trans (hX.mono hbw.size))) (fun X hX => hcp X (some ⟨g, 0, none⟩) 2 (hbw.trans (hX.mono hbw.size)) ((PlayersR.two hblk (ha.keep hbw) (hb.keep hbw)).keep hX)) (by simp) z hE hz)
  clear hch hcp ha hb hE
  obtain ⟨an, al, ah⟩ := a
  obtain ⟨bn, bl, bh⟩ := b
  unfold plV
  simp only at HJ ⊢
  go_enter Tryz.func26, Tryz.ntmps26
  go_wp2
  generalize hW0 : (w.alloc (.cells #[.string an, .slice A al.length c, .int .i64 ah] 62)).alloc (.cells #[.string bn, .slice B bl.length d, .int .i64 bh] 62) = W0
  obtain ⟨a1, a2, a3, a4⟩ := two_allocs w _ _ _ _ hW0
  have HB0 := Lib.hid a3
  have HA1 := Lib.hid a1
  have HA2 := Lib.hid a2
  clear hW0 a3 a4
  have p0 := a1.cell 0
  have p1 := a1.cell 1
  have p2 := a1.cell 2
  have q0 := a2.cell 0
  have q1 := a2.cell 1
  have q2 := a2.cell 2
  simp only [List.getElem?_toArray, List.getElem?_cons_zero, List.getElem?_cons_succ] at p0 p1 p2 q0 q1 q2
  clear a1 a2
  have HS0 : Hid (W0.drew.cell? ⟨w.heap.size, 0, none⟩ = some (.string an) ∧ W0.drew.cell? ⟨w.heap.size, 1, none⟩ = some (.slice A al.length c) ∧ W0.drew.cell? ⟨w.heap.size, 2, none⟩ = some (.int .i64 ah) ∧ W0.drew.cell? ⟨w.heap.size + 1, 0, none⟩ = some (.string bn) ∧ W0.drew.cell? ⟨w.heap.size + 1, 1, none⟩ = some (.slice B bl.length d) ∧ W0.drew.cell? ⟨w.heap.size + 1, 2, none⟩ = some (.int .i64 bh) ∧ Hid (Below W0.heap.size W0 W0.drew)) := Lib.hid ⟨p0, p1, p2, q0, q1, q2, Lib.hid ((Below.refl _ _).drew)⟩
  clear p0 p1 p2 q0 q1 q2
  have l1 : (Instr.lookup 107 (.map (some W0.heap.size)) (.string ⟨#[97, 103, 103, 114, 101, 103, 97, 116, 101]⟩) false).run Tryz.prog (W0.alloc sidesObj).drew = .ok (.agg #[.int .i64 2, .nilFunc, .func (.func 101) #[] #[]]) (W0.alloc sidesObj).drew := look_agg (W0.alloc sidesObj).drew W0.heap.size (heap_alloc_new W0 _)
  have l2 : (Instr.lookup 107 (.map (some W0.heap.size)) (.string ⟨#[97, 103, 103, 114, 101, 103, 97, 116, 101]⟩) false).run Tryz.prog ((W0.alloc sidesObj).alloc (.cells #[.string an, .slice A al.length c, .int .i64 ah, .string bn, .slice B bl.length d, .int .i64 bh] 62)).drew = .ok (.agg #[.int .i64 2, .nilFunc, .func (.func 101) #[] #[]]) ((W0.alloc sidesObj).alloc (.cells #[.string an, .slice A al.length c, .int .i64 ah, .string bn, .slice B bl.length d, .int .i64 bh] 62)).drew := look_agg ((W0.alloc sidesObj).alloc (.cells #[.string an, .slice A al.length c, .int .i64 ah, .string bn, .slice B bl.length d, .int .i64 bh] 62)).drew W0.heap.size ((Below.heap_alloc (W0.alloc sidesObj) _ W0.heap.size (by simp)).trans (heap_alloc_new W0 _))
  have l3 : (Instr.lookup 107 (.map (some (W0.heap.size + 1))) (.string ⟨#[97, 103, 103, 114, 101, 103, 97, 116, 101]⟩) false).run Tryz.prog ((W0.alloc (.cells #[.string an, .slice A al.length c, .int .i64 ah, .string bn, .slice B bl.length d, .int .i64 bh] 62)).alloc sidesObj).drew = .ok (.agg #[.int .i64 2, .nilFunc, .func (.func 101) #[] #[]]) ((W0.alloc (.cells #[.string an, .slice A al.length c, .int .i64 ah, .string bn, .slice B bl.length d, .int .i64 bh] 62)).alloc sidesObj).drew := look_agg ((W0.alloc (.cells #[.string an, .slice A al.length c, .int .i64 ah, .string bn, .slice B bl.length d, .int .i64 bh] 62)).alloc sidesObj).drew (W0.heap.size + 1) (by have := heap_alloc_new (W0.alloc (.cells #[.string an, .slice A al.length c, .int .i64 ah, .string bn, .slice B bl.length d, .int .i64 bh] 62)) sidesObj; rwa [show (W0.alloc (.cells #[.string an, .slice A al.length c, .int .i64 ah, .string bn, .slice B bl.length d, .int .i64 bh] 62)).heap.size = W0.heap.size + 1 by simp] at this)
  have HKA : Hid (BlkV ((W0.alloc sidesObj).alloc (.cells #[.string an, .slice A al.length c, .int .i64 ah, .string bn, .slice B bl.length d, .int .i64 bh] 62)).drew (W0.heap.size + 1) 62 #[.string an, .slice A al.length c, .int .i64 ah, .string bn, .slice B bl.length d, .int .i64 bh]) := Lib.hid (by
    have := BlkV.new (W0.alloc sidesObj) 62 #[.string an, .slice A al.length c, .int .i64 ah, .string bn, .slice B bl.length d, .int .i64 bh]
    rw [show (W0.alloc sidesObj).heap.size = W0.heap.size + 1 by simp] at this
    exact this.drew)
  have HKB : Hid (BlkV ((W0.alloc (.cells #[.string an, .slice A al.length c, .int .i64 ah, .string bn, .slice B bl.length d, .int .i64 bh] 62)).alloc sidesObj).drew W0.heap.size 62 #[.string an, .slice A al.length c, .int .i64 ah, .string bn, .slice B bl.length d, .int .i64 bh]) := Lib.hid (((BlkV.new W0 62 #[.string an, .slice A al.length c, .int .i64 ah, .string bn, .slice B bl.length d, .int .i64 bh]).alloc _).drew)
  have HBA : Hid (Below w.heap.size w ((W0.alloc sidesObj).alloc (.cells #[.string an, .slice A al.length c, .int .i64 ah, .string bn, .slice B bl.length d, .int .i64 bh] 62)).drew) := Lib.hid (((HB0.out.alloc HB0.out.size _).alloc (by have := HB0.out.size; simp; omega) _).drew)
  have HBB : Hid (Below w.heap.size w ((W0.alloc (.cells #[.string an, .slice A al.length c, .int .i64 ah, .string bn, .slice B bl.length d, .int .i64 bh] 62)).alloc sidesObj).drew) := Lib.hid (((HB0.out.alloc HB0.out.size _).alloc (by have := HB0.out.size; simp; omega) _).drew)
  go_region_held3 (fun W => W.cell? ⟨w.heap.size, 0, none⟩ = some (.string an) ∧ W.cell? ⟨w.heap.size, 1, none⟩ = some (.slice A al.length c) ∧ W.cell? ⟨w.heap.size, 2, none⟩ = some (.int .i64 ah) ∧ W.cell? ⟨w.heap.size + 1, 0, none⟩ = some (.string bn) ∧ W.cell? ⟨w.heap.size + 1, 1, none⟩ = some (.slice B bl.length d) ∧ W.cell? ⟨w.heap.size + 1, 2, none⟩ = some (.int .i64 bh) ∧ Hid (Below W0.heap.size W0 W))
    ((first | with_reducible assumption | with_reducible exact keep6 hb2 (by with_reducible assumption) (Nat.le_refl _) | with_reducible exact keep6_ad _ (by with_reducible assumption) (Nat.le_refl _) | with_reducible exact HS0.out))
    (first
    | (go_at_call 56; with_reducible refine (sides_any _).mono ?_; rintro e w1 ⟨rfl, rfl⟩)
    | (go_at_call 55; (with_reducible refine (HJ.out _ _ HBA.out HKA.out).mono ?_); rintro e w2 ⟨rfl, hb2⟩; have HB2 := Lib.hid (HBA.out.trans (hb2.mono HBA.out.size)))
    | (go_at_call 55; (with_reducible refine (HJ.out _ _ HBB.out HKB.out).mono ?_); rintro e w2 ⟨rfl, hb2⟩; have HB2 := Lib.hid (HBB.out.trans (hb2.mono HBB.out.size))))
  all_goals
    go_wp2
    go_ret2
    exact ⟨rfl, HB2.out⟩

end Go.Proofs.YtkhhkicfeaeddaaGreatDoor
