/- FormatScores: the law's walk, its ways. -/
import Derived.Test.YtndalbcmmdinhaaGreatDoorScoC
import Derived.Test.YtndalbcmmdinhaaGreatDoorScoD
import Derived.Test.YtndalbcmmdinhaaGreatDoorScoN
import Derived.Test.YtndalbcmmdinhaaGreatDoorSumC
import Derived.Test.YtndalbcmmdinhaaGreatDoorMgD
import Derived.Test.YtndalbcmmdinhaaGreatDoorMgE
import Derived.Test.YtndalbcmmdinhaaGreatDoorMgH
import Derived.Outline
set_option linter.unusedVariables false
set_option linter.unusedSimpArgs false
namespace Go.Proofs.YtndalbcmmdinhaaGreatDoor
open Go.RowKit

theorem sameNetsB (A B : Option Addr) (c d : Nat) (nl : List (Int × ByteArray)) (w : World) (ha : EntriesR w A nl) (hb : EntriesR w B nl) (hl : nl.length ≤ 1000) :
    Calls Tryz.prog 24 #[.slice A nl.length c, .slice B nl.length d] w fun e w' => e = .returned (.bool true) ∧ Below w.heap.size w w' :=
  (sameNets_any A B c d nl w ha hb hl).mono fun e w' ⟨h1, n, h2⟩ => ⟨h1, by subst h2; exact below_drewN (Below.refl _ _) n⟩
theorem sameIntsB (A B : Option Addr) (c d : Nat) (xs : List Int) (w : World) (ha : Ints w A xs) (hb : Ints w B xs) (hl : xs.length ≤ 4611686018427387904) :
    Calls Tryz.prog 14 #[.slice A xs.length c, .slice B xs.length d] w fun e w' => e = .returned (.bool true) ∧ Below w.heap.size w w' :=
  (sameInts_any A B c d xs xs w ha hb hl).mono fun e w' ⟨h1, n, h2⟩ => ⟨by rw [h1, decide_eq_true (rfl : xs = xs)], by subst h2; exact below_drewN (Below.refl _ _) n⟩
theorem RowI.intsW {w w' : World} {g : Nat} {xs : List Int} (h : RowI w g xs) (hb : Below w.heap.size w w') : Ints w' (some ⟨g, 0, none⟩) xs :=
  ((h.below hb h.lt).ints (RowI.lt (h.below hb h.lt))).ints


set_option maxRecDepth 100000 in
set_option maxHeartbeats 16000000 in
theorem scores_many (A B : Option Addr) (c d : Nat) (hs : List (Int × Int)) (nm : ByteArray) (l : List (Int × ByteArray)) (h : Int) (w : World) (he : EntriesR w B l) (hf : fewB hs.length [⟨nm, l, h⟩] = false) :
    Calls Tryz.prog 4 #[.slice A hs.length c, .agg #[.string nm, .slice B l.length d, .int .i64 h]] w fun e w' => e = .returned (.bool true) ∧ Below w.heap.size w w' := by
  have HE := Lib.hid he
  have HF := Lib.hid hf
  clear he hf
  go_enter Tryz.func4, Tryz.ntmps4
  go_wp2_with fail
  generalize hW1 : (w.alloc (.cells #[.string nm, .slice B l.length d, .int .i64 h] 37)).alloc (.cells #[.string nm, .slice B l.length d, .int .i64 h] 37) = w1
  obtain ⟨a1, a2, a3, a4⟩ := two_allocs w _ _ _ _ hW1
  have HB1 := Lib.hid a3
  refine (few_any _ _ 1 c hs.length [⟨nm, l, h⟩] w1 (PlayersR.one a2 (HE.out.keep a3)) (by simp)).mono ?_
  rintro e w2 ⟨rfl, hb2⟩
  rw [HF.out]
  have HBX2 := Lib.hid (a1.below hb2 a1.lt)
  have HB2 := Lib.hid (HB1.out.trans (hb2.mono HB1.out.size))
  clear hW1 a1 a2 a3 a4 hb2 HB1
  go_wp2_with fail
  refine (awake_any _).mono ?_
  rintro e wz ⟨rfl, hbz⟩
  have HBZ := Lib.hid (HB2.out.trans (hbz.mono HB2.out.size))
  clear hbz
  go_wp2
  go_ret
  exact ⟨rfl, HBZ.out⟩


set_option maxRecDepth 100000 in
set_option maxHeartbeats 16000000 in
theorem scores_no (A B : Option Addr) (c d : Nat) (hs : List (Int × Int)) (nm : ByteArray) (l : List (Int × ByteArray)) (h : Int) (w : World) (he : EntriesR w B l) (hf : fewB hs.length [⟨nm, l, h⟩] = true) (bad : Int) (hn : bad ≠ 0)
    (kCheckPlayerR : ∀ W, Below w.heap.size w W → Calls Tryz.prog 15 #[.slice A hs.length c, .agg #[.string nm, .slice B l.length d, .int .i64 h]] W fun e w' => e = .returned (.int .i64 bad) ∧ Below W.heap.size W w')
    (kGross : ∀ W, Below w.heap.size w W → Calls Tryz.prog 16 #[.slice A hs.length c, .agg #[.string nm, .slice B l.length d, .int .i64 h]] W fun e w' => e = .returned (.tuple #[.int .i64 0, .int .i64 bad]) ∧ Below W.heap.size W w')
    (kNets : ∀ W, Below w.heap.size w W → Calls Tryz.prog 17 #[.slice A hs.length c, .agg #[.string nm, .slice B l.length d, .int .i64 h]] W fun e w' => e = .returned (.tuple #[.slice none 0 0, .int .i64 bad]) ∧ Below W.heap.size W w')
    (kScore : ∀ W, Below w.heap.size w W → Calls Tryz.prog 18 #[.slice A hs.length c, .agg #[.string nm, .slice B l.length d, .int .i64 h]] W fun e w' => e = .returned (.tuple #[.int .i64 0, .int .i64 bad]) ∧ Below W.heap.size W w')
    (kPoints : ∀ W, Below w.heap.size w W → Calls Tryz.prog 19 #[.slice A hs.length c, .agg #[.string nm, .slice B l.length d, .int .i64 h]] W (RowNo bad W))
    (kAgainst : ∀ W, Below w.heap.size w W → Calls Tryz.prog 20 #[.slice A hs.length c, .agg #[.string nm, .slice B l.length d, .int .i64 h]] W (RowNo bad W))
    (kCheckPlayer : ∀ W, Below w.heap.size w W → Calls Tryz.prog 21 #[.slice A hs.length c, .agg #[.string nm, .slice B l.length d, .int .i64 h]] W fun e w' => e = .returned (.int .i64 bad) ∧ Below W.heap.size W w') :
    Calls Tryz.prog 4 #[.slice A hs.length c, .agg #[.string nm, .slice B l.length d, .int .i64 h]] w fun e w' => e = .returned (.bool true) ∧ Below w.heap.size w w' := by
  have HE := Lib.hid he
  have HF := Lib.hid hf
  have HCK := Lib.hid kCheckPlayerR
  have HGR := Lib.hid kGross
  have HNT := Lib.hid kNets
  have HSC := Lib.hid kScore
  have HPT := Lib.hid kPoints
  have HAG := Lib.hid kAgainst
  have HCP := Lib.hid kCheckPlayer
  have hqn := bne_self_eq_false' bad
  have hqe := beq_self_eq_true bad
  have hqz : (bad != 0) = true := bne_iff_ne.2 hn
  clear he hf kCheckPlayerR kGross kNets kScore kPoints kAgainst kCheckPlayer hn
  go_enter Tryz.func4, Tryz.ntmps4
  go_wp2_with fail
  generalize hW1 : (w.alloc (.cells #[.string nm, .slice B l.length d, .int .i64 h] 37)).alloc (.cells #[.string nm, .slice B l.length d, .int .i64 h] 37) = w1
  obtain ⟨a1, a2, a3, a4⟩ := two_allocs w _ _ _ _ hW1
  have HB1 := Lib.hid a3
  refine (few_any _ _ 1 c hs.length [⟨nm, l, h⟩] w1 (PlayersR.one a2 (HE.out.keep a3)) (by simp)).mono ?_
  rintro e w2 ⟨rfl, hb2⟩
  rw [HF.out]
  have HBX2 := Lib.hid (a1.below hb2 a1.lt)
  have HB2 := Lib.hid (HB1.out.trans (hb2.mono HB1.out.size))
  clear hW1 a1 a2 a3 a4 hb2 HB1
  have p0 := HBX2.out.cell 0
  have p1 := HBX2.out.cell 1
  have p2 := HBX2.out.cell 2
  simp only [List.getElem?_toArray, List.getElem?_cons_zero, List.getElem?_cons_succ] at p0 p1 p2
  go_wp2_with fail
  obtain ⟨w3, hW3⟩ : ∃ w3, w2.alloc (.cells #[.string nm, .slice B l.length d, .int .i64 h] 38) = w3 := ⟨_, rfl⟩
  rw [hW3]
  obtain ⟨b5, hb5⟩ : ∃ b5, w2.heap.size = b5 := ⟨_, rfl⟩
  rw [hb5]
  obtain ⟨c1, c2, c3⟩ := one_alloc w2 _ _ hW3
  have HBX3 := Lib.hid (HBX2.out.below c2 HBX2.out.lt)
  have HBY3 : Hid (BlkV w3 b5 38 #[.string nm, .slice B l.length d, .int .i64 h]) := Lib.hid (hb5 ▸ c1)
  have HB3 := Lib.hid (HB2.out.trans (c2.mono HB2.out.size))
  clear hW3 hb5 c1 c2 c3 HBX2 HB2 p0 p1 p2
  refine (HCK.out w3 HB3.out).mono ?_
  rintro e w4 ⟨rfl, hb4⟩
  have HBX4 := Lib.hid (HBX3.out.below hb4 HBX3.out.lt)
  have HBY4 := Lib.hid (HBY3.out.below hb4 HBY3.out.lt)
  have HB4 := Lib.hid (HB3.out.trans (hb4.mono HB3.out.size))
  clear hb4 HCK HBX3 HBY3 HB3
  have p0 := HBX4.out.cell 0
  have p1 := HBX4.out.cell 1
  have p2 := HBX4.out.cell 2
  have q0 := HBY4.out.cell 0
  have q1 := HBY4.out.cell 1
  have q2 := HBY4.out.cell 2
  simp only [List.getElem?_toArray, List.getElem?_cons_zero, List.getElem?_cons_succ] at p0 p1 p2 q0 q1 q2
  go_wp2_with fail
  refine (HGR.out w4 HB4.out).mono ?_
  rintro e w5 ⟨rfl, hb5⟩
  have HBX5 := Lib.hid (HBX4.out.below hb5 HBX4.out.lt)
  have HBY5 := Lib.hid (HBY4.out.below hb5 HBY4.out.lt)
  have HB5 := Lib.hid (HB4.out.trans (hb5.mono HB4.out.size))
  clear hb5 HGR HBX4 HBY4 HB4 p0 p1 p2 q0 q1 q2
  have p0 := HBX5.out.cell 0
  have p1 := HBX5.out.cell 1
  have p2 := HBX5.out.cell 2
  have q0 := HBY5.out.cell 0
  have q1 := HBY5.out.cell 1
  have q2 := HBY5.out.cell 2
  simp only [List.getElem?_toArray, List.getElem?_cons_zero, List.getElem?_cons_succ] at p0 p1 p2 q0 q1 q2
  go_wp2_with fail
  refine (HNT.out w5 HB5.out).mono ?_
  rintro e w6 ⟨rfl, hb6⟩
  have HBX6 := Lib.hid (HBX5.out.below hb6 HBX5.out.lt)
  have HBY6 := Lib.hid (HBY5.out.below hb6 HBY5.out.lt)
  have HB6 := Lib.hid (HB5.out.trans (hb6.mono HB5.out.size))
  clear hb6 HNT HBX5 HBY5 HB5 p0 p1 p2 q0 q1 q2
  have p0 := HBX6.out.cell 0
  have p1 := HBX6.out.cell 1
  have p2 := HBX6.out.cell 2
  have q0 := HBY6.out.cell 0
  have q1 := HBY6.out.cell 1
  have q2 := HBY6.out.cell 2
  simp only [List.getElem?_toArray, List.getElem?_cons_zero, List.getElem?_cons_succ] at p0 p1 p2 q0 q1 q2
  go_wp2_with fail
  refine (HSC.out w6 HB6.out).mono ?_
  rintro e w7 ⟨rfl, hb7⟩
  have HBX7 := Lib.hid (HBX6.out.below hb7 HBX6.out.lt)
  have HBY7 := Lib.hid (HBY6.out.below hb7 HBY6.out.lt)
  have HB7 := Lib.hid (HB6.out.trans (hb7.mono HB6.out.size))
  clear hb7 HSC HBX6 HBY6 HB6 p0 p1 p2 q0 q1 q2
  have p0 := HBX7.out.cell 0
  have p1 := HBX7.out.cell 1
  have p2 := HBX7.out.cell 2
  have q0 := HBY7.out.cell 0
  have q1 := HBY7.out.cell 1
  have q2 := HBY7.out.cell 2
  simp only [List.getElem?_toArray, List.getElem?_cons_zero, List.getElem?_cons_succ] at p0 p1 p2 q0 q1 q2
  go_wp2_with fail
  refine (HPT.out w7 HB7.out).mono ?_
  rintro e w8 ⟨gP, rfl, hb8⟩
  have HBX8 := Lib.hid (HBX7.out.below hb8 HBX7.out.lt)
  have HBY8 := Lib.hid (HBY7.out.below hb8 HBY7.out.lt)
  have HB8 := Lib.hid (HB7.out.trans (hb8.mono HB7.out.size))
  clear hb8 HPT HBX7 HBY7 HB7 p0 p1 p2 q0 q1 q2
  have p0 := HBX8.out.cell 0
  have p1 := HBX8.out.cell 1
  have p2 := HBX8.out.cell 2
  have q0 := HBY8.out.cell 0
  have q1 := HBY8.out.cell 1
  have q2 := HBY8.out.cell 2
  simp only [List.getElem?_toArray, List.getElem?_cons_zero, List.getElem?_cons_succ] at p0 p1 p2 q0 q1 q2
  go_wp2_with fail
  refine (HAG.out w8 HB8.out).mono ?_
  rintro e w9 ⟨gA, rfl, hb9⟩
  have HBX9 := Lib.hid (HBX8.out.below hb9 HBX8.out.lt)
  have HBY9 := Lib.hid (HBY8.out.below hb9 HBY8.out.lt)
  have HB9 := Lib.hid (HB8.out.trans (hb9.mono HB8.out.size))
  clear hb9 HAG HBX8 HBY8 HB8 p0 p1 p2 q0 q1 q2
  have p0 := HBX9.out.cell 0
  have p1 := HBX9.out.cell 1
  have p2 := HBX9.out.cell 2
  have q0 := HBY9.out.cell 0
  have q1 := HBY9.out.cell 1
  have q2 := HBY9.out.cell 2
  simp only [List.getElem?_toArray, List.getElem?_cons_zero, List.getElem?_cons_succ] at p0 p1 p2 q0 q1 q2
  go_wp2_with fail
  refine (HCP.out w9 HB9.out).mono ?_
  rintro e w10 ⟨rfl, hb10⟩
  have HBX10 := Lib.hid (HBX9.out.below hb10 HBX9.out.lt)
  have HBY10 := Lib.hid (HBY9.out.below hb10 HBY9.out.lt)
  have HB10 := Lib.hid (HB9.out.trans (hb10.mono HB9.out.size))
  clear hb10 HCP HBX9 HBY9 HB9 p0 p1 p2 q0 q1 q2
  have p0 := HBX10.out.cell 0
  have p1 := HBX10.out.cell 1
  have p2 := HBX10.out.cell 2
  have q0 := HBY10.out.cell 0
  have q1 := HBY10.out.cell 1
  have q2 := HBY10.out.cell 2
  simp only [List.getElem?_toArray, List.getElem?_cons_zero, List.getElem?_cons_succ] at p0 p1 p2 q0 q1 q2
  go_wp2_with fail
  refine (awake_any _).mono ?_
  rintro e wz ⟨rfl, hbz⟩
  have HBZ := Lib.hid (HB10.out.trans (hbz.mono HB10.out.size))
  clear hbz
  go_wp2
  go_ret
  exact ⟨rfl, HBZ.out⟩


set_option maxRecDepth 100000 in
set_option maxHeartbeats 16000000 in
theorem scores_whole (A B : Option Addr) (c d : Nat) (hs : List (Int × Int)) (nm : ByteArray) (l : List (Int × ByteArray)) (h : Int) (w : World) (hr : HolesR w A hs) (hbl : ∀ a, A = some a → a.block < w.heap.size) (he : EntriesR w B l) (hf : fewB hs.length [⟨nm, l, h⟩] = true) (hn : playerI hs nm l h = 0) (hac : allCount (netsOf hs h l) = true) :
    Calls Tryz.prog 4 #[.slice A hs.length c, .agg #[.string nm, .slice B l.length d, .int .i64 h]] w fun e w' => e = .returned (.bool true) ∧ Below w.heap.size w w' := by
  have HE := Lib.hid he
  have HF := Lib.hid hf
  have F := fit_of hn
  have hz := (holesI_zero (player_holes hn)).2.2.1
  have hmost : hs.length ≤ 36 := F.most
  have hlen : l.length = hs.length := F.len
  have hnl : (netsOf hs h l).length = hs.length := F.netsLen.trans (by omega)
  have hcr : (l.all fun e => !crossB e.2) = true := by
    rw [← hac]
    exact (nets_cross _ l (by rw [givenL_len]; omega)).symm
  have HCK := Lib.hid (fun W (hb : Below w.heap.size w W) => refPlayer_any A B c d hs nm l h W (hr.keep hbl hb) (fun a ha => Nat.lt_of_lt_of_le (hbl a ha) hb.size) (by omega) (he.keep hb) (by omega))
  have HGR := Lib.hid (fun W (hb : Below w.heap.size w W) => fmGross_any A B c d hs nm l h W (hr.keep hbl hb) (fun a ha => Nat.lt_of_lt_of_le (hbl a ha) hb.size) (by omega) (he.keep hb) (by omega))
  have HNT := Lib.hid (fun W (hb : Below w.heap.size w W) => fmNets_yes A B c d hs nm l h W (hr.keep hbl hb) (fun a ha => Nat.lt_of_lt_of_le (hbl a ha) hb.size) (he.keep hb) hn)
  have HSC := Lib.hid (fun W (hb : Below w.heap.size w W) => fmScore_any A B c d hs nm l h W (hr.keep hbl hb) (fun a ha => Nat.lt_of_lt_of_le (hbl a ha) hb.size) (by omega) (he.keep hb) (by omega))
  have HPT := Lib.hid (fun W (hb : Below w.heap.size w W) => fmPoints_yes A B c d hs nm l h W (hr.keep hbl hb) (fun a ha => Nat.lt_of_lt_of_le (hbl a ha) hb.size) (he.keep hb) hn)
  have HAG := Lib.hid (fun W (hb : Below w.heap.size w W) => fmAgainst_yes A B c d hs nm l h W (hr.keep hbl hb) (fun a ha => Nat.lt_of_lt_of_le (hbl a ha) hb.size) (he.keep hb) hn)
  have HCP := Lib.hid (fun W (hb : Below w.heap.size w W) => fmCheckPlayer_any A B c d hs nm l h W (hr.keep hbl hb) (fun a ha => Nat.lt_of_lt_of_le (hbl a ha) hb.size) (by omega) (he.keep hb) (by omega))
  have HRG := Lib.hid (fun W (hb : Below w.heap.size w W) => refGross_any B d nm l h W (he.keep hb) (by omega) F.small)
  have HRS := Lib.hid (fun W (hb : Below w.heap.size w W) => refScore_any A B c d hs nm l h W (hr.keep hbl hb) (fun a ha => Nat.lt_of_lt_of_le (hbl a ha) hb.size) (he.keep hb) hn (fun x hx => (hz x hx).2.2) F.netsSmall (by omega))
  have HRN := Lib.hid (fun W (hb : Below w.heap.size w W) => refNets_any A B c d hs nm l h W (hr.keep hbl hb) (fun a ha => Nat.lt_of_lt_of_le (hbl a ha) hb.size) (he.keep hb) hn (fun x hx => (hz x hx).2.2))
  have HRP := Lib.hid (fun W (hb : Below w.heap.size w W) => refPoints_any A B c d hs nm l h W (hr.keep hbl hb) (fun a ha => Nat.lt_of_lt_of_le (hbl a ha) hb.size) (he.keep hb) hn hz F.netsSmall hnl (by omega))
  have HRA := Lib.hid (fun W (hb : Below w.heap.size w W) => refAgainst_any A B c d hs nm l h W (hr.keep hbl hb) (fun a ha => Nat.lt_of_lt_of_le (hbl a ha) hb.size) (he.keep hb) hn hz F.netsSmall hnl (by omega))
  have HPL : Hid ((parL pointsF 0 hs (netsOf hs h l)).length ≤ 36) := Lib.hid (by rw [parL_len _ _ _ _ hnl, hnl]; exact hmost)
  have HAL : Hid ((parL againstF (-1) hs (netsOf hs h l)).length ≤ 36) := Lib.hid (by rw [parL_len _ _ _ _ hnl, hnl]; exact hmost)
  have HNL : Hid ((netsOf hs h l).length ≤ 1000) := Lib.hid (by omega)
  rw [hn] at HCK HCP
  rw [show grossR hs nm l h = (sumS l, 0) by unfold grossR wholeR; rw [if_pos hn, hac]; rfl] at HGR
  rw [show scoreR hs nm l h = (sumS (netsOf hs h l), 0) by unfold scoreR wholeR; rw [if_pos hn, hac]; rfl] at HSC
  rw [hcr] at HRG
  rw [hac] at HRS
  rw [show wholeB true (sumS l) = (sumS l, true) from rfl] at HRG
  rw [show wholeB true (sumS (netsOf hs h l)) = (sumS (netsOf hs h l), true) from rfl] at HRS
  dsimp only at HGR HSC HRG HRS
  clear hr hbl he hf hn hac hcr hz F hmost hlen hnl
  generalize parL pointsF 0 hs (netsOf hs h l) = pts at HPT HRP HPL
  generalize parL againstF (-1) hs (netsOf hs h l) = ags at HAG HRA HAL
  generalize netsOf hs h l = nl at HNT HSC HRS HRN HNL
  generalize sumS l = S at HGR HRG
  generalize sumS nl = NS at HSC HRS
  have hss := bne_self_eq_false' S
  have hns := bne_self_eq_false' NS
  go_enter Tryz.func4, Tryz.ntmps4
  go_wp2_with fail
  generalize hW1 : (w.alloc (.cells #[.string nm, .slice B l.length d, .int .i64 h] 37)).alloc (.cells #[.string nm, .slice B l.length d, .int .i64 h] 37) = w1
  obtain ⟨a1, a2, a3, a4⟩ := two_allocs w _ _ _ _ hW1
  have HB1 := Lib.hid a3
  refine (few_any _ _ 1 c hs.length [⟨nm, l, h⟩] w1 (PlayersR.one a2 (HE.out.keep a3)) (by simp)).mono ?_
  rintro e w2 ⟨rfl, hb2⟩
  rw [HF.out]
  have HBX2 := Lib.hid (a1.below hb2 a1.lt)
  have HB2 := Lib.hid (HB1.out.trans (hb2.mono HB1.out.size))
  clear hW1 a1 a2 a3 a4 hb2 HB1
  have p0 := HBX2.out.cell 0
  have p1 := HBX2.out.cell 1
  have p2 := HBX2.out.cell 2
  simp only [List.getElem?_toArray, List.getElem?_cons_zero, List.getElem?_cons_succ] at p0 p1 p2
  go_wp2_with fail
  obtain ⟨w3, hW3⟩ : ∃ w3, w2.alloc (.cells #[.string nm, .slice B l.length d, .int .i64 h] 38) = w3 := ⟨_, rfl⟩
  rw [hW3]
  obtain ⟨b5, hb5⟩ : ∃ b5, w2.heap.size = b5 := ⟨_, rfl⟩
  rw [hb5]
  obtain ⟨c1, c2, c3⟩ := one_alloc w2 _ _ hW3
  have HBX3 := Lib.hid (HBX2.out.below c2 HBX2.out.lt)
  have HBY3 : Hid (BlkV w3 b5 38 #[.string nm, .slice B l.length d, .int .i64 h]) := Lib.hid (hb5 ▸ c1)
  have HB3 := Lib.hid (HB2.out.trans (c2.mono HB2.out.size))
  clear hW3 hb5 c1 c2 c3 HBX2 HB2 p0 p1 p2
  refine (HCK.out w3 HB3.out).mono ?_
  rintro e w4 ⟨rfl, hb4⟩
  have HBX4 := Lib.hid (HBX3.out.below hb4 HBX3.out.lt)
  have HBY4 := Lib.hid (HBY3.out.below hb4 HBY3.out.lt)
  have HB4 := Lib.hid (HB3.out.trans (hb4.mono HB3.out.size))
  clear hb4 HCK HBX3 HBY3 HB3
  have p0 := HBX4.out.cell 0
  have p1 := HBX4.out.cell 1
  have p2 := HBX4.out.cell 2
  have q0 := HBY4.out.cell 0
  have q1 := HBY4.out.cell 1
  have q2 := HBY4.out.cell 2
  simp only [List.getElem?_toArray, List.getElem?_cons_zero, List.getElem?_cons_succ] at p0 p1 p2 q0 q1 q2
  go_wp2_with fail
  refine (HGR.out w4 HB4.out).mono ?_
  rintro e w5 ⟨rfl, hb5⟩
  have HBX5 := Lib.hid (HBX4.out.below hb5 HBX4.out.lt)
  have HBY5 := Lib.hid (HBY4.out.below hb5 HBY4.out.lt)
  have HB5 := Lib.hid (HB4.out.trans (hb5.mono HB4.out.size))
  clear hb5 HGR HBX4 HBY4 HB4 p0 p1 p2 q0 q1 q2
  have p0 := HBX5.out.cell 0
  have p1 := HBX5.out.cell 1
  have p2 := HBX5.out.cell 2
  have q0 := HBY5.out.cell 0
  have q1 := HBY5.out.cell 1
  have q2 := HBY5.out.cell 2
  simp only [List.getElem?_toArray, List.getElem?_cons_zero, List.getElem?_cons_succ] at p0 p1 p2 q0 q1 q2
  go_wp2_with fail
  refine (HNT.out w5 HB5.out).mono ?_
  rintro e w6 ⟨An, cn, rfl, hent, hge, hb6⟩
  have HBX6 := Lib.hid (HBX5.out.below hb6 HBX5.out.lt)
  have HBY6 := Lib.hid (HBY5.out.below hb6 HBY5.out.lt)
  have HB6 := Lib.hid (HB5.out.trans (hb6.mono HB5.out.size))
  have HEN := Lib.hid hent
  clear hent hge
  clear hb6 HNT HBX5 HBY5 HB5 p0 p1 p2 q0 q1 q2
  have p0 := HBX6.out.cell 0
  have p1 := HBX6.out.cell 1
  have p2 := HBX6.out.cell 2
  have q0 := HBY6.out.cell 0
  have q1 := HBY6.out.cell 1
  have q2 := HBY6.out.cell 2
  simp only [List.getElem?_toArray, List.getElem?_cons_zero, List.getElem?_cons_succ] at p0 p1 p2 q0 q1 q2
  go_wp2_with fail
  refine (HSC.out w6 HB6.out).mono ?_
  rintro e w7 ⟨rfl, hb7⟩
  have HBX7 := Lib.hid (HBX6.out.below hb7 HBX6.out.lt)
  have HBY7 := Lib.hid (HBY6.out.below hb7 HBY6.out.lt)
  have HB7 := Lib.hid (HB6.out.trans (hb7.mono HB6.out.size))
  replace HEN := Lib.hid (HEN.out.keep hb7)
  clear hb7 HSC HBX6 HBY6 HB6 p0 p1 p2 q0 q1 q2
  have p0 := HBX7.out.cell 0
  have p1 := HBX7.out.cell 1
  have p2 := HBX7.out.cell 2
  have q0 := HBY7.out.cell 0
  have q1 := HBY7.out.cell 1
  have q2 := HBY7.out.cell 2
  simp only [List.getElem?_toArray, List.getElem?_cons_zero, List.getElem?_cons_succ] at p0 p1 p2 q0 q1 q2
  go_wp2_with fail
  refine (HPT.out w7 HB7.out).mono ?_
  rintro e w8 ⟨gP, rfl, hrowP, hgP, hb8⟩
  have HBX8 := Lib.hid (HBX7.out.below hb8 HBX7.out.lt)
  have HBY8 := Lib.hid (HBY7.out.below hb8 HBY7.out.lt)
  have HB8 := Lib.hid (HB7.out.trans (hb8.mono HB7.out.size))
  replace HEN := Lib.hid (HEN.out.keep hb8)
  have HROWP := Lib.hid hrowP
  clear hrowP hgP
  clear hb8 HPT HBX7 HBY7 HB7 p0 p1 p2 q0 q1 q2
  have p0 := HBX8.out.cell 0
  have p1 := HBX8.out.cell 1
  have p2 := HBX8.out.cell 2
  have q0 := HBY8.out.cell 0
  have q1 := HBY8.out.cell 1
  have q2 := HBY8.out.cell 2
  simp only [List.getElem?_toArray, List.getElem?_cons_zero, List.getElem?_cons_succ] at p0 p1 p2 q0 q1 q2
  go_wp2_with fail
  refine (HAG.out w8 HB8.out).mono ?_
  rintro e w9 ⟨gA, rfl, hrowA, hgA, hb9⟩
  have HBX9 := Lib.hid (HBX8.out.below hb9 HBX8.out.lt)
  have HBY9 := Lib.hid (HBY8.out.below hb9 HBY8.out.lt)
  have HB9 := Lib.hid (HB8.out.trans (hb9.mono HB8.out.size))
  replace HEN := Lib.hid (HEN.out.keep hb9)
  replace HROWP := Lib.hid (HROWP.out.below hb9 HROWP.out.lt)
  have HROWA := Lib.hid hrowA
  clear hrowA hgA
  clear hb9 HAG HBX8 HBY8 HB8 p0 p1 p2 q0 q1 q2
  have p0 := HBX9.out.cell 0
  have p1 := HBX9.out.cell 1
  have p2 := HBX9.out.cell 2
  have q0 := HBY9.out.cell 0
  have q1 := HBY9.out.cell 1
  have q2 := HBY9.out.cell 2
  simp only [List.getElem?_toArray, List.getElem?_cons_zero, List.getElem?_cons_succ] at p0 p1 p2 q0 q1 q2
  go_wp2_with fail
  refine (HCP.out w9 HB9.out).mono ?_
  rintro e w10 ⟨rfl, hb10⟩
  have HBX10 := Lib.hid (HBX9.out.below hb10 HBX9.out.lt)
  have HBY10 := Lib.hid (HBY9.out.below hb10 HBY9.out.lt)
  have HB10 := Lib.hid (HB9.out.trans (hb10.mono HB9.out.size))
  replace HEN := Lib.hid (HEN.out.keep hb10)
  replace HROWP := Lib.hid (HROWP.out.below hb10 HROWP.out.lt)
  replace HROWA := Lib.hid (HROWA.out.below hb10 HROWA.out.lt)
  clear hb10 HCP HBX9 HBY9 HB9 p0 p1 p2 q0 q1 q2
  have p0 := HBX10.out.cell 0
  have p1 := HBX10.out.cell 1
  have p2 := HBX10.out.cell 2
  have q0 := HBY10.out.cell 0
  have q1 := HBY10.out.cell 1
  have q2 := HBY10.out.cell 2
  simp only [List.getElem?_toArray, List.getElem?_cons_zero, List.getElem?_cons_succ] at p0 p1 p2 q0 q1 q2
  go_wp2_with fail
  refine (HRG.out w10 HB10.out).mono ?_
  rintro e w11 ⟨rfl, hb11⟩
  have HBX11 := Lib.hid (HBX10.out.below hb11 HBX10.out.lt)
  have HBY11 := Lib.hid (HBY10.out.below hb11 HBY10.out.lt)
  have HB11 := Lib.hid (HB10.out.trans (hb11.mono HB10.out.size))
  replace HEN := Lib.hid (HEN.out.keep hb11)
  replace HROWP := Lib.hid (HROWP.out.below hb11 HROWP.out.lt)
  replace HROWA := Lib.hid (HROWA.out.below hb11 HROWA.out.lt)
  clear hb11 HRG HBX10 HBY10 HB10 p0 p1 p2 q0 q1 q2
  have p0 := HBX11.out.cell 0
  have p1 := HBX11.out.cell 1
  have p2 := HBX11.out.cell 2
  have q0 := HBY11.out.cell 0
  have q1 := HBY11.out.cell 1
  have q2 := HBY11.out.cell 2
  simp only [List.getElem?_toArray, List.getElem?_cons_zero, List.getElem?_cons_succ] at p0 p1 p2 q0 q1 q2
  go_wp2_with fail
  refine (HRS.out w11 HB11.out).mono ?_
  rintro e w12 ⟨rfl, hb12⟩
  have HBX12 := Lib.hid (HBX11.out.below hb12 HBX11.out.lt)
  have HBY12 := Lib.hid (HBY11.out.below hb12 HBY11.out.lt)
  have HB12 := Lib.hid (HB11.out.trans (hb12.mono HB11.out.size))
  replace HEN := Lib.hid (HEN.out.keep hb12)
  replace HROWP := Lib.hid (HROWP.out.below hb12 HROWP.out.lt)
  replace HROWA := Lib.hid (HROWA.out.below hb12 HROWA.out.lt)
  clear hb12 HRS HBX11 HBY11 HB11 p0 p1 p2 q0 q1 q2
  have p0 := HBX12.out.cell 0
  have p1 := HBX12.out.cell 1
  have p2 := HBX12.out.cell 2
  have q0 := HBY12.out.cell 0
  have q1 := HBY12.out.cell 1
  have q2 := HBY12.out.cell 2
  simp only [List.getElem?_toArray, List.getElem?_cons_zero, List.getElem?_cons_succ] at p0 p1 p2 q0 q1 q2
  have HLN := Lib.hid (fun W (hb : Below w12.heap.size w12 W) => lawNets_any An cn nl W (HEN.out.keep hb) HNL.out)
  have HRN2 := Lib.hid (fun W (hb : Below w12.heap.size w12 W) => HRN.out W (HB12.out.trans (hb.mono HB12.out.size)))
  have HRP2 := Lib.hid (fun W (hb : Below w12.heap.size w12 W) => HRP.out W (HB12.out.trans (hb.mono HB12.out.size)))
  have HRA2 := Lib.hid (fun W (hb : Below w12.heap.size w12 W) => HRA.out W (HB12.out.trans (hb.mono HB12.out.size)))
  have HPR := Lib.hid (fun W (hb : Below w12.heap.size w12 W) => HROWP.out.intsW hb)
  have HAR := Lib.hid (fun W (hb : Below w12.heap.size w12 W) => HROWA.out.intsW hb)
  have HD0 : Hid (Below w12.heap.size w12 w12.drew) := Lib.hid (Below.refl _ _).drew
  clear HRN HRP HRA HROWP HROWA HEN p0 p1 p2 HBX12
  go_wp2
  go_region_held3 (fun W => W.cell? ⟨b5, 0, none⟩ = some (.string nm) ∧ W.cell? ⟨b5, 1, none⟩ = some (.slice B l.length d) ∧ W.cell? ⟨b5, 2, none⟩ = some (.int .i64 h) ∧ Hid (Below w12.heap.size w12 W))
    ((first | with_reducible assumption | exact keep3 hbA (by with_reducible assumption) (Nat.le_refl _) | exact keep3 hbB (by with_reducible assumption) (Nat.le_refl _) | exact keep3 hbC (by with_reducible assumption) (Nat.le_refl _) | exact keep3 hbD (by with_reducible assumption) (Nat.le_refl _) | exact keep3 hbE (by with_reducible assumption) (Nat.le_refl _) | exact keep3 hbF (by with_reducible assumption) (Nat.le_refl _) | exact keep3 hbG (by with_reducible assumption) (Nat.le_refl _) | exact keep3 hbH (by with_reducible assumption) (Nat.le_refl _) | exact ⟨q0, q1, q2, HD0⟩))
    (first
      | (go_at_call 25; (with_reducible refine (HLN.out _ (heldC (B := w12.heap.size) (w := w12) (by with_reducible assumption))).mono ?_); rintro e wA ⟨vA, rfl, hoA, hbA⟩; obtain ⟨AA, cA, rfl, heA⟩ := hoA.entries; clear hoA)
      | (go_at_call 26; (with_reducible refine (HRN2.out _ (heldC (B := w12.heap.size) (w := w12) (by with_reducible assumption))).mono ?_); rintro e wB ⟨vB, rfl, hoB, hbB⟩; obtain ⟨AB, cB, rfl, heB⟩ := hoB.entries; have heA2 := Lib.hid (heA.keep hbB); have heB2 := Lib.hid heB; clear hoB heA heB)
      | (go_at_call 24; refine (sameNetsB _ _ _ _ nl _ heA2.out heB2.out HNL.out).mono ?_; rintro e wC ⟨rfl, hbC⟩)
      | (go_at_call 27; have hsD := heldC (B := w12.heap.size) (w := w12) (by with_reducible assumption); (with_reducible refine (HRP2.out _ hsD).mono ?_); rintro e wD ⟨vD, rfl, hoD, hbD⟩; obtain ⟨AD, cD, rfl, _, hiD⟩ := rows_ints hoD; have hiD2 := Lib.hid hiD.ints; have hpD := Lib.hid (HPR.out _ (hsD.trans (hbD.mono hsD.size))); clear hoD hiD hsD)
      | (go_at_call 28; have hsF := heldC (B := w12.heap.size) (w := w12) (by with_reducible assumption); (with_reducible refine (HRA2.out _ hsF).mono ?_); rintro e wF ⟨vF, rfl, hoF, hbF⟩; obtain ⟨AF, cF, rfl, _, hiF⟩ := rows_ints hoF; have hiF2 := Lib.hid hiF.ints; have hpF := Lib.hid (HAR.out _ (hsF.trans (hbF.mono hsF.size))); clear hoF hiF hsF)
      | (have _q := hiF2.out; go_at_call 14; refine (sameIntsB _ _ _ _ ags _ hpF.out hiF2.out (by have := HAL.out; omega)).mono ?_; rintro e wG ⟨rfl, hbG⟩)
      | (have _q := hiD2.out; go_at_call 14; refine (sameIntsB _ _ _ _ pts _ hpD.out hiD2.out (by have := HPL.out; omega)).mono ?_; rintro e wE ⟨rfl, hbE⟩)
      | (go_at_call 10; refine (awake_any _).mono ?_; rintro e wH ⟨rfl, hbH⟩))
  all_goals go_wp2
  all_goals go_ret
  all_goals exact ⟨rfl, HB12.out.trans ((heldC (B := w12.heap.size) (w := w12) (by with_reducible assumption)).mono HB12.out.size)⟩


set_option maxRecDepth 100000 in
set_option maxHeartbeats 16000000 in
theorem scores_part (A B : Option Addr) (c d : Nat) (hs : List (Int × Int)) (nm : ByteArray) (l : List (Int × ByteArray)) (h : Int) (w : World) (hr : HolesR w A hs) (hbl : ∀ a, A = some a → a.block < w.heap.size) (he : EntriesR w B l) (hf : fewB hs.length [⟨nm, l, h⟩] = true) (hn : playerI hs nm l h = 0) (hac : allCount (netsOf hs h l) = false) :
    Calls Tryz.prog 4 #[.slice A hs.length c, .agg #[.string nm, .slice B l.length d, .int .i64 h]] w fun e w' => e = .returned (.bool true) ∧ Below w.heap.size w w' := by
  have HE := Lib.hid he
  have HF := Lib.hid hf
  have F := fit_of hn
  have hz := (holesI_zero (player_holes hn)).2.2.1
  have hmost : hs.length ≤ 36 := F.most
  have hlen : l.length = hs.length := F.len
  have hnl : (netsOf hs h l).length = hs.length := F.netsLen.trans (by omega)
  have hcr : (l.all fun e => !crossB e.2) = false := by
    rw [← hac]
    exact (nets_cross _ l (by rw [givenL_len]; omega)).symm
  have HCK := Lib.hid (fun W (hb : Below w.heap.size w W) => refPlayer_any A B c d hs nm l h W (hr.keep hbl hb) (fun a ha => Nat.lt_of_lt_of_le (hbl a ha) hb.size) (by omega) (he.keep hb) (by omega))
  have HGR := Lib.hid (fun W (hb : Below w.heap.size w W) => fmGross_any A B c d hs nm l h W (hr.keep hbl hb) (fun a ha => Nat.lt_of_lt_of_le (hbl a ha) hb.size) (by omega) (he.keep hb) (by omega))
  have HNT := Lib.hid (fun W (hb : Below w.heap.size w W) => fmNets_yes A B c d hs nm l h W (hr.keep hbl hb) (fun a ha => Nat.lt_of_lt_of_le (hbl a ha) hb.size) (he.keep hb) hn)
  have HSC := Lib.hid (fun W (hb : Below w.heap.size w W) => fmScore_any A B c d hs nm l h W (hr.keep hbl hb) (fun a ha => Nat.lt_of_lt_of_le (hbl a ha) hb.size) (by omega) (he.keep hb) (by omega))
  have HPT := Lib.hid (fun W (hb : Below w.heap.size w W) => fmPoints_yes A B c d hs nm l h W (hr.keep hbl hb) (fun a ha => Nat.lt_of_lt_of_le (hbl a ha) hb.size) (he.keep hb) hn)
  have HAG := Lib.hid (fun W (hb : Below w.heap.size w W) => fmAgainst_yes A B c d hs nm l h W (hr.keep hbl hb) (fun a ha => Nat.lt_of_lt_of_le (hbl a ha) hb.size) (he.keep hb) hn)
  have HCP := Lib.hid (fun W (hb : Below w.heap.size w W) => fmCheckPlayer_any A B c d hs nm l h W (hr.keep hbl hb) (fun a ha => Nat.lt_of_lt_of_le (hbl a ha) hb.size) (by omega) (he.keep hb) (by omega))
  have HRG := Lib.hid (fun W (hb : Below w.heap.size w W) => refGross_any B d nm l h W (he.keep hb) (by omega) F.small)
  have HRS := Lib.hid (fun W (hb : Below w.heap.size w W) => refScore_any A B c d hs nm l h W (hr.keep hbl hb) (fun a ha => Nat.lt_of_lt_of_le (hbl a ha) hb.size) (he.keep hb) hn (fun x hx => (hz x hx).2.2) F.netsSmall (by omega))
  have HRN := Lib.hid (fun W (hb : Below w.heap.size w W) => refNets_any A B c d hs nm l h W (hr.keep hbl hb) (fun a ha => Nat.lt_of_lt_of_le (hbl a ha) hb.size) (he.keep hb) hn (fun x hx => (hz x hx).2.2))
  have HRP := Lib.hid (fun W (hb : Below w.heap.size w W) => refPoints_any A B c d hs nm l h W (hr.keep hbl hb) (fun a ha => Nat.lt_of_lt_of_le (hbl a ha) hb.size) (he.keep hb) hn hz F.netsSmall hnl (by omega))
  have HRA := Lib.hid (fun W (hb : Below w.heap.size w W) => refAgainst_any A B c d hs nm l h W (hr.keep hbl hb) (fun a ha => Nat.lt_of_lt_of_le (hbl a ha) hb.size) (he.keep hb) hn hz F.netsSmall hnl (by omega))
  have HPL : Hid ((parL pointsF 0 hs (netsOf hs h l)).length ≤ 36) := Lib.hid (by rw [parL_len _ _ _ _ hnl, hnl]; exact hmost)
  have HAL : Hid ((parL againstF (-1) hs (netsOf hs h l)).length ≤ 36) := Lib.hid (by rw [parL_len _ _ _ _ hnl, hnl]; exact hmost)
  have HNL : Hid ((netsOf hs h l).length ≤ 1000) := Lib.hid (by omega)
  rw [hn] at HCK HCP
  rw [show grossR hs nm l h = (0, 7) by unfold grossR wholeR; rw [if_pos hn, hac]; rfl] at HGR
  rw [show scoreR hs nm l h = (0, 7) by unfold scoreR wholeR; rw [if_pos hn, hac]; rfl] at HSC
  rw [hcr] at HRG
  rw [hac] at HRS
  rw [show wholeB false (sumS l) = (0, false) from rfl] at HRG
  rw [show wholeB false (sumS (netsOf hs h l)) = (0, false) from rfl] at HRS
  dsimp only at HGR HSC HRG HRS
  clear hr hbl he hf hn hac hcr hz F hmost hlen hnl
  generalize parL pointsF 0 hs (netsOf hs h l) = pts at HPT HRP HPL
  generalize parL againstF (-1) hs (netsOf hs h l) = ags at HAG HRA HAL
  generalize netsOf hs h l = nl at HNT HSC HRS HRN HNL
  go_enter Tryz.func4, Tryz.ntmps4
  go_wp2_with fail
  generalize hW1 : (w.alloc (.cells #[.string nm, .slice B l.length d, .int .i64 h] 37)).alloc (.cells #[.string nm, .slice B l.length d, .int .i64 h] 37) = w1
  obtain ⟨a1, a2, a3, a4⟩ := two_allocs w _ _ _ _ hW1
  have HB1 := Lib.hid a3
  refine (few_any _ _ 1 c hs.length [⟨nm, l, h⟩] w1 (PlayersR.one a2 (HE.out.keep a3)) (by simp)).mono ?_
  rintro e w2 ⟨rfl, hb2⟩
  rw [HF.out]
  have HBX2 := Lib.hid (a1.below hb2 a1.lt)
  have HB2 := Lib.hid (HB1.out.trans (hb2.mono HB1.out.size))
  clear hW1 a1 a2 a3 a4 hb2 HB1
  have p0 := HBX2.out.cell 0
  have p1 := HBX2.out.cell 1
  have p2 := HBX2.out.cell 2
  simp only [List.getElem?_toArray, List.getElem?_cons_zero, List.getElem?_cons_succ] at p0 p1 p2
  go_wp2_with fail
  obtain ⟨w3, hW3⟩ : ∃ w3, w2.alloc (.cells #[.string nm, .slice B l.length d, .int .i64 h] 38) = w3 := ⟨_, rfl⟩
  rw [hW3]
  obtain ⟨b5, hb5⟩ : ∃ b5, w2.heap.size = b5 := ⟨_, rfl⟩
  rw [hb5]
  obtain ⟨c1, c2, c3⟩ := one_alloc w2 _ _ hW3
  have HBX3 := Lib.hid (HBX2.out.below c2 HBX2.out.lt)
  have HBY3 : Hid (BlkV w3 b5 38 #[.string nm, .slice B l.length d, .int .i64 h]) := Lib.hid (hb5 ▸ c1)
  have HB3 := Lib.hid (HB2.out.trans (c2.mono HB2.out.size))
  clear hW3 hb5 c1 c2 c3 HBX2 HB2 p0 p1 p2
  refine (HCK.out w3 HB3.out).mono ?_
  rintro e w4 ⟨rfl, hb4⟩
  have HBX4 := Lib.hid (HBX3.out.below hb4 HBX3.out.lt)
  have HBY4 := Lib.hid (HBY3.out.below hb4 HBY3.out.lt)
  have HB4 := Lib.hid (HB3.out.trans (hb4.mono HB3.out.size))
  clear hb4 HCK HBX3 HBY3 HB3
  have p0 := HBX4.out.cell 0
  have p1 := HBX4.out.cell 1
  have p2 := HBX4.out.cell 2
  have q0 := HBY4.out.cell 0
  have q1 := HBY4.out.cell 1
  have q2 := HBY4.out.cell 2
  simp only [List.getElem?_toArray, List.getElem?_cons_zero, List.getElem?_cons_succ] at p0 p1 p2 q0 q1 q2
  go_wp2_with fail
  refine (HGR.out w4 HB4.out).mono ?_
  rintro e w5 ⟨rfl, hb5⟩
  have HBX5 := Lib.hid (HBX4.out.below hb5 HBX4.out.lt)
  have HBY5 := Lib.hid (HBY4.out.below hb5 HBY4.out.lt)
  have HB5 := Lib.hid (HB4.out.trans (hb5.mono HB4.out.size))
  clear hb5 HGR HBX4 HBY4 HB4 p0 p1 p2 q0 q1 q2
  have p0 := HBX5.out.cell 0
  have p1 := HBX5.out.cell 1
  have p2 := HBX5.out.cell 2
  have q0 := HBY5.out.cell 0
  have q1 := HBY5.out.cell 1
  have q2 := HBY5.out.cell 2
  simp only [List.getElem?_toArray, List.getElem?_cons_zero, List.getElem?_cons_succ] at p0 p1 p2 q0 q1 q2
  go_wp2_with fail
  refine (HNT.out w5 HB5.out).mono ?_
  rintro e w6 ⟨An, cn, rfl, hent, hge, hb6⟩
  have HBX6 := Lib.hid (HBX5.out.below hb6 HBX5.out.lt)
  have HBY6 := Lib.hid (HBY5.out.below hb6 HBY5.out.lt)
  have HB6 := Lib.hid (HB5.out.trans (hb6.mono HB5.out.size))
  have HEN := Lib.hid hent
  clear hent hge
  clear hb6 HNT HBX5 HBY5 HB5 p0 p1 p2 q0 q1 q2
  have p0 := HBX6.out.cell 0
  have p1 := HBX6.out.cell 1
  have p2 := HBX6.out.cell 2
  have q0 := HBY6.out.cell 0
  have q1 := HBY6.out.cell 1
  have q2 := HBY6.out.cell 2
  simp only [List.getElem?_toArray, List.getElem?_cons_zero, List.getElem?_cons_succ] at p0 p1 p2 q0 q1 q2
  go_wp2_with fail
  refine (HSC.out w6 HB6.out).mono ?_
  rintro e w7 ⟨rfl, hb7⟩
  have HBX7 := Lib.hid (HBX6.out.below hb7 HBX6.out.lt)
  have HBY7 := Lib.hid (HBY6.out.below hb7 HBY6.out.lt)
  have HB7 := Lib.hid (HB6.out.trans (hb7.mono HB6.out.size))
  replace HEN := Lib.hid (HEN.out.keep hb7)
  clear hb7 HSC HBX6 HBY6 HB6 p0 p1 p2 q0 q1 q2
  have p0 := HBX7.out.cell 0
  have p1 := HBX7.out.cell 1
  have p2 := HBX7.out.cell 2
  have q0 := HBY7.out.cell 0
  have q1 := HBY7.out.cell 1
  have q2 := HBY7.out.cell 2
  simp only [List.getElem?_toArray, List.getElem?_cons_zero, List.getElem?_cons_succ] at p0 p1 p2 q0 q1 q2
  go_wp2_with fail
  refine (HPT.out w7 HB7.out).mono ?_
  rintro e w8 ⟨gP, rfl, hrowP, hgP, hb8⟩
  have HBX8 := Lib.hid (HBX7.out.below hb8 HBX7.out.lt)
  have HBY8 := Lib.hid (HBY7.out.below hb8 HBY7.out.lt)
  have HB8 := Lib.hid (HB7.out.trans (hb8.mono HB7.out.size))
  replace HEN := Lib.hid (HEN.out.keep hb8)
  have HROWP := Lib.hid hrowP
  clear hrowP hgP
  clear hb8 HPT HBX7 HBY7 HB7 p0 p1 p2 q0 q1 q2
  have p0 := HBX8.out.cell 0
  have p1 := HBX8.out.cell 1
  have p2 := HBX8.out.cell 2
  have q0 := HBY8.out.cell 0
  have q1 := HBY8.out.cell 1
  have q2 := HBY8.out.cell 2
  simp only [List.getElem?_toArray, List.getElem?_cons_zero, List.getElem?_cons_succ] at p0 p1 p2 q0 q1 q2
  go_wp2_with fail
  refine (HAG.out w8 HB8.out).mono ?_
  rintro e w9 ⟨gA, rfl, hrowA, hgA, hb9⟩
  have HBX9 := Lib.hid (HBX8.out.below hb9 HBX8.out.lt)
  have HBY9 := Lib.hid (HBY8.out.below hb9 HBY8.out.lt)
  have HB9 := Lib.hid (HB8.out.trans (hb9.mono HB8.out.size))
  replace HEN := Lib.hid (HEN.out.keep hb9)
  replace HROWP := Lib.hid (HROWP.out.below hb9 HROWP.out.lt)
  have HROWA := Lib.hid hrowA
  clear hrowA hgA
  clear hb9 HAG HBX8 HBY8 HB8 p0 p1 p2 q0 q1 q2
  have p0 := HBX9.out.cell 0
  have p1 := HBX9.out.cell 1
  have p2 := HBX9.out.cell 2
  have q0 := HBY9.out.cell 0
  have q1 := HBY9.out.cell 1
  have q2 := HBY9.out.cell 2
  simp only [List.getElem?_toArray, List.getElem?_cons_zero, List.getElem?_cons_succ] at p0 p1 p2 q0 q1 q2
  go_wp2_with fail
  refine (HCP.out w9 HB9.out).mono ?_
  rintro e w10 ⟨rfl, hb10⟩
  have HBX10 := Lib.hid (HBX9.out.below hb10 HBX9.out.lt)
  have HBY10 := Lib.hid (HBY9.out.below hb10 HBY9.out.lt)
  have HB10 := Lib.hid (HB9.out.trans (hb10.mono HB9.out.size))
  replace HEN := Lib.hid (HEN.out.keep hb10)
  replace HROWP := Lib.hid (HROWP.out.below hb10 HROWP.out.lt)
  replace HROWA := Lib.hid (HROWA.out.below hb10 HROWA.out.lt)
  clear hb10 HCP HBX9 HBY9 HB9 p0 p1 p2 q0 q1 q2
  have p0 := HBX10.out.cell 0
  have p1 := HBX10.out.cell 1
  have p2 := HBX10.out.cell 2
  have q0 := HBY10.out.cell 0
  have q1 := HBY10.out.cell 1
  have q2 := HBY10.out.cell 2
  simp only [List.getElem?_toArray, List.getElem?_cons_zero, List.getElem?_cons_succ] at p0 p1 p2 q0 q1 q2
  go_wp2_with fail
  refine (HRG.out w10 HB10.out).mono ?_
  rintro e w11 ⟨rfl, hb11⟩
  have HBX11 := Lib.hid (HBX10.out.below hb11 HBX10.out.lt)
  have HBY11 := Lib.hid (HBY10.out.below hb11 HBY10.out.lt)
  have HB11 := Lib.hid (HB10.out.trans (hb11.mono HB10.out.size))
  replace HEN := Lib.hid (HEN.out.keep hb11)
  replace HROWP := Lib.hid (HROWP.out.below hb11 HROWP.out.lt)
  replace HROWA := Lib.hid (HROWA.out.below hb11 HROWA.out.lt)
  clear hb11 HRG HBX10 HBY10 HB10 p0 p1 p2 q0 q1 q2
  have p0 := HBX11.out.cell 0
  have p1 := HBX11.out.cell 1
  have p2 := HBX11.out.cell 2
  have q0 := HBY11.out.cell 0
  have q1 := HBY11.out.cell 1
  have q2 := HBY11.out.cell 2
  simp only [List.getElem?_toArray, List.getElem?_cons_zero, List.getElem?_cons_succ] at p0 p1 p2 q0 q1 q2
  go_wp2_with fail
  refine (HRS.out w11 HB11.out).mono ?_
  rintro e w12 ⟨rfl, hb12⟩
  have HBX12 := Lib.hid (HBX11.out.below hb12 HBX11.out.lt)
  have HBY12 := Lib.hid (HBY11.out.below hb12 HBY11.out.lt)
  have HB12 := Lib.hid (HB11.out.trans (hb12.mono HB11.out.size))
  replace HEN := Lib.hid (HEN.out.keep hb12)
  replace HROWP := Lib.hid (HROWP.out.below hb12 HROWP.out.lt)
  replace HROWA := Lib.hid (HROWA.out.below hb12 HROWA.out.lt)
  clear hb12 HRS HBX11 HBY11 HB11 p0 p1 p2 q0 q1 q2
  have p0 := HBX12.out.cell 0
  have p1 := HBX12.out.cell 1
  have p2 := HBX12.out.cell 2
  have q0 := HBY12.out.cell 0
  have q1 := HBY12.out.cell 1
  have q2 := HBY12.out.cell 2
  simp only [List.getElem?_toArray, List.getElem?_cons_zero, List.getElem?_cons_succ] at p0 p1 p2 q0 q1 q2
  have HLN := Lib.hid (fun W (hb : Below w12.heap.size w12 W) => lawNets_any An cn nl W (HEN.out.keep hb) HNL.out)
  have HRN2 := Lib.hid (fun W (hb : Below w12.heap.size w12 W) => HRN.out W (HB12.out.trans (hb.mono HB12.out.size)))
  have HRP2 := Lib.hid (fun W (hb : Below w12.heap.size w12 W) => HRP.out W (HB12.out.trans (hb.mono HB12.out.size)))
  have HRA2 := Lib.hid (fun W (hb : Below w12.heap.size w12 W) => HRA.out W (HB12.out.trans (hb.mono HB12.out.size)))
  have HPR := Lib.hid (fun W (hb : Below w12.heap.size w12 W) => HROWP.out.intsW hb)
  have HAR := Lib.hid (fun W (hb : Below w12.heap.size w12 W) => HROWA.out.intsW hb)
  have HD0 : Hid (Below w12.heap.size w12 w12.drew) := Lib.hid (Below.refl _ _).drew
  clear HRN HRP HRA HROWP HROWA HEN p0 p1 p2 HBX12
  go_wp2
  go_region_held3 (fun W => W.cell? ⟨b5, 0, none⟩ = some (.string nm) ∧ W.cell? ⟨b5, 1, none⟩ = some (.slice B l.length d) ∧ W.cell? ⟨b5, 2, none⟩ = some (.int .i64 h) ∧ Hid (Below w12.heap.size w12 W))
    ((first | with_reducible assumption | exact keep3 hbA (by with_reducible assumption) (Nat.le_refl _) | exact keep3 hbB (by with_reducible assumption) (Nat.le_refl _) | exact keep3 hbC (by with_reducible assumption) (Nat.le_refl _) | exact keep3 hbD (by with_reducible assumption) (Nat.le_refl _) | exact keep3 hbE (by with_reducible assumption) (Nat.le_refl _) | exact keep3 hbF (by with_reducible assumption) (Nat.le_refl _) | exact keep3 hbG (by with_reducible assumption) (Nat.le_refl _) | exact keep3 hbH (by with_reducible assumption) (Nat.le_refl _) | exact ⟨q0, q1, q2, HD0⟩))
    (first
      | (go_at_call 25; (with_reducible refine (HLN.out _ (heldC (B := w12.heap.size) (w := w12) (by with_reducible assumption))).mono ?_); rintro e wA ⟨vA, rfl, hoA, hbA⟩; obtain ⟨AA, cA, rfl, heA⟩ := hoA.entries; clear hoA)
      | (go_at_call 26; (with_reducible refine (HRN2.out _ (heldC (B := w12.heap.size) (w := w12) (by with_reducible assumption))).mono ?_); rintro e wB ⟨vB, rfl, hoB, hbB⟩; obtain ⟨AB, cB, rfl, heB⟩ := hoB.entries; have heA2 := Lib.hid (heA.keep hbB); have heB2 := Lib.hid heB; clear hoB heA heB)
      | (go_at_call 24; refine (sameNetsB _ _ _ _ nl _ heA2.out heB2.out HNL.out).mono ?_; rintro e wC ⟨rfl, hbC⟩)
      | (go_at_call 27; have hsD := heldC (B := w12.heap.size) (w := w12) (by with_reducible assumption); (with_reducible refine (HRP2.out _ hsD).mono ?_); rintro e wD ⟨vD, rfl, hoD, hbD⟩; obtain ⟨AD, cD, rfl, _, hiD⟩ := rows_ints hoD; have hiD2 := Lib.hid hiD.ints; have hpD := Lib.hid (HPR.out _ (hsD.trans (hbD.mono hsD.size))); clear hoD hiD hsD)
      | (go_at_call 28; have hsF := heldC (B := w12.heap.size) (w := w12) (by with_reducible assumption); (with_reducible refine (HRA2.out _ hsF).mono ?_); rintro e wF ⟨vF, rfl, hoF, hbF⟩; obtain ⟨AF, cF, rfl, _, hiF⟩ := rows_ints hoF; have hiF2 := Lib.hid hiF.ints; have hpF := Lib.hid (HAR.out _ (hsF.trans (hbF.mono hsF.size))); clear hoF hiF hsF)
      | (have _q := hiF2.out; go_at_call 14; refine (sameIntsB _ _ _ _ ags _ hpF.out hiF2.out (by have := HAL.out; omega)).mono ?_; rintro e wG ⟨rfl, hbG⟩)
      | (have _q := hiD2.out; go_at_call 14; refine (sameIntsB _ _ _ _ pts _ hpD.out hiD2.out (by have := HPL.out; omega)).mono ?_; rintro e wE ⟨rfl, hbE⟩)
      | (go_at_call 10; refine (awake_any _).mono ?_; rintro e wH ⟨rfl, hbH⟩))
  all_goals go_wp2
  all_goals go_ret
  all_goals exact ⟨rfl, HB12.out.trans ((heldC (B := w12.heap.size) (w := w12) (by with_reducible assumption)).mono HB12.out.size)⟩


theorem scores_any (A B : Option Addr) (c d : Nat) (hs : List (Int × Int)) (nm : ByteArray) (l : List (Int × ByteArray)) (h : Int) (w : World) (hr : HolesR w A hs) (hbl : hs = [] ∨ ∀ a, A = some a → a.block < w.heap.size) (he : EntriesR w B l) :
    Calls Tryz.prog 4 #[.slice A hs.length c, .agg #[.string nm, .slice B l.length d, .int .i64 h]] w fun e w' => e = .returned (.bool true) ∧ Below w.heap.size w w' := by
  cases hf : fewB hs.length [⟨nm, l, h⟩]
  · exact scores_many A B c d hs nm l h w he hf
  · have hb2 : hs.length ≤ 39 ∧ l.length ≤ 39 := by
      unfold fewB shortB at hf
      simp only [List.all_cons, List.all_nil, Bool.and_true, Bool.and_eq_true, decide_eq_true_eq] at hf
      exact ⟨hf.2, hf.1.1.2⟩
    have o1 : hs.length ≤ 4611686018427387904 := by omega
    have o2 : l.length ≤ 4611686018427387904 := by omega
    by_cases hn : playerI hs nm l h = 0
    · have hne : hs ≠ [] := fun e => by have := (fit_of hn).pos; rw [e] at this; simp at this
      have hbl2 := hbl.resolve_left hne
      cases hac : allCount (netsOf hs h l)
      · exact scores_part A B c d hs nm l h w hr hbl2 he hf hn hac
      · exact scores_whole A B c d hs nm l h w hr hbl2 he hf hn hac
    · have hg : grossR hs nm l h = (0, playerI hs nm l h) := by unfold grossR; rw [if_neg hn]
      have hs2 : scoreR hs nm l h = (0, playerI hs nm l h) := by unfold scoreR; rw [if_neg hn]
      rcases hbl with hz | hbl
      · refine scores_no A B c d hs nm l h w he hf (playerI hs nm l h) hn ?_ ?_ ?_ ?_ ?_ ?_ ?_
        · intro W hb
          subst hz
          exact refPlayer_nil A B c d nm l h W
        · intro W hb
          have := fmGross_nil A B c d hs nm l h W hz (he.keep hb) o2 hn
          rwa [hg] at this
        · intro W hb
          exact fmNets_nil A B c d hs nm l h W hz (he.keep hb) o2 hn
        · intro W hb
          have := fmScore_nil A B c d hs nm l h W hz (he.keep hb) o2 hn
          rwa [hs2] at this
        · intro W hb
          exact fmPoints_nil A B c d hs nm l h W hz (he.keep hb) o2 hn
        · intro W hb
          exact fmAgainst_nil A B c d hs nm l h W hz (he.keep hb) o2 hn
        · intro W hb
          exact fmCheckPlayer_nil A B c d hs nm l h W hz (he.keep hb) o2
      · refine scores_no A B c d hs nm l h w he hf (playerI hs nm l h) hn ?_ ?_ ?_ ?_ ?_ ?_ ?_
        · intro W hb
          exact refPlayer_any A B c d hs nm l h W (hr.keep hbl hb) (fun a ha => Nat.lt_of_lt_of_le (hbl a ha) hb.size) o1 (he.keep hb) o2
        · intro W hb
          have := fmGross_any A B c d hs nm l h W (hr.keep hbl hb) (fun a ha => Nat.lt_of_lt_of_le (hbl a ha) hb.size) o1 (he.keep hb) o2
          rwa [hg] at this
        · intro W hb
          exact fmNets_no A B c d hs nm l h W (hr.keep hbl hb) (fun a ha => Nat.lt_of_lt_of_le (hbl a ha) hb.size) o1 (he.keep hb) o2 hn
        · intro W hb
          have := fmScore_any A B c d hs nm l h W (hr.keep hbl hb) (fun a ha => Nat.lt_of_lt_of_le (hbl a ha) hb.size) o1 (he.keep hb) o2
          rwa [hs2] at this
        · intro W hb
          exact fmPoints_no A B c d hs nm l h W (hr.keep hbl hb) (fun a ha => Nat.lt_of_lt_of_le (hbl a ha) hb.size) o1 (he.keep hb) o2 hn
        · intro W hb
          exact fmAgainst_no A B c d hs nm l h W (hr.keep hbl hb) (fun a ha => Nat.lt_of_lt_of_le (hbl a ha) hb.size) o1 (he.keep hb) o2 hn
        · intro W hb
          exact fmCheckPlayer_any A B c d hs nm l h W (hr.keep hbl hb) (fun a ha => Nat.lt_of_lt_of_le (hbl a ha) hb.size) o1 (he.keep hb) o2
end Go.Proofs.YtndalbcmmdinhaaGreatDoor
