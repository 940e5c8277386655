/- FormatMatches: the law's walk, its ways. -/
import Derived.Test.YthcohhphdcmkcaaGreatDoorMatA
import Derived.Test.YthcohhphdcmkcaaGreatDoorMatN
import Derived.Test.YthcohhphdcmkcaaGreatDoorSumA
import Derived.Test.YthcohhphdcmkcaaGreatDoorMgH
import Derived.Test.YthcohhphdcmkcaaGreatDoorAwkD
import Derived.Deep.RegionHeld3
import Derived.Deep.DeepCutAuto
import Derived.Deep.CutBlock
import Derived.Outline
set_option linter.unusedVariables false
set_option linter.unusedSimpArgs false
namespace Go.Proofs.YthcohhphdcmkcaaGreatDoor
open Go.RowKit

set_option maxHeartbeats 400000 in
theorem lawWhen_any (b : Bool) (n : Int) (w : World) :
    Calls Tryz.prog 10 #[.bool b, .int .i64 n] w fun e w' => e = .returned (.int .i64 (unlessI (!b) n)) ∧ w = w' := by
  cases b
  all_goals
    go_enter Tryz.func10, Tryz.ntmps10
    go_wp2
    go_ret
    exact ⟨rfl, rfl⟩

set_option maxHeartbeats 400000 in
theorem lawFirst_any (A : Option Addr) (c : Nat) (xs : List Int) (w : World) (hl : xs.length ≤ 4611686018427387904) (h : Ints w A xs) :
    Calls Tryz.prog 8 #[.slice A xs.length c] w fun e w' => e = .returned (.int .i64 (firstI xs)) ∧ w = w' := by
  have H := Lib.hid h
  clear h
  go_enter Tryz.func8, Tryz.ntmps8
  go_wp2
  go_loop [7] (fun i => ∃ k : Nat, k ≤ xs.length ∧ i = .int .i64 k ∧ firstI (xs.drop k) = firstI xs) (fun i => xs.length - (intOf i).toNat)
  case atStart => exact ⟨0, Nat.zero_le _, rfl, rfl⟩
  case round =>
    obtain ⟨k, hk, rfl, hd⟩ := hrel
    have HD := Lib.hid hd
    clear hd
    by_cases hlt : k < xs.length
    · obtain ⟨a, rfl, hc⟩ := H.out k hlt
      have hs := Lib.hid (firstI_drop xs k hlt)
      generalize xs.getD k 0 = x at hc hs
      by_cases hx : x = 0
      · subst hx
        go_wp2
        go_round
        case rel => exact ⟨k + 1, by omega, by go_num, by have := hs.out; simp at this; rw [← this]; exact HD.out⟩
        case measure => simp [intOf]; omega
      · have hxb : (x != 0) = true := by simpa using hx
        go_wp2
        go_ret
        have := hs.out
        rw [if_neg hx] at this
        exact ⟨by rw [← this, HD.out]; rfl, rfl⟩
    · have : k = xs.length := by omega
      go_wp2
      go_ret
      have hd := HD.out
      rw [List.drop_eq_nil_of_le (by omega)] at hd
      exact ⟨by rw [← hd]; rfl, rfl⟩

theorem name_eq (m n : ByteArray) : (m.toList == n.toList) = decide (m = n) := by
  by_cases g : m = n
  · subst g
    rw [decide_eq_true rfl]
    exact beq_self_eq_true _
  · rw [decide_eq_false g, beq_eq_false_iff_ne]
    intro h
    have h9 : m.data.toList = n.data.toList := by rw [← Lib.toList_data, ← Lib.toList_data, h]
    exact g (by rw [← Lib.mk_data m, ← Lib.mk_data n, h9])
/-- Both players in the law's boxes, and as those of the reference; all below two worlds. -/
def HeldX (x y g : Nat) (a b : Pl) (A B : Option Addr) (c d : Nat) (w w0 W : World) : Prop :=
  BlkV W x 30 #[.string a.nm, .slice A a.l.length c, .int .i64 a.h] ∧ BlkV W y 30 #[.string b.nm, .slice B b.l.length d, .int .i64 b.h] ∧ HeldAB g a b A B c d w W ∧ Below w0.heap.size w0 W
theorem HeldX.below {x y g : Nat} {a b : Pl} {A B : Option Addr} {c d : Nat} {w w0 W W' : World} (h : HeldX x y g a b A B c d w w0 W) (hb : Below W.heap.size W W') : HeldX x y g a b A B c d w w0 W' :=
  ⟨h.1.below hb h.1.lt, h.2.1.below hb h.2.1.lt, h.2.2.1.below hb, h.2.2.2.trans (hb.mono h.2.2.2.size)⟩
theorem HeldX.base {x y g : Nat} {a b : Pl} {A B : Option Addr} {c d : Nat} {w w0 W : World} (h : HeldX x y g a b A B c d w w0 W) : HeldX x y g a b A B c d w W W :=
  ⟨h.1, h.2.1, h.2.2.1, Below.refl _ _⟩
theorem HeldX.s9 {x y g : Nat} {a b : Pl} {A B : Option Addr} {c d : Nat} {w w0 W : World} (h : HeldX x y g a b A B c d w w0 W) :
    W.cell? ⟨x, 0, none⟩ = some (.string a.nm) ∧ W.cell? ⟨x, 1, none⟩ = some (.slice A a.l.length c) ∧ W.cell? ⟨x, 2, none⟩ = some (.int .i64 a.h) ∧
    W.cell? ⟨y, 0, none⟩ = some (.string b.nm) ∧ W.cell? ⟨y, 1, none⟩ = some (.slice B b.l.length d) ∧ W.cell? ⟨y, 2, none⟩ = some (.int .i64 b.h) ∧
    W.cell? ⟨g, 0, none⟩ = some (.string a.nm) ∧ W.cell? ⟨g + 1, 0, none⟩ = some (.string b.nm) ∧ Hid (HeldX x y g a b A B c d w w0 W) :=
  ⟨h.1.cell 0, h.1.cell 1, h.1.cell 2, h.2.1.cell 0, h.2.1.cell 1, h.2.1.cell 2, h.2.2.1.1.cell 0, h.2.2.1.2.1.cell 0, Lib.hid h⟩
theorem heldX9 {C1 C2 C3 C4 C5 C6 C7 C8 : Prop} {x y g : Nat} {a b : Pl} {A B : Option Addr} {c d : Nat} {w w0 W : World} (h : C1 ∧ C2 ∧ C3 ∧ C4 ∧ C5 ∧ C6 ∧ C7 ∧ C8 ∧ Hid (HeldX x y g a b A B c d w w0 W)) : HeldX x y g a b A B c d w w0 W := h.2.2.2.2.2.2.2.2.out
theorem HeldX.low {x y g : Nat} {a b : Pl} {A B : Option Addr} {c d : Nat} {w w0 W : World} (h : HeldX x y g a b A B c d w w0 W) : Below w.heap.size w W := h.2.2.1.2.2


set_option maxRecDepth 100000 in
set_option maxHeartbeats 16000000 in
theorem matches_many (H A B : Option Addr) (ch c d : Nat) (hs : List (Int × Int)) (a b : Pl) (w : World) (ha : EntriesR w A a.l) (hb : EntriesR w B b.l) (hf : fewB hs.length [a, b] = false) :
    Calls Tryz.prog 3 #[.slice H hs.length ch, .agg #[.string a.nm, .slice A a.l.length c, .int .i64 a.h], .agg #[.string b.nm, .slice B b.l.length d, .int .i64 b.h]] w fun e w' => e = .returned (.bool true) ∧ Below w.heap.size w w' := by
  have HA := Lib.hid ha
  have HB := Lib.hid hb
  have HF := Lib.hid hf
  clear ha hb hf
  go_enter Tryz.func3, Tryz.ntmps3
  go_wp2_with fail
  generalize hW1 : ((w.alloc (.cells #[.string a.nm, .slice A a.l.length c, .int .i64 a.h] 27)).alloc (.cells #[.string b.nm, .slice B b.l.length d, .int .i64 b.h] 27)).alloc (.cells #[.string a.nm, .slice A a.l.length c, .int .i64 a.h, .string b.nm, .slice B b.l.length d, .int .i64 b.h] 27) = w1
  obtain ⟨a1, a2, a3, a4, a5⟩ := three_allocs w _ _ _ _ _ _ hW1
  have HAB1 : Hid (HeldAB w.heap.size a b A B c d w w1) := Lib.hid ⟨a1, a2, a4⟩
  refine (few_any _ _ 2 ch hs.length [a, b] w1 (PlayersR.two a3 (HA.out.keep a4) (HB.out.keep a4)) (by simp)).mono ?_
  rintro e w2 ⟨rfl, hb2⟩
  rw [HF.out]
  have HAB2 := Lib.hid (HAB1.out.below hb2)
  clear hW1 a1 a2 a3 a4 a5 hb2 HAB1
  go_wp2_with fail
  refine (awake_any _).mono ?_
  rintro e wz ⟨rfl, hbz⟩
  have HBZ := Lib.hid (HAB2.out.2.2.trans (hbz.mono HAB2.out.2.2.size))
  clear hbz
  go_wp2
  go_ret
  exact ⟨rfl, HBZ.out⟩


set_option maxRecDepth 100000 in
set_option maxHeartbeats 16000000 in
theorem matches_no (H A B : Option Addr) (ch c d : Nat) (hs : List (Int × Int)) (a b : Pl) (w : World) (ha : EntriesR w A a.l) (hb : EntriesR w B b.l) (hf : fewB hs.length [a, b] = true) (pa pb q : Int) (hq : firstI [pa, pb, unlessI (!decide (a.nm = b.nm)) 9] = q)
    (kA : ∀ W, Below w.heap.size w W → Calls Tryz.prog 9 #[.slice H hs.length ch, .agg #[.string a.nm, .slice A a.l.length c, .int .i64 a.h]] W fun e w' => e = .returned (.int .i64 pa) ∧ Below W.heap.size W w')
    (kB : ∀ W, Below w.heap.size w W → Calls Tryz.prog 9 #[.slice H hs.length ch, .agg #[.string b.nm, .slice B b.l.length d, .int .i64 b.h]] W fun e w' => e = .returned (.int .i64 pb) ∧ Below W.heap.size W w')
    (hq0 : q ≠ 0)
    (kM : ∀ W, Below w.heap.size w W → Calls Tryz.prog 7 #[.slice H hs.length ch, .agg #[.string a.nm, .slice A a.l.length c, .int .i64 a.h], .agg #[.string b.nm, .slice B b.l.length d, .int .i64 b.h]] W fun e w' => e = .returned (.tuple #[.slice none 0 0, .int .i64 q]) ∧ Below W.heap.size W w') :
    Calls Tryz.prog 3 #[.slice H hs.length ch, .agg #[.string a.nm, .slice A a.l.length c, .int .i64 a.h], .agg #[.string b.nm, .slice B b.l.length d, .int .i64 b.h]] w fun e w' => e = .returned (.bool true) ∧ Below w.heap.size w w' := by
  have HA := Lib.hid ha
  have HB := Lib.hid hb
  have HF := Lib.hid hf
  have HCA := Lib.hid kA
  have HCB := Lib.hid kB
  have HMT := Lib.hid kM
  have HQ := Lib.hid hq
  have hqq := beq_self_eq_true q
  have hqz : (q == 0) = false := beq_eq_false_iff_ne.2 hq0
  clear hq0
  clear ha hb hf kA kB kM hq
  have he2 := name_eq a.nm b.nm
  generalize decide (a.nm = b.nm) = eqb at he2 HQ
  go_enter Tryz.func3, Tryz.ntmps3
  go_wp2_with fail
  generalize hW1 : ((w.alloc (.cells #[.string a.nm, .slice A a.l.length c, .int .i64 a.h] 27)).alloc (.cells #[.string b.nm, .slice B b.l.length d, .int .i64 b.h] 27)).alloc (.cells #[.string a.nm, .slice A a.l.length c, .int .i64 a.h, .string b.nm, .slice B b.l.length d, .int .i64 b.h] 27) = w1
  obtain ⟨a1, a2, a3, a4, a5⟩ := three_allocs w _ _ _ _ _ _ hW1
  have HAB1 : Hid (HeldAB w.heap.size a b A B c d w w1) := Lib.hid ⟨a1, a2, a4⟩
  refine (few_any _ _ 2 ch hs.length [a, b] w1 (PlayersR.two a3 (HA.out.keep a4) (HB.out.keep a4)) (by simp)).mono ?_
  rintro e w2 ⟨rfl, hb2⟩
  rw [HF.out]
  have HAB2 := Lib.hid (HAB1.out.below hb2)
  clear hW1 a1 a2 a3 a4 a5 hb2 HAB1
  obtain ⟨k0, k1, k2, k3, k4, k5, _⟩ := HAB2.out.s6
  have hz1 : w.heap.size + 1 < w2.heap.size := HAB2.out.2.1.lt
  have hz0 : w.heap.size < w2.heap.size := HAB2.out.1.lt
  go_upto_region 3 with fail
  go_cut [7, 8] (fun p7 p8 wx => ∃ x y, p7 = .pointer (some ⟨x, 0, none⟩) ∧ p8 = .pointer (some ⟨y, 0, none⟩) ∧ HeldX x y w.heap.size a b A B c d w w2 wx)
  case first =>
    go_region
    all_goals
      go_wp2_with fail
      go_meet
      first
        | (obtain ⟨m1, m2, m3, _⟩ := two_allocs w2 30 30 #[.string a.nm, .slice A a.l.length c, .int .i64 a.h] #[.string b.nm, .slice B b.l.length d, .int .i64 b.h] rfl
           exact ⟨_, _, rfl, rfl, m1.drew, m2.drew, (HAB2.out.below m3).below (Below.refl _ _).drew, m3.drew⟩)
        | (obtain ⟨m1, m2, m3, _⟩ := two_allocs w2 30 30 #[.string b.nm, .slice B b.l.length d, .int .i64 b.h] #[.string a.nm, .slice A a.l.length c, .int .i64 a.h] rfl
           exact ⟨_, _, rfl, rfl, m2.drew, m1.drew, (HAB2.out.below m3).below (Below.refl _ _).drew, m3.drew⟩)
  case rest =>
    obtain ⟨x, y, rfl, rfl, hx⟩ := hcut
    have HX := Lib.hid hx
    clear hx hz0 hz1 k0 k1 k2 k3 k4 k5 HAB2
    obtain ⟨k0, k1, k2, k3, k4, k5, _⟩ := HX.out.2.2.1.s6
    go_wp2_with fail
    refine (HMT.out wc HX.out.low).mono ?_
    rintro e w4 ⟨rfl, hb4⟩
    have HX4 := Lib.hid (HX.out.below hb4).base
    clear hb4 HMT HX k0 k1 k2 k3 k4 k5
    obtain ⟨k0, k1, k2, k3, k4, k5, k6, k7, _⟩ := HX4.out.s9
    go_upto_region 5 with fail
    go_cut [11] (fun v wx => v = .int .i64 q ∧ HeldX x y w.heap.size a b A B c d w w4 wx)
    case first =>
      go_region_held3 (fun W => W.cell? ⟨x, 0, none⟩ = some (.string a.nm) ∧ W.cell? ⟨x, 1, none⟩ = some (.slice A a.l.length c) ∧ W.cell? ⟨x, 2, none⟩ = some (.int .i64 a.h) ∧ W.cell? ⟨y, 0, none⟩ = some (.string b.nm) ∧ W.cell? ⟨y, 1, none⟩ = some (.slice B b.l.length d) ∧ W.cell? ⟨y, 2, none⟩ = some (.int .i64 b.h) ∧ W.cell? ⟨w.heap.size, 0, none⟩ = some (.string a.nm) ∧ W.cell? ⟨w.heap.size + 1, 0, none⟩ = some (.string b.nm) ∧ Hid (HeldX x y w.heap.size a b A B c d w w4 W))
        ((first | with_reducible assumption | exact (HeldX.below (heldX9 (by with_reducible assumption)) hb5).s9 | exact (HeldX.below (heldX9 (by with_reducible assumption)) hb6).s9 | exact (HeldX.below (heldX9 (by with_reducible assumption)) ((Below.refl _ _).alloc (Nat.le_refl _) _)).s9 | exact (HeldX.below HX4.out (Below.refl _ _).drew).s9))
        (first
          | (go_at_call 9; (with_reducible refine (HCA.out _ (heldX9 (by with_reducible assumption)).low).mono ?_); rintro e w5 ⟨rfl, hb5⟩)
          | (go_at_call 9; (with_reducible refine (HCB.out _ (heldX9 (by with_reducible assumption)).low).mono ?_); rintro e w6 ⟨rfl, hb6⟩)
          | (go_at_call 10; (with_reducible refine (lawWhen_any _ _ _).mono ?_); rintro e w7 ⟨rfl, rfl⟩)
          | (go_at_call 8; refine (lawFirst_any _ _ [_, _, _] _ (by simp) (Ints.three _ _ _ _ _ _ rfl)).mono ?_; rintro e w8 ⟨rfl, rfl⟩))
      all_goals
        go_wp2_with fail
        go_meet
        exact ⟨by rw [HQ.out], heldX9 (by with_reducible assumption)⟩
    case rest =>
      rename_i wd
      obtain ⟨rfl, hx5⟩ := hcut
      have HX5 := Lib.hid hx5
      clear hx5 k0 k1 k2 k3 k4 k5 k6 k7 HCA HCB HQ
      go_wp2_with fail
      refine (lawStates_any none 0 [] _ (fun j hj => absurd hj (Nat.not_lt_zero _)) (by simp)).mono ?_
      rintro e w9 ⟨v9, rfl, ho9, hb9⟩
      obtain ⟨A9, c9, rfl, hs9⟩ := ho9.states
      have HS9 := Lib.hid hs9
      have HB9 := Lib.hid (HX5.out.low.trans (hb9.mono HX5.out.low.size))
      clear ho9 hs9 hb9
      go_wp2_with fail
      refine (sameStates_any A9 none c9 0 [] _ HS9.out (fun j hj => absurd hj (Nat.not_lt_zero _)) (by simp)).mono ?_
      rintro e wy ⟨rfl, hby⟩
      have HBY := Lib.hid (HB9.out.trans (hby.mono HB9.out.size))
      clear hby
      go_wp2_with fail
      refine (awake_any _).mono ?_
      rintro e wz ⟨rfl, hbz⟩
      have HBZ := Lib.hid (HBY.out.trans (hbz.mono HBY.out.size))
      clear hbz
      go_wp2
      go_ret
      exact ⟨rfl, HBZ.out⟩


set_option maxRecDepth 100000 in
set_option maxHeartbeats 16000000 in
theorem matches_yes (H A B : Option Addr) (ch c d : Nat) (hs : List (Int × Int)) (a b : Pl) (w : World) (ha : EntriesR w A a.l) (hb : EntriesR w B b.l) (hf : fewB hs.length [a, b] = true) (pa pb q : Int) (hq : firstI [pa, pb, unlessI (!decide (a.nm = b.nm)) 9] = q)
    (kA : ∀ W, Below w.heap.size w W → Calls Tryz.prog 9 #[.slice H hs.length ch, .agg #[.string a.nm, .slice A a.l.length c, .int .i64 a.h]] W fun e w' => e = .returned (.int .i64 pa) ∧ Below W.heap.size W w')
    (kB : ∀ W, Below w.heap.size w W → Calls Tryz.prog 9 #[.slice H hs.length ch, .agg #[.string b.nm, .slice B b.l.length d, .int .i64 b.h]] W fun e w' => e = .returned (.int .i64 pb) ∧ Below W.heap.size W w')
    (hq0 : q = 0) (na nb : List (Int × ByteArray)) (hab : na.length = nb.length) (hnl : na.length ≤ 36) (fa : ∀ e ∈ na, fineN e) (fb : ∀ e ∈ nb, fineN e) (hsl : (statesL na nb).length ≤ 36)
    (kM : ∀ W, Below w.heap.size w W → Calls Tryz.prog 7 #[.slice H hs.length ch, .agg #[.string a.nm, .slice A a.l.length c, .int .i64 a.h], .agg #[.string b.nm, .slice B b.l.length d, .int .i64 b.h]] W (MatchOut (statesL na nb) W))
    (kNA : ∀ W, Below w.heap.size w W → Calls Tryz.prog 12 #[.slice H hs.length ch, .agg #[.string a.nm, .slice A a.l.length c, .int .i64 a.h]] W fun e w' => ∃ v, e = .returned v ∧ PairsOwn w' W.heap.size 84 v na ∧ Below W.heap.size W w')
    (kNB : ∀ W, Below w.heap.size w W → Calls Tryz.prog 12 #[.slice H hs.length ch, .agg #[.string b.nm, .slice B b.l.length d, .int .i64 b.h]] W fun e w' => ∃ v, e = .returned v ∧ PairsOwn w' W.heap.size 84 v nb ∧ Below W.heap.size W w') :
    Calls Tryz.prog 3 #[.slice H hs.length ch, .agg #[.string a.nm, .slice A a.l.length c, .int .i64 a.h], .agg #[.string b.nm, .slice B b.l.length d, .int .i64 b.h]] w fun e w' => e = .returned (.bool true) ∧ Below w.heap.size w w' := by
  have HA := Lib.hid ha
  have HB := Lib.hid hb
  have HF := Lib.hid hf
  have HCA := Lib.hid kA
  have HCB := Lib.hid kB
  have HMT := Lib.hid kM
  have HQ := Lib.hid hq
  have HNA := Lib.hid kNA
  have HNB := Lib.hid kNB
  have HAB := Lib.hid hab
  have HFA := Lib.hid fa
  have HFB := Lib.hid fb
  have HSL := Lib.hid hsl
  have HNL := Lib.hid hnl
  subst hq0
  clear kNA kNB hab fa fb hsl hnl
  clear ha hb hf kA kB kM hq
  have he2 := name_eq a.nm b.nm
  generalize decide (a.nm = b.nm) = eqb at he2 HQ
  go_enter Tryz.func3, Tryz.ntmps3
  go_wp2_with fail
  generalize hW1 : ((w.alloc (.cells #[.string a.nm, .slice A a.l.length c, .int .i64 a.h] 27)).alloc (.cells #[.string b.nm, .slice B b.l.length d, .int .i64 b.h] 27)).alloc (.cells #[.string a.nm, .slice A a.l.length c, .int .i64 a.h, .string b.nm, .slice B b.l.length d, .int .i64 b.h] 27) = w1
  obtain ⟨a1, a2, a3, a4, a5⟩ := three_allocs w _ _ _ _ _ _ hW1
  have HAB1 : Hid (HeldAB w.heap.size a b A B c d w w1) := Lib.hid ⟨a1, a2, a4⟩
  refine (few_any _ _ 2 ch hs.length [a, b] w1 (PlayersR.two a3 (HA.out.keep a4) (HB.out.keep a4)) (by simp)).mono ?_
  rintro e w2 ⟨rfl, hb2⟩
  rw [HF.out]
  have HAB2 := Lib.hid (HAB1.out.below hb2)
  clear hW1 a1 a2 a3 a4 a5 hb2 HAB1
  obtain ⟨k0, k1, k2, k3, k4, k5, _⟩ := HAB2.out.s6
  have hz1 : w.heap.size + 1 < w2.heap.size := HAB2.out.2.1.lt
  have hz0 : w.heap.size < w2.heap.size := HAB2.out.1.lt
  go_upto_region 3 with fail
  go_cut [7, 8] (fun p7 p8 wx => ∃ x y, p7 = .pointer (some ⟨x, 0, none⟩) ∧ p8 = .pointer (some ⟨y, 0, none⟩) ∧ HeldX x y w.heap.size a b A B c d w w2 wx)
  case first =>
    go_region
    all_goals
      go_wp2_with fail
      go_meet
      first
        | (obtain ⟨m1, m2, m3, _⟩ := two_allocs w2 30 30 #[.string a.nm, .slice A a.l.length c, .int .i64 a.h] #[.string b.nm, .slice B b.l.length d, .int .i64 b.h] rfl
           exact ⟨_, _, rfl, rfl, m1.drew, m2.drew, (HAB2.out.below m3).below (Below.refl _ _).drew, m3.drew⟩)
        | (obtain ⟨m1, m2, m3, _⟩ := two_allocs w2 30 30 #[.string b.nm, .slice B b.l.length d, .int .i64 b.h] #[.string a.nm, .slice A a.l.length c, .int .i64 a.h] rfl
           exact ⟨_, _, rfl, rfl, m2.drew, m1.drew, (HAB2.out.below m3).below (Below.refl _ _).drew, m3.drew⟩)
  case rest =>
    obtain ⟨x, y, rfl, rfl, hx⟩ := hcut
    have HX := Lib.hid hx
    clear hx hz0 hz1 k0 k1 k2 k3 k4 k5 HAB2
    obtain ⟨k0, k1, k2, k3, k4, k5, _⟩ := HX.out.2.2.1.s6
    go_wp2_with fail
    refine (HMT.out wc HX.out.low).mono ?_
    rintro e w4 ⟨A4, c4, rfl, hst, _, hb4⟩
    have HST := Lib.hid hst
    clear hst
    have HX4 := Lib.hid (HX.out.below hb4).base
    clear hb4 HMT HX k0 k1 k2 k3 k4 k5
    obtain ⟨k0, k1, k2, k3, k4, k5, k6, k7, _⟩ := HX4.out.s9
    go_upto_region 5 with fail
    go_cut [11] (fun v wx => v = .int .i64 0 ∧ HeldX x y w.heap.size a b A B c d w w4 wx)
    case first =>
      go_region_held3 (fun W => W.cell? ⟨x, 0, none⟩ = some (.string a.nm) ∧ W.cell? ⟨x, 1, none⟩ = some (.slice A a.l.length c) ∧ W.cell? ⟨x, 2, none⟩ = some (.int .i64 a.h) ∧ W.cell? ⟨y, 0, none⟩ = some (.string b.nm) ∧ W.cell? ⟨y, 1, none⟩ = some (.slice B b.l.length d) ∧ W.cell? ⟨y, 2, none⟩ = some (.int .i64 b.h) ∧ W.cell? ⟨w.heap.size, 0, none⟩ = some (.string a.nm) ∧ W.cell? ⟨w.heap.size + 1, 0, none⟩ = some (.string b.nm) ∧ Hid (HeldX x y w.heap.size a b A B c d w w4 W))
        ((first | with_reducible assumption | exact (HeldX.below (heldX9 (by with_reducible assumption)) hb5).s9 | exact (HeldX.below (heldX9 (by with_reducible assumption)) hb6).s9 | exact (HeldX.below (heldX9 (by with_reducible assumption)) ((Below.refl _ _).alloc (Nat.le_refl _) _)).s9 | exact (HeldX.below HX4.out (Below.refl _ _).drew).s9))
        (first
          | (go_at_call 9; (with_reducible refine (HCA.out _ (heldX9 (by with_reducible assumption)).low).mono ?_); rintro e w5 ⟨rfl, hb5⟩)
          | (go_at_call 9; (with_reducible refine (HCB.out _ (heldX9 (by with_reducible assumption)).low).mono ?_); rintro e w6 ⟨rfl, hb6⟩)
          | (go_at_call 10; (with_reducible refine (lawWhen_any _ _ _).mono ?_); rintro e w7 ⟨rfl, rfl⟩)
          | (go_at_call 8; refine (lawFirst_any _ _ [_, _, _] _ (by simp) (Ints.three _ _ _ _ _ _ rfl)).mono ?_; rintro e w8 ⟨rfl, rfl⟩))
      all_goals
        go_wp2_with fail
        go_meet
        exact ⟨by rw [HQ.out], heldX9 (by with_reducible assumption)⟩
    case rest =>
      rename_i wd
      obtain ⟨rfl, hx5⟩ := hcut
      have HX5 := Lib.hid hx5
      clear hx5 k0 k1 k2 k3 k4 k5 k6 k7 HCA HCB HQ
      have HST5 := Lib.hid (HST.out.keep HX5.out.2.2.2)
      obtain ⟨k0, k1, k2, k3, k4, k5, k6, k7, _⟩ := HX5.out.s9
      go_upto_region 8 with fail
      go_cut [12] (fun v wx => ∃ AS cS, v = .slice AS (statesL na nb).length cS ∧ StatesR wx AS (statesL na nb) ∧ HeldX x y w.heap.size a b A B c d w w4 wx)
      case first =>
        go_region_held3 (fun W => W.cell? ⟨x, 0, none⟩ = some (.string a.nm) ∧ W.cell? ⟨x, 1, none⟩ = some (.slice A a.l.length c) ∧ W.cell? ⟨x, 2, none⟩ = some (.int .i64 a.h) ∧ W.cell? ⟨y, 0, none⟩ = some (.string b.nm) ∧ W.cell? ⟨y, 1, none⟩ = some (.slice B b.l.length d) ∧ W.cell? ⟨y, 2, none⟩ = some (.int .i64 b.h) ∧ W.cell? ⟨w.heap.size, 0, none⟩ = some (.string a.nm) ∧ W.cell? ⟨w.heap.size + 1, 0, none⟩ = some (.string b.nm) ∧ Hid (HeldX x y w.heap.size a b A B c d w w4 W))
          ((first | with_reducible assumption | exact (HeldX.below (heldX9 (by with_reducible assumption)) hb5).s9 | exact (HeldX.below (heldX9 (by with_reducible assumption)) hb6).s9 | exact (HeldX.below (heldX9 (by with_reducible assumption)) hb7).s9 | exact (HeldX.below (heldX9 (by with_reducible assumption)) ((Below.refl _ _).alloc (Nat.le_refl _) _)).s9 | exact (HeldX.below HX5.out (Below.refl _ _).drew).s9))
          (first
            | (have _q := HE6.out; go_at_call 12; (with_reducible refine (HNB.out _ (heldX9 (by with_reducible assumption)).low).mono ?_); rintro e w7 ⟨v7, rfl, ho7, hb6⟩; obtain ⟨A7, c7, rfl, he7⟩ := ho7.entries; have HE7 := Lib.hid he7; have HE62 := Lib.hid (HE6.out.keep hb6); clear ho7 he7)
            | (go_at_call 12; (with_reducible refine (HNA.out _ (heldX9 (by with_reducible assumption)).low).mono ?_); rintro e w6 ⟨v6, rfl, ho6, hb5⟩; obtain ⟨A6, c6, rfl, he6⟩ := ho6.entries; have HE6 := Lib.hid he6; clear ho6 he6)
            | (go_at_call 11; refine (refSides_any A6 A7 c6 c7 na nb _ HE62.out HE7.out (by have := HNL.out; omega) HAB.out HFA.out HFB.out).mono ?_; rintro e w8 ⟨v8, rfl, ho8, hb7⟩; obtain ⟨A8, c8, rfl, hs8⟩ := ho8.states; have HS8 := Lib.hid hs8; clear ho8 hs8))
        all_goals
          go_wp2_with fail
          go_meet
          exact ⟨A8, c8, rfl, HS8.out, heldX9 (by with_reducible assumption)⟩
      case rest =>
        obtain ⟨AS, cS, rfl, hss, hx6⟩ := hcut
        have HSS := Lib.hid hss
        have HX6 := Lib.hid hx6
        have HST6 := Lib.hid (HST.out.keep HX6.out.2.2.2)
        clear hss hx6 k0 k1 k2 k3 k4 k5 k6 k7 HNA HNB HST HST5 HX5
        go_wp2_with fail
        refine (lawStates_any A4 c4 (statesL na nb) _ HST6.out (by have := HSL.out; omega)).mono ?_
        rintro e w9 ⟨v9, rfl, ho9, hb9⟩
        obtain ⟨A9, c9, rfl, hs9⟩ := ho9.states
        have HS9 := Lib.hid hs9
        have HSS9 := Lib.hid (HSS.out.keep hb9)
        have HB9 := Lib.hid (HX6.out.low.trans (hb9.mono HX6.out.low.size))
        clear ho9 hs9 hb9
        go_wp2_with fail
        refine (sameStates_any A9 AS c9 cS (statesL na nb) _ HS9.out HSS9.out (by have := HSL.out; omega)).mono ?_
        rintro e wy ⟨rfl, hby⟩
        have HBY := Lib.hid (HB9.out.trans (hby.mono HB9.out.size))
        clear hby
        go_wp2_with fail
        refine (awake_any _).mono ?_
        rintro e wz ⟨rfl, hbz⟩
        have HBZ := Lib.hid (HBY.out.trans (hbz.mono HBY.out.size))
        clear hbz
        go_wp2
        go_ret
        exact ⟨rfl, HBZ.out⟩


theorem matches_any (H A B : Option Addr) (ch c d : Nat) (hs : List (Int × Int)) (a b : Pl) (w : World) (hr : HolesR w H hs) (hbl : hs = [] ∨ ∀ x, H = some x → x.block < w.heap.size) (ha : EntriesR w A a.l) (hb : EntriesR w B b.l) :
    Calls Tryz.prog 3 #[.slice H hs.length ch, .agg #[.string a.nm, .slice A a.l.length c, .int .i64 a.h], .agg #[.string b.nm, .slice B b.l.length d, .int .i64 b.h]] w fun e w' => e = .returned (.bool true) ∧ Below w.heap.size w w' := by
  cases hf : fewB hs.length [a, b]
  · exact matches_many H A B ch c d hs a b w ha hb hf
  · have hb2 : hs.length ≤ 39 ∧ a.l.length ≤ 39 ∧ b.l.length ≤ 39 := by
      unfold fewB shortB at hf
      simp only [List.all_cons, List.all_nil, Bool.and_true, Bool.and_eq_true, decide_eq_true_eq] at hf
      exact ⟨hf.2, hf.1.1.1.2, hf.1.2.1.2⟩
    have o1 : hs.length ≤ 4611686018427387904 := by omega
    have o2 : a.l.length ≤ 4611686018427387904 := by omega
    have o3 : b.l.length ≤ 4611686018427387904 := by omega
    by_cases hn : playersGo hs [] [a, b] = 0
    · obtain ⟨hpa, hpb, _⟩ := playersGo_two hn
      have FA := fit_of hpa
      have FB := fit_of hpb
      have hz := (holesI_zero (player_holes hpa)).2.2.1
      have hne : hs ≠ [] := fun e => by have := FA.pos; rw [e] at this; simp at this
      have hbl2 := hbl.resolve_left hne
      have la : (netsOf hs a.h a.l).length ≤ 36 := by have := FA.netsLen; have := FA.most; have := FA.len; omega
      have lab : (netsOf hs a.h a.l).length = (netsOf hs b.h b.l).length := by have := FA.netsLen; have := FB.netsLen; have := FA.len; have := FB.len; omega
      refine matches_yes H A B ch c d hs a b w ha hb hf (playerI hs a.nm a.l a.h) (playerI hs b.nm b.l b.h) 0 ((players_two hs a b).trans hn) ?_ ?_ rfl (netsOf hs a.h a.l) (netsOf hs b.h b.l) lab la (nets_fine _ _ _) (nets_fine _ _ _) ?_ ?_ ?_ ?_
      · intro W hw
        exact refPlayer_any H A ch c hs a.nm a.l a.h W (hr.keep hbl2 hw) (fun x hx => Nat.lt_of_lt_of_le (hbl2 x hx) hw.size) o1 (ha.keep hw) o2
      · intro W hw
        exact refPlayer_any H B ch d hs b.nm b.l b.h W (hr.keep hbl2 hw) (fun x hx => Nat.lt_of_lt_of_le (hbl2 x hx) hw.size) o1 (hb.keep hw) o3
      · exact Nat.le_trans (states_len _ _) la
      · intro W hw
        exact match_yes H A B ch c d hs a b W (hr.keep hbl2 hw) (fun x hx => Nat.lt_of_lt_of_le (hbl2 x hx) hw.size) (ha.keep hw) (hb.keep hw) hn
      · intro W hw
        exact refNets_any H A ch c hs a.nm a.l a.h W (hr.keep hbl2 hw) (fun x hx => Nat.lt_of_lt_of_le (hbl2 x hx) hw.size) (ha.keep hw) hpa (fun x hx => (hz x hx).2.2)
      · intro W hw
        exact refNets_any H B ch d hs b.nm b.l b.h W (hr.keep hbl2 hw) (fun x hx => Nat.lt_of_lt_of_le (hbl2 x hx) hw.size) (hb.keep hw) hpb (fun x hx => (hz x hx).2.2)
    · rcases hbl with hz | hbl
      · refine matches_no H A B ch c d hs a b w ha hb hf (playerI hs a.nm a.l a.h) (playerI hs b.nm b.l b.h) (playersGo hs [] [a, b]) (players_two hs a b) ?_ ?_ hn ?_
        · intro W hw
          subst hz
          exact refPlayer_nil H A ch c a.nm a.l a.h W
        · intro W hw
          subst hz
          exact refPlayer_nil H B ch d b.nm b.l b.h W
        · intro W hw
          exact match_nil H A B ch c d hs a b W hz (ha.keep hw) (hb.keep hw) o2 o3 hn
      · refine matches_no H A B ch c d hs a b w ha hb hf (playerI hs a.nm a.l a.h) (playerI hs b.nm b.l b.h) (playersGo hs [] [a, b]) (players_two hs a b) ?_ ?_ hn ?_
        · intro W hw
          exact refPlayer_any H A ch c hs a.nm a.l a.h W (hr.keep hbl hw) (fun x hx => Nat.lt_of_lt_of_le (hbl x hx) hw.size) o1 (ha.keep hw) o2
        · intro W hw
          exact refPlayer_any H B ch d hs b.nm b.l b.h W (hr.keep hbl hw) (fun x hx => Nat.lt_of_lt_of_le (hbl x hx) hw.size) o1 (hb.keep hw) o3
        · intro W hw
          exact match_no H A B ch c d hs a b W (hr.keep hbl hw) (fun x hx => Nat.lt_of_lt_of_le (hbl x hx) hw.size) o1 (ha.keep hw) (hb.keep hw) o2 o3 hn
end Go.Proofs.YthcohhphdcmkcaaGreatDoor
