/- FormatHandicaps: the law's walk, its ways. -/
import Derived.Test.YtpdbebjlghihmaaGreatDoorHavC
import Derived.Test.YtpdbebjlghihmaaGreatDoorPreN
import Derived.Test.YtpdbebjlghihmaaGreatDoorAwkD
import Derived.Deep.DeepCutAuto
import Derived.Outline
set_option linter.unusedVariables false
set_option linter.unusedSimpArgs false
namespace Go.Proofs.YtpdbebjlghihmaaGreatDoor
open Go.RowKit

set_option maxHeartbeats 400000 in
theorem lawWhen_any (b : Bool) (n : Int) (w : World) :
    Calls Tryz.prog 12 #[.bool b, .int .i64 n] w fun e w' => e = .returned (.int .i64 (unlessI (!b) n)) ∧ w = w' := by
  cases b
  all_goals
    go_enter Tryz.func12, Tryz.ntmps12
    go_wp2
    go_ret
    exact ⟨rfl, rfl⟩

set_option maxHeartbeats 400000 in
theorem lawFirst_any (A : Option Addr) (c : Nat) (xs : List Int) (w : World) (hl : xs.length ≤ 4611686018427387904) (h : Ints w A xs) :
    Calls Tryz.prog 10 #[.slice A xs.length c] w fun e w' => e = .returned (.int .i64 (firstI xs)) ∧ w = w' := by
  have H := Lib.hid h
  clear h
  go_enter Tryz.func10, Tryz.ntmps10
  go_wp2
  go_loop [7] (fun i => ∃ k : Nat, k ≤ xs.length ∧ i = .int .i64 k ∧ firstI (xs.drop k) = firstI xs) (fun i => xs.length - (intOf i).toNat)
  case atStart => exact ⟨0, Nat.zero_le _, rfl, rfl⟩
  case round =>
    obtain ⟨k, hk, rfl, hd⟩ := hrel
    have HD := Lib.hid hd
    clear hd
    by_cases hlt : k < xs.length
    · obtain ⟨a, rfl, hc⟩ := H.out k hlt
      have hs := Lib.hid (firstI_drop xs k hlt)
      generalize xs.getD k 0 = x at hc hs
      by_cases hx : x = 0
      · subst hx
        go_wp2
        go_round
        case rel => exact ⟨k + 1, by omega, by go_num, by have := hs.out; simp at this; rw [← this]; exact HD.out⟩
        case measure => simp [intOf]; omega
      · have hxb : (x != 0) = true := by simpa using hx
        go_wp2
        go_ret
        have := hs.out
        rw [if_neg hx] at this
        exact ⟨by rw [← this, HD.out]; rfl, rfl⟩
    · have : k = xs.length := by omega
      go_wp2
      go_ret
      have hd := HD.out
      rw [List.drop_eq_nil_of_le (by omega)] at hd
      exact ⟨by rw [← hd]; rfl, rfl⟩



theorem rF_yes {xs : List Int} (h : sharedE 2 xs = 0) : rF xs = (sharedV (hundF xs.length) xs, 0) := by unfold rF; rw [if_pos h]
theorem rF_no {xs : List Int} (h : sharedE 2 xs ≠ 0) : rF xs = (0, sharedE 2 xs) := by unfold rF; rw [if_neg h]
theorem rS_yes {xs : List Int} (h : sharedE 4 xs = 0) : rS xs = (sharedV (hundS xs.length) xs, 0) := by unfold rS; rw [if_pos h]
theorem rS_no {xs : List Int} (h : sharedE 4 xs ≠ 0) : rS xs = (0, sharedE 4 xs) := by unfold rS; rw [if_neg h]
theorem rT_yes {xs : List Int} {n : Int} (h : teamE xs n = 0) : rTeam xs n = (ForMath.sumI ((sortI xs).take n.toNat), 0) := by unfold rTeam; rw [if_pos h]
theorem rT_no {xs : List Int} {n : Int} (h : teamE xs n ≠ 0) : rTeam xs n = (0, teamE xs n) := by unfold rTeam; rw [if_neg h]
theorem when_in (n l : Int) (h1 : ¬ n < 1) (h2 : ¬ l < n) : unlessI true 3 = withinI n 1 l := by unfold unlessI withinI; rw [if_pos (show 1 ≤ n ∧ n ≤ l by omega)]; rfl
theorem when_out (n l : Int) (h : n < 1 ∨ l < n) : unlessI false 3 = withinI n 1 l := by unfold unlessI withinI; rw [if_neg (show ¬ (1 ≤ n ∧ n ≤ l) by omega)]; rfl

set_option maxRecDepth 100000 in
set_option maxHeartbeats 1000000 in
theorem hand_wide (A : Option Addr) (c : Nat) (xs : List Int) (n : Int) (w : World) (hw : (12 < xs.length ∧ xs.length ≤ 200) ∨ 203 < xs.length) :
    Calls Tryz.prog 3 #[.slice A xs.length c, .int .i64 n] w fun e w' => e = .returned (.bool true) ∧ Below w.heap.size w w' := by
  have d1 : decide ((12 : Int) < (xs.length : Int)) = true := decide_eq_true (by omega)
  rcases hw with ⟨h1, h2⟩ | h3
  · have d2 : decide ((xs.length : Int) ≤ 200) = true := decide_eq_true (by omega)
    go_enter Tryz.func3, Tryz.ntmps3
    go_wp2_with fail
    refine (awake_any _).mono ?_
    rintro e wz ⟨rfl, hbz⟩
    have HBZ := Lib.hid hbz
    clear hbz
    go_wp2
    go_ret
    exact ⟨rfl, HBZ.out⟩
  · have d2 : decide ((xs.length : Int) ≤ 200) = false := decide_eq_false (by omega)
    have d3 : decide ((203 : Int) < (xs.length : Int)) = true := decide_eq_true (by omega)
    go_enter Tryz.func3, Tryz.ntmps3
    go_wp2_with fail
    refine (awake_any _).mono ?_
    rintro e wz ⟨rfl, hbz⟩
    have HBZ := Lib.hid hbz
    clear hbz
    go_wp2
    go_ret
    exact ⟨rfl, HBZ.out⟩

set_option maxRecDepth 100000 in
set_option maxHeartbeats 4000000 in
theorem hand_yyy (A : Option Addr) (c : Nat) (xs : List Int) (n : Int) (w : World) (h : IntsAt w w.heap.size A xs) (hL : xs.length ≤ 12) (h2 : sharedE 2 xs = 0) (h4 : sharedE 4 xs = 0) (ht : teamE xs n = 0) :
    Calls Tryz.prog 3 #[.slice A xs.length c, .int .i64 n] w fun e w' => e = .returned (.bool true) ∧ Below w.heap.size w w' := by
  have HI := Lib.hid h
  have HF := Lib.hid (fun W (hb : Below w.heap.size w W) => fmFoursome_any A c xs W (by omega) (h.keep hb))
  have HS := Lib.hid (fun W (hb : Below w.heap.size w W) => fmScramble_any A c xs W (by omega) (h.keep hb))
  have HT := Lib.hid (fun W (hb : Below w.heap.size w W) => fmTeam_any A c xs n W (by omega) (h.keep hb))
  have H2 := Lib.hid (fun W (hb : Below w.heap.size w W) => refHandicaps_any A c W.heap.size xs 2 W (.inl rfl) (h.keep hb) (by omega))
  have H4 := Lib.hid (fun W (hb : Below w.heap.size w W) => refHandicaps_any A c W.heap.size xs 4 W (.inr rfl) (h.keep hb) (by omega))
  have HN := Lib.hid (fun W (hb : Below w.heap.size w W) => refNumbers_any A c W.heap.size xs 200 W (h.keep hb) (by omega))
  rw [rF_yes h2] at HF
  rw [rS_yes h4] at HS
  rw [rT_yes ht] at HT
  rw [h2] at H2
  rw [h4] at H4
  have RF := Lib.hid (fun W (hb : Below w.heap.size w W) => refFoursome_any A c xs W (h.keep hb) h2)
  generalize sharedV (hundF xs.length) xs = vf at HF RF
  have RS := Lib.hid (fun W (hb : Below w.heap.size w W) => refScramble_any A c xs W (h.keep hb) h4)
  generalize sharedV (hundS xs.length) xs = vs at HS RS
  have tz := teamE_zero ht
  have RT := Lib.hid (fun W (hb : Below w.heap.size w W) => by
    have hh := refTeam_any A c n.toNat xs W (h.keep hb) (fun x hx => by have := tz.2.2.1 x hx; omega) (by omega) (by omega) (by omega)
    rw [show ((n.toNat : Nat) : Int) = n by omega] at hh
    exact hh)
  generalize ForMath.sumI ((sortI xs).take n.toNat) = vt at HT RT
  have d4 : decide (n < 1) = false := decide_eq_false (by omega)
  have d5 : decide ((xs.length : Int) < n) = false := decide_eq_false (by omega)
  have HW : Hid (firstI [numsI xs 200, unlessI true 3] = 0) := Lib.hid (by rw [when_in n xs.length (by omega) (by omega)]; exact ht)
  have d1 : decide ((12 : Int) < (xs.length : Int)) = false := decide_eq_false (by omega)
  have d3 : decide ((203 : Int) < (xs.length : Int)) = false := decide_eq_false (by omega)
  clear h h2 h4 ht
  go_enter Tryz.func3, Tryz.ntmps3
  go_wp2_with fail
  refine (HF.out _ (Below.refl _ _)).mono ?_
  rintro e w1 ⟨rfl, hb1⟩
  have HB1 := Lib.hid hb1
  clear hb1
  go_wp2_with fail
  refine (HS.out _ HB1.out).mono ?_
  rintro e w2 ⟨rfl, hb2⟩
  have HB2 := Lib.hid (HB1.out.trans (hb2.mono HB1.out.size))
  clear hb2
  go_wp2_with fail
  refine (HT.out _ HB2.out).mono ?_
  rintro e w3 ⟨rfl, hb3⟩
  have HB3 := Lib.hid (HB2.out.trans (hb3.mono HB2.out.size))
  clear hb3
  go_wp2_with fail
  refine (H2.out _ HB3.out).mono ?_
  rintro e w4 ⟨rfl, rfl⟩
  go_wp2_with fail
  refine (H4.out _ HB3.out).mono ?_
  rintro e w5 ⟨rfl, rfl⟩
  go_wp2_with fail
  refine (HN.out _ HB3.out).mono ?_
  rintro e w6 ⟨rfl, rfl⟩
  go_wp2_with fail
  refine (lawWhen_any false 3 _).mono ?_
  rintro e w7 ⟨rfl, rfl⟩
  go_wp2_with fail
  refine (lawFirst_any _ _ [_, _] _ (by simp) (Ints.two _ _ _ _ _ rfl)).mono ?_
  rintro e w8 ⟨rfl, rfl⟩
  rw [HW.out]
  have HB8 := Lib.hid (HB3.out.alloc HB3.out.size (.cells #[.int .i64 (numsI xs 200), .int .i64 (unlessI true 3)] 3))
  go_wp2_with fail
  refine (RF.out _ HB8.out).mono ?_
  rintro e v0 ⟨rfl, hc0⟩
  have HC0 := Lib.hid (HB8.out.trans (hc0.mono HB8.out.size))
  clear hc0
  go_wp2_with fail
  refine (RS.out _ HC0.out).mono ?_
  rintro e v1 ⟨rfl, hc1⟩
  have HC1 := Lib.hid (HC0.out.trans (hc1.mono HC0.out.size))
  clear hc1
  go_wp2_with fail
  refine (RT.out _ HC1.out).mono ?_
  rintro e v2 ⟨rfl, hc2⟩
  have HC2 := Lib.hid (HC1.out.trans (hc2.mono HC1.out.size))
  clear hc2
  go_wp2_with fail
  refine (awake_any _).mono ?_
  rintro e wz ⟨rfl, hbz⟩
  have HBZ := Lib.hid (HC2.out.trans (hbz.mono HC2.out.size))
  clear hbz
  go_wp2
  go_ret
  exact ⟨rfl, HBZ.out⟩

set_option maxRecDepth 100000 in
set_option maxHeartbeats 4000000 in
theorem hand_yyn (A : Option Addr) (c : Nat) (xs : List Int) (n : Int) (w : World) (h : IntsAt w w.heap.size A xs) (hL : xs.length ≤ 12) (h2 : sharedE 2 xs = 0) (h4 : sharedE 4 xs = 0) (zt : Int) (ht : teamE xs n = zt) (gt : zt ≠ 0) :
    Calls Tryz.prog 3 #[.slice A xs.length c, .int .i64 n] w fun e w' => e = .returned (.bool true) ∧ Below w.heap.size w w' := by
  have HI := Lib.hid h
  have HF := Lib.hid (fun W (hb : Below w.heap.size w W) => fmFoursome_any A c xs W (by omega) (h.keep hb))
  have HS := Lib.hid (fun W (hb : Below w.heap.size w W) => fmScramble_any A c xs W (by omega) (h.keep hb))
  have HT := Lib.hid (fun W (hb : Below w.heap.size w W) => fmTeam_any A c xs n W (by omega) (h.keep hb))
  have H2 := Lib.hid (fun W (hb : Below w.heap.size w W) => refHandicaps_any A c W.heap.size xs 2 W (.inl rfl) (h.keep hb) (by omega))
  have H4 := Lib.hid (fun W (hb : Below w.heap.size w W) => refHandicaps_any A c W.heap.size xs 4 W (.inr rfl) (h.keep hb) (by omega))
  have HN := Lib.hid (fun W (hb : Below w.heap.size w W) => refNumbers_any A c W.heap.size xs 200 W (h.keep hb) (by omega))
  rw [rF_yes h2] at HF
  rw [rS_yes h4] at HS
  rw [rT_no (by rw [ht]; exact gt)] at HT
  rw [h2] at H2
  rw [h4] at H4
  rw [ht] at HT
  have RF := Lib.hid (fun W (hb : Below w.heap.size w W) => refFoursome_any A c xs W (h.keep hb) h2)
  generalize sharedV (hundF xs.length) xs = vf at HF RF
  have RS := Lib.hid (fun W (hb : Below w.heap.size w W) => refScramble_any A c xs W (h.keep hb) h4)
  generalize sharedV (hundS xs.length) xs = vs at HS RS
  have bt : (zt == 0) = false := beq_eq_false_iff_ne.2 gt
  have d1 : decide ((12 : Int) < (xs.length : Int)) = false := decide_eq_false (by omega)
  have d3 : decide ((203 : Int) < (xs.length : Int)) = false := decide_eq_false (by omega)
  have hcase : n < 1 ∨ (¬ n < 1 ∧ (xs.length : Int) < n) ∨ (¬ n < 1 ∧ ¬ (xs.length : Int) < n) := by omega
  rcases hcase with k1 | ⟨k1, k2⟩ | ⟨k1, k2⟩
  · have d4 : decide (n < 1) = true := decide_eq_true k1
    have HW : Hid (firstI [numsI xs 200, unlessI false 3] = zt) := Lib.hid (by rw [when_out n xs.length (.inl k1)]; exact ht)
    clear h h2 h4 ht k1
    go_enter Tryz.func3, Tryz.ntmps3
    go_wp2_with fail
    refine (HF.out _ (Below.refl _ _)).mono ?_
    rintro e w1 ⟨rfl, hb1⟩
    have HB1 := Lib.hid hb1
    clear hb1
    go_wp2_with fail
    refine (HS.out _ HB1.out).mono ?_
    rintro e w2 ⟨rfl, hb2⟩
    have HB2 := Lib.hid (HB1.out.trans (hb2.mono HB1.out.size))
    clear hb2
    go_wp2_with fail
    refine (HT.out _ HB2.out).mono ?_
    rintro e w3 ⟨rfl, hb3⟩
    have HB3 := Lib.hid (HB2.out.trans (hb3.mono HB2.out.size))
    clear hb3
    go_wp2_with fail
    refine (H2.out _ HB3.out).mono ?_
    rintro e w4 ⟨rfl, rfl⟩
    go_wp2_with fail
    refine (H4.out _ HB3.out).mono ?_
    rintro e w5 ⟨rfl, rfl⟩
    go_wp2_with fail
    refine (HN.out _ HB3.out).mono ?_
    rintro e w6 ⟨rfl, rfl⟩
    go_wp2_with fail
    refine (lawWhen_any true 3 _).mono ?_
    rintro e w7 ⟨rfl, rfl⟩
    go_wp2_with fail
    refine (lawFirst_any _ _ [_, _] _ (by simp) (Ints.two _ _ _ _ _ rfl)).mono ?_
    rintro e w8 ⟨rfl, rfl⟩
    rw [HW.out]
    have HB8 := Lib.hid (HB3.out.alloc HB3.out.size (.cells #[.int .i64 (numsI xs 200), .int .i64 (unlessI false 3)] 3))
    go_wp2_with fail
    refine (RF.out _ HB8.out).mono ?_
    rintro e v0 ⟨rfl, hc0⟩
    have HC0 := Lib.hid (HB8.out.trans (hc0.mono HB8.out.size))
    clear hc0
    go_wp2_with fail
    refine (RS.out _ HC0.out).mono ?_
    rintro e v1 ⟨rfl, hc1⟩
    have HC1 := Lib.hid (HC0.out.trans (hc1.mono HC0.out.size))
    clear hc1
    go_wp2_with fail
    refine (awake_any _).mono ?_
    rintro e wz ⟨rfl, hbz⟩
    have HBZ := Lib.hid (HC1.out.trans (hbz.mono HC1.out.size))
    clear hbz
    go_wp2
    go_ret
    exact ⟨rfl, HBZ.out⟩
  · have d4 : decide (n < 1) = false := decide_eq_false k1
    have d5 : decide ((xs.length : Int) < n) = true := decide_eq_true k2
    have HW : Hid (firstI [numsI xs 200, unlessI false 3] = zt) := Lib.hid (by rw [when_out n xs.length (.inr k2)]; exact ht)
    clear h h2 h4 ht k1 k2
    go_enter Tryz.func3, Tryz.ntmps3
    go_wp2_with fail
    refine (HF.out _ (Below.refl _ _)).mono ?_
    rintro e w1 ⟨rfl, hb1⟩
    have HB1 := Lib.hid hb1
    clear hb1
    go_wp2_with fail
    refine (HS.out _ HB1.out).mono ?_
    rintro e w2 ⟨rfl, hb2⟩
    have HB2 := Lib.hid (HB1.out.trans (hb2.mono HB1.out.size))
    clear hb2
    go_wp2_with fail
    refine (HT.out _ HB2.out).mono ?_
    rintro e w3 ⟨rfl, hb3⟩
    have HB3 := Lib.hid (HB2.out.trans (hb3.mono HB2.out.size))
    clear hb3
    go_wp2_with fail
    refine (H2.out _ HB3.out).mono ?_
    rintro e w4 ⟨rfl, rfl⟩
    go_wp2_with fail
    refine (H4.out _ HB3.out).mono ?_
    rintro e w5 ⟨rfl, rfl⟩
    go_wp2_with fail
    refine (HN.out _ HB3.out).mono ?_
    rintro e w6 ⟨rfl, rfl⟩
    go_wp2_with fail
    refine (lawWhen_any true 3 _).mono ?_
    rintro e w7 ⟨rfl, rfl⟩
    go_wp2_with fail
    refine (lawFirst_any _ _ [_, _] _ (by simp) (Ints.two _ _ _ _ _ rfl)).mono ?_
    rintro e w8 ⟨rfl, rfl⟩
    rw [HW.out]
    have HB8 := Lib.hid (HB3.out.alloc HB3.out.size (.cells #[.int .i64 (numsI xs 200), .int .i64 (unlessI false 3)] 3))
    go_wp2_with fail
    refine (RF.out _ HB8.out).mono ?_
    rintro e v0 ⟨rfl, hc0⟩
    have HC0 := Lib.hid (HB8.out.trans (hc0.mono HB8.out.size))
    clear hc0
    go_wp2_with fail
    refine (RS.out _ HC0.out).mono ?_
    rintro e v1 ⟨rfl, hc1⟩
    have HC1 := Lib.hid (HC0.out.trans (hc1.mono HC0.out.size))
    clear hc1
    go_wp2_with fail
    refine (awake_any _).mono ?_
    rintro e wz ⟨rfl, hbz⟩
    have HBZ := Lib.hid (HC1.out.trans (hbz.mono HC1.out.size))
    clear hbz
    go_wp2
    go_ret
    exact ⟨rfl, HBZ.out⟩
  · have d4 : decide (n < 1) = false := decide_eq_false k1
    have d5 : decide ((xs.length : Int) < n) = false := decide_eq_false k2
    have HW : Hid (firstI [numsI xs 200, unlessI true 3] = zt) := Lib.hid (by rw [when_in n xs.length k1 k2]; exact ht)
    clear h h2 h4 ht k1 k2
    go_enter Tryz.func3, Tryz.ntmps3
    go_wp2_with fail
    refine (HF.out _ (Below.refl _ _)).mono ?_
    rintro e w1 ⟨rfl, hb1⟩
    have HB1 := Lib.hid hb1
    clear hb1
    go_wp2_with fail
    refine (HS.out _ HB1.out).mono ?_
    rintro e w2 ⟨rfl, hb2⟩
    have HB2 := Lib.hid (HB1.out.trans (hb2.mono HB1.out.size))
    clear hb2
    go_wp2_with fail
    refine (HT.out _ HB2.out).mono ?_
    rintro e w3 ⟨rfl, hb3⟩
    have HB3 := Lib.hid (HB2.out.trans (hb3.mono HB2.out.size))
    clear hb3
    go_wp2_with fail
    refine (H2.out _ HB3.out).mono ?_
    rintro e w4 ⟨rfl, rfl⟩
    go_wp2_with fail
    refine (H4.out _ HB3.out).mono ?_
    rintro e w5 ⟨rfl, rfl⟩
    go_wp2_with fail
    refine (HN.out _ HB3.out).mono ?_
    rintro e w6 ⟨rfl, rfl⟩
    go_wp2_with fail
    refine (lawWhen_any false 3 _).mono ?_
    rintro e w7 ⟨rfl, rfl⟩
    go_wp2_with fail
    refine (lawFirst_any _ _ [_, _] _ (by simp) (Ints.two _ _ _ _ _ rfl)).mono ?_
    rintro e w8 ⟨rfl, rfl⟩
    rw [HW.out]
    have HB8 := Lib.hid (HB3.out.alloc HB3.out.size (.cells #[.int .i64 (numsI xs 200), .int .i64 (unlessI true 3)] 3))
    go_wp2_with fail
    refine (RF.out _ HB8.out).mono ?_
    rintro e v0 ⟨rfl, hc0⟩
    have HC0 := Lib.hid (HB8.out.trans (hc0.mono HB8.out.size))
    clear hc0
    go_wp2_with fail
    refine (RS.out _ HC0.out).mono ?_
    rintro e v1 ⟨rfl, hc1⟩
    have HC1 := Lib.hid (HC0.out.trans (hc1.mono HC0.out.size))
    clear hc1
    go_wp2_with fail
    refine (awake_any _).mono ?_
    rintro e wz ⟨rfl, hbz⟩
    have HBZ := Lib.hid (HC1.out.trans (hbz.mono HC1.out.size))
    clear hbz
    go_wp2
    go_ret
    exact ⟨rfl, HBZ.out⟩

set_option maxRecDepth 100000 in
set_option maxHeartbeats 4000000 in
theorem hand_nyy (A : Option Addr) (c : Nat) (xs : List Int) (n : Int) (w : World) (h : IntsAt w w.heap.size A xs) (hL : xs.length ≤ 12) (z2 : Int) (h2 : sharedE 2 xs = z2) (g2 : z2 ≠ 0) (h4 : sharedE 4 xs = 0) (ht : teamE xs n = 0) :
    Calls Tryz.prog 3 #[.slice A xs.length c, .int .i64 n] w fun e w' => e = .returned (.bool true) ∧ Below w.heap.size w w' := by
  have HI := Lib.hid h
  have HF := Lib.hid (fun W (hb : Below w.heap.size w W) => fmFoursome_any A c xs W (by omega) (h.keep hb))
  have HS := Lib.hid (fun W (hb : Below w.heap.size w W) => fmScramble_any A c xs W (by omega) (h.keep hb))
  have HT := Lib.hid (fun W (hb : Below w.heap.size w W) => fmTeam_any A c xs n W (by omega) (h.keep hb))
  have H2 := Lib.hid (fun W (hb : Below w.heap.size w W) => refHandicaps_any A c W.heap.size xs 2 W (.inl rfl) (h.keep hb) (by omega))
  have H4 := Lib.hid (fun W (hb : Below w.heap.size w W) => refHandicaps_any A c W.heap.size xs 4 W (.inr rfl) (h.keep hb) (by omega))
  have HN := Lib.hid (fun W (hb : Below w.heap.size w W) => refNumbers_any A c W.heap.size xs 200 W (h.keep hb) (by omega))
  rw [rF_no (by rw [h2]; exact g2)] at HF
  rw [rS_yes h4] at HS
  rw [rT_yes ht] at HT
  rw [h2] at H2 HF
  rw [h4] at H4
  have b2 : (z2 == 0) = false := beq_eq_false_iff_ne.2 g2
  have RS := Lib.hid (fun W (hb : Below w.heap.size w W) => refScramble_any A c xs W (h.keep hb) h4)
  generalize sharedV (hundS xs.length) xs = vs at HS RS
  have tz := teamE_zero ht
  have RT := Lib.hid (fun W (hb : Below w.heap.size w W) => by
    have hh := refTeam_any A c n.toNat xs W (h.keep hb) (fun x hx => by have := tz.2.2.1 x hx; omega) (by omega) (by omega) (by omega)
    rw [show ((n.toNat : Nat) : Int) = n by omega] at hh
    exact hh)
  generalize ForMath.sumI ((sortI xs).take n.toNat) = vt at HT RT
  have d4 : decide (n < 1) = false := decide_eq_false (by omega)
  have d5 : decide ((xs.length : Int) < n) = false := decide_eq_false (by omega)
  have HW : Hid (firstI [numsI xs 200, unlessI true 3] = 0) := Lib.hid (by rw [when_in n xs.length (by omega) (by omega)]; exact ht)
  have d1 : decide ((12 : Int) < (xs.length : Int)) = false := decide_eq_false (by omega)
  have d3 : decide ((203 : Int) < (xs.length : Int)) = false := decide_eq_false (by omega)
  clear h h2 h4 ht
  go_enter Tryz.func3, Tryz.ntmps3
  go_wp2_with fail
  refine (HF.out _ (Below.refl _ _)).mono ?_
  rintro e w1 ⟨rfl, hb1⟩
  have HB1 := Lib.hid hb1
  clear hb1
  go_wp2_with fail
  refine (HS.out _ HB1.out).mono ?_
  rintro e w2 ⟨rfl, hb2⟩
  have HB2 := Lib.hid (HB1.out.trans (hb2.mono HB1.out.size))
  clear hb2
  go_wp2_with fail
  refine (HT.out _ HB2.out).mono ?_
  rintro e w3 ⟨rfl, hb3⟩
  have HB3 := Lib.hid (HB2.out.trans (hb3.mono HB2.out.size))
  clear hb3
  go_wp2_with fail
  refine (H2.out _ HB3.out).mono ?_
  rintro e w4 ⟨rfl, rfl⟩
  go_wp2_with fail
  refine (H4.out _ HB3.out).mono ?_
  rintro e w5 ⟨rfl, rfl⟩
  go_wp2_with fail
  refine (HN.out _ HB3.out).mono ?_
  rintro e w6 ⟨rfl, rfl⟩
  go_wp2_with fail
  refine (lawWhen_any false 3 _).mono ?_
  rintro e w7 ⟨rfl, rfl⟩
  go_wp2_with fail
  refine (lawFirst_any _ _ [_, _] _ (by simp) (Ints.two _ _ _ _ _ rfl)).mono ?_
  rintro e w8 ⟨rfl, rfl⟩
  rw [HW.out]
  have HB8 := Lib.hid (HB3.out.alloc HB3.out.size (.cells #[.int .i64 (numsI xs 200), .int .i64 (unlessI true 3)] 3))
  go_wp2_with fail
  refine (RS.out _ HB8.out).mono ?_
  rintro e v1 ⟨rfl, hc1⟩
  have HC1 := Lib.hid (HB8.out.trans (hc1.mono HB8.out.size))
  clear hc1
  go_wp2_with fail
  refine (RT.out _ HC1.out).mono ?_
  rintro e v2 ⟨rfl, hc2⟩
  have HC2 := Lib.hid (HC1.out.trans (hc2.mono HC1.out.size))
  clear hc2
  go_wp2_with fail
  refine (awake_any _).mono ?_
  rintro e wz ⟨rfl, hbz⟩
  have HBZ := Lib.hid (HC2.out.trans (hbz.mono HC2.out.size))
  clear hbz
  go_wp2
  go_ret
  exact ⟨rfl, HBZ.out⟩

set_option maxRecDepth 100000 in
set_option maxHeartbeats 4000000 in
theorem hand_nyn (A : Option Addr) (c : Nat) (xs : List Int) (n : Int) (w : World) (h : IntsAt w w.heap.size A xs) (hL : xs.length ≤ 12) (z2 : Int) (h2 : sharedE 2 xs = z2) (g2 : z2 ≠ 0) (h4 : sharedE 4 xs = 0) (zt : Int) (ht : teamE xs n = zt) (gt : zt ≠ 0) :
    Calls Tryz.prog 3 #[.slice A xs.length c, .int .i64 n] w fun e w' => e = .returned (.bool true) ∧ Below w.heap.size w w' := by
  have HI := Lib.hid h
  have HF := Lib.hid (fun W (hb : Below w.heap.size w W) => fmFoursome_any A c xs W (by omega) (h.keep hb))
  have HS := Lib.hid (fun W (hb : Below w.heap.size w W) => fmScramble_any A c xs W (by omega) (h.keep hb))
  have HT := Lib.hid (fun W (hb : Below w.heap.size w W) => fmTeam_any A c xs n W (by omega) (h.keep hb))
  have H2 := Lib.hid (fun W (hb : Below w.heap.size w W) => refHandicaps_any A c W.heap.size xs 2 W (.inl rfl) (h.keep hb) (by omega))
  have H4 := Lib.hid (fun W (hb : Below w.heap.size w W) => refHandicaps_any A c W.heap.size xs 4 W (.inr rfl) (h.keep hb) (by omega))
  have HN := Lib.hid (fun W (hb : Below w.heap.size w W) => refNumbers_any A c W.heap.size xs 200 W (h.keep hb) (by omega))
  rw [rF_no (by rw [h2]; exact g2)] at HF
  rw [rS_yes h4] at HS
  rw [rT_no (by rw [ht]; exact gt)] at HT
  rw [h2] at H2 HF
  rw [h4] at H4
  rw [ht] at HT
  have b2 : (z2 == 0) = false := beq_eq_false_iff_ne.2 g2
  have RS := Lib.hid (fun W (hb : Below w.heap.size w W) => refScramble_any A c xs W (h.keep hb) h4)
  generalize sharedV (hundS xs.length) xs = vs at HS RS
  have bt : (zt == 0) = false := beq_eq_false_iff_ne.2 gt
  have d1 : decide ((12 : Int) < (xs.length : Int)) = false := decide_eq_false (by omega)
  have d3 : decide ((203 : Int) < (xs.length : Int)) = false := decide_eq_false (by omega)
  have hcase : n < 1 ∨ (¬ n < 1 ∧ (xs.length : Int) < n) ∨ (¬ n < 1 ∧ ¬ (xs.length : Int) < n) := by omega
  rcases hcase with k1 | ⟨k1, k2⟩ | ⟨k1, k2⟩
  · have d4 : decide (n < 1) = true := decide_eq_true k1
    have HW : Hid (firstI [numsI xs 200, unlessI false 3] = zt) := Lib.hid (by rw [when_out n xs.length (.inl k1)]; exact ht)
    clear h h2 h4 ht k1
    go_enter Tryz.func3, Tryz.ntmps3
    go_wp2_with fail
    refine (HF.out _ (Below.refl _ _)).mono ?_
    rintro e w1 ⟨rfl, hb1⟩
    have HB1 := Lib.hid hb1
    clear hb1
    go_wp2_with fail
    refine (HS.out _ HB1.out).mono ?_
    rintro e w2 ⟨rfl, hb2⟩
    have HB2 := Lib.hid (HB1.out.trans (hb2.mono HB1.out.size))
    clear hb2
    go_wp2_with fail
    refine (HT.out _ HB2.out).mono ?_
    rintro e w3 ⟨rfl, hb3⟩
    have HB3 := Lib.hid (HB2.out.trans (hb3.mono HB2.out.size))
    clear hb3
    go_wp2_with fail
    refine (H2.out _ HB3.out).mono ?_
    rintro e w4 ⟨rfl, rfl⟩
    go_wp2_with fail
    refine (H4.out _ HB3.out).mono ?_
    rintro e w5 ⟨rfl, rfl⟩
    go_wp2_with fail
    refine (HN.out _ HB3.out).mono ?_
    rintro e w6 ⟨rfl, rfl⟩
    go_wp2_with fail
    refine (lawWhen_any true 3 _).mono ?_
    rintro e w7 ⟨rfl, rfl⟩
    go_wp2_with fail
    refine (lawFirst_any _ _ [_, _] _ (by simp) (Ints.two _ _ _ _ _ rfl)).mono ?_
    rintro e w8 ⟨rfl, rfl⟩
    rw [HW.out]
    have HB8 := Lib.hid (HB3.out.alloc HB3.out.size (.cells #[.int .i64 (numsI xs 200), .int .i64 (unlessI false 3)] 3))
    go_wp2_with fail
    refine (RS.out _ HB8.out).mono ?_
    rintro e v1 ⟨rfl, hc1⟩
    have HC1 := Lib.hid (HB8.out.trans (hc1.mono HB8.out.size))
    clear hc1
    go_wp2_with fail
    refine (awake_any _).mono ?_
    rintro e wz ⟨rfl, hbz⟩
    have HBZ := Lib.hid (HC1.out.trans (hbz.mono HC1.out.size))
    clear hbz
    go_wp2
    go_ret
    exact ⟨rfl, HBZ.out⟩
  · have d4 : decide (n < 1) = false := decide_eq_false k1
    have d5 : decide ((xs.length : Int) < n) = true := decide_eq_true k2
    have HW : Hid (firstI [numsI xs 200, unlessI false 3] = zt) := Lib.hid (by rw [when_out n xs.length (.inr k2)]; exact ht)
    clear h h2 h4 ht k1 k2
    go_enter Tryz.func3, Tryz.ntmps3
    go_wp2_with fail
    refine (HF.out _ (Below.refl _ _)).mono ?_
    rintro e w1 ⟨rfl, hb1⟩
    have HB1 := Lib.hid hb1
    clear hb1
    go_wp2_with fail
    refine (HS.out _ HB1.out).mono ?_
    rintro e w2 ⟨rfl, hb2⟩
    have HB2 := Lib.hid (HB1.out.trans (hb2.mono HB1.out.size))
    clear hb2
    go_wp2_with fail
    refine (HT.out _ HB2.out).mono ?_
    rintro e w3 ⟨rfl, hb3⟩
    have HB3 := Lib.hid (HB2.out.trans (hb3.mono HB2.out.size))
    clear hb3
    go_wp2_with fail
    refine (H2.out _ HB3.out).mono ?_
    rintro e w4 ⟨rfl, rfl⟩
    go_wp2_with fail
    refine (H4.out _ HB3.out).mono ?_
    rintro e w5 ⟨rfl, rfl⟩
    go_wp2_with fail
    refine (HN.out _ HB3.out).mono ?_
    rintro e w6 ⟨rfl, rfl⟩
    go_wp2_with fail
    refine (lawWhen_any true 3 _).mono ?_
    rintro e w7 ⟨rfl, rfl⟩
    go_wp2_with fail
    refine (lawFirst_any _ _ [_, _] _ (by simp) (Ints.two _ _ _ _ _ rfl)).mono ?_
    rintro e w8 ⟨rfl, rfl⟩
    rw [HW.out]
    have HB8 := Lib.hid (HB3.out.alloc HB3.out.size (.cells #[.int .i64 (numsI xs 200), .int .i64 (unlessI false 3)] 3))
    go_wp2_with fail
    refine (RS.out _ HB8.out).mono ?_
    rintro e v1 ⟨rfl, hc1⟩
    have HC1 := Lib.hid (HB8.out.trans (hc1.mono HB8.out.size))
    clear hc1
    go_wp2_with fail
    refine (awake_any _).mono ?_
    rintro e wz ⟨rfl, hbz⟩
    have HBZ := Lib.hid (HC1.out.trans (hbz.mono HC1.out.size))
    clear hbz
    go_wp2
    go_ret
    exact ⟨rfl, HBZ.out⟩
  · have d4 : decide (n < 1) = false := decide_eq_false k1
    have d5 : decide ((xs.length : Int) < n) = false := decide_eq_false k2
    have HW : Hid (firstI [numsI xs 200, unlessI true 3] = zt) := Lib.hid (by rw [when_in n xs.length k1 k2]; exact ht)
    clear h h2 h4 ht k1 k2
    go_enter Tryz.func3, Tryz.ntmps3
    go_wp2_with fail
    refine (HF.out _ (Below.refl _ _)).mono ?_
    rintro e w1 ⟨rfl, hb1⟩
    have HB1 := Lib.hid hb1
    clear hb1
    go_wp2_with fail
    refine (HS.out _ HB1.out).mono ?_
    rintro e w2 ⟨rfl, hb2⟩
    have HB2 := Lib.hid (HB1.out.trans (hb2.mono HB1.out.size))
    clear hb2
    go_wp2_with fail
    refine (HT.out _ HB2.out).mono ?_
    rintro e w3 ⟨rfl, hb3⟩
    have HB3 := Lib.hid (HB2.out.trans (hb3.mono HB2.out.size))
    clear hb3
    go_wp2_with fail
    refine (H2.out _ HB3.out).mono ?_
    rintro e w4 ⟨rfl, rfl⟩
    go_wp2_with fail
    refine (H4.out _ HB3.out).mono ?_
    rintro e w5 ⟨rfl, rfl⟩
    go_wp2_with fail
    refine (HN.out _ HB3.out).mono ?_
    rintro e w6 ⟨rfl, rfl⟩
    go_wp2_with fail
    refine (lawWhen_any false 3 _).mono ?_
    rintro e w7 ⟨rfl, rfl⟩
    go_wp2_with fail
    refine (lawFirst_any _ _ [_, _] _ (by simp) (Ints.two _ _ _ _ _ rfl)).mono ?_
    rintro e w8 ⟨rfl, rfl⟩
    rw [HW.out]
    have HB8 := Lib.hid (HB3.out.alloc HB3.out.size (.cells #[.int .i64 (numsI xs 200), .int .i64 (unlessI true 3)] 3))
    go_wp2_with fail
    refine (RS.out _ HB8.out).mono ?_
    rintro e v1 ⟨rfl, hc1⟩
    have HC1 := Lib.hid (HB8.out.trans (hc1.mono HB8.out.size))
    clear hc1
    go_wp2_with fail
    refine (awake_any _).mono ?_
    rintro e wz ⟨rfl, hbz⟩
    have HBZ := Lib.hid (HC1.out.trans (hbz.mono HC1.out.size))
    clear hbz
    go_wp2
    go_ret
    exact ⟨rfl, HBZ.out⟩

set_option maxRecDepth 100000 in
set_option maxHeartbeats 4000000 in
theorem hand_nny (A : Option Addr) (c : Nat) (xs : List Int) (n : Int) (w : World) (h : IntsAt w w.heap.size A xs) (hL : xs.length ≤ 12) (z2 : Int) (h2 : sharedE 2 xs = z2) (g2 : z2 ≠ 0) (z4 : Int) (h4 : sharedE 4 xs = z4) (g4 : z4 ≠ 0) (ht : teamE xs n = 0) :
    Calls Tryz.prog 3 #[.slice A xs.length c, .int .i64 n] w fun e w' => e = .returned (.bool true) ∧ Below w.heap.size w w' := by
  have HI := Lib.hid h
  have HF := Lib.hid (fun W (hb : Below w.heap.size w W) => fmFoursome_any A c xs W (by omega) (h.keep hb))
  have HS := Lib.hid (fun W (hb : Below w.heap.size w W) => fmScramble_any A c xs W (by omega) (h.keep hb))
  have HT := Lib.hid (fun W (hb : Below w.heap.size w W) => fmTeam_any A c xs n W (by omega) (h.keep hb))
  have H2 := Lib.hid (fun W (hb : Below w.heap.size w W) => refHandicaps_any A c W.heap.size xs 2 W (.inl rfl) (h.keep hb) (by omega))
  have H4 := Lib.hid (fun W (hb : Below w.heap.size w W) => refHandicaps_any A c W.heap.size xs 4 W (.inr rfl) (h.keep hb) (by omega))
  have HN := Lib.hid (fun W (hb : Below w.heap.size w W) => refNumbers_any A c W.heap.size xs 200 W (h.keep hb) (by omega))
  rw [rF_no (by rw [h2]; exact g2)] at HF
  rw [rS_no (by rw [h4]; exact g4)] at HS
  rw [rT_yes ht] at HT
  rw [h2] at H2 HF
  rw [h4] at H4 HS
  have b2 : (z2 == 0) = false := beq_eq_false_iff_ne.2 g2
  have b4 : (z4 == 0) = false := beq_eq_false_iff_ne.2 g4
  have tz := teamE_zero ht
  have RT := Lib.hid (fun W (hb : Below w.heap.size w W) => by
    have hh := refTeam_any A c n.toNat xs W (h.keep hb) (fun x hx => by have := tz.2.2.1 x hx; omega) (by omega) (by omega) (by omega)
    rw [show ((n.toNat : Nat) : Int) = n by omega] at hh
    exact hh)
  generalize ForMath.sumI ((sortI xs).take n.toNat) = vt at HT RT
  have d4 : decide (n < 1) = false := decide_eq_false (by omega)
  have d5 : decide ((xs.length : Int) < n) = false := decide_eq_false (by omega)
  have HW : Hid (firstI [numsI xs 200, unlessI true 3] = 0) := Lib.hid (by rw [when_in n xs.length (by omega) (by omega)]; exact ht)
  have d1 : decide ((12 : Int) < (xs.length : Int)) = false := decide_eq_false (by omega)
  have d3 : decide ((203 : Int) < (xs.length : Int)) = false := decide_eq_false (by omega)
  clear h h2 h4 ht
  go_enter Tryz.func3, Tryz.ntmps3
  go_wp2_with fail
  refine (HF.out _ (Below.refl _ _)).mono ?_
  rintro e w1 ⟨rfl, hb1⟩
  have HB1 := Lib.hid hb1
  clear hb1
  go_wp2_with fail
  refine (HS.out _ HB1.out).mono ?_
  rintro e w2 ⟨rfl, hb2⟩
  have HB2 := Lib.hid (HB1.out.trans (hb2.mono HB1.out.size))
  clear hb2
  go_wp2_with fail
  refine (HT.out _ HB2.out).mono ?_
  rintro e w3 ⟨rfl, hb3⟩
  have HB3 := Lib.hid (HB2.out.trans (hb3.mono HB2.out.size))
  clear hb3
  go_wp2_with fail
  refine (H2.out _ HB3.out).mono ?_
  rintro e w4 ⟨rfl, rfl⟩
  go_wp2_with fail
  refine (H4.out _ HB3.out).mono ?_
  rintro e w5 ⟨rfl, rfl⟩
  go_wp2_with fail
  refine (HN.out _ HB3.out).mono ?_
  rintro e w6 ⟨rfl, rfl⟩
  go_wp2_with fail
  refine (lawWhen_any false 3 _).mono ?_
  rintro e w7 ⟨rfl, rfl⟩
  go_wp2_with fail
  refine (lawFirst_any _ _ [_, _] _ (by simp) (Ints.two _ _ _ _ _ rfl)).mono ?_
  rintro e w8 ⟨rfl, rfl⟩
  rw [HW.out]
  have HB8 := Lib.hid (HB3.out.alloc HB3.out.size (.cells #[.int .i64 (numsI xs 200), .int .i64 (unlessI true 3)] 3))
  go_wp2_with fail
  refine (RT.out _ HB8.out).mono ?_
  rintro e v2 ⟨rfl, hc2⟩
  have HC2 := Lib.hid (HB8.out.trans (hc2.mono HB8.out.size))
  clear hc2
  go_wp2_with fail
  refine (awake_any _).mono ?_
  rintro e wz ⟨rfl, hbz⟩
  have HBZ := Lib.hid (HC2.out.trans (hbz.mono HC2.out.size))
  clear hbz
  go_wp2
  go_ret
  exact ⟨rfl, HBZ.out⟩

set_option maxRecDepth 100000 in
set_option maxHeartbeats 4000000 in
theorem hand_nnn (A : Option Addr) (c : Nat) (xs : List Int) (n : Int) (w : World) (h : IntsAt w w.heap.size A xs) (hL : xs.length ≤ 12) (z2 : Int) (h2 : sharedE 2 xs = z2) (g2 : z2 ≠ 0) (z4 : Int) (h4 : sharedE 4 xs = z4) (g4 : z4 ≠ 0) (zt : Int) (ht : teamE xs n = zt) (gt : zt ≠ 0) :
    Calls Tryz.prog 3 #[.slice A xs.length c, .int .i64 n] w fun e w' => e = .returned (.bool true) ∧ Below w.heap.size w w' := by
  have HI := Lib.hid h
  have HF := Lib.hid (fun W (hb : Below w.heap.size w W) => fmFoursome_any A c xs W (by omega) (h.keep hb))
  have HS := Lib.hid (fun W (hb : Below w.heap.size w W) => fmScramble_any A c xs W (by omega) (h.keep hb))
  have HT := Lib.hid (fun W (hb : Below w.heap.size w W) => fmTeam_any A c xs n W (by omega) (h.keep hb))
  have H2 := Lib.hid (fun W (hb : Below w.heap.size w W) => refHandicaps_any A c W.heap.size xs 2 W (.inl rfl) (h.keep hb) (by omega))
  have H4 := Lib.hid (fun W (hb : Below w.heap.size w W) => refHandicaps_any A c W.heap.size xs 4 W (.inr rfl) (h.keep hb) (by omega))
  have HN := Lib.hid (fun W (hb : Below w.heap.size w W) => refNumbers_any A c W.heap.size xs 200 W (h.keep hb) (by omega))
  rw [rF_no (by rw [h2]; exact g2)] at HF
  rw [rS_no (by rw [h4]; exact g4)] at HS
  rw [rT_no (by rw [ht]; exact gt)] at HT
  rw [h2] at H2 HF
  rw [h4] at H4 HS
  rw [ht] at HT
  have b2 : (z2 == 0) = false := beq_eq_false_iff_ne.2 g2
  have b4 : (z4 == 0) = false := beq_eq_false_iff_ne.2 g4
  have bt : (zt == 0) = false := beq_eq_false_iff_ne.2 gt
  have d1 : decide ((12 : Int) < (xs.length : Int)) = false := decide_eq_false (by omega)
  have d3 : decide ((203 : Int) < (xs.length : Int)) = false := decide_eq_false (by omega)
  have hcase : n < 1 ∨ (¬ n < 1 ∧ (xs.length : Int) < n) ∨ (¬ n < 1 ∧ ¬ (xs.length : Int) < n) := by omega
  rcases hcase with k1 | ⟨k1, k2⟩ | ⟨k1, k2⟩
  · have d4 : decide (n < 1) = true := decide_eq_true k1
    have HW : Hid (firstI [numsI xs 200, unlessI false 3] = zt) := Lib.hid (by rw [when_out n xs.length (.inl k1)]; exact ht)
    clear h h2 h4 ht k1
    go_enter Tryz.func3, Tryz.ntmps3
    go_wp2_with fail
    refine (HF.out _ (Below.refl _ _)).mono ?_
    rintro e w1 ⟨rfl, hb1⟩
    have HB1 := Lib.hid hb1
    clear hb1
    go_wp2_with fail
    refine (HS.out _ HB1.out).mono ?_
    rintro e w2 ⟨rfl, hb2⟩
    have HB2 := Lib.hid (HB1.out.trans (hb2.mono HB1.out.size))
    clear hb2
    go_wp2_with fail
    refine (HT.out _ HB2.out).mono ?_
    rintro e w3 ⟨rfl, hb3⟩
    have HB3 := Lib.hid (HB2.out.trans (hb3.mono HB2.out.size))
    clear hb3
    go_wp2_with fail
    refine (H2.out _ HB3.out).mono ?_
    rintro e w4 ⟨rfl, rfl⟩
    go_wp2_with fail
    refine (H4.out _ HB3.out).mono ?_
    rintro e w5 ⟨rfl, rfl⟩
    go_wp2_with fail
    refine (HN.out _ HB3.out).mono ?_
    rintro e w6 ⟨rfl, rfl⟩
    go_wp2_with fail
    refine (lawWhen_any true 3 _).mono ?_
    rintro e w7 ⟨rfl, rfl⟩
    go_wp2_with fail
    refine (lawFirst_any _ _ [_, _] _ (by simp) (Ints.two _ _ _ _ _ rfl)).mono ?_
    rintro e w8 ⟨rfl, rfl⟩
    rw [HW.out]
    have HB8 := Lib.hid (HB3.out.alloc HB3.out.size (.cells #[.int .i64 (numsI xs 200), .int .i64 (unlessI false 3)] 3))
    go_wp2_with fail
    refine (awake_any _).mono ?_
    rintro e wz ⟨rfl, hbz⟩
    have HBZ := Lib.hid (HB8.out.trans (hbz.mono HB8.out.size))
    clear hbz
    go_wp2
    go_ret
    exact ⟨rfl, HBZ.out⟩
  · have d4 : decide (n < 1) = false := decide_eq_false k1
    have d5 : decide ((xs.length : Int) < n) = true := decide_eq_true k2
    have HW : Hid (firstI [numsI xs 200, unlessI false 3] = zt) := Lib.hid (by rw [when_out n xs.length (.inr k2)]; exact ht)
    clear h h2 h4 ht k1 k2
    go_enter Tryz.func3, Tryz.ntmps3
    go_wp2_with fail
    refine (HF.out _ (Below.refl _ _)).mono ?_
    rintro e w1 ⟨rfl, hb1⟩
    have HB1 := Lib.hid hb1
    clear hb1
    go_wp2_with fail
    refine (HS.out _ HB1.out).mono ?_
    rintro e w2 ⟨rfl, hb2⟩
    have HB2 := Lib.hid (HB1.out.trans (hb2.mono HB1.out.size))
    clear hb2
    go_wp2_with fail
    refine (HT.out _ HB2.out).mono ?_
    rintro e w3 ⟨rfl, hb3⟩
    have HB3 := Lib.hid (HB2.out.trans (hb3.mono HB2.out.size))
    clear hb3
    go_wp2_with fail
    refine (H2.out _ HB3.out).mono ?_
    rintro e w4 ⟨rfl, rfl⟩
    go_wp2_with fail
    refine (H4.out _ HB3.out).mono ?_
    rintro e w5 ⟨rfl, rfl⟩
    go_wp2_with fail
    refine (HN.out _ HB3.out).mono ?_
    rintro e w6 ⟨rfl, rfl⟩
    go_wp2_with fail
    refine (lawWhen_any true 3 _).mono ?_
    rintro e w7 ⟨rfl, rfl⟩
    go_wp2_with fail
    refine (lawFirst_any _ _ [_, _] _ (by simp) (Ints.two _ _ _ _ _ rfl)).mono ?_
    rintro e w8 ⟨rfl, rfl⟩
    rw [HW.out]
    have HB8 := Lib.hid (HB3.out.alloc HB3.out.size (.cells #[.int .i64 (numsI xs 200), .int .i64 (unlessI false 3)] 3))
    go_wp2_with fail
    refine (awake_any _).mono ?_
    rintro e wz ⟨rfl, hbz⟩
    have HBZ := Lib.hid (HB8.out.trans (hbz.mono HB8.out.size))
    clear hbz
    go_wp2
    go_ret
    exact ⟨rfl, HBZ.out⟩
  · have d4 : decide (n < 1) = false := decide_eq_false k1
    have d5 : decide ((xs.length : Int) < n) = false := decide_eq_false k2
    have HW : Hid (firstI [numsI xs 200, unlessI true 3] = zt) := Lib.hid (by rw [when_in n xs.length k1 k2]; exact ht)
    clear h h2 h4 ht k1 k2
    go_enter Tryz.func3, Tryz.ntmps3
    go_wp2_with fail
    refine (HF.out _ (Below.refl _ _)).mono ?_
    rintro e w1 ⟨rfl, hb1⟩
    have HB1 := Lib.hid hb1
    clear hb1
    go_wp2_with fail
    refine (HS.out _ HB1.out).mono ?_
    rintro e w2 ⟨rfl, hb2⟩
    have HB2 := Lib.hid (HB1.out.trans (hb2.mono HB1.out.size))
    clear hb2
    go_wp2_with fail
    refine (HT.out _ HB2.out).mono ?_
    rintro e w3 ⟨rfl, hb3⟩
    have HB3 := Lib.hid (HB2.out.trans (hb3.mono HB2.out.size))
    clear hb3
    go_wp2_with fail
    refine (H2.out _ HB3.out).mono ?_
    rintro e w4 ⟨rfl, rfl⟩
    go_wp2_with fail
    refine (H4.out _ HB3.out).mono ?_
    rintro e w5 ⟨rfl, rfl⟩
    go_wp2_with fail
    refine (HN.out _ HB3.out).mono ?_
    rintro e w6 ⟨rfl, rfl⟩
    go_wp2_with fail
    refine (lawWhen_any false 3 _).mono ?_
    rintro e w7 ⟨rfl, rfl⟩
    go_wp2_with fail
    refine (lawFirst_any _ _ [_, _] _ (by simp) (Ints.two _ _ _ _ _ rfl)).mono ?_
    rintro e w8 ⟨rfl, rfl⟩
    rw [HW.out]
    have HB8 := Lib.hid (HB3.out.alloc HB3.out.size (.cells #[.int .i64 (numsI xs 200), .int .i64 (unlessI true 3)] 3))
    go_wp2_with fail
    refine (awake_any _).mono ?_
    rintro e wz ⟨rfl, hbz⟩
    have HBZ := Lib.hid (HB8.out.trans (hbz.mono HB8.out.size))
    clear hbz
    go_wp2
    go_ret
    exact ⟨rfl, HBZ.out⟩

set_option maxRecDepth 100000 in
set_option maxHeartbeats 4000000 in
theorem hand_bnnn (A : Option Addr) (c : Nat) (xs : List Int) (n : Int) (w : World) (h : IntsAt w w.heap.size A xs) (hL : 200 < xs.length ∧ xs.length ≤ 203) (z2 : Int) (h2 : sharedE 2 xs = z2) (g2 : z2 ≠ 0) (z4 : Int) (h4 : sharedE 4 xs = z4) (g4 : z4 ≠ 0) (zt : Int) (ht : teamE xs n = zt) (gt : zt ≠ 0) :
    Calls Tryz.prog 3 #[.slice A xs.length c, .int .i64 n] w fun e w' => e = .returned (.bool true) ∧ Below w.heap.size w w' := by
  have HI := Lib.hid h
  have HF := Lib.hid (fun W (hb : Below w.heap.size w W) => fmFoursome_any A c xs W (by omega) (h.keep hb))
  have HS := Lib.hid (fun W (hb : Below w.heap.size w W) => fmScramble_any A c xs W (by omega) (h.keep hb))
  have HT := Lib.hid (fun W (hb : Below w.heap.size w W) => fmTeam_any A c xs n W (by omega) (h.keep hb))
  have H2 := Lib.hid (fun W (hb : Below w.heap.size w W) => refHandicaps_any A c W.heap.size xs 2 W (.inl rfl) (h.keep hb) (by omega))
  have H4 := Lib.hid (fun W (hb : Below w.heap.size w W) => refHandicaps_any A c W.heap.size xs 4 W (.inr rfl) (h.keep hb) (by omega))
  have HN := Lib.hid (fun W (hb : Below w.heap.size w W) => refNumbers_any A c W.heap.size xs 200 W (h.keep hb) (by omega))
  rw [rF_no (by rw [h2]; exact g2)] at HF
  rw [rS_no (by rw [h4]; exact g4)] at HS
  rw [rT_no (by rw [ht]; exact gt)] at HT
  rw [h2] at H2 HF
  rw [h4] at H4 HS
  rw [ht] at HT
  have b2 : (z2 == 0) = false := beq_eq_false_iff_ne.2 g2
  have b4 : (z4 == 0) = false := beq_eq_false_iff_ne.2 g4
  have bt : (zt == 0) = false := beq_eq_false_iff_ne.2 gt
  have d1 : decide ((12 : Int) < (xs.length : Int)) = true := decide_eq_true (by omega)
  have d2 : decide ((xs.length : Int) ≤ 200) = false := decide_eq_false (by omega)
  have d3 : decide ((203 : Int) < (xs.length : Int)) = false := decide_eq_false (by omega)
  have hcase : n < 1 ∨ (¬ n < 1 ∧ (xs.length : Int) < n) ∨ (¬ n < 1 ∧ ¬ (xs.length : Int) < n) := by omega
  rcases hcase with k1 | ⟨k1, k2⟩ | ⟨k1, k2⟩
  · have d4 : decide (n < 1) = true := decide_eq_true k1
    have HW : Hid (firstI [numsI xs 200, unlessI false 3] = zt) := Lib.hid (by rw [when_out n xs.length (.inl k1)]; exact ht)
    clear h h2 h4 ht k1
    go_enter Tryz.func3, Tryz.ntmps3
    go_wp2_with fail
    refine (HF.out _ (Below.refl _ _)).mono ?_
    rintro e w1 ⟨rfl, hb1⟩
    have HB1 := Lib.hid hb1
    clear hb1
    go_wp2_with fail
    refine (HS.out _ HB1.out).mono ?_
    rintro e w2 ⟨rfl, hb2⟩
    have HB2 := Lib.hid (HB1.out.trans (hb2.mono HB1.out.size))
    clear hb2
    go_wp2_with fail
    refine (HT.out _ HB2.out).mono ?_
    rintro e w3 ⟨rfl, hb3⟩
    have HB3 := Lib.hid (HB2.out.trans (hb3.mono HB2.out.size))
    clear hb3
    go_wp2_with fail
    refine (H2.out _ HB3.out).mono ?_
    rintro e w4 ⟨rfl, rfl⟩
    go_wp2_with fail
    refine (H4.out _ HB3.out).mono ?_
    rintro e w5 ⟨rfl, rfl⟩
    go_wp2_with fail
    refine (HN.out _ HB3.out).mono ?_
    rintro e w6 ⟨rfl, rfl⟩
    go_wp2_with fail
    refine (lawWhen_any true 3 _).mono ?_
    rintro e w7 ⟨rfl, rfl⟩
    go_wp2_with fail
    refine (lawFirst_any _ _ [_, _] _ (by simp) (Ints.two _ _ _ _ _ rfl)).mono ?_
    rintro e w8 ⟨rfl, rfl⟩
    rw [HW.out]
    have HB8 := Lib.hid (HB3.out.alloc HB3.out.size (.cells #[.int .i64 (numsI xs 200), .int .i64 (unlessI false 3)] 3))
    go_wp2_with fail
    refine (awake_any _).mono ?_
    rintro e wz ⟨rfl, hbz⟩
    have HBZ := Lib.hid (HB8.out.trans (hbz.mono HB8.out.size))
    clear hbz
    go_wp2
    go_ret
    exact ⟨rfl, HBZ.out⟩
  · have d4 : decide (n < 1) = false := decide_eq_false k1
    have d5 : decide ((xs.length : Int) < n) = true := decide_eq_true k2
    have HW : Hid (firstI [numsI xs 200, unlessI false 3] = zt) := Lib.hid (by rw [when_out n xs.length (.inr k2)]; exact ht)
    clear h h2 h4 ht k1 k2
    go_enter Tryz.func3, Tryz.ntmps3
    go_wp2_with fail
    refine (HF.out _ (Below.refl _ _)).mono ?_
    rintro e w1 ⟨rfl, hb1⟩
    have HB1 := Lib.hid hb1
    clear hb1
    go_wp2_with fail
    refine (HS.out _ HB1.out).mono ?_
    rintro e w2 ⟨rfl, hb2⟩
    have HB2 := Lib.hid (HB1.out.trans (hb2.mono HB1.out.size))
    clear hb2
    go_wp2_with fail
    refine (HT.out _ HB2.out).mono ?_
    rintro e w3 ⟨rfl, hb3⟩
    have HB3 := Lib.hid (HB2.out.trans (hb3.mono HB2.out.size))
    clear hb3
    go_wp2_with fail
    refine (H2.out _ HB3.out).mono ?_
    rintro e w4 ⟨rfl, rfl⟩
    go_wp2_with fail
    refine (H4.out _ HB3.out).mono ?_
    rintro e w5 ⟨rfl, rfl⟩
    go_wp2_with fail
    refine (HN.out _ HB3.out).mono ?_
    rintro e w6 ⟨rfl, rfl⟩
    go_wp2_with fail
    refine (lawWhen_any true 3 _).mono ?_
    rintro e w7 ⟨rfl, rfl⟩
    go_wp2_with fail
    refine (lawFirst_any _ _ [_, _] _ (by simp) (Ints.two _ _ _ _ _ rfl)).mono ?_
    rintro e w8 ⟨rfl, rfl⟩
    rw [HW.out]
    have HB8 := Lib.hid (HB3.out.alloc HB3.out.size (.cells #[.int .i64 (numsI xs 200), .int .i64 (unlessI false 3)] 3))
    go_wp2_with fail
    refine (awake_any _).mono ?_
    rintro e wz ⟨rfl, hbz⟩
    have HBZ := Lib.hid (HB8.out.trans (hbz.mono HB8.out.size))
    clear hbz
    go_wp2
    go_ret
    exact ⟨rfl, HBZ.out⟩
  · have d4 : decide (n < 1) = false := decide_eq_false k1
    have d5 : decide ((xs.length : Int) < n) = false := decide_eq_false k2
    have HW : Hid (firstI [numsI xs 200, unlessI true 3] = zt) := Lib.hid (by rw [when_in n xs.length k1 k2]; exact ht)
    clear h h2 h4 ht k1 k2
    go_enter Tryz.func3, Tryz.ntmps3
    go_wp2_with fail
    refine (HF.out _ (Below.refl _ _)).mono ?_
    rintro e w1 ⟨rfl, hb1⟩
    have HB1 := Lib.hid hb1
    clear hb1
    go_wp2_with fail
    refine (HS.out _ HB1.out).mono ?_
    rintro e w2 ⟨rfl, hb2⟩
    have HB2 := Lib.hid (HB1.out.trans (hb2.mono HB1.out.size))
    clear hb2
    go_wp2_with fail
    refine (HT.out _ HB2.out).mono ?_
    rintro e w3 ⟨rfl, hb3⟩
    have HB3 := Lib.hid (HB2.out.trans (hb3.mono HB2.out.size))
    clear hb3
    go_wp2_with fail
    refine (H2.out _ HB3.out).mono ?_
    rintro e w4 ⟨rfl, rfl⟩
    go_wp2_with fail
    refine (H4.out _ HB3.out).mono ?_
    rintro e w5 ⟨rfl, rfl⟩
    go_wp2_with fail
    refine (HN.out _ HB3.out).mono ?_
    rintro e w6 ⟨rfl, rfl⟩
    go_wp2_with fail
    refine (lawWhen_any false 3 _).mono ?_
    rintro e w7 ⟨rfl, rfl⟩
    go_wp2_with fail
    refine (lawFirst_any _ _ [_, _] _ (by simp) (Ints.two _ _ _ _ _ rfl)).mono ?_
    rintro e w8 ⟨rfl, rfl⟩
    rw [HW.out]
    have HB8 := Lib.hid (HB3.out.alloc HB3.out.size (.cells #[.int .i64 (numsI xs 200), .int .i64 (unlessI true 3)] 3))
    go_wp2_with fail
    refine (awake_any _).mono ?_
    rintro e wz ⟨rfl, hbz⟩
    have HBZ := Lib.hid (HB8.out.trans (hbz.mono HB8.out.size))
    clear hbz
    go_wp2
    go_ret
    exact ⟨rfl, HBZ.out⟩

theorem handicaps_any (A : Option Addr) (c : Nat) (xs : List Int) (n : Int) (w : World) (h : IntsAt w w.heap.size A xs) :
    Calls Tryz.prog 3 #[.slice A xs.length c, .int .i64 n] w fun e w' => e = .returned (.bool true) ∧ Below w.heap.size w w' := by
  by_cases hw : (12 < xs.length ∧ xs.length ≤ 200) ∨ 203 < xs.length
  · exact hand_wide A c xs n w hw
  · have e24 : sharedE 2 xs = 0 → sharedE 4 xs = 0 := fun h2 => by
      have hz := sharedE_zero h2
      have he : eachI xs (-99) 99 = 0 := firstI_zero _ h2 _ (by simp)
      unfold sharedE sideI
      rw [if_pos (by omega), he]; rfl
    by_cases hL : xs.length ≤ 12
    · by_cases h2 : sharedE 2 xs = 0
      · by_cases ht : teamE xs n = 0
        · exact hand_yyy A c xs n w h hL h2 (e24 h2) ht
        · exact hand_yyn A c xs n w h hL h2 (e24 h2) _ rfl ht
      · by_cases h4 : sharedE 4 xs = 0
        · by_cases ht : teamE xs n = 0
          · exact hand_nyy A c xs n w h hL _ rfl h2 h4 ht
          · exact hand_nyn A c xs n w h hL _ rfl h2 h4 _ rfl ht
        · by_cases ht : teamE xs n = 0
          · exact hand_nny A c xs n w h hL _ rfl h2 _ rfl h4 ht
          · exact hand_nnn A c xs n w h hL _ rfl h2 _ rfl h4 _ rfl ht
    · refine hand_bnnn A c xs n w h (by omega) _ rfl (fun h2 => ?_) _ rfl (fun h4 => ?_) _ rfl (fun ht => ?_)
      · have := sharedE_zero h2; omega
      · have := sharedE_zero h4; omega
      · have := teamE_zero ht; omega
end Go.Proofs.YtpdbebjlghihmaaGreatDoor
