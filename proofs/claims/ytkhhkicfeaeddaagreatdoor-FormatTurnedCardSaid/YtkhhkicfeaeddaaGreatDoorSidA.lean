/- Lists of net strokes: their errors by the program and by the reference; brief. -/
import Derived.Test.YtkhhkicfeaeddaaGreatDoorSidM
import Derived.Test.YtkhhkicfeaeddaaGreatDoorScoD
import Derived.Outline
set_option linter.unusedVariables false
set_option linter.unusedSimpArgs false
namespace Go.Proofs.YtkhhkicfeaeddaaGreatDoor
open Go.RowKit

set_option maxRecDepth 100000 in
set_option maxHeartbeats 1000000 in
theorem netCheck_any (s : Int) (m : ByteArray) (w : World) :
    Calls Tryz.prog 87 #[.agg #[.int .i64 s, .string m]] w fun e w' => e = .returned (.int .i64 (netI (s, m))) ∧ Below w.heap.size w w' := by
  have HV : Hid (netI (s, m) = if kindB m = true then (if m.toList.isEmpty = true then withinI s (-999) 999 else withinI s 0 0) else 13) := Lib.hid rfl
  have HB : Hid (∀ o, Below w.heap.size w (w.alloc o)) := Lib.hid (fun o => (Below.refl _ _).alloc (Nat.le_refl _) _)
  unfold kindB at HV
  rcases mark_cases m with ⟨h1, h2, h3, h4, h5⟩ | ⟨h1, h2, h3, h4, h5⟩ | ⟨h1, h2, h3, h4, h5⟩ | ⟨h1, h2, h3, h4, h5⟩ | ⟨h1, h2, h3, h4, h5⟩
  all_goals
    rw [h1, h3, h4] at HV
    clear h5
    generalize netI (s, m) = z at HV ⊢
    go_enter Tryz.func87, Tryz.ntmps87
    first
      | (go_wp2_with fail
         refine (fmWithin_any _ _ _ _).mono ?_; rintro e w2 ⟨rfl, rfl⟩
         go_wp2
         go_ret
         exact ⟨by rw [HV.out]; rfl, HB.out _⟩)
      | (go_wp2
         go_ret
         exact ⟨by rw [HV.out]; rfl, HB.out _⟩)

set_option maxHeartbeats 400000 in
theorem sizedNet_any (A : Option Addr) (n c : Nat) (m : Int) (w : World) (hn : n ≤ 4611686018427387904) :
    Calls Tryz.prog 86 #[.slice A n c, .int .i64 m] w fun e w' => e = .returned (.int .i64 (sizedI n m)) ∧ Below w.heap.size w w' := by
  by_cases h1 : 0 < n <;> by_cases h2 : (n : Int) ≤ m
  all_goals
    go_enter Tryz.func86, Tryz.ntmps86
    go_wp2_with fail
    refine (fmUnless_any _ _ _).mono ?_; rintro e w' ⟨rfl, rfl⟩
    go_wp2_with fail
    refine (fmUnless_any _ _ _).mono ?_; rintro e w' ⟨rfl, rfl⟩
    go_wp2_with fail
    refine (fmFirst_any _ _ [_, _] _ (by simp) (Ints.two _ _ _ _ _ rfl)).mono ?_; rintro e w' ⟨rfl, rfl⟩
    go_wp2
    go_ret
    exact ⟨by simp [sizedI, firstI, unlessI, h2]; omega, (Below.refl _ _).alloc (Nat.le_refl _) _⟩

set_option maxRecDepth 100000 in
set_option maxHeartbeats 2000000 in
theorem checkNets_any (A : Option Addr) (c : Nat) (l : List (Int × ByteArray)) (w : World) (hl : l.length ≤ 4611686018427387904) (he : EntriesR w A l) :
    Calls Tryz.prog 46 #[.slice A l.length c] w fun e w' => e = .returned (.int .i64 (netsI l)) ∧ Below w.heap.size w w' := by
  have HE := Lib.hid he
  have HV : Hid (netsI l = if l.length = 0 then 12 else if (l.length : Int) ≤ 36 then eachN l else 5) := Lib.hid rfl
  have HSZ : Hid (sizedI l.length 36 = if l.length = 0 then 12 else if (l.length : Int) ≤ 36 then 0 else 5) := Lib.hid rfl
  have HC := Lib.hid (fun W => sizedNet_any A l.length c 36 W hl)
  clear he
  generalize netsI l = res at HV ⊢
  generalize sizedI l.length 36 = z at HSZ HC
  by_cases hz : z = 0
  · subst hz
    have HR : Hid (eachN l = res) := Lib.hid (by
      have h1 := HSZ.out
      have h2 := HV.out
      by_cases g0 : l.length = 0
      · rw [if_pos g0] at h1; omega
      · rw [if_neg g0] at h1 h2
        by_cases g1 : (l.length : Int) ≤ 36
        · rw [if_pos g1] at h2; exact h2.symm
        · rw [if_neg g1] at h1; omega)
    clear HV HSZ
    go_enter Tryz.func46, Tryz.ntmps46
    go_wp2_with fail
    refine (HC.out _).mono ?_; rintro e w1 ⟨rfl, hb1⟩
    have HB1 := Lib.hid hb1
    clear hb1 HC
    go_wp2
    go_loopw [14] (fun kv w' => ∃ k : Nat, k ≤ l.length ∧ kv = .int .i64 k ∧ eachN (l.drop k) = res ∧ Below w.heap.size w w') (fun kv _ => l.length - (intOf kv).toNat)
    case atStart => exact ⟨0, Nat.zero_le _, rfl, HR.out, HB1.out⟩
    case round =>
      obtain ⟨k, hk, rfl, hd, hb⟩ := hrel
      have HD := Lib.hid hd
      have HB := Lib.hid hb
      clear hd hb
      by_cases hlt : k < l.length
      · have hk0 : (0 : Int) ≤ (k : Int) := Int.natCast_nonneg _
        have hk1 : (k : Int) < (l.length : Int) := by omega
        obtain ⟨a, rfl, d0, d1, _⟩ := (HE.out.keep HB.out) k hlt
        have HS := Lib.hid (eachN_drop l k hlt)
        generalize l.getD k (0, ByteArray.empty) = en at d0 d1 HS
        obtain ⟨s, m⟩ := en
        simp only at d0 d1
        have HN := Lib.hid (fun W => netCheck_any s m W)
        generalize netI (s, m) = y at HS HN
        by_cases hy : y = 0
        · subst hy
          go_wp2_with fail
          refine (HN.out _).mono ?_; rintro e w2 ⟨rfl, hb2⟩
          have HB2 : Hid (Below w.heap.size w w2) := Lib.hid (HB.out.trans ((((Below.refl _ _).alloc (Nat.le_refl _) _).trans (hb2.mono (by simp))).mono HB.out.size))
          clear hb2 HN
          go_wp2
          go_roundw
          case rel => exact ⟨k + 1, by omega, by go_num, by rw [← HD.out, HS.out]; simp, HB2.out⟩
          case measure => simp [intOf]; omega
        · have hyb : (y != 0) = true := by simpa using hy
          go_wp2_with fail
          refine (HN.out _).mono ?_; rintro e w2 ⟨rfl, hb2⟩
          have HB2 : Hid (Below w.heap.size w w2) := Lib.hid (HB.out.trans ((((Below.refl _ _).alloc (Nat.le_refl _) _).trans (hb2.mono (by simp))).mono HB.out.size))
          clear hb2 HN
          go_wp2
          go_ret
          exact ⟨by rw [← HD.out, HS.out, if_neg hy]; rfl, HB2.out⟩
      · have hke : l.drop k = [] := List.drop_eq_nil_of_le (by omega)
        have HZ : Hid (res = 0) := Lib.hid (by rw [← HD.out, hke]; rfl)
        clear hke
        go_wp2
        go_ret
        exact ⟨by rw [HZ.out]; rfl, HB.out⟩
  · have hzb : (z != 0) = true := by simpa using hz
    have HR : Hid (z = res) := Lib.hid (by
      have h1 := HSZ.out
      have h2 := HV.out
      by_cases g0 : l.length = 0
      · rw [if_pos g0] at h1 h2; omega
      · rw [if_neg g0] at h1 h2
        by_cases g1 : (l.length : Int) ≤ 36
        · rw [if_pos g1] at h1; omega
        · rw [if_neg g1] at h1 h2; omega)
    clear HV HSZ
    go_enter Tryz.func46, Tryz.ntmps46
    go_wp2_with fail
    refine (HC.out _).mono ?_; rintro e w1 ⟨rfl, hb1⟩
    have HB1 := Lib.hid hb1
    clear hb1 HC
    go_wp2
    go_ret
    exact ⟨by rw [HR.out]; rfl, HB1.out⟩

theorem kind_range (s : Int) (m : ByteArray) : netI (s, m) = if kindB m = false then 13 else if (decide (s < -999) || decide (999 < s)) || (!m.toList.isEmpty && (s != 0)) then 3 else 0 := by
  unfold netI
  simp only
  cases hk : kindB m
  · simp
  · cases h0 : m.toList.isEmpty
    · simp only [if_true, Bool.false_eq_true, if_false, Bool.not_false, Bool.true_and, withinI]
      by_cases hs : s = 0
      · subst hs; simp
      · have : (s != 0) = true := by simpa using hs
        rw [this, Bool.or_true, if_neg (by omega)]
        rfl
    · simp only [if_true, Bool.true_eq_false, if_false, Bool.not_true, Bool.false_and, Bool.or_false, withinI]
      by_cases g1 : s < -999
      · rw [if_neg (by omega), decide_eq_true g1]; rfl
      · by_cases g2 : 999 < s
        · rw [if_neg (by omega), decide_eq_true g2, decide_eq_false g1]; rfl
        · rw [if_pos (by omega), decide_eq_false g2, decide_eq_false g1]; rfl

set_option maxRecDepth 100000 in
set_option maxHeartbeats 2000000 in
theorem refCheckNets_any (A : Option Addr) (c : Nat) (l : List (Int × ByteArray)) (w : World) (hl : l.length ≤ 4611686018427387904) (he : EntriesR w A l) :
    Calls Tryz.prog 12 #[.slice A l.length c] w fun e w' => e = .returned (.int .i64 (netsI l)) ∧ w = w' := by
  have HE := Lib.hid he
  clear he
  by_cases h0 : l.length = 0
  · have b0 : ((l.length : Int) == 0) = true := by rw [h0]; rfl
    have HV : Hid (netsI l = 12) := Lib.hid (by unfold netsI; rw [if_pos h0])
    rw [HV.out]
    go_enter Tryz.func12, Tryz.ntmps12
    go_wp2
    go_ret
    exact ⟨rfl, rfl⟩
  · have b0 : ((l.length : Int) == 0) = false := by rw [beq_eq_false_iff_ne]; omega
    by_cases h1 : (l.length : Int) ≤ 36
    · have b1 : decide (36 < (l.length : Int)) = false := decide_eq_false (by omega)
      have HV : Hid (netsI l = eachN l) := Lib.hid (by unfold netsI; rw [if_neg h0, if_pos h1])
      rw [HV.out]
      clear HV h1 h0
      generalize hres : eachN l = res
      have HRES := Lib.hid hres
      clear hres
      go_enter Tryz.func12, Tryz.ntmps12
      go_wp2
      go_loop [3] (fun i => ∃ k : Nat, k ≤ l.length ∧ i = .int .i64 k ∧ eachN (l.drop k) = res) (fun i => l.length - (intOf i).toNat)
      case atStart => exact ⟨0, Nat.zero_le _, rfl, HRES.out⟩
      case round =>
        obtain ⟨k, hk, rfl, he⟩ := hrel
        by_cases hlt : k < l.length
        · obtain ⟨a, rfl, d0, d1, _⟩ := HE.out k hlt
          rw [eachN_drop l k hlt] at he
          generalize l.getD k (0, ByteArray.empty) = en at d0 d1 he
          obtain ⟨s, m⟩ := en
          simp only at d0 d1
          rw [kind_range] at he
          unfold kindB at he
          have hk0 : (0 : Int) ≤ (k : Int) := Int.natCast_nonneg _
          have hk1 : (k : Int) < (l.length : Int) := by omega
          rcases mark_cases m with ⟨h1, h2, h3, h4, h5⟩ | ⟨h1, h2, h3, h4, h5⟩ | ⟨h1, h2, h3, h4, h5⟩ | ⟨h1, h2, h3, h4, h5⟩ | ⟨h1, h2, h3, h4, h5⟩
          all_goals
            have g3 : (m.toList != [120]) = !(m.toList == [120]) := rfl
            have g4 : (m.toList != [45]) = !(m.toList == [45]) := rfl
            rw [h3] at g3
            rw [h4] at g4
            simp only [Bool.not_true, Bool.not_false] at g3 g4
            rw [h1, h3, h4] at he
            clear h5 h2
            cases e1 : decide (s < -999) <;> cases e2 : decide (999 < s) <;> cases e3 : (s != 0)
          all_goals
            rw [e1, e2, e3] at he
            have HX := Lib.hid he
            clear he
            go_wp2
            first
              | (go_ret
                 exact ⟨by rw [← HX.out]; rfl, rfl⟩)
              | (go_round
                 case rel => exact ⟨k + 1, by omega, by go_num, HX.out⟩
                 case measure => simp [intOf]; omega)
        · rw [List.drop_of_length_le (by omega)] at he
          have HX := Lib.hid he
          clear he
          go_wp2
          go_ret
          exact ⟨by rw [← HX.out]; rfl, rfl⟩
    · have b1 : decide (36 < (l.length : Int)) = true := decide_eq_true (by omega)
      have HV : Hid (netsI l = 5) := Lib.hid (by unfold netsI; rw [if_neg h0, if_neg h1])
      rw [HV.out]
      go_enter Tryz.func12, Tryz.ntmps12
      go_wp2
      go_ret
      exact ⟨rfl, rfl⟩

set_option maxRecDepth 100000 in
set_option maxHeartbeats 2000000 in
theorem brief_any (A : Option Addr) (c : Nat) (l : List (Int × ByteArray)) (w : World) (he : EntriesR w A l) (hl : l.length ≤ 4611686018427387904) :
    Calls Tryz.prog 6 #[.slice A l.length c] w fun e w' => e = .returned (.bool (briefB l)) ∧ Below w.heap.size w w' := by
  have HE := Lib.hid he
  have HV : Hid (briefB l = ((l.all fun e => decide (e.2.size ≤ 60)) && decide (l.length ≤ 39))) := Lib.hid rfl
  clear he
  generalize briefB l = res at HV ⊢
  go_enter Tryz.func6, Tryz.ntmps6
  go_wp2
  go_loopw [7] (fun i w' => ∃ k : Nat, k ≤ l.length ∧ i = .int .i64 k ∧ (l.take k).all (fun e => decide (e.2.size ≤ 60)) = true ∧ Below w.heap.size w w') (fun i _ => l.length - (intOf i).toNat)
  case atStart => exact ⟨0, Nat.zero_le _, rfl, rfl, Below.refl _ _⟩
  case round =>
    obtain ⟨k, hk, rfl, hall, hb⟩ := hrel
    have HALL := Lib.hid hall
    have HB := Lib.hid hb
    clear hall hb
    by_cases hlt : k < l.length
    · obtain ⟨a, rfl, d0, d1, _⟩ := (HE.out.keep HB.out) k hlt
      have HTK : Hid (l.take (k + 1) = l.take k ++ [l.getD k (0, ByteArray.empty)]) := Lib.hid (by
        rw [List.take_succ_eq_append_getElem hlt]; simp [List.getD, List.getElem?_eq_getElem hlt])
      have HMEM : Hid (l.getD k (0, ByteArray.empty) ∈ l) := Lib.hid (by simp [List.getD, List.getElem?_eq_getElem hlt])
      generalize l.getD k (0, ByteArray.empty) = en at d0 d1 HTK HMEM
      obtain ⟨s, m⟩ := en
      simp only at d0 d1
      have hk0 : (0 : Int) ≤ (k : Int) := Int.natCast_nonneg _
      have hk1 : (k : Int) < (l.length : Int) := by omega
      by_cases hm : m.size ≤ 60
      · have hmi : (m.size : Int) ≤ 60 := by omega
        go_wp2
        go_roundw
        case rel => exact ⟨k + 1, by omega, by go_num, by rw [HTK.out, List.all_append, HALL.out]; simp [hm], HB.out.alloc HB.out.size _⟩
        case measure => simp [intOf]; omega
      · have hmi : (60 : Int) < (m.size : Int) := by omega
        go_wp2
        go_ret
        refine ⟨?_, HB.out.alloc HB.out.size _⟩
        rw [HV.out, List.all_eq_false.2 ⟨_, HMEM.out, by simpa using hm⟩]
        rfl
    · have hlk : l.take k = l := List.take_of_length_le (by omega)
      have HALL2 : Hid (l.all (fun e => decide (e.2.size ≤ 60)) = true) := Lib.hid (by have := HALL.out; rwa [hlk] at this)
      clear hlk
      by_cases h2 : l.length ≤ 39
      · have h2i : (l.length : Int) ≤ 39 := by omega
        go_wp2
        go_ret
        exact ⟨by rw [HV.out, HALL2.out, decide_eq_true h2]; rfl, HB.out⟩
      · have h2i : (39 : Int) < (l.length : Int) := by omega
        go_wp2
        go_ret
        refine ⟨?_, HB.out⟩
        rw [HV.out, HALL2.out, decide_eq_false h2]
        show Ending.returned (.bool (decide ((l.length : Int) ≤ 39))) = _
        rw [decide_eq_false (by omega)]
        rfl
end Go.Proofs.YtkhhkicfeaeddaaGreatDoor
