/- The reference's checks of numbers and lists; short. -/
import Derived.Test.YtndalbcmmdinhaaGreatDoorMgG
import Derived.Outline
set_option linter.unusedVariables false
set_option linter.unusedSimpArgs false
namespace Go.Proofs.YtndalbcmmdinhaaGreatDoor
open Go.RowKit

theorem within_range (x : Int) : withinI x (-9999) 9999 = if decide (x < -9999) || decide (9999 < x) then 3 else 0 := by
  unfold withinI
  by_cases h1 : x < -9999
  · rw [if_neg (by omega), decide_eq_true h1]; rfl
  · by_cases h2 : 9999 < x
    · rw [if_neg (by omega), decide_eq_true h2, decide_eq_false h1]; rfl
    · rw [if_pos (by omega), decide_eq_false h2, decide_eq_false h1]; rfl

set_option maxRecDepth 100000 in
set_option maxHeartbeats 1000000 in
theorem refNumbers_any (A : Option Addr) (c B : Nat) (xs : List Int) (m : Int) (w : World) (h : IntsAt w B A xs) (hl : xs.length ≤ 4611686018427387904) :
    Calls Tryz.prog 34 #[.slice A xs.length c, .int .i64 m] w fun e w' => e = .returned (.int .i64 (numsI xs m)) ∧ w = w' := by
  have H := Lib.hid h
  clear h
  by_cases h0 : xs.length = 0
  · have b0 : ((xs.length : Int) == 0) = true := by rw [h0]; rfl
    have HV : Hid (numsI xs m = 12) := Lib.hid (by unfold numsI; simp [firstI, sizedI, h0])
    rw [HV.out]
    go_enter Tryz.func34, Tryz.ntmps34
    go_wp2
    go_ret
    exact ⟨rfl, rfl⟩
  · have b0 : ((xs.length : Int) == 0) = false := by rw [beq_eq_false_iff_ne]; omega
    by_cases h1 : (xs.length : Int) ≤ m
    · have b1 : decide (m < (xs.length : Int)) = false := decide_eq_false (by omega)
      have HV : Hid (numsI xs m = eachI xs (-9999) 9999) := Lib.hid (by unfold numsI; simp [firstI, sizedI, h0, h1]; omega)
      rw [HV.out]
      clear HV h1 h0
      generalize hres : eachI xs (-9999) 9999 = res
      have HRES := Lib.hid hres
      clear hres
      go_enter Tryz.func34, Tryz.ntmps34
      go_wp2
      go_loop [5] (fun i => ∃ k : Nat, k ≤ xs.length ∧ i = .int .i64 k ∧ eachI (xs.drop k) (-9999) 9999 = res) (fun i => xs.length - (intOf i).toNat)
      case atStart => exact ⟨0, Nat.zero_le _, rfl, HRES.out⟩
      case round =>
        obtain ⟨k, hk, rfl, he⟩ := hrel
        by_cases hlt : k < xs.length
        · obtain ⟨a, rfl, _, d0⟩ := H.out k hlt
          rw [eachI_drop xs _ _ k hlt, within_range] at he
          generalize xs.getD k 0 = x at d0 he
          have HE := Lib.hid he
          clear he
          have hk0 : (0 : Int) ≤ (k : Int) := Int.natCast_nonneg _
          have hk1 : (k : Int) < (xs.length : Int) := by omega
          cases g1 : decide (x < -9999)
          · cases g2 : decide (9999 < x)
            · rw [g1, g2] at HE
              go_wp2
              go_round
              case rel => exact ⟨k + 1, by omega, by go_num, HE.out⟩
              case measure => simp [intOf]; omega
            · rw [g1, g2] at HE
              go_wp2
              go_ret
              exact ⟨by rw [← HE.out]; rfl, rfl⟩
          · rw [g1] at HE
            go_wp2
            go_ret
            exact ⟨by rw [← HE.out]; rfl, rfl⟩
        · rw [List.drop_of_length_le (by omega)] at he
          have HE := Lib.hid he
          clear he
          go_wp2
          go_ret
          exact ⟨by rw [← HE.out]; rfl, rfl⟩
    · have b1 : decide (m < (xs.length : Int)) = true := decide_eq_true (by omega)
      have HV : Hid (numsI xs m = 5) := Lib.hid (by unfold numsI; simp [firstI, sizedI, h0, h1])
      rw [HV.out]
      go_enter Tryz.func34, Tryz.ntmps34
      go_wp2
      go_ret
      exact ⟨rfl, rfl⟩

theorem lineI_if (n : Nat) (y : List Int) : lineI numsC n y = if numsI y 36 = 0 then (if y.length = n then 0 else 2) else numsI y 36 := by
  unfold lineI numsC
  by_cases g1 : numsI y 36 = 0
  · rw [g1]
    by_cases g2 : y.length = n
    · rw [decide_eq_true g2, if_pos g2]; rfl
    · rw [decide_eq_false g2, if_neg g2]; rfl
  · rw [if_neg g1]
    simp only [firstI, if_neg g1]
def shortLB (ls : List (List Int)) : Bool := ls.all fun y => decide (y.length ≤ 39)
theorem shortL_len {ls : List (List Int)} (h : shortLB ls = true) : ∀ y ∈ ls, y.length ≤ 39 := fun y hy => by
  unfold shortLB at h
  simpa using List.all_eq_true.1 h y hy
set_option maxRecDepth 100000 in
set_option maxHeartbeats 1000000 in
theorem shortL_any (A : Option Addr) (c : Nat) (ls : List (List Int)) (w : World) (h : ListsR w A ls) (hl : ls.length ≤ 8) :
    Calls Tryz.prog 39 #[.slice A ls.length c] w fun e w' => e = .returned (.bool (shortLB ls)) ∧ w = w' := by
  have H := Lib.hid h
  clear h
  have b1 : decide ((8 : Int) < (ls.length : Int)) = false := decide_eq_false (by omega)
  have b2 : decide ((203 : Int) < (ls.length : Int)) = false := decide_eq_false (by omega)
  have HV : Hid (shortLB ls = ls.all fun y => decide (y.length ≤ 39)) := Lib.hid rfl
  generalize shortLB ls = res at HV ⊢
  go_enter Tryz.func39, Tryz.ntmps39
  go_wp2
  go_loop [20] (fun i => ∃ k : Nat, k ≤ ls.length ∧ i = .int .i64 k ∧ (ls.take k).all (fun y => decide (y.length ≤ 39)) = true) (fun i => ls.length - (intOf i).toNat)
  case atStart => exact ⟨0, Nat.zero_le _, rfl, rfl⟩
  case round =>
    obtain ⟨k, hk, rfl, hall⟩ := hrel
    have HALL := Lib.hid hall
    clear hall
    by_cases hlt : k < ls.length
    · obtain ⟨a, B, cc, rfl, d0, _, _, _⟩ := H.out k hlt
      have HTK : Hid (ls.take (k + 1) = ls.take k ++ [ls.getD k []]) := Lib.hid (by
        rw [List.take_succ_eq_append_getElem hlt]; simp [List.getD, List.getElem?_eq_getElem hlt])
      have HMEM : Hid (ls.getD k [] ∈ ls) := Lib.hid (by simp [List.getD, List.getElem?_eq_getElem hlt])
      generalize ls.getD k [] = y at d0 HTK HMEM
      have hk0 : (0 : Int) ≤ (k : Int) := Int.natCast_nonneg _
      have hk1 : (k : Int) < (ls.length : Int) := by omega
      by_cases hy : y.length ≤ 39
      · have hyi : decide ((39 : Int) < (y.length : Int)) = false := decide_eq_false (by omega)
        have HY := Lib.hid hy
        clear hy
        go_wp2
        go_round
        case rel => exact ⟨k + 1, by omega, by go_num, by rw [HTK.out, List.all_append, HALL.out]; simp [HY.out]⟩
        case measure => simp [intOf]; omega
      · have hyi : decide ((39 : Int) < (y.length : Int)) = true := decide_eq_true (by omega)
        have HY := Lib.hid hy
        clear hy
        go_wp2
        go_ret
        refine ⟨?_, rfl⟩
        rw [HV.out, List.all_eq_false.2 ⟨_, HMEM.out, by simpa using HY.out⟩]
        rfl
    · have hlk : ls.take k = ls := List.take_of_length_le (by omega)
      have HALL2 : Hid (ls.all (fun y => decide (y.length ≤ 39)) = true) := Lib.hid (by have := HALL.out; rwa [hlk] at this)
      clear hlk
      go_wp2
      go_ret
      exact ⟨by rw [HV.out, HALL2.out]; rfl, rfl⟩

set_option maxRecDepth 100000 in
set_option maxHeartbeats 2000000 in
theorem refLists_any (A : Option Addr) (c : Nat) (ls : List (List Int)) (w : World) (h : ListsR w A ls) (hll : ∀ y ∈ ls, y.length ≤ 4611686018427387904) :
    Calls Tryz.prog 43 #[.slice A ls.length c] w fun e w' => e = .returned (.int .i64 (firstI [sizedI ls.length 200, listsI numsC ls])) ∧ ∃ n, w' = w.drewN n := by
  have H := Lib.hid h
  clear h
  by_cases h0 : ls.length = 0
  · have b0 : ((ls.length : Int) == 0) = true := by rw [h0]; rfl
    have HV : Hid (firstI [sizedI ls.length 200, listsI numsC ls] = 12) := Lib.hid (by simp [firstI, sizedI, h0])
    rw [HV.out]
    go_enter Tryz.func43, Tryz.ntmps43
    go_wp2
    go_ret
    exact ⟨rfl, 0, rfl⟩
  · have b0 : ((ls.length : Int) == 0) = false := by rw [beq_eq_false_iff_ne]; omega
    by_cases h1 : ls.length ≤ 200
    · have b1 : decide ((200 : Int) < (ls.length : Int)) = false := decide_eq_false (by omega)
      have HV : Hid (firstI [sizedI ls.length 200, listsI numsC ls] = listsI numsC ls) := Lib.hid (by
        have : (ls.length : Int) ≤ 200 := by omega
        simp [firstI, sizedI, h0, this]; omega)
      have HPOS := Lib.hid (Nat.pos_of_ne_zero h0)
      have HLL := Lib.hid hll
      rw [HV.out]
      clear HV h0 hll
      have HRES : Hid (firstI (ls.map (lineI numsC (ls.getD 0 []).length)) = listsI numsC ls) := Lib.hid rfl
      generalize listsI numsC ls = res at HRES
      go_enter Tryz.func43, Tryz.ntmps43
      go_wp2
      go_loopw [3] (fun i w' => ∃ k n : Nat, k ≤ ls.length ∧ w' = w.drewN n ∧ i = .int .i64 k ∧ firstI ((ls.drop k).map (lineI numsC (ls.getD 0 []).length)) = res) (fun i _ => ls.length - (intOf i).toNat)
      case atStart => exact ⟨0, 0, Nat.zero_le _, rfl, rfl, HRES.out⟩
      case round =>
        obtain ⟨k, n, hk, rfl, rfl, he⟩ := hrel
        by_cases hlt : k < ls.length
        · obtain ⟨a, B, cc, rfl, d0, _, _, hints⟩ := H.out k hlt
          obtain ⟨a', B0, c0, ha', z0, _, _, _⟩ := H.out 0 HPOS.out
          cases ha'
          rw [Addr.add_zero'] at z0
          rw [lines_drop _ ls k hlt] at he
          have HN := Lib.hid (refNumbers_any B cc _ (ls.getD k []) 36 (w.drewN n) hints (HLL.out _ (by simp [List.getD, List.getElem?_eq_getElem hlt])))
          generalize (ls.getD 0 []).length = y0 at z0 he
          have hln := lineI_if y0 (ls.getD k [])
          rw [hln] at he
          clear hln hints
          generalize numsI (ls.getD k []) 36 = q at HN he
          generalize ls.getD k [] = y at d0 HN he
          have HE := Lib.hid he
          clear he
          have hk0 : (0 : Int) ≤ (k : Int) := Int.natCast_nonneg _
          have hk1 : (k : Int) < (ls.length : Int) := by omega
          have hl0 : (0 : Int) < (ls.length : Int) := by have := HPOS.out; omega
          have hl0n : 0 < ls.length := HPOS.out
          go_wp2_with fail
          refine HN.out.mono ?_
          rintro e w1 ⟨rfl, rfl⟩
          by_cases hq : q = 0
          · subst hq
            by_cases hy : y.length = y0
            · have hbn : ((y.length : Int) != (y0 : Int)) = false := by rw [hy]; exact bne_self_eq_false' _
              have HE2 := Lib.hid (by have := HE.out; rwa [if_pos rfl, if_pos hy, if_pos rfl] at this)
              clear hy HE
              go_wp2
              go_quiet (fail)
              go_wp2
              go_roundw
              case rel => exact ⟨k + 1, _, by omega, rfl, by go_num, HE2.out⟩
              case measure => simp [intOf]; omega
            · have hbn : ((y.length : Int) != (y0 : Int)) = true := by rw [bne_iff_ne]; omega
              have HE2 := Lib.hid (by have := HE.out; rwa [if_pos rfl, if_neg hy, if_neg (by decide)] at this)
              clear hy HE
              go_wp2
              go_quiet (fail)
              go_wp2
              go_ret
              exact ⟨by rw [← HE2.out]; rfl, _, rfl⟩
          · have hqb : (q == 0) = false := beq_eq_false_iff_ne.2 hq
            have hqn : (q != 0) = true := bne_iff_ne.2 hq
            have HE2 := Lib.hid (by have := HE.out; rwa [if_neg hq, if_neg hq] at this)
            clear hq HE
            go_wp2
            go_quiet (fail)
            go_wp2
            go_ret
            exact ⟨by rw [← HE2.out]; rfl, _, rfl⟩
        · rw [List.drop_of_length_le (by omega)] at he
          have HE := Lib.hid he
          clear he
          go_wp2
          go_ret
          exact ⟨by rw [← HE.out]; rfl, n, rfl⟩
    · have b1 : decide ((200 : Int) < (ls.length : Int)) = true := decide_eq_true (by omega)
      have HV : Hid (firstI [sizedI ls.length 200, listsI numsC ls] = 5) := Lib.hid (by
        have : ¬ (ls.length : Int) ≤ 200 := by omega
        simp [firstI, sizedI, h0, this])
      rw [HV.out]
      go_enter Tryz.func43, Tryz.ntmps43
      go_wp2
      go_ret
      exact ⟨rfl, 0, rfl⟩
end Go.Proofs.YtndalbcmmdinhaaGreatDoor
