/- The program's checkRules returns rulesI, checkFlows returns flowsI. -/
import Derived.Test.YtclhohfkacgooaaCourB
import Derived.StillTailTactics
namespace Go.Proofs.Ytclhohfkacgooaa
open Go.RowKit

theorem still_of {P : Program} {f : FuncId} {args : Array Value} {w : World} {v : Value} (h : Calls P f args w fun e w' => e = .returned v ∧ w = w') : Calls P f args w fun e w' => e = .returned v ∧ w' = w :=
  h.mono fun _ _ ⟨a, b⟩ => ⟨a, b.symm⟩

theorem region_still_tail {P : Program} {id : Nat} {Q : Exit → Act → World → Prop} {a : Act} {w : World} {l : List Oper} (n : Nat) (hm : P.follows .mixedOrders = true) (hB : Region.lexTailB .any l.toArray n = true)
    (h : wpStill P l.toArray w.drew (fun a' => wpList P l.toArray Q (l.drop n) a' w.drew) (l.take n) a) : (Code.region id l.toArray true).wp P Q a w := wp_region_still_tail n hm hB h

set_option maxRecDepth 100000 in
set_option maxHeartbeats 2000000 in
theorem checkRules_any (n : Int) (A : Option Addr) (c B : Nat) (rs : List (Int × Int × Int)) (w : World) (hl : rs.length ≤ 4611686018427387904) (hB : B ≤ w.heap.size) (hr : RulesR w B A rs) :
    Calls Try.prog 14 #[.int .i64 n, .slice A rs.length c] w fun e w' => e = .returned (.int .i64 (rulesI n rs)) ∧ Below w.heap.size w w' := by
  have HR := Lib.hid hr
  clear hr
  by_cases h1 : (1 ≤ n ∧ n ≤ 24) ∧ rs.length ≤ 256
  case neg =>
    have hz : (firstI [withinI n 1 24, unlessI (decide ((rs.length : Int) ≤ 256)) 5] != 0) = true := by
      simp only [firstI, withinI, unlessI]
      by_cases g1 : 1 ≤ n ∧ n ≤ 24
      · have : ¬ ((rs.length : Int) ≤ 256) := by omega
        simp [g1, this]
      · simp [g1]
    have hv : Hid (firstI [withinI n 1 24, unlessI (decide ((rs.length : Int) ≤ 256)) 5] = rulesI n rs) := by
      show _ = _
      simp only [firstI, withinI, unlessI, rulesI]
      by_cases g1 : 1 ≤ n ∧ n ≤ 24
      · have : ¬ ((rs.length : Int) ≤ 256) := by omega
        have h256 : 256 < rs.length := by omega
        simp [g1, this, h256]
      · simp [g1]
    clear h1
    go_enter Try.func14, Try.ntmps14
    go_wp2_with fail
    refine (within_any _ _ _ _).mono ?_; rintro e w1 ⟨rfl, rfl⟩
    go_wp2_with fail
    refine (unless_any _ _ _).mono ?_; rintro e w1 ⟨rfl, rfl⟩
    go_wp2_with fail
    refine (first_any _ _ [_, _] _ (by simp) (Ints.two _ _ _ _ _ rfl)).mono ?_; rintro e w1 ⟨rfl, rfl⟩
    go_wp2
    go_ret
    exact ⟨by rw [← hv.out]; rfl, (Below.refl _ _).alloc (Nat.le_refl _) _⟩
  have hz : (firstI [withinI n 1 24, unlessI (decide ((rs.length : Int) ≤ 256)) 5] != 0) = false := by
    have : ((rs.length : Int) ≤ 256) := by omega
    simp [firstI, withinI, unlessI, h1.1, this]
  have HI : Hid (rulesI n rs = rulesGo n rs) := by
    show _ = _
    rw [rulesI, if_neg (by omega), if_neg (by omega)]
  have HN := Lib.hid h1
  clear h1
  go_enter Try.func14, Try.ntmps14
  go_wp2_with fail
  refine (within_any _ _ _ _).mono ?_; rintro e w1 ⟨rfl, rfl⟩
  go_wp2_with fail
  refine (unless_any _ _ _).mono ?_; rintro e w1 ⟨rfl, rfl⟩
  go_wp2_with fail
  refine (first_any _ _ [_, _] _ (by simp) (Ints.two _ _ _ _ _ rfl)).mono ?_; rintro e w1 ⟨rfl, rfl⟩
  go_wp2
  go_loopw [22] (fun i w' => ∃ k : Nat, k ≤ rs.length ∧ Below w.heap.size w w' ∧ i = .int .i64 k ∧ rulesGo n (rs.drop k) = rulesGo n rs) (fun i _ => rs.length - (intOf i).toNat)
  case atStart => exact ⟨0, Nat.zero_le _, (Below.refl _ _).alloc (Nat.le_refl _) _, rfl, rfl⟩
  case round =>
    obtain ⟨k, hk, hb, rfl, hd⟩ := hrel
    have HD := Lib.hid hd
    clear hd
    by_cases hlt : k < rs.length
    · obtain ⟨a, rfl, hbl, hc0, hc1, hc2⟩ := HR.out.below (hb.mono hB) k hlt
      have HS := Lib.hid (fun f t l => rulesGo_drop n rs k hlt f t l)
      generalize hpx : rs.getD k (0, 0, 0) = px at hc0 hc1 hc2
      obtain ⟨f, t, l⟩ := px
      have HS2 := Lib.hid (HS.out f t l hpx)
      clear hpx HS hbl
      have hval : Hid (firstI [unlessI (if indexB f n then indexB t n else false) 10, withinI l (-10000) 10000] = if ¬ ((0 ≤ f ∧ f < n) ∧ 0 ≤ t ∧ t < n) then 10 else if ¬ (-10000 ≤ l ∧ l ≤ 10000) then 3 else 0) := by
        show _ = _
        simp only [firstI, withinI, unlessI, indexB]
        by_cases g1 : 0 ≤ f ∧ f < n
        · by_cases g2 : 0 ≤ t ∧ t < n
          · by_cases g3 : -10000 ≤ l ∧ l ≤ 10000
            · simp [g1, g2, g3]
            · simp [g1, g2, g3]
          · simp [g1, g2]
        · simp [g1]
      have hsz := hb.size
      cases hI : indexB f n
      · have hne : (firstI [unlessI false 10, withinI l (-10000) 10000] != 0) = true := rfl
        have hv10 : Hid (firstI [unlessI false 10, withinI l (-10000) 10000] = rulesI n rs) := by
          show _ = _
          rw [HI.out, ← HD.out, HS2.out]
          have g : ¬ ((0 ≤ f ∧ f < n) ∧ 0 ≤ t ∧ t < n) := fun g => by simp [indexB, g.1] at hI
          rw [if_pos g]; rfl
        clear hval HS2 HD HI
        go_wp2
        refine region_still_tail 14 (by kernel_rfl) (by kernel_rfl) ?_
        simp only [List.take_succ_cons, List.take_zero, List.drop_succ_cons, List.drop_zero]
        iterate 3 still_step
        still_call (still_of (isIndex_is f n false hI _))
        iterate 6 still_step
        still_call (still_of (unless_any _ _ _))
        iterate 2 still_step
        still_call (still_of (within_any _ _ _ _))
        refine wpStill_nil ?_
        go_wp2_with fail
        refine (first_any _ _ [_, _] _ (by simp) (Ints.two _ _ _ _ _ (by simp)).drew).mono ?_; rintro e w2 ⟨rfl, rfl⟩
        go_wp2
        go_ret
        exact ⟨by rw [← hv10.out]; rfl, ((hb.alloc hsz _).alloc (by simp; omega) _).drew⟩
      · rw [hI] at hval
        simp only [if_true] at hval
        by_cases he : firstI [unlessI (indexB t n) 10, withinI l (-10000) 10000] = 0
        · have hne : (firstI [unlessI (indexB t n) 10, withinI l (-10000) 10000] != 0) = false := by rw [he]; rfl
          have HG : Hid (rulesGo n (rs.drop (k + 1)) = rulesGo n rs) := by
            show _ = _
            have h1 := hval.out
            rw [he] at h1
            rw [← HD.out, HS2.out]
            by_cases g1 : ¬ ((0 ≤ f ∧ f < n) ∧ 0 ≤ t ∧ t < n)
            · rw [if_pos g1] at h1; omega
            · rw [if_neg g1] at h1 ⊢
              by_cases g2 : ¬ (-10000 ≤ l ∧ l ≤ 10000)
              · rw [if_pos g2] at h1; omega
              · rw [if_neg g2]
          clear he hval HS2 HD HI
          go_wp2
          refine region_still_tail 14 (by kernel_rfl) (by kernel_rfl) ?_
          simp only [List.take_succ_cons, List.take_zero, List.drop_succ_cons, List.drop_zero]
          iterate 3 still_step
          still_call (still_of (isIndex_is f n true hI _))
          iterate 4 still_step
          still_call (still_of (isIndex_any t n _))
          still_step
          still_call (still_of (unless_any _ _ _))
          iterate 2 still_step
          still_call (still_of (within_any _ _ _ _))
          refine wpStill_nil ?_
          go_wp2_with fail
          refine (first_any _ _ [_, _] _ (by simp) (Ints.two _ _ _ _ _ (by simp)).drew).mono ?_; rintro e w2 ⟨rfl, rfl⟩
          go_wp2
          go_roundw
          case rel => exact ⟨k + 1, by omega, ((hb.alloc hsz _).alloc (by simp; omega) _).drew, by go_num, HG.out⟩
          case measure => simp [intOf]; omega
        · have hne : (firstI [unlessI (indexB t n) 10, withinI l (-10000) 10000] != 0) = true := by rw [bne_iff_ne]; exact he
          have HG : Hid (firstI [unlessI (indexB t n) 10, withinI l (-10000) 10000] = rulesI n rs) := by
            show _ = _
            have h1 := hval.out
            rw [HI.out, ← HD.out, HS2.out]
            by_cases g1 : ¬ ((0 ≤ f ∧ f < n) ∧ 0 ≤ t ∧ t < n)
            · rw [if_pos g1] at h1 ⊢; exact h1
            · rw [if_neg g1] at h1 ⊢
              by_cases g2 : ¬ (-10000 ≤ l ∧ l ≤ 10000)
              · rw [if_pos g2] at h1 ⊢; exact h1
              · rw [if_neg g2] at h1; exact absurd h1 he
          clear he hval HS2 HD HI
          go_wp2
          refine region_still_tail 14 (by kernel_rfl) (by kernel_rfl) ?_
          simp only [List.take_succ_cons, List.take_zero, List.drop_succ_cons, List.drop_zero]
          iterate 3 still_step
          still_call (still_of (isIndex_is f n true hI _))
          iterate 4 still_step
          still_call (still_of (isIndex_any t n _))
          still_step
          still_call (still_of (unless_any _ _ _))
          iterate 2 still_step
          still_call (still_of (within_any _ _ _ _))
          refine wpStill_nil ?_
          go_wp2_with fail
          refine (first_any _ _ [_, _] _ (by simp) (Ints.two _ _ _ _ _ (by simp)).drew).mono ?_; rintro e w2 ⟨rfl, rfl⟩
          go_wp2
          go_ret
          exact ⟨by rw [← HG.out]; rfl, ((hb.alloc hsz _).alloc (by simp; omega) _).drew⟩
    · have hks := Lib.hid (show k = rs.length by omega)
      go_wp2
      go_ret
      have hd := HD.out
      rw [List.drop_eq_nil_of_le (by have := hks.out; omega)] at hd
      exact ⟨by rw [HI.out, ← hd]; rfl, hb⟩

end Go.Proofs.Ytclhohfkacgooaa
