/- The reference's Foursome, Scramble, Team, CheckHandicaps. -/
import Derived.Test.YtpdbebjlghihmaaGreatDoorHavB
import Derived.Test.YtpdbebjlghihmaaGreatDoorHanW
import Derived.Test.YtpdbebjlghihmaaGreatDoorMgI
import Derived.Test.YtpdbebjlghihmaaGreatDoorTieL
import Derived.Test.YtpdbebjlghihmaaGreatDoorSumA
set_option linter.unusedVariables false
set_option linter.unusedSimpArgs false
namespace Go.Proofs.YtpdbebjlghihmaaGreatDoor
open Go.RowKit

theorem srtJ_sortI (xs : List Int) : srtJ xs = sortI xs := rfl

set_option maxRecDepth 100000 in
set_option maxHeartbeats 1000000 in
theorem refFoursome_any (A : Option Addr) (c : Nat) (xs : List Int) (w : World) (h : IntsAt w w.heap.size A xs) (hE : sharedE 2 xs = 0) :
    Calls Tryz.prog 13 #[.slice A xs.length c] w fun e w' => e = .returned (.int .i64 (sharedV (hundF xs.length) xs)) ∧ Below w.heap.size w w' := by
  obtain ⟨h1, h2, hx⟩ := sharedE_zero hE
  have hl : xs.length = 2 := by omega
  obtain ⟨a, rfl, _, c0⟩ := h 0 (by omega)
  obtain ⟨a2, e2, _, c1⟩ := h 1 (by omega)
  obtain rfl := Option.some.inj e2
  have hV : sharedV (hundF xs.length) xs = (2 * (xs.getD 0 0 + xs.getD 1 0) + 2) / (2 * 2) ∧ -198 ≤ xs.getD 0 0 + xs.getD 1 0 ∧ xs.getD 0 0 + xs.getD 1 0 ≤ 198 := by
    match xs, hl with
    | [x, y], _ =>
      have hx0 := hx x (by simp)
      have hy0 := hx y (by simp)
      have hs : ForMath.sumI (prodL (sortI [x, y]) (hundF 2)) = 50 * (x + y) := by
        by_cases hxy : x ≤ y
        · rw [← srtJ_sortI, srtJ_eq (ys := [x, y]) (List.Perm.refl _) (by simp [hxy])]
          simp [prodL, hundF, ForMath.sumI]; omega
        · rw [← srtJ_sortI, srtJ_eq (ys := [y, x]) (List.Perm.swap _ _ _) (by simp; omega)]
          simp [prodL, hundF, ForMath.sumI]; omega
      refine ⟨?_, ?_, ?_⟩
      · show (ForMath.sumI (prodL (sortI [x, y]) (hundF 2)) + 50) / 100 = (2 * (x + y) + 2) / (2 * 2)
        rw [hs]; omega
      · show -198 ≤ x + y; omega
      · show x + y ≤ 198; omega
  obtain ⟨hv, hb1, hb2⟩ := hV
  have HK := Lib.hid (fun W => half_any (xs.getD 0 0 + xs.getD 1 0) 2 W (by omega) (by omega) (by omega) (by omega))
  rw [← hv] at HK
  rw [hl]
  rw [hl] at HK
  have hx0 := hx (xs.getD 0 0) (by simp [List.getD, List.getElem?_eq_getElem (show 0 < xs.length by omega)])
  have hx1 := hx (xs.getD 1 0) (by simp [List.getD, List.getElem?_eq_getElem (show 1 < xs.length by omega)])
  generalize xs.getD 0 0 = x at *
  generalize xs.getD 1 0 = y at *
  generalize sharedV (hundF 2) xs = r at *
  have hw1 : IntKind.i64.wrap (x + y) = x + y := IntWalk.i64_in _ (by omega)
  have c00 := c0
  rw [show a.add 0 = a from by unfold Addr.add; split <;> simp_all] at c00
  have d0 : w.drew.cell? a = some (.int .i64 x) := c00
  have d1 : w.drew.cell? (a.add 1) = some (.int .i64 y) := c1
  have c11 : w.cell? ⟨a.block, a.off + 1, none⟩ = some (.int .i64 y) := c1
  have d11 : w.drew.cell? ⟨a.block, a.off + 1, none⟩ = some (.int .i64 y) := c1
  have d00 : w.drew.cell? (a.add 0) = some (.int .i64 x) := c0
  clear hv h hx hE e2
  go_enter Tryz.func13, Tryz.ntmps13
  go_wp2
  go_region_with (go_at_call 49; refine (HK.out _).mono ?_; rintro e w1 ⟨rfl, hb⟩; have HB := Lib.hid hb; clear hb)
  all_goals
    go_wp2
    go_ret
    exact ⟨rfl, (Below.refl _ _).drew.trans HB.out⟩

theorem out_within (x : Int) : withinI x (-99) 99 = if outB x = true then 3 else 0 := by
  unfold withinI outB
  by_cases h1 : x < -99
  · rw [if_neg (by omega), decide_eq_true h1]; rfl
  · by_cases h2 : 99 < x
    · rw [if_neg (by omega), decide_eq_false h1, decide_eq_true h2]; rfl
    · rw [if_pos (by omega), decide_eq_false h1, decide_eq_false h2]; rfl

set_option maxRecDepth 100000 in
set_option maxHeartbeats 1000000 in
theorem refHandicaps_any (A : Option Addr) (c B : Nat) (xs : List Int) (m : Int) (w : World) (hm : m = 2 ∨ m = 4) (h : IntsAt w B A xs) (hl : xs.length ≤ 4611686018427387904) :
    Calls Tryz.prog 9 #[.slice A xs.length c, .int .i64 2, .int .i64 m] w fun e w' => e = .returned (.int .i64 (sharedE m xs)) ∧ w = w' := by
  have H := Lib.hid h
  clear h
  by_cases h1 : xs.length < 2
  · have d1 : decide ((xs.length : Int) < 2) = true := decide_eq_true (by omega)
    have HV : Hid (sharedE m xs = 2) := Lib.hid (by unfold sharedE sideI; rw [if_neg (by omega)]; simp [firstI])
    rw [HV.out]
    go_enter Tryz.func9, Tryz.ntmps9
    go_wp2
    go_ret
    exact ⟨rfl, rfl⟩
  · have d1 : decide ((xs.length : Int) < 2) = false := decide_eq_false (by omega)
    by_cases h2 : m < (xs.length : Int)
    · have d2 : decide (m < (xs.length : Int)) = true := decide_eq_true h2
      have HV : Hid (sharedE m xs = 2) := Lib.hid (by unfold sharedE sideI; rw [if_neg (by omega)]; simp [firstI])
      rw [HV.out]
      go_enter Tryz.func9, Tryz.ntmps9
      go_wp2
      go_ret
      exact ⟨rfl, rfl⟩
    · have d2 : decide (m < (xs.length : Int)) = false := decide_eq_false h2
      have HV : Hid (sharedE m xs = eachI xs (-99) 99) := Lib.hid (by
        unfold sharedE sideI
        rw [if_pos (by omega)]
        show firstI [eachI xs (-99) 99] = _
        unfold firstI
        by_cases g : eachI xs (-99) 99 = 0
        · rw [if_pos g, g]; rfl
        · rw [if_neg g])
      rw [HV.out]
      clear HV
      generalize hR : eachI xs (-99) 99 = R
      have HR := Lib.hid hR
      clear hR
      go_enter Tryz.func9, Tryz.ntmps9
      go_wp2
      go_loop [7] (fun i => ∃ k : Nat, k ≤ xs.length ∧ i = .int .i64 k ∧ eachI (xs.drop k) (-99) 99 = R) (fun i => xs.length - (intOf i).toNat)
      case atStart => exact ⟨0, Nat.zero_le _, rfl, HR.out⟩
      case round =>
        obtain ⟨k, hk, rfl, hd⟩ := hrel
        have HD := Lib.hid hd
        clear hd
        by_cases hlt : k < xs.length
        · obtain ⟨a, rfl, _, hc⟩ := H.out k hlt
          have HS := Lib.hid (eachI_drop xs (-99) 99 k hlt)
          rw [HD.out, out_within] at HS
          have hk0 : (0 : Int) ≤ (k : Int) := Int.natCast_nonneg _
          have hk1 : (k : Int) < (xs.length : Int) := by omega
          generalize xs.getD k 0 = x at hc HS
          generalize hob : outB x = ob at HS
          have HOB := Lib.hid hob
          clear hob
          go_wp2_with fail
          refine (refOut_any x _).mono ?_; rintro e w1 ⟨rfl, rfl⟩
          rw [HOB.out]
          cases ob
          · go_wp2
            go_round
            case rel => exact ⟨k + 1, by omega, by go_num, by have := HS.out; simpa using this.symm⟩
            case measure => simp [intOf]; omega
          · go_wp2
            go_ret
            exact ⟨by have := HS.out; simp at this; rw [this]; rfl, rfl⟩
        · have hkn : ¬ (k : Int) < (xs.length : Int) := by omega
          have HN : Hid (R = 0) := Lib.hid (by rw [← HD.out, List.drop_of_length_le (by omega)]; rfl)
          go_wp2
          go_ret
          exact ⟨by rw [HN.out]; rfl, rfl⟩

theorem row_next (w : World) (o : Obj) (xs : List Int) : RowI ((w.alloc o).alloc (.cells (rowI xs) 3)) (w.heap.size + 1) xs := by
  have h := RowI.new (w.alloc o) xs
  rwa [World.size_alloc] at h
theorem row_next2 (w : World) (o p : Obj) (xs : List Int) : RowI (((w.alloc o).alloc p).alloc (.cells (rowI xs) 3)) (w.heap.size + 1 + 1) xs := by
  have h := RowI.new ((w.alloc o).alloc p) xs
  rwa [World.size_alloc, World.size_alloc] at h
/-- The sum of the products stays below 10^4: the hundredths add up to at most 70. -/
theorem scram_bound (xs : List Int) (h1 : 2 ≤ xs.length) (h2 : (xs.length : Int) ≤ 4) (hx : ∀ x ∈ xs, -99 ≤ x ∧ x ≤ 99) : -9999 ≤ ForMath.sumI (prodL (sortI xs) (hundS xs.length)) ∧ ForMath.sumI (prodL (sortI xs) (hundS xs.length)) ≤ 9999 := by
  have hs := sortI_len xs
  have hm : ∀ x ∈ sortI xs, -99 ≤ x ∧ x ≤ 99 := fun x hx' => hx x (mem_sortI.1 hx')
  generalize sortI xs = ys at hs hm
  rcases (by omega : xs.length = 2 ∨ xs.length = 3 ∨ xs.length = 4) with h | h | h
  · rw [h] at hs ⊢
    match ys, hs with
    | [a, b], _ =>
      have ha := hm a (by simp)
      have hb := hm b (by simp)
      simp [prodL, hundS, ForMath.sumI]; omega
  · rw [h] at hs ⊢
    match ys, hs with
    | [a, b, c], _ =>
      have ha := hm a (by simp)
      have hb := hm b (by simp)
      have hc := hm c (by simp)
      simp [prodL, hundS, ForMath.sumI]; omega
  · rw [h] at hs ⊢
    match ys, hs with
    | [a, b, c, d], _ =>
      have ha := hm a (by simp)
      have hb := hm b (by simp)
      have hc := hm c (by simp)
      have hd := hm d (by simp)
      simp [prodL, hundS, ForMath.sumI]; omega

set_option maxRecDepth 100000 in
set_option maxHeartbeats 4000000 in
theorem refScramble_any (A : Option Addr) (c : Nat) (xs : List Int) (w : World) (h : IntsAt w w.heap.size A xs) (hE : sharedE 4 xs = 0) :
    Calls Tryz.prog 14 #[.slice A xs.length c] w fun e w' => e = .returned (.int .i64 (sharedV (hundS xs.length) xs)) ∧ Below w.heap.size w w' := by
  have hz := sharedE_zero hE
  obtain ⟨a, rfl, _, _⟩ := h 0 (by omega)
  have HLN : Hid ((hundS xs.length).length = xs.length) := Lib.hid (hundS_len (by omega))
  have HSL := Lib.hid (sortI_len xs)
  have HPB := Lib.hid (prodL_bound (xs := sortI xs) (ys := hundS xs.length) (fun x hx => hz.2.2 x (mem_sortI.1 hx)) (hundS_bound _))
  have HXB : Hid (∀ x ∈ sortI xs, -99 ≤ x ∧ x ≤ 99) := Lib.hid (fun x hx => hz.2.2 x (mem_sortI.1 hx))
  have HYB := Lib.hid (hundS_bound xs.length)
  have HPL : Hid ((prodL (sortI xs) (hundS xs.length)).length = xs.length) := Lib.hid (by rw [prodL_len _ _ (by rw [HLN.out, HSL.out]), HSL.out])
  have HSO := Lib.hid (fun W (hb : Below w.heap.size w W) => refSorted_any a c xs W (h.keep hb) (by omega) (by omega))
  have HTB : Hid (-9999 ≤ ForMath.sumI (prodL (sortI xs) (hundS xs.length)) ∧ ForMath.sumI (prodL (sortI xs) (hundS xs.length)) ≤ 9999) := Lib.hid (scram_bound xs hz.1 hz.2.1 hz.2.2)
  have HV : Hid (∀ N, N = ForMath.sumI (prodL (sortI xs) (hundS xs.length)) → sharedV (hundS xs.length) xs = (2 * N + 100) / (2 * 100)) := Lib.hid (fun N hN => by unfold sharedV; rw [← hN]; omega)
  have hlen : xs.length = 2 ∨ xs.length = 3 ∨ xs.length = 4 := by omega
  clear h hE hz
  generalize sharedV (hundS xs.length) xs = res at HV ⊢
  rcases hlen with hl | hl | hl
  · have hh : hundS xs.length = [35, 15] := by rw [hl]; rfl
    rw [hh] at HLN HPB HYB HPL HV HTB
    rw [hl] at HLN HSL HSO HPL
    rw [hl]
    clear hh hl
    go_enter Tryz.func14, Tryz.ntmps14
    go_wp2_with fail
    have hrw : RowI ((((w.alloc (.cells #[.int .i64 35, .int .i64 15] 3)).alloc (.cells #[.int .i64 30, .int .i64 20, .int .i64 10] 3)).alloc (.cells #[.int .i64 25, .int .i64 20, .int .i64 15, .int .i64 10] 3)).alloc (.cells #[.slice (some ⟨w.heap.size, 0, none⟩) 2 2, .slice (some ⟨w.heap.size + 1, 0, none⟩) 3 3, .slice (some ⟨w.heap.size + 1 + 1, 0, none⟩) 4 4] 22)) (w.heap.size) [35, 15] := (((RowI.new w [35, 15]).alloc _).alloc _).alloc _
    have hbw : Below w.heap.size w ((((w.alloc (.cells #[.int .i64 35, .int .i64 15] 3)).alloc (.cells #[.int .i64 30, .int .i64 20, .int .i64 10] 3)).alloc (.cells #[.int .i64 25, .int .i64 20, .int .i64 15, .int .i64 10] 3)).alloc (.cells #[.slice (some ⟨w.heap.size, 0, none⟩) 2 2, .slice (some ⟨w.heap.size + 1, 0, none⟩) 3 3, .slice (some ⟨w.heap.size + 1 + 1, 0, none⟩) 4 4] 22)) := ((((Below.refl _ _).alloc (Nat.le_refl _) _).alloc (by simp) _).alloc (by simp; omega) _).alloc (by simp; omega) _
    generalize (((w.alloc (.cells #[.int .i64 35, .int .i64 15] 3)).alloc (.cells #[.int .i64 30, .int .i64 20, .int .i64 10] 3)).alloc (.cells #[.int .i64 25, .int .i64 20, .int .i64 15, .int .i64 10] 3)).alloc (.cells #[.slice (some ⟨w.heap.size, 0, none⟩) 2 2, .slice (some ⟨w.heap.size + 1, 0, none⟩) 3 3, .slice (some ⟨w.heap.size + 1 + 1, 0, none⟩) 4 4] 22) = w0 at hrw hbw ⊢
    refine (HSO.out _ hbw).mono ?_
    rintro e w1 ⟨g, cap, rest, rfl, hrow, hg, hcap, hb⟩
    have HROW := Lib.hid (hrow.eq_ (srtJ_sortI xs))
    have HRW := Lib.hid (hrw.below hb hrw.lt)
    have HB := Lib.hid (hbw.trans (hb.mono hbw.size))
    clear hrow hrw hb hbw hg HSO
    go_wp2
    go_loopw [5, 6] (fun t i w' => ∃ k n : Nat, k ≤ 2 ∧ w' = w1.drewN n ∧ i = .int .i64 k ∧ t = .int .i64 (ForMath.sumI ((prodL (sortI xs) [35, 15]).take k))) (fun _ i _ => 2 - (intOf i).toNat)
    case atStart => exact ⟨0, 0, Nat.zero_le _, rfl, rfl, rfl⟩
    case round =>
      obtain ⟨k, n, hk, rfl, rfl, rfl⟩ := hrel
      by_cases hlt : k < 2
      · have hk1 : k < (sortI xs).length := by rw [HSL.out]; exact hlt
        have hk2 : k < ([35, 15] : List Int).length := by rw [HLN.out]; exact hlt
        have c0 := (HROW.out.drewN n).cell hk1
        have r0 := (HRW.out.drewN n).cell hk2
        have c0' := HROW.out.cell hk1
        have r0' := HRW.out.cell hk2
        have HT := Lib.hid (sumI_take (prodL (sortI xs) [35, 15]) k (by rw [HPL.out]; exact hlt))
        rw [prodL_at _ _ k hk1 hk2] at HT
        have hsb := sumI_take_bound (prodL (sortI xs) [35, 15]) k (by rw [HPL.out]; omega) HPB.out
        have hx : -99 ≤ (sortI xs).getD k 0 ∧ (sortI xs).getD k 0 ≤ 99 := by
          have := HXB.out _ (List.getElem_mem hk1)
          simpa only [List.getD, List.getElem?_eq_getElem hk1, Option.getD_some] using this
        have hy : 0 ≤ ([35, 15] : List Int).getD k 0 ∧ ([35, 15] : List Int).getD k 0 ≤ 100 := by
          have := HYB.out _ (List.getElem_mem hk2)
          simpa only [List.getD, List.getElem?_eq_getElem hk2, Option.getD_some] using this
        have hxy := mul_bound hx hy
        generalize (sortI xs).getD k 0 = x at c0 c0' HT hxy
        generalize ([35, 15] : List Int).getD k 0 = y at r0 r0' HT hxy
        generalize hp : x * y = p at HT hxy
        generalize ForMath.sumI ((prodL (sortI xs) [35, 15]).take k) = t at hsb HT
        have hwp : IntKind.i64.wrap (x * y) = p := by rw [hp]; exact IntWalk.i64_in _ (by omega)
        have hwt : IntKind.i64.wrap (t + p) = t + p := IntWalk.i64_in _ (by omega)
        have hk3 : (0 : Int) ≤ (k : Int) := Int.natCast_nonneg _
        have hk4 : (k : Int) < (2 : Int) := by omega
        clear hk1 hk2 hx hy hp
        go_wp2
        go_quiet (fail)
        go_wp2
        go_round
        case rel => exact ⟨k + 1, _, by omega, rfl, by go_num, by rw [HT.out]⟩
        case measure => simp [intOf]; omega
      · have HK : Hid (ForMath.sumI ((prodL (sortI xs) [35, 15]).take k) = ForMath.sumI (prodL (sortI xs) [35, 15])) := Lib.hid (by rw [List.take_of_length_le (by rw [HPL.out]; omega)])
        rw [HK.out]
        have hsb := sumI_take_bound (prodL (sortI xs) [35, 15]) k (by rw [HPL.out]; omega) HPB.out
        rw [HK.out] at hsb
        have hkn : ¬ (k : Int) < (2 : Int) := by omega
        generalize hN : ForMath.sumI (prodL (sortI xs) [35, 15]) = t at HV hsb HTB
        have HR := Lib.hid (fun W => half_any t 100 W (by have := HTB.out; omega) (by have := HTB.out; omega) (by omega) (by omega))
        rw [← HV.out t rfl] at HR
        go_wp2_with fail
        refine (HR.out _).mono ?_
        rintro e w2 ⟨rfl, hb2⟩
        have HB2 := Lib.hid ((belowJ HB.out n).trans (hb2.mono HB.out.size))
        clear hb2
        go_wp2
        go_ret
        exact ⟨rfl, HB2.out⟩
  · have hh : hundS xs.length = [30, 20, 10] := by rw [hl]; rfl
    rw [hh] at HLN HPB HYB HPL HV HTB
    rw [hl] at HLN HSL HSO HPL
    rw [hl]
    clear hh hl
    go_enter Tryz.func14, Tryz.ntmps14
    go_wp2_with fail
    have hrw : RowI ((((w.alloc (.cells #[.int .i64 35, .int .i64 15] 3)).alloc (.cells #[.int .i64 30, .int .i64 20, .int .i64 10] 3)).alloc (.cells #[.int .i64 25, .int .i64 20, .int .i64 15, .int .i64 10] 3)).alloc (.cells #[.slice (some ⟨w.heap.size, 0, none⟩) 2 2, .slice (some ⟨w.heap.size + 1, 0, none⟩) 3 3, .slice (some ⟨w.heap.size + 1 + 1, 0, none⟩) 4 4] 22)) (w.heap.size + 1) [30, 20, 10] := ((row_next w _ [30, 20, 10]).alloc _).alloc _
    have hbw : Below w.heap.size w ((((w.alloc (.cells #[.int .i64 35, .int .i64 15] 3)).alloc (.cells #[.int .i64 30, .int .i64 20, .int .i64 10] 3)).alloc (.cells #[.int .i64 25, .int .i64 20, .int .i64 15, .int .i64 10] 3)).alloc (.cells #[.slice (some ⟨w.heap.size, 0, none⟩) 2 2, .slice (some ⟨w.heap.size + 1, 0, none⟩) 3 3, .slice (some ⟨w.heap.size + 1 + 1, 0, none⟩) 4 4] 22)) := ((((Below.refl _ _).alloc (Nat.le_refl _) _).alloc (by simp) _).alloc (by simp; omega) _).alloc (by simp; omega) _
    generalize (((w.alloc (.cells #[.int .i64 35, .int .i64 15] 3)).alloc (.cells #[.int .i64 30, .int .i64 20, .int .i64 10] 3)).alloc (.cells #[.int .i64 25, .int .i64 20, .int .i64 15, .int .i64 10] 3)).alloc (.cells #[.slice (some ⟨w.heap.size, 0, none⟩) 2 2, .slice (some ⟨w.heap.size + 1, 0, none⟩) 3 3, .slice (some ⟨w.heap.size + 1 + 1, 0, none⟩) 4 4] 22) = w0 at hrw hbw ⊢
    refine (HSO.out _ hbw).mono ?_
    rintro e w1 ⟨g, cap, rest, rfl, hrow, hg, hcap, hb⟩
    have HROW := Lib.hid (hrow.eq_ (srtJ_sortI xs))
    have HRW := Lib.hid (hrw.below hb hrw.lt)
    have HB := Lib.hid (hbw.trans (hb.mono hbw.size))
    clear hrow hrw hb hbw hg HSO
    go_wp2
    go_loopw [5, 6] (fun t i w' => ∃ k n : Nat, k ≤ 3 ∧ w' = w1.drewN n ∧ i = .int .i64 k ∧ t = .int .i64 (ForMath.sumI ((prodL (sortI xs) [30, 20, 10]).take k))) (fun _ i _ => 3 - (intOf i).toNat)
    case atStart => exact ⟨0, 0, Nat.zero_le _, rfl, rfl, rfl⟩
    case round =>
      obtain ⟨k, n, hk, rfl, rfl, rfl⟩ := hrel
      by_cases hlt : k < 3
      · have hk1 : k < (sortI xs).length := by rw [HSL.out]; exact hlt
        have hk2 : k < ([30, 20, 10] : List Int).length := by rw [HLN.out]; exact hlt
        have c0 := (HROW.out.drewN n).cell hk1
        have r0 := (HRW.out.drewN n).cell hk2
        have c0' := HROW.out.cell hk1
        have r0' := HRW.out.cell hk2
        have HT := Lib.hid (sumI_take (prodL (sortI xs) [30, 20, 10]) k (by rw [HPL.out]; exact hlt))
        rw [prodL_at _ _ k hk1 hk2] at HT
        have hsb := sumI_take_bound (prodL (sortI xs) [30, 20, 10]) k (by rw [HPL.out]; omega) HPB.out
        have hx : -99 ≤ (sortI xs).getD k 0 ∧ (sortI xs).getD k 0 ≤ 99 := by
          have := HXB.out _ (List.getElem_mem hk1)
          simpa only [List.getD, List.getElem?_eq_getElem hk1, Option.getD_some] using this
        have hy : 0 ≤ ([30, 20, 10] : List Int).getD k 0 ∧ ([30, 20, 10] : List Int).getD k 0 ≤ 100 := by
          have := HYB.out _ (List.getElem_mem hk2)
          simpa only [List.getD, List.getElem?_eq_getElem hk2, Option.getD_some] using this
        have hxy := mul_bound hx hy
        generalize (sortI xs).getD k 0 = x at c0 c0' HT hxy
        generalize ([30, 20, 10] : List Int).getD k 0 = y at r0 r0' HT hxy
        generalize hp : x * y = p at HT hxy
        generalize ForMath.sumI ((prodL (sortI xs) [30, 20, 10]).take k) = t at hsb HT
        have hwp : IntKind.i64.wrap (x * y) = p := by rw [hp]; exact IntWalk.i64_in _ (by omega)
        have hwt : IntKind.i64.wrap (t + p) = t + p := IntWalk.i64_in _ (by omega)
        have hk3 : (0 : Int) ≤ (k : Int) := Int.natCast_nonneg _
        have hk4 : (k : Int) < (3 : Int) := by omega
        clear hk1 hk2 hx hy hp
        go_wp2
        go_quiet (fail)
        go_wp2
        go_round
        case rel => exact ⟨k + 1, _, by omega, rfl, by go_num, by rw [HT.out]⟩
        case measure => simp [intOf]; omega
      · have HK : Hid (ForMath.sumI ((prodL (sortI xs) [30, 20, 10]).take k) = ForMath.sumI (prodL (sortI xs) [30, 20, 10])) := Lib.hid (by rw [List.take_of_length_le (by rw [HPL.out]; omega)])
        rw [HK.out]
        have hsb := sumI_take_bound (prodL (sortI xs) [30, 20, 10]) k (by rw [HPL.out]; omega) HPB.out
        rw [HK.out] at hsb
        have hkn : ¬ (k : Int) < (3 : Int) := by omega
        generalize hN : ForMath.sumI (prodL (sortI xs) [30, 20, 10]) = t at HV hsb HTB
        have HR := Lib.hid (fun W => half_any t 100 W (by have := HTB.out; omega) (by have := HTB.out; omega) (by omega) (by omega))
        rw [← HV.out t rfl] at HR
        go_wp2_with fail
        refine (HR.out _).mono ?_
        rintro e w2 ⟨rfl, hb2⟩
        have HB2 := Lib.hid ((belowJ HB.out n).trans (hb2.mono HB.out.size))
        clear hb2
        go_wp2
        go_ret
        exact ⟨rfl, HB2.out⟩
  · have hh : hundS xs.length = [25, 20, 15, 10] := by rw [hl]; rfl
    rw [hh] at HLN HPB HYB HPL HV HTB
    rw [hl] at HLN HSL HSO HPL
    rw [hl]
    clear hh hl
    go_enter Tryz.func14, Tryz.ntmps14
    go_wp2_with fail
    have hrw : RowI ((((w.alloc (.cells #[.int .i64 35, .int .i64 15] 3)).alloc (.cells #[.int .i64 30, .int .i64 20, .int .i64 10] 3)).alloc (.cells #[.int .i64 25, .int .i64 20, .int .i64 15, .int .i64 10] 3)).alloc (.cells #[.slice (some ⟨w.heap.size, 0, none⟩) 2 2, .slice (some ⟨w.heap.size + 1, 0, none⟩) 3 3, .slice (some ⟨w.heap.size + 1 + 1, 0, none⟩) 4 4] 22)) (w.heap.size + 1 + 1) [25, 20, 15, 10] := (row_next2 w _ _ [25, 20, 15, 10]).alloc _
    have hbw : Below w.heap.size w ((((w.alloc (.cells #[.int .i64 35, .int .i64 15] 3)).alloc (.cells #[.int .i64 30, .int .i64 20, .int .i64 10] 3)).alloc (.cells #[.int .i64 25, .int .i64 20, .int .i64 15, .int .i64 10] 3)).alloc (.cells #[.slice (some ⟨w.heap.size, 0, none⟩) 2 2, .slice (some ⟨w.heap.size + 1, 0, none⟩) 3 3, .slice (some ⟨w.heap.size + 1 + 1, 0, none⟩) 4 4] 22)) := ((((Below.refl _ _).alloc (Nat.le_refl _) _).alloc (by simp) _).alloc (by simp; omega) _).alloc (by simp; omega) _
    generalize (((w.alloc (.cells #[.int .i64 35, .int .i64 15] 3)).alloc (.cells #[.int .i64 30, .int .i64 20, .int .i64 10] 3)).alloc (.cells #[.int .i64 25, .int .i64 20, .int .i64 15, .int .i64 10] 3)).alloc (.cells #[.slice (some ⟨w.heap.size, 0, none⟩) 2 2, .slice (some ⟨w.heap.size + 1, 0, none⟩) 3 3, .slice (some ⟨w.heap.size + 1 + 1, 0, none⟩) 4 4] 22) = w0 at hrw hbw ⊢
    refine (HSO.out _ hbw).mono ?_
    rintro e w1 ⟨g, cap, rest, rfl, hrow, hg, hcap, hb⟩
    have HROW := Lib.hid (hrow.eq_ (srtJ_sortI xs))
    have HRW := Lib.hid (hrw.below hb hrw.lt)
    have HB := Lib.hid (hbw.trans (hb.mono hbw.size))
    clear hrow hrw hb hbw hg HSO
    go_wp2
    go_loopw [5, 6] (fun t i w' => ∃ k n : Nat, k ≤ 4 ∧ w' = w1.drewN n ∧ i = .int .i64 k ∧ t = .int .i64 (ForMath.sumI ((prodL (sortI xs) [25, 20, 15, 10]).take k))) (fun _ i _ => 4 - (intOf i).toNat)
    case atStart => exact ⟨0, 0, Nat.zero_le _, rfl, rfl, rfl⟩
    case round =>
      obtain ⟨k, n, hk, rfl, rfl, rfl⟩ := hrel
      by_cases hlt : k < 4
      · have hk1 : k < (sortI xs).length := by rw [HSL.out]; exact hlt
        have hk2 : k < ([25, 20, 15, 10] : List Int).length := by rw [HLN.out]; exact hlt
        have c0 := (HROW.out.drewN n).cell hk1
        have r0 := (HRW.out.drewN n).cell hk2
        have c0' := HROW.out.cell hk1
        have r0' := HRW.out.cell hk2
        have HT := Lib.hid (sumI_take (prodL (sortI xs) [25, 20, 15, 10]) k (by rw [HPL.out]; exact hlt))
        rw [prodL_at _ _ k hk1 hk2] at HT
        have hsb := sumI_take_bound (prodL (sortI xs) [25, 20, 15, 10]) k (by rw [HPL.out]; omega) HPB.out
        have hx : -99 ≤ (sortI xs).getD k 0 ∧ (sortI xs).getD k 0 ≤ 99 := by
          have := HXB.out _ (List.getElem_mem hk1)
          simpa only [List.getD, List.getElem?_eq_getElem hk1, Option.getD_some] using this
        have hy : 0 ≤ ([25, 20, 15, 10] : List Int).getD k 0 ∧ ([25, 20, 15, 10] : List Int).getD k 0 ≤ 100 := by
          have := HYB.out _ (List.getElem_mem hk2)
          simpa only [List.getD, List.getElem?_eq_getElem hk2, Option.getD_some] using this
        have hxy := mul_bound hx hy
        generalize (sortI xs).getD k 0 = x at c0 c0' HT hxy
        generalize ([25, 20, 15, 10] : List Int).getD k 0 = y at r0 r0' HT hxy
        generalize hp : x * y = p at HT hxy
        generalize ForMath.sumI ((prodL (sortI xs) [25, 20, 15, 10]).take k) = t at hsb HT
        have hwp : IntKind.i64.wrap (x * y) = p := by rw [hp]; exact IntWalk.i64_in _ (by omega)
        have hwt : IntKind.i64.wrap (t + p) = t + p := IntWalk.i64_in _ (by omega)
        have hk3 : (0 : Int) ≤ (k : Int) := Int.natCast_nonneg _
        have hk4 : (k : Int) < (4 : Int) := by omega
        clear hk1 hk2 hx hy hp
        go_wp2
        go_quiet (fail)
        go_wp2
        go_round
        case rel => exact ⟨k + 1, _, by omega, rfl, by go_num, by rw [HT.out]⟩
        case measure => simp [intOf]; omega
      · have HK : Hid (ForMath.sumI ((prodL (sortI xs) [25, 20, 15, 10]).take k) = ForMath.sumI (prodL (sortI xs) [25, 20, 15, 10])) := Lib.hid (by rw [List.take_of_length_le (by rw [HPL.out]; omega)])
        rw [HK.out]
        have hsb := sumI_take_bound (prodL (sortI xs) [25, 20, 15, 10]) k (by rw [HPL.out]; omega) HPB.out
        rw [HK.out] at hsb
        have hkn : ¬ (k : Int) < (4 : Int) := by omega
        generalize hN : ForMath.sumI (prodL (sortI xs) [25, 20, 15, 10]) = t at HV hsb HTB
        have HR := Lib.hid (fun W => half_any t 100 W (by have := HTB.out; omega) (by have := HTB.out; omega) (by omega) (by omega))
        rw [← HV.out t rfl] at HR
        go_wp2_with fail
        refine (HR.out _).mono ?_
        rintro e w2 ⟨rfl, hb2⟩
        have HB2 := Lib.hid ((belowJ HB.out n).trans (hb2.mono HB.out.size))
        clear hb2
        go_wp2
        go_ret
        exact ⟨rfl, HB2.out⟩

set_option maxRecDepth 100000 in
set_option maxHeartbeats 1000000 in
theorem refTeam_any (A : Option Addr) (c k : Nat) (xs : List Int) (w : World) (h : IntsAt w w.heap.size A xs) (hs : SmallI xs) (h1 : 1 ≤ xs.length) (hl : xs.length ≤ 1000) (hk : k ≤ xs.length) :
    Calls Tryz.prog 15 #[.slice A xs.length c, .int .i64 (k : Int)] w fun e w' => e = .returned (.int .i64 (ForMath.sumI ((sortI xs).take k))) ∧ Below w.heap.size w w' := by
  obtain ⟨a, rfl, _, _⟩ := h 0 (by omega)
  have HSO := Lib.hid (refSorted_any a c xs w h h1 hl)
  have HSL := Lib.hid (sortI_len xs)
  have HK := Lib.hid hk
  have hk0 : (0 : Int) ≤ (k : Int) := Int.natCast_nonneg _
  have HTL : Hid (((sortI xs).take k).length = k) := Lib.hid (by simp [sortI_len]; omega)
  have HL := Lib.hid (fun (g cp : Nat) (W : World) (hi : Ints W (some ⟨g, 0, none⟩) ((sortI xs).take k)) => by
    have h := refLast_any (some ⟨g, 0, none⟩) cp k ((sortI xs).take k) W hi (fun x hx => hs x (mem_sortI.1 (List.mem_of_mem_take hx))) (by rw [HTL.out]; omega) (by rw [HTL.out]; omega)
    rw [HTL.out] at h
    unfold ForMath.lastSum at h
    rw [HTL.out, Nat.sub_self, List.drop_zero] at h
    exact h)
  rw [srtJ_sortI] at HSO
  generalize hT : (sortI xs).take k = T at HL HTL ⊢
  have HT := Lib.hid hT
  clear hT
  generalize ForMath.sumI T = r at HL ⊢
  clear h hs
  go_enter Tryz.func15, Tryz.ntmps15
  go_wp2_with fail
  refine HSO.out.mono ?_
  rintro e w1 ⟨g, cap, rest, rfl, hrow, hg, hcap, hb⟩
  have HROW := Lib.hid hrow
  have HB := Lib.hid hb
  have hkc : (k : Int) ≤ (cap : Int) := by omega
  have hkc2 : k ≤ cap := by omega
  clear hrow hb hg
  go_wp2_with fail
  refine (HL.out g _ _ (fun j hj => ?_)).mono ?_
  · obtain ⟨a2, e2, _, hc⟩ := HROW.out.ints (B := w1.heap.size) HROW.out.lt j (by rw [HSL.out]; rw [HTL.out] at hj; omega)
    refine ⟨a2, e2, ?_⟩
    rw [hc, ← HT.out]
    rw [HTL.out] at hj
    simp [List.getD, List.getElem?_take_of_lt hj]
  · rintro e w2 ⟨rfl, rfl⟩
    go_wp2
    go_ret
    exact ⟨rfl, HB.out⟩
end Go.Proofs.YtpdbebjlghihmaaGreatDoor
