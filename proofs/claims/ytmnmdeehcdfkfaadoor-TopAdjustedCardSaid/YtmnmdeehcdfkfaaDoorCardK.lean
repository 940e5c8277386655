/- The program's CheckHoles returns holesI. -/
import Derived.Test.YtmnmdeehcdfkfaaDoorCardJ
import Derived.Test.YtmnmdeehcdfkfaaDoorCardE
import Derived.Deep.RegionWith
import Derived.Deep.RegionHeld3
namespace Go.Proofs.YtmnmdeehcdfkfaaDoor
open Go.RowKit

theorem Ints.drew {w : World} {A : Option Addr} {xs : List Int} (h : Ints w A xs) : Ints w.drew A xs := h

theorem zeroBool (w : World) : (zeroValue 4).run Tryd.prog w = .ok (.bool false) w := by kernel_rfl

theorem look_set (w : World) (b n : Nat) (l : List Int) (x : Int) (hb : w.heap[b]? = some (.map (setEs 0 l).toArray n)) :
    (Instr.lookup 75 (.map (some b)) (.int .i64 x) false).run Tryd.prog w = .ok (.bool (decide (x ∈ l))) w := by
  have h := find_setEs x l 0 0
  by_cases hx : x ∈ l
  · rw [if_pos hx] at h
    obtain ⟨q, hq⟩ := h
    rw [decide_eq_true hx]
    exact run_get_yes (i := q) w Tryd.underlying75 Tryd.underlying3 hb _ rfl hq
  · rw [if_neg hx] at h
    rw [decide_eq_false hx]
    exact run_get_no w Tryd.underlying75 Tryd.underlying3 (zeroBool w) hb _ rfl h

set_option maxRecDepth 100000 in
set_option maxHeartbeats 2000000 in
theorem checkHoles_any (A : Option Addr) (c : Nat) (hs : List (Int × Int)) (w : World) (hr : HolesR w A hs) (hbl : ∀ a, A = some a → a.block < w.heap.size) (hl : hs.length ≤ 4611686018427387904) :
    Calls Tryd.prog 27 #[.slice A hs.length c] w fun e w' => e = .returned (.int .i64 (holesI hs)) ∧ Below w.heap.size w w' := by
  have HR := Lib.hid hr
  clear hr
  have hmm := @run_makeMap Tryd.prog
  by_cases h1 : hs.length = 0 ∨ 36 < hs.length
  · have hz : (sizedI hs.length 36 != 0) = true := by
      unfold sizedI
      rcases h1 with h | h
      · rw [if_pos h]; rfl
      · rw [if_neg (by omega), if_neg (by omega)]; rfl
    have hv : Hid (sizedI hs.length 36 = holesI hs) := by
      show _ = _
      unfold sizedI holesI
      rcases h1 with h | h
      · rw [if_pos h, if_pos h]
      · rw [if_neg (by omega), if_neg (by omega), if_neg (by omega), if_pos h]
    clear h1
    go_enter Tryd.func27, Tryd.ntmps27
    go_wp2_with fail
    refine (sizedHole_any _ _ _ _ _ hl).mono ?_; rintro e w1 ⟨rfl, hb1⟩
    go_wp2
    go_ret
    exact ⟨by rw [← hv.out]; rfl, hb1⟩
  have hz : (sizedI hs.length 36 != 0) = false := by
    unfold sizedI
    rw [if_neg (by omega), if_pos (by omega)]; rfl
  have HI : Hid (holesI hs = holesGo hs.length [] hs) := by
    show _ = _
    rw [holesI, if_neg (by omega), if_neg (by omega)]
  clear h1
  go_enter Tryd.func27, Tryd.ntmps27
  go_wp2_with fail
  refine (sizedHole_any _ _ _ _ _ hl).mono ?_; rintro e w1 ⟨rfl, hb1⟩
  go_wp2
  go_loopw [16] (fun i w' => ∃ k : Nat, k ≤ hs.length ∧ Below w1.heap.size w1 w' ∧ w'.heap[w1.heap.size]? = some (.map (setEs 0 ((hs.take k).map (·.2))).toArray k) ∧ i = .int .i64 k ∧ holesGo hs.length ((hs.take k).map (·.2)).reverse (hs.drop k) = holesGo hs.length [] hs) (fun i _ => hs.length - (intOf i).toNat)
  case atStart => exact ⟨0, Nat.zero_le _, (Below.refl _ _).alloc (Nat.le_refl _) _, (MapKept.heap_alloc w1 _).1, rfl, rfl⟩
  case round =>
    obtain ⟨k, hk, hb, hm, rfl, hd⟩ := hrel
    have HD := Lib.hid hd
    clear hd
    by_cases hlt : k < hs.length
    · obtain ⟨a, rfl, hc0, hc1⟩ := HR.out k hlt
      have hba := hbl a rfl
      have hab : (a.add (k * 2)).block < w.heap.size := by unfold Addr.add; split <;> exact hba
      have hd0 := (hb.cell (p := a.add (k * 2)) (by have := hb1.size; omega)).trans ((hb1.cell hab).trans hc0)
      have hd1 := (hb.cell (p := ⟨(a.add (k * 2)).block, _, none⟩) (by have := hb1.size; simp; omega)).trans ((hb1.cell (p := ⟨_, _, none⟩) hab).trans hc1)
      clear hc0 hc1
      have HS := Lib.hid (fun p x => holesGo_drop hs hs.length k hlt p x)
      generalize hpx : hs.getD k (0, 0) = px at hd0 hd1
      obtain ⟨p, x⟩ := px
      have HS2 := Lib.hid (HS.out p x hpx)
      have HPX := Lib.hid hpx
      clear hpx HS
      have hms : w1.heap.size < wr.heap.size := by
        rcases Nat.lt_or_ge w1.heap.size wr.heap.size with hlt' | hge
        · exact hlt'
        · rw [Array.getElem?_eq_none hge] at hm; cases hm
      have l1 := fun (B : Obj) => look_set (wr.alloc B).drew w1.heap.size k _ x ((Below.heap_alloc wr B _ hms).trans hm)
      generalize hxs : (hs.take k).map (·.2) = xs at hm l1 HS2 HD
      have HXS := Lib.hid hxs
      clear hxs
      have HSet : Hid (setEs 0 ((hs.take (k + 1)).map (·.2)) = setEs 0 xs ++ [⟨.int .i64 x, .bool true, k⟩]) := by
        show _ = _
        have e : hs[k] = (p, x) := by rw [← HPX.out]; simp [List.getD, List.getElem?_eq_getElem hlt]
        rw [List.take_succ_eq_append_getElem hlt, e, List.map_append, HXS.out]
        have := setEs_snoc 0 xs x
        have hlen : xs.length = k := by rw [← HXS.out, List.length_map, List.length_take]; omega
        rw [hlen, Nat.zero_add] at this
        exact this
      by_cases he : firstI [withinI p 3 6, withinI x 1 ↑hs.length, unlessI (!decide (x ∈ xs)) 9] = 0
      · have hz2 : (firstI [withinI p 3 6, withinI x 1 ↑hs.length, unlessI (!decide (x ∈ xs)) 9] != 0) = false := by rw [he]; rfl
        have hgood : ((3 ≤ p ∧ p ≤ 6) ∧ (1 ≤ x ∧ x ≤ hs.length)) ∧ ¬ x ∈ xs := by
          simp only [firstI, withinI, unlessI] at he
          by_cases g1 : 3 ≤ p ∧ p ≤ 6
          · by_cases g2 : 1 ≤ x ∧ x ≤ (hs.length : Int)
            · by_cases g3 : x ∈ xs
              · simp [g1, g2, g3] at he
              · exact ⟨⟨g1, g2⟩, g3⟩
            · simp [g1, g2] at he
          · simp [g1] at he
        have HS3 : Hid (_ = _) := HS2.out.trans ((if_neg (by omega)).trans (if_neg hgood.2))
        have hnf := find_setEs x xs 0 0
        rw [if_neg hgood.2] at hnf
        have p1 := fun (B C : Obj) => run_put_at (P := Tryd.prog) ((wr.alloc B).alloc C).drew Tryd.underlying75 Tryd.underlying3 ((Below.heap_alloc (wr.alloc B) C _ (by simp; omega)).trans ((Below.heap_alloc wr B _ hms).trans hm)) (.int .i64 x) (.bool true) rfl hnf
        have HM := Lib.hid (fun (B C : Obj) (o : Obj) => putObj_at (w := ((wr.alloc B).alloc C).drew) (o' := o) ((Below.heap_alloc (wr.alloc B) C _ (by simp; omega)).trans ((Below.heap_alloc wr B _ hms).trans hm)))
        clear he hgood hnf HS2
        go_wp2
        go_region_held3 (fun w' => w'.cell? ⟨wr.heap.size, 0, none⟩ = some (.int .i64 p) ∧ w'.cell? ⟨wr.heap.size, 1, none⟩ = some (.int .i64 x)) (go_keep) (first | (go_at_call 46; refine (within_any _ _ _ _).mono ?_; rintro e w2 ⟨rfl, rfl⟩) | (go_at_call 33; refine (unless_any _ _ _).mono ?_; rintro e w2 ⟨rfl, rfl⟩) | (go_at_call 32; refine (first_any _ _ [_, _, _] _ (by simp) (Ints.three _ _ _ _ _ _ (by simp)).drew).mono ?_; rintro e w2 ⟨rfl, rfl⟩))
        all_goals
          go_wp2
          go_roundw
          case rel =>
            refine ⟨k + 1, by omega, ?_, ?_, by go_num, by rw [← HD.out, HS3.out]⟩
            · exact (((hb.alloc hb.size _).alloc (by have := hb.size; simp; omega) _).drew).trans (putObj_below _ _ _ _ (Nat.le_refl _))
            · rw [HSet.out]; refine (HM.out _ _ _).trans ?_; simp
          case measure => simp [intOf]; omega
      · have hz2 : (firstI [withinI p 3 6, withinI x 1 ↑hs.length, unlessI (!decide (x ∈ xs)) 9] != 0) = true := by rw [bne_iff_ne]; exact he
        have hval : Hid (firstI [withinI p 3 6, withinI x 1 ↑hs.length, unlessI (!decide (x ∈ xs)) 9] = holesI hs) := by
          show _ = _
          rw [HI.out, ← HD.out, HS2.out]
          simp only [firstI, withinI, unlessI] at he ⊢
          by_cases g1 : 3 ≤ p ∧ p ≤ 6
          · by_cases g2 : 1 ≤ x ∧ x ≤ (hs.length : Int)
            · by_cases g3 : x ∈ xs
              · simp [g1, g2, g3]
              · exact absurd (by simp [g1, g2, g3]) he
            · simp [g1, g2]
          · simp [g1]
        clear he HS2 HD HI
        go_wp2
        go_region_held3 (fun w' => w'.cell? ⟨wr.heap.size, 0, none⟩ = some (.int .i64 p) ∧ w'.cell? ⟨wr.heap.size, 1, none⟩ = some (.int .i64 x)) (go_keep) (first | (go_at_call 46; refine (within_any _ _ _ _).mono ?_; rintro e w2 ⟨rfl, rfl⟩) | (go_at_call 33; refine (unless_any _ _ _).mono ?_; rintro e w2 ⟨rfl, rfl⟩) | (go_at_call 32; refine (first_any _ _ [_, _, _] _ (by simp) (Ints.three _ _ _ _ _ _ (by simp)).drew).mono ?_; rintro e w2 ⟨rfl, rfl⟩))
        all_goals
          go_wp2
          go_ret
          refine ⟨by rw [← hval.out]; rfl, hb1.trans (Below.mono ?_ hb1.size)⟩
          exact ((hb.alloc hb.size _).alloc (by have := hb.size; simp; omega) _).drew
    · have hks := Lib.hid (show k = hs.length by omega)
      go_wp2
      go_ret
      have hd := HD.out
      rw [List.drop_eq_nil_of_le (by have := hks.out; omega)] at hd
      exact ⟨by rw [HI.out, ← hd]; rfl, hb1.trans (hb.mono hb1.size)⟩

end Go.Proofs.YtmnmdeehcdfkfaaDoor
