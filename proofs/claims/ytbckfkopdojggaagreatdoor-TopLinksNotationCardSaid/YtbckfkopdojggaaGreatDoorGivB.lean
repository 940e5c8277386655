/- FormatGives: the reference's Given. -/
import Derived.Test.YtbckfkopdojggaaGreatDoorGivM
import Derived.Test.YtbckfkopdojggaaGreatDoorMgC
import Derived.Outline
set_option linter.unusedVariables false
set_option linter.unusedSimpArgs false
namespace Go.Proofs.YtbckfkopdojggaaGreatDoor
open Go.RowKit

theorem hole_at {hs : List (Int × Int)} {k : Nat} (h : k < hs.length) : hs.getD k (0, 0) ∈ hs := by simp [List.getD, List.getElem?_eq_getElem h]

set_option maxRecDepth 100000 in
set_option maxHeartbeats 4000000 in
theorem refGiven_pos (A : Option Addr) (c : Nat) (hs : List (Int × Int)) (h : Int) (w : World) (hr : HolesR w A hs) (hbl : ∀ a, A = some a → a.block < w.heap.size) (hl0 : 0 < hs.length) (hl : hs.length ≤ 1000)
    (h1 : -99 ≤ h) (h2 : h ≤ 99) (hx : ∀ x ∈ hs, 1 ≤ x.2 ∧ x.2 ≤ hs.length) (hp : 0 ≤ h) :
    Calls Tryz.prog 107 #[.slice A hs.length c, .int .i64 h] w (IntsOut (givenL (h / (hs.length : Int)) (h % (hs.length : Int)) hs) w) := by
  have hmk := make_ints hs.length (by omega)
  have HR := Lib.hid hr
  have HBL := Lib.hid hbl
  have HX := Lib.hid hx
  have HEND := Lib.hid (mixG_end h hs hl0 hx)
  have HLEN := Lib.hid (givenL_len (h / (hs.length : Int)) (h % (hs.length : Int)) hs)
  have HZ : Hid (mixG hs.length h hs 0 0 = nils hs.length) := Lib.hid (by
    rw [mixG_zero]
    unfold nils
    apply List.ext_getElem
    · simp
    · intro i g1 g2
      simp [gkG_zero])
  clear hr hbl hx
  obtain ⟨m, hm⟩ : ∃ m, h.natAbs = m := ⟨_, rfl⟩
  rw [hm] at HEND
  have hw0 : IntKind.i64.wrap (0 - h) = -h := by rw [IntWalk.i64_in _ (by omega)]; omega
  have hw1 : IntKind.i64.wrap (-h) = -h := IntWalk.i64_in _ (by omega)
  have hmx : max h (-h) = (m : Int) := by omega
  have hm99 : m ≤ 99 := by omega
  have hd0 : ¬ (hs.length : Int) = 0 := by omega
  have hdb : ((hs.length : Int) == 0) = false := by simpa using hd0
  have HM := Lib.hid hm
  clear hm
  generalize givenL (h / (hs.length : Int)) (h % (hs.length : Int)) hs = res at HEND HLEN ⊢
  obtain ⟨n0, hn0⟩ : ∃ n0, hs.length = n0 := ⟨_, rfl⟩
  have HN0 := Lib.hid hn0
  rw [hn0] at hmk hl0 hl HX HEND HLEN HZ hd0 hdb ⊢
  clear hn0
  go_enter Tryz.func107, Tryz.ntmps107
  go_wp2
  go_loopw [6] (fun kv w' => ∃ j : Nat, j ≤ m ∧ kv = .int .i64 j ∧ RowI w' w.heap.size (mixG n0 h hs j 0) ∧ Below w.heap.size w w') (fun kv _ => m - (intOf kv).toNat)
  case atStart => exact ⟨0, Nat.zero_le _, rfl, by rw [HZ.out]; exact RowI.new w _, (Below.refl _ _).alloc (Nat.le_refl _) _⟩
  case round =>
    obtain ⟨j, hj, rfl, hrow, hb⟩ := hrel
    have HROW := Lib.hid hrow
    have HB := Lib.hid hb
    clear hrow hb
    have hj0 : (0 : Int) ≤ (j : Int) := Int.natCast_nonneg _
    by_cases hlt : j < m
    · have hjm : decide ((j : Int) < (m : Int)) = true := decide_eq_true (by omega)
      have hh : 0 < h := by have := HM.out; omega
      have hmod : (j : Int).tmod (n0 : Int) = ((j % n0 : Nat) : Int) := (Int.ofNat_tmod j n0).symm
      have HIX : Hid (idxG n0 h j = ((j % n0 : Nat) : Int) + 1) := Lib.hid (by unfold idxG; rw [if_neg (by omega)])
      have hrl := Nat.mod_lt j hl0
      generalize hrr : j % n0 = r at hmod hrl HIX
      clear hrr
      have hw2 : IntKind.i64.wrap ((r : Int) + 1) = (r : Int) + 1 := IntWalk.i64_in _ (by omega)
      have hw3 : IntKind.i64.wrap ((n0 : Int) + 1) = (n0 : Int) + 1 := IntWalk.i64_in _ (by omega)
      have hw4 : IntKind.i64.wrap ((n0 : Int) + 1 - ((r : Int) + 1)) = (n0 : Int) + 1 - ((r : Int) + 1) := IntWalk.i64_in _ (by omega)
      have hs1 : decide (h < 0) = false := decide_eq_false (by omega)
      have hs2 : decide (0 < h) = true := decide_eq_true hh
      go_wp2
      go_loopw [8] (fun iv w' => ∃ q : Nat, q ≤ n0 ∧ iv = .int .i64 q ∧ RowI w' w.heap.size (mixG n0 h hs j q) ∧ Below w.heap.size w w') (fun iv _ => n0 - (intOf iv).toNat)
      case atStart => exact ⟨0, Nat.zero_le _, rfl, HROW.out, HB.out⟩
      case round =>
        obtain ⟨q, hq, rfl, hrow2, hb2⟩ := hrel
        have HROW2 := Lib.hid hrow2
        have HB2 := Lib.hid hb2
        clear hrow2 hb2
        have hq0 : (0 : Int) ≤ (q : Int) := Int.natCast_nonneg _
        by_cases hlq : q < n0
        · have hqh : q < hs.length := by rw [HN0.out]; exact hlq
          have hq1 : (q : Int) < (n0 : Int) := by omega
          have hqn : decide ((q : Int) < (n0 : Int)) = true := decide_eq_true hq1
          obtain ⟨a, rfl, g0, g1⟩ := (HR.out.keep HBL.out HB2.out) q hqh
          have hxb := HX.out _ (hole_at hqh)
          have r0 := HROW2.out.cell (j := q) (by rw [mixG_len]; exact hqh)
          have fr0 := HROW2.out.frozen q
          rw [mixG_at _ _ _ _ _ hqh] at r0
          have HG := Lib.hid (gkG_pos n0 h (hs.getD q (0, 0)).2 j hl0 hxb hh)
          rw [HIX.out] at HG
          have HSET := Lib.hid (mixG_set n0 h hs j q hqh)
          have HSAME := Lib.hid (mixG_same n0 h hs j q hqh)
          have hgb := gkG_bound n0 h (hs.getD q (0, 0)).2 j
          generalize gkG n0 h (hs.getD q (0, 0)).2 (j + 1) = y at HG HSET HSAME
          generalize gkG n0 h (hs.getD q (0, 0)).2 j = z at r0 HG HSAME hgb
          generalize (hs.getD q (0, 0)).2 = x at g1 HG
          clear g0 hxb
          have hwz : IntKind.i64.wrap (z + 1) = z + 1 := IntWalk.i64_in _ (by omega)
          cases hxx : (x == ((r : Int) + 1))
          · have HY : Hid (mixG n0 h hs j (q + 1) = mixG n0 h hs j q) := Lib.hid (by
              have := HG.out
              rw [if_neg (by simpa using hxx)] at this
              exact HSAME.out this)
            clear HG HSET HSAME
            go_wp2
            go_roundw
            case rel => exact ⟨q + 1, by omega, by go_num, by rw [HY.out]; exact HROW2.out, HB2.out⟩
            case measure => simp [intOf]; omega
          · have HY : Hid (y = z + 1) := Lib.hid (by
              have := HG.out
              rwa [if_pos (by simpa using hxx)] at this)
            have HS2 : Hid ((mixG n0 h hs j q).set q (z + 1) = mixG n0 h hs j (q + 1)) := Lib.hid (by rw [← HY.out]; exact HSET.out)
            clear HG HSET HSAME
            go_wp2
            go_roundw
            case rel => exact ⟨q + 1, by omega, by go_num, by rw [← HS2.out]; exact HROW2.out.set q _, HB2.out.setCell (Nat.le_refl _) _⟩
            case measure => simp [intOf]; omega
        · have hqn : decide ((q : Int) < (n0 : Int)) = false := decide_eq_false (by omega)
          have HA : Hid (mixG n0 h hs j q = mixG n0 h hs (j + 1) 0) := Lib.hid (mixG_all _ _ _ _ _ (by rw [HN0.out]; omega))
          go_wp2
          go_roundw
          case rel => exact ⟨j + 1, by omega, by go_num, by rw [← HA.out]; exact HROW2.out, HB2.out⟩
          case measure => simp [intOf]; omega
    · have hjm : decide ((j : Int) < (m : Int)) = false := decide_eq_false (by omega)
      have HE : Hid (mixG n0 h hs j 0 = res) := Lib.hid (by rw [show j = m by omega]; exact HEND.out)
      go_wp2
      go_ret
      exact ⟨w.heap.size, by rw [HLEN.out]; rfl, by rw [← HE.out]; exact HROW.out, Nat.le_refl _, HB.out⟩

set_option maxRecDepth 100000 in
set_option maxHeartbeats 4000000 in
theorem refGiven_neg (A : Option Addr) (c : Nat) (hs : List (Int × Int)) (h : Int) (w : World) (hr : HolesR w A hs) (hbl : ∀ a, A = some a → a.block < w.heap.size) (hl0 : 0 < hs.length) (hl : hs.length ≤ 1000)
    (h1 : -99 ≤ h) (h2 : h ≤ 99) (hx : ∀ x ∈ hs, 1 ≤ x.2 ∧ x.2 ≤ hs.length) (hp : h < 0) :
    Calls Tryz.prog 107 #[.slice A hs.length c, .int .i64 h] w (IntsOut (givenL (h / (hs.length : Int)) (h % (hs.length : Int)) hs) w) := by
  have hmk := make_ints hs.length (by omega)
  have HR := Lib.hid hr
  have HBL := Lib.hid hbl
  have HX := Lib.hid hx
  have HEND := Lib.hid (mixG_end h hs hl0 hx)
  have HLEN := Lib.hid (givenL_len (h / (hs.length : Int)) (h % (hs.length : Int)) hs)
  have HZ : Hid (mixG hs.length h hs 0 0 = nils hs.length) := Lib.hid (by
    rw [mixG_zero]
    unfold nils
    apply List.ext_getElem
    · simp
    · intro i g1 g2
      simp [gkG_zero])
  clear hr hbl hx
  obtain ⟨m, hm⟩ : ∃ m, h.natAbs = m := ⟨_, rfl⟩
  rw [hm] at HEND
  have hw0 : IntKind.i64.wrap (0 - h) = -h := by rw [IntWalk.i64_in _ (by omega)]; omega
  have hw1 : IntKind.i64.wrap (-h) = -h := IntWalk.i64_in _ (by omega)
  have hmx : max h (-h) = (m : Int) := by omega
  have hm99 : m ≤ 99 := by omega
  have hd0 : ¬ (hs.length : Int) = 0 := by omega
  have hdb : ((hs.length : Int) == 0) = false := by simpa using hd0
  have HM := Lib.hid hm
  clear hm
  generalize givenL (h / (hs.length : Int)) (h % (hs.length : Int)) hs = res at HEND HLEN ⊢
  obtain ⟨n0, hn0⟩ : ∃ n0, hs.length = n0 := ⟨_, rfl⟩
  have HN0 := Lib.hid hn0
  rw [hn0] at hmk hl0 hl HX HEND HLEN HZ hd0 hdb ⊢
  clear hn0
  go_enter Tryz.func107, Tryz.ntmps107
  go_wp2
  go_loopw [6] (fun kv w' => ∃ j : Nat, j ≤ m ∧ kv = .int .i64 j ∧ RowI w' w.heap.size (mixG n0 h hs j 0) ∧ Below w.heap.size w w') (fun kv _ => m - (intOf kv).toNat)
  case atStart => exact ⟨0, Nat.zero_le _, rfl, by rw [HZ.out]; exact RowI.new w _, (Below.refl _ _).alloc (Nat.le_refl _) _⟩
  case round =>
    obtain ⟨j, hj, rfl, hrow, hb⟩ := hrel
    have HROW := Lib.hid hrow
    have HB := Lib.hid hb
    clear hrow hb
    have hj0 : (0 : Int) ≤ (j : Int) := Int.natCast_nonneg _
    by_cases hlt : j < m
    · have hjm : decide ((j : Int) < (m : Int)) = true := decide_eq_true (by omega)
      have hh : h < 0 := by have := HM.out; omega
      have hmod : (j : Int).tmod (n0 : Int) = ((j % n0 : Nat) : Int) := (Int.ofNat_tmod j n0).symm
      have HIX : Hid (idxG n0 h j = (n0 : Int) + 1 - (((j % n0 : Nat) : Int) + 1)) := Lib.hid (by unfold idxG; rw [if_pos hh])
      have hrl := Nat.mod_lt j hl0
      generalize hrr : j % n0 = r at hmod hrl HIX
      clear hrr
      have hw2 : IntKind.i64.wrap ((r : Int) + 1) = (r : Int) + 1 := IntWalk.i64_in _ (by omega)
      have hw3 : IntKind.i64.wrap ((n0 : Int) + 1) = (n0 : Int) + 1 := IntWalk.i64_in _ (by omega)
      have hw4 : IntKind.i64.wrap ((n0 : Int) + 1 - ((r : Int) + 1)) = (n0 : Int) + 1 - ((r : Int) + 1) := IntWalk.i64_in _ (by omega)
      have hs1 : decide (h < 0) = true := decide_eq_true hh
      have hs2 : decide (0 < h) = false := decide_eq_false (by omega)
      go_wp2
      go_loopw [8] (fun iv w' => ∃ q : Nat, q ≤ n0 ∧ iv = .int .i64 q ∧ RowI w' w.heap.size (mixG n0 h hs j q) ∧ Below w.heap.size w w') (fun iv _ => n0 - (intOf iv).toNat)
      case atStart => exact ⟨0, Nat.zero_le _, rfl, HROW.out, HB.out⟩
      case round =>
        obtain ⟨q, hq, rfl, hrow2, hb2⟩ := hrel
        have HROW2 := Lib.hid hrow2
        have HB2 := Lib.hid hb2
        clear hrow2 hb2
        have hq0 : (0 : Int) ≤ (q : Int) := Int.natCast_nonneg _
        by_cases hlq : q < n0
        · have hqh : q < hs.length := by rw [HN0.out]; exact hlq
          have hq1 : (q : Int) < (n0 : Int) := by omega
          have hqn : decide ((q : Int) < (n0 : Int)) = true := decide_eq_true hq1
          obtain ⟨a, rfl, g0, g1⟩ := (HR.out.keep HBL.out HB2.out) q hqh
          have hxb := HX.out _ (hole_at hqh)
          have r0 := HROW2.out.cell (j := q) (by rw [mixG_len]; exact hqh)
          have fr0 := HROW2.out.frozen q
          rw [mixG_at _ _ _ _ _ hqh] at r0
          have HG := Lib.hid (gkG_neg n0 h (hs.getD q (0, 0)).2 j hl0 hxb hh)
          rw [HIX.out] at HG
          have HSET := Lib.hid (mixG_set n0 h hs j q hqh)
          have HSAME := Lib.hid (mixG_same n0 h hs j q hqh)
          have hgb := gkG_bound n0 h (hs.getD q (0, 0)).2 j
          generalize gkG n0 h (hs.getD q (0, 0)).2 (j + 1) = y at HG HSET HSAME
          generalize gkG n0 h (hs.getD q (0, 0)).2 j = z at r0 HG HSAME hgb
          generalize (hs.getD q (0, 0)).2 = x at g1 HG
          clear g0 hxb
          have hwz : IntKind.i64.wrap (z - 1) = z - 1 := IntWalk.i64_in _ (by omega)
          cases hxx : (x == ((n0 : Int) + 1 - ((r : Int) + 1)))
          · have HY : Hid (mixG n0 h hs j (q + 1) = mixG n0 h hs j q) := Lib.hid (by
              have := HG.out
              rw [if_neg (by simpa using hxx)] at this
              exact HSAME.out this)
            clear HG HSET HSAME
            go_wp2
            go_roundw
            case rel => exact ⟨q + 1, by omega, by go_num, by rw [HY.out]; exact HROW2.out, HB2.out⟩
            case measure => simp [intOf]; omega
          · have HY : Hid (y = z - 1) := Lib.hid (by
              have := HG.out
              rwa [if_pos (by simpa using hxx)] at this)
            have HS2 : Hid ((mixG n0 h hs j q).set q (z - 1) = mixG n0 h hs j (q + 1)) := Lib.hid (by rw [← HY.out]; exact HSET.out)
            clear HG HSET HSAME
            go_wp2
            go_roundw
            case rel => exact ⟨q + 1, by omega, by go_num, by rw [← HS2.out]; exact HROW2.out.set q _, HB2.out.setCell (Nat.le_refl _) _⟩
            case measure => simp [intOf]; omega
        · have hqn : decide ((q : Int) < (n0 : Int)) = false := decide_eq_false (by omega)
          have HA : Hid (mixG n0 h hs j q = mixG n0 h hs (j + 1) 0) := Lib.hid (mixG_all _ _ _ _ _ (by rw [HN0.out]; omega))
          go_wp2
          go_roundw
          case rel => exact ⟨j + 1, by omega, by go_num, by rw [← HA.out]; exact HROW2.out, HB2.out⟩
          case measure => simp [intOf]; omega
    · have hjm : decide ((j : Int) < (m : Int)) = false := decide_eq_false (by omega)
      have HE : Hid (mixG n0 h hs j 0 = res) := Lib.hid (by rw [show j = m by omega]; exact HEND.out)
      go_wp2
      go_ret
      exact ⟨w.heap.size, by rw [HLEN.out]; rfl, by rw [← HE.out]; exact HROW.out, Nat.le_refl _, HB.out⟩

theorem refGiven_any (A : Option Addr) (c : Nat) (hs : List (Int × Int)) (h : Int) (w : World) (hr : HolesR w A hs) (hbl : ∀ a, A = some a → a.block < w.heap.size) (hl0 : 0 < hs.length) (hl : hs.length ≤ 1000)
    (h1 : -99 ≤ h) (h2 : h ≤ 99) (hx : ∀ x ∈ hs, 1 ≤ x.2 ∧ x.2 ≤ hs.length) :
    Calls Tryz.prog 107 #[.slice A hs.length c, .int .i64 h] w (IntsOut (givenL (h / (hs.length : Int)) (h % (hs.length : Int)) hs) w) := by
  by_cases g : h < 0
  · exact refGiven_neg A c hs h w hr hbl hl0 hl h1 h2 hx g
  · exact refGiven_pos A c hs h w hr hbl hl0 hl h1 h2 hx (by omega)
end Go.Proofs.YtbckfkopdojggaaGreatDoor
