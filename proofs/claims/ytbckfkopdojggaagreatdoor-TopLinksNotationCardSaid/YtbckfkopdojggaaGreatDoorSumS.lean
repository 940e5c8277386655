/- The reference's checks of a player; short players, few holes. -/
import Derived.Test.YtbckfkopdojggaaGreatDoorMgF
import Derived.Test.YtbckfkopdojggaaGreatDoorMgD
import Derived.Outline
set_option linter.unusedVariables false
set_option linter.unusedSimpArgs false
namespace Go.Proofs.YtbckfkopdojggaaGreatDoor
open Go.RowKit

def outB (n : Int) : Bool := decide (n < -99) || decide (99 < n)
set_option maxHeartbeats 400000 in
theorem refOut_any (n : Int) (w : World) :
    Calls Tryz.prog 158 #[.int .i64 n] w fun e w' => e = .returned (.bool (outB n)) ∧ w = w' := by
  by_cases h1 : n < -99
  · go_enter Tryz.func158, Tryz.ntmps158
    go_wp2
    go_ret
    exact ⟨by simp [outB, h1], rfl⟩
  · by_cases h2 : 99 < n
    all_goals
      go_enter Tryz.func158, Tryz.ntmps158
      go_wp2
      go_ret
      exact ⟨by simp [outB, h1, h2], rfl⟩

/-- A player's error, by the reference. -/
def refPlI (hs : List (Int × Int)) (nm : ByteArray) (l : List (Int × ByteArray)) (h : Int) : Int := if cardI hs nm l = 0 then (if outB h then 3 else 0) else cardI hs nm l
theorem refPlI_eq (hs : List (Int × Int)) (nm : ByteArray) (l : List (Int × ByteArray)) (h : Int) : refPlI hs nm l h = playerI hs nm l h := by
  unfold refPlI playerI
  by_cases h1 : cardI hs nm l = 0
  · have h2 := firstI_zero _ h1 (holesI hs) (by simp)
    rw [if_pos h1, h1, h2]
    unfold outB withinI
    by_cases g1 : h < -99
    · simp [firstI, g1]; omega
    · by_cases g2 : 99 < h
      · simp [firstI, g2] <;> omega
      · simp [firstI, g1, g2] <;> omega
  · rw [if_neg h1]
    by_cases h2 : holesI hs = 0
    · simp [firstI, h2, h1]
    · have : cardI hs nm l = holesI hs := by unfold cardI; simp [firstI, h2]
      simp [firstI, h2, this]

set_option maxRecDepth 100000 in
set_option maxHeartbeats 1000000 in
theorem refPlayer_any (A B : Option Addr) (c d : Nat) (hs : List (Int × Int)) (nm : ByteArray) (l : List (Int × ByteArray)) (h : Int) (w : World) (hr : HolesR w A hs) (hbl : ∀ a, A = some a → a.block < w.heap.size)
    (hl : hs.length ≤ 4611686018427387904) (he : EntriesR w B l) (hl2 : l.length ≤ 4611686018427387904) :
    Calls Tryz.prog 96 #[.slice A hs.length c, .agg #[.string nm, .slice B l.length d, .int .i64 h]] w fun e w' => e = .returned (.int .i64 (playerI hs nm l h)) ∧ Below w.heap.size w w' := by
  rw [← refPlI_eq]
  have HC := Lib.hid (fun W (hb : Below w.heap.size w W) => refCheckCard_any A B c d hs nm l W (hr.keep hbl hb) (fun a ha => Nat.lt_of_lt_of_le (hbl a ha) hb.size) hl (he.keep hb) hl2)
  have HV : Hid (refPlI hs nm l h = if cardI hs nm l = 0 then (if outB h then 3 else 0) else cardI hs nm l) := Lib.hid rfl
  clear hr hbl he
  generalize refPlI hs nm l h = res at HV ⊢
  generalize cardI hs nm l = q at HC HV
  generalize hob : outB h = ob at HV
  have HOB := Lib.hid hob
  clear hob
  go_enter Tryz.func96, Tryz.ntmps96
  go_wp2_with fail
  refine (HC.out _ ((Below.refl _ _).alloc (Nat.le_refl _) _)).mono ?_
  rintro e w1 ⟨rfl, hb1⟩
  have HR := Lib.hid ((BlkV.new w 84 #[.string nm, .slice B l.length d, .int .i64 h]).below hb1 (by simp))
  have HB := Lib.hid (((Below.refl w.heap.size w).alloc (Nat.le_refl _) (.cells #[.string nm, .slice B l.length d, .int .i64 h] 84)).trans (hb1.mono (by simp)))
  have k2 := HR.out.cell 2
  simp only [List.getElem?_toArray, List.getElem?_cons_zero, List.getElem?_cons_succ] at k2
  clear hb1 HC
  by_cases hq : q = 0
  · have hqb : (q == 0) = true := by simpa using hq
    go_wp2_with fail
    refine (refOut_any _ _).mono ?_
    rintro e w2 ⟨rfl, rfl⟩
    rw [HOB.out]
    cases ob
    all_goals
      go_wp2
      go_ret
      refine ⟨?_, HB.out⟩
      rw [HV.out, if_pos hq]
      first | rfl | (rw [hq]; rfl)
  · have hqb : (q == 0) = false := beq_eq_false_iff_ne.2 hq
    go_wp2
    go_ret
    exact ⟨by rw [HV.out, if_neg hq]; rfl, HB.out⟩

def shortB (nm : ByteArray) (l : List (Int × ByteArray)) : Bool := decide (nm.size ≤ 60) && decide (l.length ≤ 39) && l.all fun e => decide (e.2.size ≤ 60)
set_option maxRecDepth 100000 in
set_option maxHeartbeats 1000000 in
theorem shortPlayer_any (B : Option Addr) (d : Nat) (nm : ByteArray) (l : List (Int × ByteArray)) (h : Int) (w : World) (he : EntriesR w B l) :
    Calls Tryz.prog 33 #[.agg #[.string nm, .slice B l.length d, .int .i64 h]] w fun e w' => e = .returned (.bool (shortB nm l)) ∧ Below w.heap.size w w' := by
  by_cases h1 : nm.size ≤ 60
  · have h1i : (nm.size : Int) ≤ 60 := by omega
    by_cases h2 : l.length ≤ 39
    · have h2i : (l.length : Int) ≤ 39 := by omega
      have HE := Lib.hid he
      have HV : Hid (shortB nm l = l.all fun e => decide (e.2.size ≤ 60)) := Lib.hid (by unfold shortB; rw [decide_eq_true h1, decide_eq_true h2]; rfl)
      clear he
      generalize shortB nm l = res at HV ⊢
      go_enter Tryz.func33, Tryz.ntmps33
      go_wp2
      go_loop [3] (fun i => ∃ k : Nat, k ≤ l.length ∧ i = .int .i64 k ∧ (l.take k).all (fun e => decide (e.2.size ≤ 60)) = true) (fun i => l.length - (intOf i).toNat)
      case atStart => exact ⟨0, Nat.zero_le _, rfl, rfl⟩
      case round =>
        obtain ⟨k, hk, rfl, hall⟩ := hrel
        have HALL := Lib.hid hall
        clear hall
        by_cases hlt : k < l.length
        · obtain ⟨a, rfl, d0, d1, _⟩ := (HE.out.keep ((Below.refl _ _).alloc (Nat.le_refl _) (.cells #[.string nm, .slice B l.length d, .int .i64 h] 84))) k hlt
          have HTK : Hid (l.take (k + 1) = l.take k ++ [l.getD k (0, ByteArray.empty)]) := Lib.hid (by
            rw [List.take_succ_eq_append_getElem hlt]; simp [List.getD, List.getElem?_eq_getElem hlt])
          have HMEM : Hid (l.getD k (0, ByteArray.empty) ∈ l) := Lib.hid (by simp [List.getD, List.getElem?_eq_getElem hlt])
          generalize l.getD k (0, ByteArray.empty) = en at d0 d1 HTK HMEM
          obtain ⟨s, m⟩ := en
          simp only at d0 d1
          have hk0 : (0 : Int) ≤ (k : Int) := Int.natCast_nonneg _
          have hk1 : (k : Int) < (l.length : Int) := by omega
          by_cases hm : m.size ≤ 60
          · have hmi : (m.size : Int) ≤ 60 := by omega
            go_wp2
            go_round
            case rel => exact ⟨k + 1, by omega, by go_num, by rw [HTK.out, List.all_append, HALL.out]; simp [hm]⟩
            case measure => simp [intOf]; omega
          · have hmi : (60 : Int) < (m.size : Int) := by omega
            go_wp2
            go_ret
            refine ⟨?_, (Below.refl _ _).alloc (Nat.le_refl _) _⟩
            rw [HV.out, List.all_eq_false.2 ⟨_, HMEM.out, by simpa using hm⟩]
            rfl
        · have hlk : l.take k = l := List.take_of_length_le (by omega)
          have HALL2 : Hid (l.all (fun e => decide (e.2.size ≤ 60)) = true) := Lib.hid (by have := HALL.out; rwa [hlk] at this)
          clear hlk
          go_wp2
          go_ret
          exact ⟨by rw [HV.out, HALL2.out]; rfl, (Below.refl _ _).alloc (Nat.le_refl _) _⟩
    · have h2i : (39 : Int) < (l.length : Int) := by omega
      have HV : Hid (shortB nm l = false) := Lib.hid (by unfold shortB; rw [decide_eq_false h2]; simp)
      clear he
      go_enter Tryz.func33, Tryz.ntmps33
      go_wp2
      go_ret
      exact ⟨by rw [HV.out]; rfl, (Below.refl _ _).alloc (Nat.le_refl _) _⟩
  · have h1i : (60 : Int) < (nm.size : Int) := by omega
    have HV : Hid (shortB nm l = false) := Lib.hid (by unfold shortB; rw [decide_eq_false h1]; simp)
    clear he
    go_enter Tryz.func33, Tryz.ntmps33
    go_wp2
    go_ret
    exact ⟨by rw [HV.out]; rfl, (Below.refl _ _).alloc (Nat.le_refl _) _⟩

end Go.Proofs.YtbckfkopdojggaaGreatDoor
