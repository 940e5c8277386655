/- Sums over entries and net strokes; whether all holes count. -/
import Derived.Test.YtmnmdeehcdfkfaaDoorFrmF
namespace Go.Proofs.YtmnmdeehcdfkfaaDoor
open Go.RowKit

theorem sumI_snoc (l : List Int) (x : Int) : ForMath.sumI (l ++ [x]) = ForMath.sumI l + x := by
  induction l with
  | nil => simp [ForMath.sumI]
  | cons y l ih => simp only [List.cons_append, ForMath.sumI_cons, ih]; omega
theorem sumI_take (l : List Int) (k : Nat) (h : k < l.length) : ForMath.sumI (l.take (k + 1)) = ForMath.sumI (l.take k) + l.getD k 0 := by
  rw [List.take_succ_eq_append_getElem h, sumI_snoc]
  simp [List.getD, List.getElem?_eq_getElem h]
theorem sumI_bound (b : Int) : ∀ l : List Int, (∀ x ∈ l, -b ≤ x ∧ x ≤ b) → -(b * l.length) ≤ ForMath.sumI l ∧ ForMath.sumI l ≤ b * l.length
  | [], _ => by simp [ForMath.sumI]
  | x :: l, h => by
    have h1 := h x (by simp)
    have h2 := sumI_bound b l (fun y hy => h y (by simp [hy]))
    rw [ForMath.sumI_cons, List.length_cons]
    have : b * ((l.length + 1 : Nat) : Int) = b * l.length + b := by rw [Int.natCast_add, Int.mul_add]; simp
    omega
theorem sumI_take_bound (l : List Int) (k : Nat) (hl : l.length ≤ 1000) (h : ∀ x ∈ l, -10000 ≤ x ∧ x ≤ 10000) : -10000000 ≤ ForMath.sumI (l.take k) ∧ ForMath.sumI (l.take k) ≤ 10000000 := by
  have h1 := sumI_bound 10000 (l.take k) (fun x hx => h x (List.mem_of_mem_take hx))
  have h2 := List.length_take_le' k l
  omega

def firsts (l : List (Int × ByteArray)) : List Int := l.map (·.1)
theorem firsts_len (l : List (Int × ByteArray)) : (firsts l).length = l.length := by simp [firsts]
theorem firsts_at (l : List (Int × ByteArray)) (k : Nat) (h : k < l.length) : (firsts l).getD k 0 = (l.getD k (0, ByteArray.empty)).1 := by
  simp [firsts, List.getD, List.getElem?_eq_getElem h]
def Small (l : List (Int × ByteArray)) : Prop := ∀ x ∈ firsts l, -10000 ≤ x ∧ x ≤ 10000
theorem Small.at {l : List (Int × ByteArray)} (h : Small l) (k : Nat) (hk : k < l.length) : -10000 ≤ (l.getD k (0, ByteArray.empty)).1 ∧ (l.getD k (0, ByteArray.empty)).1 ≤ 10000 := by
  rw [← firsts_at l k hk]
  have hk2 : k < (firsts l).length := by rw [firsts_len]; exact hk
  have := h ((firsts l)[k]) (List.getElem_mem hk2)
  simpa [List.getD, List.getElem?_eq_getElem hk2] using this
def sumS (l : List (Int × ByteArray)) : Int := ForMath.sumI (firsts l)

set_option maxHeartbeats 400000 in
theorem gross1_any (s : Int) (m : ByteArray) (w : World) :
    Calls Tryd.prog 42 #[.agg #[.int .i64 s, .string m]] w fun e w' => e = .returned (.int .i64 s) ∧ Below w.heap.size w w' := by
  go_enter Tryd.func42, Tryd.ntmps42
  go_wp2
  go_ret
  exact ⟨rfl, (Below.refl _ _).alloc (Nat.le_refl _) _⟩
set_option maxHeartbeats 400000 in
theorem netStrokes_any (s : Int) (m : ByteArray) (w : World) :
    Calls Tryd.prog 44 #[.agg #[.int .i64 s, .string m]] w fun e w' => e = .returned (.int .i64 s) ∧ Below w.heap.size w w' := by
  go_enter Tryd.func44, Tryd.ntmps44
  go_wp2
  go_ret
  exact ⟨rfl, (Below.refl _ _).alloc (Nat.le_refl _) _⟩
def countsB (m : ByteArray) : Bool := m.toList.isEmpty
set_option maxHeartbeats 400000 in
theorem netCounts_any (s : Int) (m : ByteArray) (w : World) :
    Calls Tryd.prog 37 #[.agg #[.int .i64 s, .string m]] w fun e w' => e = .returned (.bool (countsB m)) ∧ Below w.heap.size w w' := by
  cases h : m.toList.isEmpty
  all_goals
    have H := Lib.hid h
    go_enter Tryd.func37, Tryd.ntmps37
    go_wp2
    go_ret
    exact ⟨by rw [countsB, H.out]; rfl, (Below.refl _ _).alloc (Nat.le_refl _) _⟩
set_option maxHeartbeats 400000 in
theorem isWhole1_any (s : Int) (m : ByteArray) (w : World) :
    Calls Tryd.prog 57 #[.agg #[.int .i64 s, .string m]] w fun e w' => e = .returned (.bool (!countsB m)) ∧ Below w.heap.size w w' := by
  go_enter Tryd.func57, Tryd.ntmps57
  go_wp2_with fail
  refine (netCounts_any _ _ _).mono ?_; rintro e w1 ⟨rfl, hb1⟩
  have HB := Lib.hid hb1
  clear hb1
  go_wp2
  go_ret
  exact ⟨rfl, ((Below.refl _ _).alloc (Nat.le_refl _) _).trans (HB.out.mono (by simp))⟩

set_option maxRecDepth 100000 in
set_option maxHeartbeats 1000000 in
theorem sumEntries_any (A : Option Addr) (c : Nat) (l : List (Int × ByteArray)) (w : World) (he : EntriesR w A l) (hs : Small l) (hl : l.length ≤ 1000) :
    Calls Tryd.prog 41 #[.slice A l.length c, .func (.func 42) #[] #[]] w fun e w' => e = .returned (.int .i64 (sumS l)) ∧ Below w.heap.size w w' := by
  have HE := Lib.hid he
  have HS := Lib.hid hs
  clear he hs
  go_enter Tryd.func41, Tryd.ntmps41
  go_wp2
  go_loopw [5, 10] (fun t i w' => ∃ k : Nat, k ≤ l.length ∧ i = .int .i64 k ∧ t = .int .i64 (ForMath.sumI ((firsts l).take k)) ∧ Below w.heap.size w w') (fun _ i _ => l.length - (intOf i).toNat)
  case atStart => exact ⟨0, Nat.zero_le _, rfl, by simp [ForMath.sumI], Below.refl _ _⟩
  case round =>
    obtain ⟨k, hk, rfl, rfl, hb⟩ := hrel
    have HB := Lib.hid hb
    clear hb
    by_cases hlt : k < l.length
    · obtain ⟨a, rfl, d0, d1, _⟩ := (HE.out.keep HB.out) k hlt
      have HK := Lib.hid (HS.out.at k hlt)
      have HT := Lib.hid (sumI_take (firsts l) k (by rw [firsts_len]; exact hlt))
      rw [firsts_at l k hlt] at HT
      generalize l.getD k (0, ByteArray.empty) = en at d0 d1 HK HT
      obtain ⟨s, m⟩ := en
      simp only at d0 d1 HK HT
      have hsb := sumI_take_bound (firsts l) k (by rw [firsts_len]; exact hl) HS.out
      have hkb := HK.out
      generalize ForMath.sumI ((firsts l).take k) = t at hsb HT
      go_wp2_with fail
      refine (gross1_any _ _ _).mono ?_; rintro e w2 ⟨rfl, hb2⟩
      have HB2 := Lib.hid hb2
      clear hb2
      go_wp2
      go_roundw
      case rel => exact ⟨k + 1, by omega, by go_num, by rw [HT.out], (HB.out.alloc HB.out.size _).trans (HB2.out.mono (by have := HB.out.size; simp; omega))⟩
      case measure => simp [intOf]; omega
    · have hk2 : (firsts l).take k = firsts l := List.take_of_length_le (by rw [firsts_len]; omega)
      have HK := Lib.hid hk2
      clear hk2
      go_wp2
      go_ret
      exact ⟨by show Ending.returned (.int .i64 (ForMath.sumI ((firsts l).take k))) = _; rw [HK.out]; rfl, HB.out⟩

set_option maxRecDepth 100000 in
set_option maxHeartbeats 1000000 in
theorem sumNets_any (A : Option Addr) (c : Nat) (l : List (Int × ByteArray)) (w : World) (he : EntriesR w A l) (hs : Small l) (hl : l.length ≤ 1000) :
    Calls Tryd.prog 43 #[.slice A l.length c, .func (.func 44) #[] #[]] w fun e w' => e = .returned (.int .i64 (sumS l)) ∧ Below w.heap.size w w' := by
  have HE := Lib.hid he
  have HS := Lib.hid hs
  clear he hs
  go_enter Tryd.func43, Tryd.ntmps43
  go_wp2
  go_loopw [5, 10] (fun t i w' => ∃ k : Nat, k ≤ l.length ∧ i = .int .i64 k ∧ t = .int .i64 (ForMath.sumI ((firsts l).take k)) ∧ Below w.heap.size w w') (fun _ i _ => l.length - (intOf i).toNat)
  case atStart => exact ⟨0, Nat.zero_le _, rfl, by simp [ForMath.sumI], Below.refl _ _⟩
  case round =>
    obtain ⟨k, hk, rfl, rfl, hb⟩ := hrel
    have HB := Lib.hid hb
    clear hb
    by_cases hlt : k < l.length
    · obtain ⟨a, rfl, d0, d1, _⟩ := (HE.out.keep HB.out) k hlt
      have HK := Lib.hid (HS.out.at k hlt)
      have HT := Lib.hid (sumI_take (firsts l) k (by rw [firsts_len]; exact hlt))
      rw [firsts_at l k hlt] at HT
      generalize l.getD k (0, ByteArray.empty) = en at d0 d1 HK HT
      obtain ⟨s, m⟩ := en
      simp only at d0 d1 HK HT
      have hsb := sumI_take_bound (firsts l) k (by rw [firsts_len]; exact hl) HS.out
      have hkb := HK.out
      generalize ForMath.sumI ((firsts l).take k) = t at hsb HT
      go_wp2_with fail
      refine (netStrokes_any _ _ _).mono ?_; rintro e w2 ⟨rfl, hb2⟩
      have HB2 := Lib.hid hb2
      clear hb2
      go_wp2
      go_roundw
      case rel => exact ⟨k + 1, by omega, by go_num, by rw [HT.out], (HB.out.alloc HB.out.size _).trans (HB2.out.mono (by have := HB.out.size; simp; omega))⟩
      case measure => simp [intOf]; omega
    · have hk2 : (firsts l).take k = firsts l := List.take_of_length_le (by rw [firsts_len]; omega)
      have HK := Lib.hid hk2
      clear hk2
      go_wp2
      go_ret
      exact ⟨by show Ending.returned (.int .i64 (ForMath.sumI ((firsts l).take k))) = _; rw [HK.out]; rfl, HB.out⟩

def allCount (l : List (Int × ByteArray)) : Bool := l.all fun e => countsB e.2
/-- An index of the first that is so, or -1. -/
def IdxOut (b : Bool) (w : World) (e : Ending) (w' : World) : Prop := ∃ i : Int, e = .returned (.int .i64 i) ∧ decide (0 ≤ i) = b ∧ Below w.heap.size w w'

set_option maxRecDepth 100000 in
set_option maxHeartbeats 1000000 in
theorem indexNets_any (A : Option Addr) (c : Nat) (l : List (Int × ByteArray)) (w : World) (he : EntriesR w A l) (hl : l.length ≤ 1000) :
    Calls Tryd.prog 61 #[.slice A l.length c, .func (.func 57) #[] #[]] w (IdxOut (!allCount l) w) := by
  have HE := Lib.hid he
  clear he
  go_enter Tryd.func61, Tryd.ntmps61
  go_wp2
  go_loopw [8] (fun i w' => ∃ k : Nat, k ≤ l.length ∧ i = .int .i64 k ∧ allCount (l.take k) = true ∧ Below w.heap.size w w') (fun i _ => l.length - (intOf i).toNat)
  case atStart => exact ⟨0, Nat.zero_le _, rfl, rfl, Below.refl _ _⟩
  case round =>
    obtain ⟨k, hk, rfl, hall, hb⟩ := hrel
    have HALL := Lib.hid hall
    have HB := Lib.hid hb
    clear hb hall
    by_cases hlt : k < l.length
    · obtain ⟨a, rfl, d0, d1, _⟩ := (HE.out.keep HB.out) k hlt
      have HTK : Hid (l.take (k + 1) = l.take k ++ [l.getD k (0, ByteArray.empty)]) := Lib.hid (by
        rw [List.take_succ_eq_append_getElem hlt]; simp [List.getD, List.getElem?_eq_getElem hlt])
      have HMEM : Hid (l.getD k (0, ByteArray.empty) ∈ l) := Lib.hid (by
        simp [List.getD, List.getElem?_eq_getElem hlt])
      generalize l.getD k (0, ByteArray.empty) = en at d0 d1 HTK HMEM
      obtain ⟨s, m⟩ := en
      simp only at d0 d1 HTK HMEM
      have hk0 : (0 : Int) ≤ (k : Int) := Int.natCast_nonneg _
      have hk1 : (k : Int) < (l.length : Int) := by omega
      cases hc : countsB m
      all_goals
        have HC := Lib.hid hc
        go_wp2_with fail
        refine (isWhole1_any _ _ _).mono ?_; rintro e w2 ⟨rfl, hb2⟩
        have HB2 := Lib.hid hb2
        clear hb2
        rw [HC.out]
        clear hc
      · go_wp2
        go_ret
        exact ⟨(k : Int), rfl, by rw [decide_eq_true hk0]; unfold allCount; rw [List.all_eq_false.2 ⟨_, HMEM.out, by simp [HC.out]⟩]; rfl, HB.out.trans (HB2.out.mono HB.out.size)⟩
      · go_wp2
        go_roundw
        case rel => exact ⟨k + 1, by omega, by go_num, by rw [HTK.out]; unfold allCount at HALL ⊢; rw [List.all_append, HALL.out]; simp [HC.out], HB.out.trans (HB2.out.mono HB.out.size)⟩
        case measure => simp [intOf]; omega
    · have hk2 : l.take k = l := List.take_of_length_le (by omega)
      have HK := Lib.hid hk2
      clear hk2
      go_wp2
      go_ret
      exact ⟨-1, rfl, by have := HALL.out; rw [HK.out] at this; rw [this]; rfl, HB.out⟩

set_option maxHeartbeats 400000 in
theorem containsNets_any (A : Option Addr) (c : Nat) (l : List (Int × ByteArray)) (w : World) (he : EntriesR w A l) (hl : l.length ≤ 1000) :
    Calls Tryd.prog 56 #[.slice A l.length c, .func (.func 57) #[] #[]] w fun e w' => e = .returned (.bool (!allCount l)) ∧ Below w.heap.size w w' := by
  have HI := Lib.hid (indexNets_any A c l w he hl)
  clear he
  go_enter Tryd.func56, Tryd.ntmps56
  go_wp2_with fail
  refine HI.out.mono ?_; rintro e w1 ⟨i, rfl, hi, hb⟩
  have HII := Lib.hid hi
  have HB := Lib.hid hb
  clear hi hb HI
  go_wp2
  go_ret
  exact ⟨by rw [← HII.out]; rfl, HB.out⟩

set_option maxHeartbeats 400000 in
theorem isWhole_any (A B : Option Addr) (c d m : Nat) (l : List (Int × ByteArray)) (w : World) (he : EntriesR w A l) (hl : l.length ≤ 1000) :
    Calls Tryd.prog 40 #[.agg #[.slice B m d, .slice A l.length c]] w fun e w' => e = .returned (.bool (allCount l)) ∧ Below w.heap.size w w' := by
  have HI := Lib.hid (fun o => containsNets_any A c l (w.alloc o) (he.keep ((Below.refl _ _).alloc (Nat.le_refl _) o)) hl)
  clear he
  go_enter Tryd.func40, Tryd.ntmps40
  go_wp2_with fail
  refine (HI.out _).mono ?_; rintro e w1 ⟨rfl, hb⟩
  have HB := Lib.hid hb
  clear hb HI
  go_wp2
  go_ret
  exact ⟨by cases allCount l <;> rfl, ((Below.refl _ _).alloc (Nat.le_refl _) _).trans (HB.out.mono (by simp))⟩

set_option maxHeartbeats 400000 in
theorem gross_any (A B : Option Addr) (c d m : Nat) (l : List (Int × ByteArray)) (w : World) (he : EntriesR w B l) (hs : Small l) (hl : l.length ≤ 1000) :
    Calls Tryd.prog 24 #[.agg #[.slice B l.length d, .slice A m c]] w fun e w' => e = .returned (.int .i64 (sumS l)) ∧ Below w.heap.size w w' := by
  have HI := Lib.hid (fun o => sumEntries_any B d l (w.alloc o) (he.keep ((Below.refl _ _).alloc (Nat.le_refl _) o)) hs hl)
  clear he
  go_enter Tryd.func24, Tryd.ntmps24
  go_wp2_with fail
  refine (HI.out _).mono ?_; rintro e w1 ⟨rfl, hb⟩
  have HB := Lib.hid hb
  clear hb HI
  go_wp2
  go_ret
  exact ⟨rfl, ((Below.refl _ _).alloc (Nat.le_refl _) _).trans (HB.out.mono (by simp))⟩
set_option maxHeartbeats 400000 in
theorem net_any (A B : Option Addr) (c d m : Nat) (l : List (Int × ByteArray)) (w : World) (he : EntriesR w A l) (hs : Small l) (hl : l.length ≤ 1000) :
    Calls Tryd.prog 25 #[.agg #[.slice B m d, .slice A l.length c]] w fun e w' => e = .returned (.int .i64 (sumS l)) ∧ Below w.heap.size w w' := by
  have HI := Lib.hid (fun o => sumNets_any A c l (w.alloc o) (he.keep ((Below.refl _ _).alloc (Nat.le_refl _) o)) hs hl)
  clear he
  go_enter Tryd.func25, Tryd.ntmps25
  go_wp2_with fail
  refine (HI.out _).mono ?_; rintro e w1 ⟨rfl, hb⟩
  have HB := Lib.hid hb
  clear hb HI
  go_wp2
  go_ret
  exact ⟨rfl, ((Below.refl _ _).alloc (Nat.le_refl _) _).trans (HB.out.mono (by simp))⟩

end Go.Proofs.YtmnmdeehcdfkfaaDoor
