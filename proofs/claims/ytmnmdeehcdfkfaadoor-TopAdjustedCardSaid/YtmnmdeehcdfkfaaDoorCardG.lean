/- The reference's CheckEntry and CheckEntries return entryI and entriesI. -/
import Derived.Test.YtmnmdeehcdfkfaaDoorCardF
namespace Go.Proofs.YtmnmdeehcdfkfaaDoor
open Go.RowKit

/-- Which of the four marks a text is: none, c, x, -, or another text. -/
def markK (m : ByteArray) : Nat :=
  if m.toList.isEmpty then 0 else if m.toList == [99] then 1 else if m.toList == [120] then 2 else if m.toList == [45] then 3 else 4

theorem mark_cases (m : ByteArray) :
    (m.toList.isEmpty = true ∧ (m.toList == [99]) = false ∧ (m.toList == [120]) = false ∧ (m.toList == [45]) = false ∧ markK m = 0) ∨
    (m.toList.isEmpty = false ∧ (m.toList == [99]) = true ∧ (m.toList == [120]) = false ∧ (m.toList == [45]) = false ∧ markK m = 1) ∨
    (m.toList.isEmpty = false ∧ (m.toList == [99]) = false ∧ (m.toList == [120]) = true ∧ (m.toList == [45]) = false ∧ markK m = 2) ∨
    (m.toList.isEmpty = false ∧ (m.toList == [99]) = false ∧ (m.toList == [120]) = false ∧ (m.toList == [45]) = true ∧ markK m = 3) ∨
    (m.toList.isEmpty = false ∧ (m.toList == [99]) = false ∧ (m.toList == [120]) = false ∧ (m.toList == [45]) = false ∧ markK m = 4) := by
  unfold markK
  generalize m.toList = l
  by_cases h0 : l = []
  · subst h0; exact .inl ⟨rfl, rfl, rfl, rfl, rfl⟩
  by_cases h1 : l = [99]
  · subst h1; exact .inr (.inl ⟨rfl, rfl, rfl, rfl, rfl⟩)
  by_cases h2 : l = [120]
  · subst h2; exact .inr (.inr (.inl ⟨rfl, rfl, rfl, rfl, rfl⟩))
  by_cases h3 : l = [45]
  · subst h3; exact .inr (.inr (.inr (.inl ⟨rfl, rfl, rfl, rfl, rfl⟩)))
  · have e0 : l.isEmpty = false := by cases l with | nil => exact absurd rfl h0 | cons _ _ => rfl
    have e1 : (l == [99]) = false := beq_eq_false_iff_ne.2 h1
    have e2 : (l == [120]) = false := beq_eq_false_iff_ne.2 h2
    have e3 : (l == [45]) = false := beq_eq_false_iff_ne.2 h3
    exact .inr (.inr (.inr (.inr ⟨e0, e1, e2, e3, by simp only [e0, e1, e2, e3]; rfl⟩)))

def entryI (n : Int) (m : ByteArray) : Int :=
  match markK m with
  | 0 => if 1 ≤ n ∧ n ≤ 99 then 0 else 3
  | 1 => if 1 ≤ n ∧ n ≤ 99 then 0 else 3
  | 2 => if n = 0 then 0 else 3
  | 3 => if n = 0 then 0 else 3
  | _ => 13

set_option maxHeartbeats 2000000 in
theorem refCheckEntry_any (n : Int) (m : ByteArray) (w : World) :
    Calls Tryd.prog 30 #[.agg #[.int .i64 n, .string m]] w fun e w' => e = .returned (.int .i64 (entryI n m)) ∧ Below w.heap.size w w' := by
  rcases mark_cases m with ⟨h1, h2, h3, h4, h5⟩ | ⟨h1, h2, h3, h4, h5⟩ | ⟨h1, h2, h3, h4, h5⟩ | ⟨h1, h2, h3, h4, h5⟩ | ⟨h1, h2, h3, h4, h5⟩
  all_goals
    have H5 := Lib.hid h5
    clear h5
    by_cases g1 : n < 1 <;> by_cases g2 : 99 < n <;> cases g0 : (n != 0)
    all_goals first
    | (exfalso; simp only [bne_eq_false_iff_eq, bne_iff_ne] at g0; omega)
    | (go_enter Tryd.func30, Tryd.ntmps30
       go_wp2
       go_ret
       refine ⟨?_, (Below.refl _ _).alloc (Nat.le_refl _) _⟩
       simp only [bne_eq_false_iff_eq, bne_iff_ne] at g0
       first
       | (have e : entryI n m = 0 := by unfold entryI; rw [H5.out]; simp <;> omega
          rw [e]; rfl)
       | (have e : entryI n m = 3 := by unfold entryI; rw [H5.out]; simp <;> omega
          rw [e]; rfl)
       | (have e : entryI n m = 13 := by unfold entryI; rw [H5.out]; rfl
          rw [e]; rfl))

/-- A slice's address under which entries lie: strokes and a mark each. -/
def EntriesR (w : World) (A : Option Addr) (l : List (Int × ByteArray)) : Prop :=
  ∀ j, j < l.length → ∃ a, A = some a ∧ w.cell? (a.add (j * 2)) = some (.int .i64 (l.getD j (0, ByteArray.empty)).1) ∧ w.cell? ⟨(a.add (j * 2)).block, (a.add (j * 2)).off + 1, none⟩ = some (.string (l.getD j (0, ByteArray.empty)).2) ∧ (a.add (j * 2)).block < w.heap.size

def entriesI : List (Int × ByteArray) → Int
  | [] => 0
  | (n, m) :: l => if entryI n m = 0 then entriesI l else entryI n m

theorem entriesI_drop (l : List (Int × ByteArray)) (k : Nat) (h : k < l.length) (n : Int) (m : ByteArray) (hp : l.getD k (0, ByteArray.empty) = (n, m)) :
    entriesI (l.drop k) = if entryI n m = 0 then entriesI (l.drop (k + 1)) else entryI n m := by
  rw [List.drop_eq_getElem_cons h]
  have e : l[k] = (n, m) := by rw [← hp]; simp [List.getD, List.getElem?_eq_getElem h]
  rw [e]
  rfl

set_option maxHeartbeats 2000000 in
theorem refCheckEntries_any (A : Option Addr) (c : Nat) (l : List (Int × ByteArray)) (w : World) (hl : l.length ≤ 4611686018427387904) (hr : EntriesR w A l) :
    Calls Tryd.prog 13 #[.slice A l.length c] w fun e w' => e = .returned (.int .i64 (entriesI l)) ∧ Below w.heap.size w w' := by
  have HR := Lib.hid hr
  clear hr
  go_enter Tryd.func13, Tryd.ntmps13
  go_wp2
  go_loopw [3] (fun i w' => ∃ k : Nat, k ≤ l.length ∧ i = .int .i64 k ∧ Below w.heap.size w w' ∧ entriesI (l.drop k) = entriesI l) (fun i _ => l.length - (intOf i).toNat)
  case atStart => exact ⟨0, Nat.zero_le _, rfl, Below.refl _ _, rfl⟩
  case round =>
    obtain ⟨k, hk, rfl, hb, hd⟩ := hrel
    have HD := Lib.hid hd
    clear hd
    by_cases hlt : k < l.length
    · obtain ⟨a, rfl, hc0, hc1, hbl⟩ := HR.out k hlt
      have hd0 := (hb.cell hbl).trans hc0
      have hd1 := (hb.cell (p := ⟨_, _, none⟩) hbl).trans hc1
      clear hc0 hc1
      have HS := Lib.hid (fun n m => entriesI_drop l k hlt n m)
      generalize hpx : l.getD k (0, ByteArray.empty) = px at hd0 hd1
      obtain ⟨n, m⟩ := px
      have HS2 := Lib.hid (HS.out n m hpx)
      clear hpx HS
      by_cases he : entryI n m = 0
      · have HE := Lib.hid he
        have hz : (entryI n m != 0) = false := by rw [he]; rfl
        clear he
        go_wp2_with fail
        refine (refCheckEntry_any _ _ _).mono ?_; rintro e w1 ⟨rfl, hb1⟩
        go_wp2
        go_roundw
        case rel => exact ⟨k + 1, by omega, by go_num, hb.trans (hb1.mono hb.size), by rw [← HD.out, HS2.out, if_pos HE.out]⟩
        case measure => simp [intOf]; omega
      · have HE := Lib.hid he
        have hz : (entryI n m != 0) = true := by rw [bne_iff_ne]; exact he
        clear he
        go_wp2_with fail
        refine (refCheckEntry_any _ _ _).mono ?_; rintro e w1 ⟨rfl, hb1⟩
        go_wp2
        go_ret
        exact ⟨by rw [← HD.out, HS2.out, if_neg HE.out]; rfl, hb.trans (hb1.mono hb.size)⟩
    · have hks := Lib.hid (show k = l.length by omega)
      go_wp2
      go_ret
      have hd := HD.out
      rw [List.drop_eq_nil_of_le (by have := hks.out; omega)] at hd
      exact ⟨by rw [← hd]; rfl, hb⟩

end Go.Proofs.YtmnmdeehcdfkfaaDoor
