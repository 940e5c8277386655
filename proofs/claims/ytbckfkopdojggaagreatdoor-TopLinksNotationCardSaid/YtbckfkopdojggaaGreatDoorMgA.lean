/- Merged: GenA CardA CardB CardC CardD CardE CardF CardG CardH. -/
import Derived.Test.YtbckfkopdojggaaGreatDoorProg
import Derived.WalkKit
import Derived.WalkSpells
import Derived.WalkLawsBesides
import Derived.Lib.Hide
import Derived.Laws.Runes
import Derived.Laws.RangeString
import Derived.Laws.RangeAny
import Derived.BigQuiet
import Derived.Deep.QuietTactic
/- Words for the contracts: errors by tests, lists of integers in memory. -/
set_option linter.unusedVariables false
set_option linter.unusedSimpArgs false
namespace Go.Proofs.YtbckfkopdojggaaGreatDoor
open Go.RowKit

def letB (r : Int) : Bool := (decide (65 ≤ r) && decide (r ≤ 90)) || (decide (97 ≤ r) && decide (r ≤ 122))
/-- The results of unless and within, as closed words: the walk doesn't take them apart. -/
def unlessI (b : Bool) (n : Int) : Int := if b then 0 else n
def withinI (n a b : Int) : Int := if a ≤ n ∧ n ≤ b then 0 else 3
def digB (r : Int) : Bool := decide (48 ≤ r) && decide (r ≤ 57)

/-- A slice's address under which the integers of a list lie, one a cell. -/
def Ints (w : World) (A : Option Addr) (xs : List Int) : Prop :=
  ∀ j, j < xs.length → ∃ a, A = some a ∧ w.cell? (a.add j) = some (.int .i64 (xs.getD j 0))

def firstI : List Int → Int
  | [] => 0
  | x :: l => if x = 0 then firstI l else x

theorem firstI_drop (xs : List Int) (k : Nat) (h : k < xs.length) :
    firstI (xs.drop k) = if xs.getD k 0 = 0 then firstI (xs.drop (k + 1)) else xs.getD k 0 := by
  rw [List.drop_eq_getElem_cons h]
  simp [firstI, List.getD, List.getElem?_eq_getElem h]

theorem Ints.of_block {w : World} {g T : Nat} {fr : Nat × Nat} {cs : Array Value} (h : w.heap[g]? = some (.cells cs T fr)) (xs : List Int)
    (hx : ∀ j, j < xs.length → cs[j]? = some (.int .i64 (xs.getD j 0))) : Ints w (some ⟨g, 0, none⟩) xs := fun j hj => by
  refine ⟨_, rfl, ?_⟩
  have e : (Addr.add ⟨g, 0, none⟩ j) = ⟨g, j, none⟩ := by
    unfold Addr.add
    split
    · rename_i h0; rw [h0]
    · simp
  rw [e, cell_of_row w g j cs T fr h, hx j hj]

theorem Ints.two (w : World) (g T : Nat) (x y : Int) (hg : w.heap.size = g) :
    Ints (w.alloc (.cells #[.int .i64 x, .int .i64 y] T)) (some ⟨g, 0, none⟩) [x, y] := by
  subst hg
  exact Ints.of_block (heap_alloc_new w _) _ fun j hj => match j, hj with
    | 0, _ => rfl
    | 1, _ => rfl

theorem Ints.three (w : World) (g T : Nat) (x y z : Int) (hg : w.heap.size = g) :
    Ints (w.alloc (.cells #[.int .i64 x, .int .i64 y, .int .i64 z] T)) (some ⟨g, 0, none⟩) [x, y, z] := by
  subst hg
  exact Ints.of_block (heap_alloc_new w _) _ fun j hj => match j, hj with
    | 0, _ => rfl
    | 1, _ => rfl
    | 2, _ => rfl

def pairedI (n m : Nat) : Int := if n = m then 0 else 2
def sizedI (n : Nat) (m : Int) : Int := if n = 0 then 12 else if (n : Int) ≤ m then 0 else 5

end Go.Proofs.YtbckfkopdojggaaGreatDoor

/- The small functions of package card: tests of letters and digits, first, unless, within; each returns what its Lean function says and leaves the world alone. -/
namespace Go.Proofs.YtbckfkopdojggaaGreatDoor
open Go.RowKit

set_option maxHeartbeats 400000 in
theorem isLetter_any (r : Int) (w : World) :
    Calls Tryz.prog 215 #[.int .i32 r] w fun e w' => e = .returned (.bool (letB r)) ∧ w = w' := by
  by_cases h1 : 65 ≤ r <;> by_cases h2 : r ≤ 90 <;> by_cases h3 : 97 ≤ r <;> by_cases h4 : r ≤ 122
  all_goals
    go_enter Tryz.func215, Tryz.ntmps215
    go_wp2
    go_ret
    exact ⟨by simp [letB, h1, h2, h3, h4], rfl⟩

set_option maxHeartbeats 400000 in
theorem isDigit_any (r : Int) (w : World) :
    Calls Tryz.prog 216 #[.int .i32 r] w fun e w' => e = .returned (.bool (digB r)) ∧ w = w' := by
  by_cases h1 : 48 ≤ r <;> by_cases h2 : r ≤ 57
  all_goals
    go_enter Tryz.func216, Tryz.ntmps216
    go_wp2
    go_ret
    exact ⟨by simp [digB, h1, h2], rfl⟩

set_option maxHeartbeats 400000 in
theorem unless_any (b : Bool) (n : Int) (w : World) :
    Calls Tryz.prog 105 #[.bool b, .int .i64 n] w fun e w' => e = .returned (.int .i64 (unlessI b n)) ∧ w = w' := by
  cases b
  all_goals
    go_enter Tryz.func105, Tryz.ntmps105
    go_wp2
    go_ret
    exact ⟨rfl, rfl⟩

set_option maxHeartbeats 400000 in
theorem within_any (n a b : Int) (w : World) :
    Calls Tryz.prog 104 #[.int .i64 n, .int .i64 a, .int .i64 b] w fun e w' => e = .returned (.int .i64 (withinI n a b)) ∧ w = w' := by
  by_cases h1 : a ≤ n <;> by_cases h2 : n ≤ b
  all_goals
    go_enter Tryz.func104, Tryz.ntmps104
    go_wp2_with (go_at_call 105; refine (unless_any _ _ _).mono ?_; rintro e w' ⟨rfl, rfl⟩)
    go_ret
    exact ⟨by simp [withinI, unlessI, h1, h2], rfl⟩

end Go.Proofs.YtbckfkopdojggaaGreatDoor

/- The first error of a list, and the errors of lists by their lengths. -/
namespace Go.Proofs.YtbckfkopdojggaaGreatDoor
open Go.RowKit

set_option maxHeartbeats 400000 in
theorem first_any (A : Option Addr) (c : Nat) (xs : List Int) (w : World) (hl : xs.length ≤ 4611686018427387904) (h : Ints w A xs) :
    Calls Tryz.prog 62 #[.slice A xs.length c] w fun e w' => e = .returned (.int .i64 (firstI xs)) ∧ w = w' := by
  have H := Lib.hid h
  clear h
  go_enter Tryz.func62, Tryz.ntmps62
  go_wp2
  go_loop [7] (fun i => ∃ k : Nat, k ≤ xs.length ∧ i = .int .i64 k ∧ firstI (xs.drop k) = firstI xs) (fun i => xs.length - (intOf i).toNat)
  case atStart => exact ⟨0, Nat.zero_le _, rfl, rfl⟩
  case round =>
    obtain ⟨k, hk, rfl, hd⟩ := hrel
    have HD := Lib.hid hd
    clear hd
    by_cases hlt : k < xs.length
    · obtain ⟨a, rfl, hc⟩ := H.out k hlt
      have hs := Lib.hid (firstI_drop xs k hlt)
      generalize xs.getD k 0 = x at hc hs
      by_cases hx : x = 0
      · subst hx
        go_wp2
        go_round
        case rel => exact ⟨k + 1, by omega, by go_num, by have := hs.out; simp at this; rw [← this]; exact HD.out⟩
        case measure => simp [intOf]; omega
      · have hxb : (x != 0) = true := by simpa using hx
        go_wp2
        go_ret
        have := hs.out
        rw [if_neg hx] at this
        exact ⟨by rw [← this, HD.out]; rfl, rfl⟩
    · have : k = xs.length := by omega
      go_wp2
      go_ret
      have hd := HD.out
      rw [List.drop_eq_nil_of_le (by omega)] at hd
      exact ⟨by rw [← hd]; rfl, rfl⟩

end Go.Proofs.YtbckfkopdojggaaGreatDoor

/- The errors of lists by their lengths: sized and paired, at each element type. -/
namespace Go.Proofs.YtbckfkopdojggaaGreatDoor
open Go.RowKit

set_option maxHeartbeats 400000 in
theorem sizedHole_any (A : Option Addr) (n c : Nat) (m : Int) (w : World) (hn : n ≤ 4611686018427387904) :
    Calls Tryz.prog 103 #[.slice A n c, .int .i64 m] w fun e w' => e = .returned (.int .i64 (sizedI n m)) ∧ Below w.heap.size w w' := by
  by_cases h1 : 0 < n <;> by_cases h2 : (n : Int) ≤ m
  all_goals
    go_enter Tryz.func103, Tryz.ntmps103
    go_wp2_with fail
    refine (unless_any _ _ _).mono ?_; rintro e w' ⟨rfl, rfl⟩
    go_wp2_with fail
    refine (unless_any _ _ _).mono ?_; rintro e w' ⟨rfl, rfl⟩
    go_wp2_with fail
    refine (first_any _ _ [_, _] _ (by simp) (Ints.two _ _ _ _ _ rfl)).mono ?_; rintro e w' ⟨rfl, rfl⟩
    go_wp2
    go_ret
    exact ⟨by simp [sizedI, firstI, unlessI, h2]; omega, (Below.refl _ _).alloc (Nat.le_refl _) _⟩

set_option maxHeartbeats 400000 in
theorem pairedEntryHole_any (A B : Option Addr) (n c m d : Nat) (w : World) :
    Calls Tryz.prog 193 #[.slice A n c, .slice B m d] w fun e w' => e = .returned (.int .i64 (pairedI n m)) ∧ w = w' := by
  by_cases h : n = m
  · subst h
    go_enter Tryz.func193, Tryz.ntmps193
    go_wp2_with (go_at_call 105; refine (unless_any _ _ _).mono ?_; rintro e w' ⟨rfl, rfl⟩)
    go_ret
    exact ⟨by simp [pairedI, unlessI], rfl⟩
  · have hb : ((n : Int) == (m : Int)) = false := by rw [beq_eq_false_iff_ne]; omega
    go_enter Tryz.func193, Tryz.ntmps193
    go_wp2_with (go_at_call 105; refine (unless_any _ _ _).mono ?_; rintro e w' ⟨rfl, rfl⟩)
    go_ret
    exact ⟨by simp [pairedI, unlessI, h], rfl⟩

end Go.Proofs.YtbckfkopdojggaaGreatDoor

/- Names: the reference's IsName and the program's, each returns nameB of the text. -/
namespace Go.Proofs.YtbckfkopdojggaaGreatDoor
open Go.RowKit

def nameCh (start : Bool) (c : Int) : Bool := letB c || (!start && (digB c || c == 95))
def nameGo : List UInt8 → Bool → Bool
  | [], _ => true
  | c :: l, start => nameCh start (c.toNat : Int) && nameGo l false
def nameB (s : ByteArray) : Bool := decide (1 ≤ s.size) && decide (s.size ≤ 24) && nameGo s.data.toList true

theorem nameGo_drop (s : ByteArray) (k : Nat) (h : k < s.size) :
    nameGo (s.data.toList.drop k) (k == 0) = (nameCh (k == 0) (s[k].toNat : Int) && nameGo (s.data.toList.drop (k + 1)) false) := by
  have hl : k < s.data.toList.length := by simpa using h
  rw [List.drop_eq_getElem_cons hl]
  rfl

theorem cls (c : Int) : c < 48 ∨ (48 ≤ c ∧ c ≤ 57) ∨ (57 < c ∧ c < 65) ∨ (65 ≤ c ∧ c ≤ 90) ∨ (90 < c ∧ c < 95) ∨ c = 95 ∨ c = 96 ∨ (97 ≤ c ∧ c ≤ 122) ∨ 122 < c := by omega

theorem nameCh_no (st : Bool) (c : Int) (h : letB c = false) (h' : st = true ∨ (digB c = false ∧ c ≠ 95)) : nameCh st c = false := by
  unfold nameCh
  rcases h' with rfl | ⟨a, b⟩
  · simp [h]
  · simp [h, a, b]
theorem nameCh_yes (st : Bool) (c : Int) (h : letB c = true ∨ (st = false ∧ (digB c = true ∨ c = 95))) : nameCh st c = true := by
  unfold nameCh
  rcases h with h | ⟨rfl, h | h⟩
  · simp [h]
  · simp [h]
  · simp [h]

set_option maxHeartbeats 2000000 in
theorem refIsName_any (s : ByteArray) (w : World) :
    Calls Tryz.prog 187 #[.string s] w fun e w' => e = .returned (.bool (nameB s)) ∧ w = w' := by
  by_cases h1 : s.size < 1
  · go_enter Tryz.func187, Tryz.ntmps187
    go_wp2
    go_ret
    exact ⟨by simp [nameB]; omega, rfl⟩
  by_cases h2 : 24 < s.size
  · go_enter Tryz.func187, Tryz.ntmps187
    go_wp2
    go_ret
    exact ⟨by simp [nameB]; omega, rfl⟩
  have hb : Hid (nameB s = nameGo s.data.toList true) := by
    show nameB s = _
    unfold nameB
    rw [decide_eq_true (by omega), decide_eq_true (by omega)]
    rfl
  go_enter Tryz.func187, Tryz.ntmps187
  go_wp2
  go_loop [3] (fun i => ∃ k : Nat, k ≤ s.size ∧ i = .int .i64 k ∧ nameGo (s.data.toList.drop k) (k == 0) = nameGo s.data.toList true) (fun i => s.size - (intOf i).toNat)
  case atStart => exact ⟨0, Nat.zero_le _, rfl, rfl⟩
  case round =>
    obtain ⟨k, hk, rfl, hd⟩ := hrel
    have HD := Lib.hid hd
    clear hd
    by_cases hlt : k < s.size
    · have HS := Lib.hid (nameGo_drop s k hlt)
      obtain ⟨c, hc⟩ : ∃ c : Int, (s[k].toNat : Int) = c := ⟨_, rfl⟩
      rw [hc] at HS
      have fin_yes : Hid (nameCh (k == 0) c = true → nameGo (s.data.toList.drop (k + 1)) (k + 1 == 0) = nameGo s.data.toList true) := fun h => by
        rw [← HD.out, HS.out, h]; rfl
      have fin_no : Hid (nameCh (k == 0) c = false → nameB s = false) := fun h => by
        rw [hb.out, ← HD.out, HS.out, h]; rfl
      clear HS HD hb
      rcases Nat.eq_zero_or_pos k with rfl | hk0 <;> rcases cls c with h | ⟨h, h'⟩ | ⟨h, h'⟩ | ⟨h, h'⟩ | ⟨h, h'⟩ | h | h | ⟨h, h'⟩ | h
      all_goals
        go_wp2
        all_goals first
        | (exfalso; simp only [Bool.not_eq_false', Bool.not_eq_true', decide_eq_true_eq, decide_eq_false_iff_not, beq_eq_false_iff_ne, beq_iff_eq] at *; omega)
        | (go_round
           case rel => exact ⟨_, by omega, by first | rfl | go_num, fin_yes.out (nameCh_yes _ _ (by simp [letB, digB] <;> omega))⟩
           case measure => simp [intOf] <;> omega)
        | (go_ret
           exact ⟨by rw [fin_no.out (nameCh_no _ _ (by simp [letB] <;> omega) (by simp [digB] <;> omega))]; rfl, rfl⟩)
    · have : k = s.size := by omega
      go_wp2
      go_ret
      have hd := HD.out
      rw [List.drop_eq_nil_of_le (by simp; omega)] at hd
      exact ⟨by rw [hb.out, ← hd]; rfl, rfl⟩

end Go.Proofs.YtbckfkopdojggaaGreatDoor

/- The program's IsName returns nameB of the text. -/
namespace Go.Proofs.YtbckfkopdojggaaGreatDoor
open Go.RowKit

theorem below_iter (w : World) (s : ByteArray) (pos : Nat) : Below w.heap.size w (w.iter s pos) :=
  (Below.refl _ _).alloc (Nat.le_refl _) _

set_option maxHeartbeats 2000000 in
theorem cardIsName_any (s : ByteArray) (w : World) :
    Calls Tryz.prog 192 #[.string s] w fun e w' => e = .returned (.bool (nameB s)) ∧ Below w.heap.size w w' := by
  by_cases h1 : s.size < 1
  · obtain rfl : s = ByteArray.empty := ByteArray.ext (Array.eq_empty_of_size_eq_zero (show s.size = 0 by omega))
    go_enter Tryz.func192, Tryz.ntmps192
    go_wp2
    go_ret
    exact ⟨rfl, Below.refl _ _⟩
  have hne : s.toList.isEmpty = false := by
    rw [ByteArray.toList_eq]
    have : s.data.toList.length ≠ 0 := by rw [Array.length_toList]; show s.size ≠ 0; omega
    cases hh : s.data.toList with
    | nil => rw [hh] at this; exact absurd rfl this
    | cons _ _ => rfl
  by_cases h2 : 24 < s.size
  · go_enter Tryz.func192, Tryz.ntmps192
    go_wp2
    go_ret
    exact ⟨by simp [nameB]; omega, Below.refl _ _⟩
  have hb : Hid (nameB s = nameGo s.data.toList true) := by
    show nameB s = _
    unfold nameB
    rw [decide_eq_true (by omega), decide_eq_true (by omega)]
    rfl
  go_enter Tryz.func192, Tryz.ntmps192
  go_wp2
  go_loopw [3, 4] (fun _ _ w' => ∃ k : Nat, k ≤ s.size ∧ w' = w.iter s k ∧ nameGo (s.data.toList.drop k) (k == 0) = nameGo s.data.toList true) (fun _ _ w' => s.size - w'.iterPos w.heap.size)
  case atStart => exact ⟨0, Nat.zero_le _, rfl, rfl⟩
  case round =>
    obtain ⟨k, hk, rfl, hd⟩ := hrel
    have HD := Lib.hid hd
    clear hd
    by_cases hlt : k < s.size
    · have hnx : ∀ ty, (Instr.next (.pointer (some ⟨w.heap.size, 0, none⟩)) true ty).run Tryz.prog (w.iter s k) = _ := fun ty => run_next_any w s k ty hlt
      have HS := Lib.hid (nameGo_drop s k hlt)
      by_cases ha : (s[k]'hlt).toNat < 128
      · rw [decode_ascii s k hlt ha] at hnx
        obtain ⟨c, hc⟩ : ∃ c : Int, (s[k].toNat : Int) = c := ⟨_, rfl⟩
        rw [hc] at HS hnx
        have fin_yes : Hid (nameCh (k == 0) c = true → nameGo (s.data.toList.drop (k + 1)) (k + 1 == 0) = nameGo s.data.toList true) := fun h => by
          rw [← HD.out, HS.out, h]; rfl
        have fin_no : Hid (nameCh (k == 0) c = false → nameB s = false) := fun h => by
          rw [hb.out, ← HD.out, HS.out, h]; rfl
        clear HS HD hb hc ha
        rcases Nat.eq_zero_or_pos k with rfl | hk0 <;> cases hL : letB c <;> cases hD : digB c <;> cases h95 : (c != 95)
        all_goals
          first
          | (exfalso; unfold letB digB at *; simp only [Bool.or_eq_false_iff, Bool.and_eq_false_iff, Bool.or_eq_true, Bool.and_eq_true, decide_eq_true_eq, decide_eq_false_iff_not, bne_eq_false_iff_eq, bne_iff_ne] at *; omega)
          | (go_wp2_with (first | (go_at_call 215; refine (isLetter_any _ _).mono ?_; rintro e w' ⟨rfl, rfl⟩) | (go_at_call 216; refine (isDigit_any _ _).mono ?_; rintro e w' ⟨rfl, rfl⟩))
             all_goals first
             | (go_roundw
                case rel => exact ⟨_, by omega, rfl, fin_yes.out (nameCh_yes _ _ (by simp only [bne_eq_false_iff_eq, bne_iff_ne] at h95; simp [hL, hD, h95] <;> omega))⟩
                case measure => simp <;> omega)
             | (go_ret
                exact ⟨by rw [fin_no.out (nameCh_no _ _ hL (by simp only [bne_eq_false_iff_eq, bne_iff_ne] at h95; simp [hD, h95]))]; rfl, below_iter _ _ _⟩))
      · have hh := decode_high s k hlt (by omega)
        generalize Utf8.decode s k = d at hh hnx
        obtain ⟨r, wd⟩ := d
        obtain ⟨r, rfl⟩ : ∃ q : Nat, q = r := ⟨_, rfl⟩
        have hr : (128 : Int) ≤ (r : Int) := by have := hh.1; simp at this; omega
        have fin_no : Hid (nameB s = false) := by
          show _ = _
          have hn : nameCh (k == 0) (s[k].toNat : Int) = false := nameCh_no _ _ (by simp [letB] <;> omega) (.inr ⟨by simp [digB] <;> omega, by omega⟩)
          rw [hb.out, ← HD.out, HS.out, hn]; rfl
        have hL : letB (r : Int) = false := by simp [letB] <;> omega
        have hD : digB (r : Int) = false := by simp [digB] <;> omega
        have h95 : ((r : Int) != 95) = true := by rw [bne_iff_ne]; omega
        clear HS HD hb ha hh
        rcases Nat.eq_zero_or_pos k with rfl | hk0
        all_goals
          go_wp2_with (first | (go_at_call 215; refine (isLetter_any _ _).mono ?_; rintro e w' ⟨rfl, rfl⟩) | (go_at_call 216; refine (isDigit_any _ _).mono ?_; rintro e w' ⟨rfl, rfl⟩))
          all_goals go_ret
          all_goals exact ⟨by rw [fin_no.out]; rfl, below_iter _ _ _⟩
    · have hnx : ∀ ty, (Instr.next (.pointer (some ⟨w.heap.size, 0, none⟩)) true ty).run Tryz.prog (w.iter s k) = _ := fun ty => run_next_end w s k ty hlt
      have hks := Lib.hid (show k = s.size by omega)
      go_wp2
      go_ret
      have hd := HD.out
      rw [List.drop_eq_nil_of_le (by have := hks.out; simp; omega)] at hd
      exact ⟨by rw [hb.out, ← hd]; rfl, below_iter _ _ _⟩

end Go.Proofs.YtbckfkopdojggaaGreatDoor

/- The reference's CheckHoles returns holesI of the holes. -/
namespace Go.Proofs.YtbckfkopdojggaaGreatDoor
open Go.RowKit

/-- A slice's address under which holes lie: a par and an index each. -/
def HolesR (w : World) (A : Option Addr) (hs : List (Int × Int)) : Prop :=
  ∀ j, j < hs.length → ∃ a, A = some a ∧ w.cell? (a.add (j * 2)) = some (.int .i64 (hs.getD j (0, 0)).1) ∧ w.cell? ⟨(a.add (j * 2)).block, (a.add (j * 2)).off + 1, none⟩ = some (.int .i64 (hs.getD j (0, 0)).2)

def holesGo (n : Nat) : List Int → List (Int × Int) → Int
  | _, [] => 0
  | S, (p, x) :: l => if ¬ (3 ≤ p ∧ p ≤ 6) ∨ ¬ (1 ≤ x ∧ x ≤ n) then 3 else if x ∈ S then 9 else holesGo n (x :: S) l
def holesI (hs : List (Int × Int)) : Int := if hs.length = 0 then 12 else if 36 < hs.length then 5 else holesGo hs.length [] hs

theorem drewN2 (w : World) (a b : Nat) : ∃ n, (w.drewN a).drewN b = w.drewN n := ⟨_, World.drewN_drewN _ _ _⟩

theorem holesGo_drop (hs : List (Int × Int)) (n k : Nat) (h : k < hs.length) (p x : Int) (hp : hs.getD k (0, 0) = (p, x)) :
    holesGo n ((hs.take k).map (·.2)).reverse (hs.drop k) = if ¬ (3 ≤ p ∧ p ≤ 6) ∨ ¬ (1 ≤ x ∧ x ≤ n) then 3
      else if x ∈ (hs.take k).map (·.2) then 9 else holesGo n ((hs.take (k + 1)).map (·.2)).reverse (hs.drop (k + 1)) := by
  rw [List.drop_eq_getElem_cons h]
  have e : hs[k] = (p, x) := by rw [← hp]; simp [List.getD, List.getElem?_eq_getElem h]
  have e2 : ((hs.take (k + 1)).map (·.2)).reverse = x :: ((hs.take k).map (·.2)).reverse := by
    rw [List.take_succ_eq_append_getElem h, e]; simp
  rw [e, e2]
  simp only [holesGo, List.mem_reverse]

theorem mem_take_snd (hs : List (Int × Int)) (k : Nat) (x : Int) (hk : k ≤ hs.length) :
    x ∈ (hs.take k).map (·.2) ↔ ∃ j, j < k ∧ (hs.getD j (0, 0)).2 = x := by
  rw [List.mem_iff_getElem?]
  constructor
  · rintro ⟨j, hj⟩
    rw [List.getElem?_map] at hj
    by_cases h : j < k
    · refine ⟨j, h, ?_⟩
      rw [List.getElem?_take_of_lt h] at hj
      rw [List.getD]
      cases e : hs[j]? with
      | none => rw [e] at hj; cases hj
      | some y => rw [e] at hj; simpa using hj
    · rw [List.getElem?_take_eq_none (by omega)] at hj
      cases hj
  · rintro ⟨j, h, e⟩
    refine ⟨j, ?_⟩
    rw [List.getElem?_map, List.getElem?_take_of_lt h, List.getElem?_eq_getElem (by omega)]
    simp [List.getD, List.getElem?_eq_getElem (show j < hs.length by omega)] at e
    simp [e]

set_option maxHeartbeats 1000000 in
theorem refCheckHoles_any (A : Option Addr) (c : Nat) (hs : List (Int × Int)) (w : World) (hr : HolesR w A hs) :
    Calls Tryz.prog 43 #[.slice A hs.length c] w fun e w' => e = .returned (.int .i64 (holesI hs)) ∧ ∃ n, w' = w.drewN n := by
  have HR := Lib.hid hr
  clear hr
  by_cases h1 : hs.length < 1
  · have hb : ((hs.length : Int) == 0) = true := by rw [beq_iff_eq]; omega
    go_enter Tryz.func43, Tryz.ntmps43
    go_wp2
    go_ret
    exact ⟨by rw [holesI, if_pos (by omega)]; rfl, 0, rfl⟩
  have hb : ((hs.length : Int) == 0) = false := by rw [beq_eq_false_iff_ne]; omega
  by_cases h2 : 36 < hs.length
  · go_enter Tryz.func43, Tryz.ntmps43
    go_wp2
    go_ret
    exact ⟨by rw [holesI, if_neg (by omega), if_pos h2]; rfl, 0, rfl⟩
  have HI : Hid (holesI hs = holesGo hs.length [] hs) := by
    show _ = _
    rw [holesI, if_neg (by omega), if_neg h2]
  go_enter Tryz.func43, Tryz.ntmps43
  go_wp2
  go_loopw [3] (fun i w' => ∃ k n : Nat, k ≤ hs.length ∧ w' = w.drewN n ∧ i = .int .i64 k ∧ holesGo hs.length ((hs.take k).map (·.2)).reverse (hs.drop k) = holesGo hs.length [] hs) (fun i _ => hs.length - (intOf i).toNat)
  case atStart => exact ⟨0, 0, Nat.zero_le _, rfl, rfl, rfl⟩
  case round =>
    obtain ⟨k, n, hk, rfl, rfl, hd⟩ := hrel
    have HD := Lib.hid hd
    clear hd
    by_cases hlt : k < hs.length
    · obtain ⟨a, rfl, hc0, hc1⟩ := HR.out k hlt
      have HS := Lib.hid (fun p x => holesGo_drop hs hs.length k hlt p x)
      generalize hpx : hs.getD k (0, 0) = px at hc0 hc1
      have HPX := Lib.hid hpx
      clear hpx
      obtain ⟨p, x⟩ := px
      have HS2 := Lib.hid (HS.out p x HPX.out)
      clear HS
      by_cases hg : (3 ≤ p ∧ p ≤ 6) ∧ (1 ≤ x ∧ x ≤ hs.length)
      · obtain ⟨⟨g1, g2⟩, g3, g4⟩ := hg
        have HS3 : Hid (_ = _) := HS2.out.trans (if_neg (by omega))
        clear HS2
        go_wp2
        go_loopw [4] (fun i w' => ∃ m n : Nat, m ≤ k ∧ w' = w.drewN n ∧ i = .int .i64 m ∧ ∀ j, j < m → (hs.getD j (0, 0)).2 ≠ x) (fun i _ => k - (intOf i).toNat)
        case atStart => exact ⟨0, _, Nat.zero_le _, rfl, rfl, fun j hj => absurd hj (by omega)⟩
        case round =>
          obtain ⟨m, n', hm, rfl, rfl, hne⟩ := hrel
          have HNE := Lib.hid hne
          clear hne
          by_cases hmk : m < k
          · obtain ⟨a', ha', hd0, hd1⟩ := HR.out m (by omega)
            obtain rfl : a = a' := by injection ha'
            clear ha' hd0
            generalize hq : hs.getD m (0, 0) = py at hd1
            have HQ := Lib.hid hq
            clear hq
            obtain ⟨q, y⟩ := py
            cases hyx : (y == x)
            · go_wp2
              go_quiet (fail)
              go_wp2
              go_roundw
              case rel =>
                refine ⟨m + 1, _, by omega, rfl, by go_num, fun j hj => ?_⟩
                by_cases e : j = m
                · subst e; rw [HQ.out]; exact beq_eq_false_iff_ne.1 hyx
                · exact HNE.out j (by omega)
              case measure => simp [intOf]; omega
            · go_wp2
              go_quiet (fail)
              go_wp2
              go_ret
              have h9 : x ∈ (hs.take k).map (·.2) := (mem_take_snd hs k x hk).2 ⟨m, hmk, by rw [HQ.out]; exact beq_iff_eq.1 hyx⟩
              exact ⟨by rw [HI.out, ← HD.out, HS3.out, if_pos h9]; rfl, drewN2 _ _ _⟩
          · go_wp2
            go_roundw
            case rel =>
              have h9 : ¬ x ∈ (hs.take k).map (·.2) := fun h => by
                obtain ⟨j, hj, e⟩ := (mem_take_snd hs k x hk).1 h
                exact HNE.out j (by omega) e
              exact ⟨k + 1, _, by omega, rfl, by go_num, by rw [← HD.out, HS3.out, if_neg h9]⟩
            case measure => simp [intOf]; omega
      · have HS3 : Hid (_ = _) := HS2.out.trans (if_pos (by omega))
        clear HS2
        by_cases g1 : p < 3 <;> by_cases g2 : 6 < p <;> by_cases g3 : x < 1 <;> by_cases g4 : (hs.length : Int) < x
        all_goals first
        | (exfalso; omega)
        | (clear hg
           go_wp2
           go_ret
           exact ⟨by rw [HI.out, ← HD.out, HS3.out]; rfl, _, rfl⟩)
    · have hks := Lib.hid (show k = hs.length by omega)
      go_wp2
      go_ret
      have hd := HD.out
      rw [List.drop_eq_nil_of_le (by have := hks.out; omega)] at hd
      exact ⟨by rw [HI.out, ← hd]; rfl, _, rfl⟩

end Go.Proofs.YtbckfkopdojggaaGreatDoor

/- The reference's CheckEntry and CheckEntries return entryI and entriesI. -/
namespace Go.Proofs.YtbckfkopdojggaaGreatDoor
open Go.RowKit

/-- Which of the four marks a text is: none, c, x, -, or another text. -/
def markK (m : ByteArray) : Nat :=
  if m.toList.isEmpty then 0 else if m.toList == [99] then 1 else if m.toList == [120] then 2 else if m.toList == [45] then 3 else 4

theorem mark_cases (m : ByteArray) :
    (m.toList.isEmpty = true ∧ (m.toList == [99]) = false ∧ (m.toList == [120]) = false ∧ (m.toList == [45]) = false ∧ markK m = 0) ∨
    (m.toList.isEmpty = false ∧ (m.toList == [99]) = true ∧ (m.toList == [120]) = false ∧ (m.toList == [45]) = false ∧ markK m = 1) ∨
    (m.toList.isEmpty = false ∧ (m.toList == [99]) = false ∧ (m.toList == [120]) = true ∧ (m.toList == [45]) = false ∧ markK m = 2) ∨
    (m.toList.isEmpty = false ∧ (m.toList == [99]) = false ∧ (m.toList == [120]) = false ∧ (m.toList == [45]) = true ∧ markK m = 3) ∨
    (m.toList.isEmpty = false ∧ (m.toList == [99]) = false ∧ (m.toList == [120]) = false ∧ (m.toList == [45]) = false ∧ markK m = 4) := by
  unfold markK
  generalize m.toList = l
  by_cases h0 : l = []
  · subst h0; exact .inl ⟨rfl, rfl, rfl, rfl, rfl⟩
  by_cases h1 : l = [99]
  · subst h1; exact .inr (.inl ⟨rfl, rfl, rfl, rfl, rfl⟩)
  by_cases h2 : l = [120]
  · subst h2; exact .inr (.inr (.inl ⟨rfl, rfl, rfl, rfl, rfl⟩))
  by_cases h3 : l = [45]
  · subst h3; exact .inr (.inr (.inr (.inl ⟨rfl, rfl, rfl, rfl, rfl⟩)))
  · have e0 : l.isEmpty = false := by cases l with | nil => exact absurd rfl h0 | cons _ _ => rfl
    have e1 : (l == [99]) = false := beq_eq_false_iff_ne.2 h1
    have e2 : (l == [120]) = false := beq_eq_false_iff_ne.2 h2
    have e3 : (l == [45]) = false := beq_eq_false_iff_ne.2 h3
    exact .inr (.inr (.inr (.inr ⟨e0, e1, e2, e3, by simp only [e0, e1, e2, e3]; rfl⟩)))

def entryI (n : Int) (m : ByteArray) : Int :=
  match markK m with
  | 0 => if 1 ≤ n ∧ n ≤ 99 then 0 else 3
  | 1 => if 1 ≤ n ∧ n ≤ 99 then 0 else 3
  | 2 => if n = 0 then 0 else 3
  | 3 => if n = 0 then 0 else 3
  | _ => 13

set_option maxHeartbeats 2000000 in
theorem refCheckEntry_any (n : Int) (m : ByteArray) (w : World) :
    Calls Tryz.prog 213 #[.agg #[.int .i64 n, .string m]] w fun e w' => e = .returned (.int .i64 (entryI n m)) ∧ Below w.heap.size w w' := by
  rcases mark_cases m with ⟨h1, h2, h3, h4, h5⟩ | ⟨h1, h2, h3, h4, h5⟩ | ⟨h1, h2, h3, h4, h5⟩ | ⟨h1, h2, h3, h4, h5⟩ | ⟨h1, h2, h3, h4, h5⟩
  all_goals
    have H5 := Lib.hid h5
    clear h5
    by_cases g1 : n < 1 <;> by_cases g2 : 99 < n <;> cases g0 : (n != 0)
    all_goals first
    | (exfalso; simp only [bne_eq_false_iff_eq, bne_iff_ne] at g0; omega)
    | (go_enter Tryz.func213, Tryz.ntmps213
       go_wp2
       go_ret
       refine ⟨?_, (Below.refl _ _).alloc (Nat.le_refl _) _⟩
       simp only [bne_eq_false_iff_eq, bne_iff_ne] at g0
       first
       | (have e : entryI n m = 0 := by unfold entryI; rw [H5.out]; simp <;> omega
          rw [e]; rfl)
       | (have e : entryI n m = 3 := by unfold entryI; rw [H5.out]; simp <;> omega
          rw [e]; rfl)
       | (have e : entryI n m = 13 := by unfold entryI; rw [H5.out]; rfl
          rw [e]; rfl))

/-- A slice's address under which entries lie: strokes and a mark each. -/
def EntriesR (w : World) (A : Option Addr) (l : List (Int × ByteArray)) : Prop :=
  ∀ j, j < l.length → ∃ a, A = some a ∧ w.cell? (a.add (j * 2)) = some (.int .i64 (l.getD j (0, ByteArray.empty)).1) ∧ w.cell? ⟨(a.add (j * 2)).block, (a.add (j * 2)).off + 1, none⟩ = some (.string (l.getD j (0, ByteArray.empty)).2) ∧ (a.add (j * 2)).block < w.heap.size

def entriesI : List (Int × ByteArray) → Int
  | [] => 0
  | (n, m) :: l => if entryI n m = 0 then entriesI l else entryI n m

theorem entriesI_drop (l : List (Int × ByteArray)) (k : Nat) (h : k < l.length) (n : Int) (m : ByteArray) (hp : l.getD k (0, ByteArray.empty) = (n, m)) :
    entriesI (l.drop k) = if entryI n m = 0 then entriesI (l.drop (k + 1)) else entryI n m := by
  rw [List.drop_eq_getElem_cons h]
  have e : l[k] = (n, m) := by rw [← hp]; simp [List.getD, List.getElem?_eq_getElem h]
  rw [e]
  rfl

set_option maxHeartbeats 2000000 in
theorem refCheckEntries_any (A : Option Addr) (c : Nat) (l : List (Int × ByteArray)) (w : World) (hl : l.length ≤ 4611686018427387904) (hr : EntriesR w A l) :
    Calls Tryz.prog 188 #[.slice A l.length c] w fun e w' => e = .returned (.int .i64 (entriesI l)) ∧ Below w.heap.size w w' := by
  have HR := Lib.hid hr
  clear hr
  go_enter Tryz.func188, Tryz.ntmps188
  go_wp2
  go_loopw [3] (fun i w' => ∃ k : Nat, k ≤ l.length ∧ i = .int .i64 k ∧ Below w.heap.size w w' ∧ entriesI (l.drop k) = entriesI l) (fun i _ => l.length - (intOf i).toNat)
  case atStart => exact ⟨0, Nat.zero_le _, rfl, Below.refl _ _, rfl⟩
  case round =>
    obtain ⟨k, hk, rfl, hb, hd⟩ := hrel
    have HD := Lib.hid hd
    clear hd
    by_cases hlt : k < l.length
    · obtain ⟨a, rfl, hc0, hc1, hbl⟩ := HR.out k hlt
      have hd0 := (hb.cell hbl).trans hc0
      have hd1 := (hb.cell (p := ⟨_, _, none⟩) hbl).trans hc1
      clear hc0 hc1
      have HS := Lib.hid (fun n m => entriesI_drop l k hlt n m)
      generalize hpx : l.getD k (0, ByteArray.empty) = px at hd0 hd1
      obtain ⟨n, m⟩ := px
      have HS2 := Lib.hid (HS.out n m hpx)
      clear hpx HS
      by_cases he : entryI n m = 0
      · have HE := Lib.hid he
        have hz : (entryI n m != 0) = false := by rw [he]; rfl
        clear he
        go_wp2_with fail
        refine (refCheckEntry_any _ _ _).mono ?_; rintro e w1 ⟨rfl, hb1⟩
        go_wp2
        go_roundw
        case rel => exact ⟨k + 1, by omega, by go_num, hb.trans (hb1.mono hb.size), by rw [← HD.out, HS2.out, if_pos HE.out]⟩
        case measure => simp [intOf]; omega
      · have HE := Lib.hid he
        have hz : (entryI n m != 0) = true := by rw [bne_iff_ne]; exact he
        clear he
        go_wp2_with fail
        refine (refCheckEntry_any _ _ _).mono ?_; rintro e w1 ⟨rfl, hb1⟩
        go_wp2
        go_ret
        exact ⟨by rw [← HD.out, HS2.out, if_neg HE.out]; rfl, hb.trans (hb1.mono hb.size)⟩
    · have hks := Lib.hid (show k = l.length by omega)
      go_wp2
      go_ret
      have hd := HD.out
      rw [List.drop_eq_nil_of_le (by have := hks.out; omega)] at hd
      exact ⟨by rw [← hd]; rfl, hb⟩

end Go.Proofs.YtbckfkopdojggaaGreatDoor

/- The program's marks, checkEntry and checkEntries. -/
namespace Go.Proofs.YtbckfkopdojggaaGreatDoor
open Go.RowKit

set_option maxHeartbeats 400000 in
theorem played_any (n : Int) (w : World) :
    Calls Tryz.prog 166 #[.int .i64 n] w fun e w' => e = .returned (.bool (decide (1 ≤ n ∧ n ≤ 99))) ∧ w = w' := by
  by_cases g1 : 1 ≤ n <;> by_cases g2 : n ≤ 99
  all_goals
    go_enter Tryz.func166, Tryz.ntmps166
    go_wp2
    go_ret
    exact ⟨by simp [g1, g2], rfl⟩

set_option maxHeartbeats 400000 in
theorem unplayed_any (n : Int) (w : World) :
    Calls Tryz.prog 167 #[.int .i64 n] w fun e w' => e = .returned (.bool (decide (n = 0))) ∧ w = w' := by
  go_enter Tryz.func167, Tryz.ntmps167
  go_wp2
  go_ret
  exact ⟨by by_cases h : n = 0 <;> simp [h], rfl⟩

section
open Go.MapKept
theorem alloc_setInBounds (w : World) (o o' : Obj) : ({ w.alloc o with heap := (w.alloc o).heap.setIfInBounds w.heap.size o' } : World) = w.alloc o' := by
  show ({ w with heap := (w.heap.push o).setIfInBounds w.heap.size o' } : World) = { w with heap := w.heap.push o' }
  congr 1
  rw [Array.setIfInBounds, dif_pos (by simp)]
  apply Array.ext
  · simp
  · intro i h1 h2
    simp only [Array.getElem_set, Array.getElem_push]
    split
    · rename_i e; subst e; simp
    · rename_i e
      split
      · rfl
      · rename_i e2; simp at h2; omega

theorem run_put_new {P : Program} (w : World) {t kt et : TypeId} {d : TypeDesc} {es : Array MapEntry} {clock : Nat} (hm : P.underlying t = some (.map kt et)) (hd : P.underlying kt = some d)
    (key v : Value) (hk : MapKept.IsKey d key) (hf : Instr.findNow d key es.toList 0 = some none) :
    (Instr.mapUpdate t (.map (some w.heap.size)) key v).run P (w.alloc (.map es clock)) = .ok () (w.alloc (.map (es.push { key, val := v, born := clock }) (clock + 1))) := by
  have hb := (MapKept.heap_alloc w (.map es clock)).1
  unfold Instr.mapUpdate
  simp only [Sem.run_bind, run_underlying hm, Result.andThen_ok, MapKept.run_getObj_map hb, MapKept.run_checkKey hd hk, MapKept.run_findKey hd hf, MapKept.run_setObj_map _ hb]
  exact congrArg _ (alloc_setInBounds w _ _)

theorem run_look_yes {P : Program} (w : World) {t kt et : TypeId} {d : TypeDesc} {es : Array MapEntry} {clock b i : Nat} {v : Value} (hm : P.underlying t = some (.map kt et)) (hd : P.underlying kt = some d)
    (hb : w.heap[b]? = some (.map es clock)) (key : Value) (hk : MapKept.IsKey d key) (hf : Instr.findNow d key es.toList 0 = some (some (i, v))) :
    (Instr.lookup t (.map (some b)) key true).run P w = .ok (.tuple #[v, .bool true]) w := by
  unfold Instr.lookup
  simp only [Sem.run_bind, run_underlying hm, Result.andThen_ok, MapKept.run_getObj_map hb, MapKept.run_checkKey hd hk, MapKept.run_findKey hd hf, Sem.run_pure]
  rfl

theorem run_look_no {P : Program} (w : World) {t kt et : TypeId} {d : TypeDesc} {es : Array MapEntry} {clock b : Nat} {z : Value} (hm : P.underlying t = some (.map kt et)) (hd : P.underlying kt = some d)
    (hz : (zeroValue et).run P w = .ok z w)
    (hb : w.heap[b]? = some (.map es clock)) (key : Value) (hk : MapKept.IsKey d key) (hf : Instr.findNow d key es.toList 0 = some none) :
    (Instr.lookup t (.map (some b)) key true).run P w = .ok (.tuple #[z, .bool false]) w := by
  unfold Instr.lookup
  simp only [Sem.run_bind, run_underlying hm, Result.andThen_ok, MapKept.run_getObj_map hb, MapKept.run_checkKey hd hk, MapKept.run_findKey hd hf, Sem.run_pure, hz]
  rfl
end

def fnV (n : Nat) : Value := .func (.func n) #[] #[]
/-- The map that marks makes: for each mark its test of strokes, and how its word is made. -/
def marksObj : Obj := .map #[
  { key := .string ⟨#[]⟩, val := .agg #[fnV 166, fnV 118], born := 0 },
  { key := .string ⟨#[99]⟩, val := .agg #[fnV 166, fnV 168], born := 1 },
  { key := .string ⟨#[120]⟩, val := .agg #[fnV 167, fnV 169], born := 2 },
  { key := .string ⟨#[45]⟩, val := .agg #[fnV 167, fnV 170], born := 3 }] 4

set_option maxRecDepth 100000 in
set_option maxHeartbeats 400000 in
theorem marks_any (w : World) :
    Calls Tryz.prog 116 #[] w fun e w' => e = .returned (.map (some w.heap.size)) ∧ w.alloc marksObj = w' := by
  have hmm := @run_makeMap Tryz.prog
  have i0 := fun v => run_put_new (P := Tryz.prog) w (t := 182) (es := #[]) (clock := 0) Tryz.underlying182 Tryz.underlying9 (.string ⟨#[]⟩) v trivial rfl
  have i1 := fun v v0 => run_put_new (P := Tryz.prog) w (t := 182) (es := #[⟨.string ⟨#[]⟩, v0, 0⟩]) (clock := 1) Tryz.underlying182 Tryz.underlying9 (.string ⟨#[99]⟩) v trivial (by kernel_rfl)
  have i2 := fun v v0 v1 => run_put_new (P := Tryz.prog) w (t := 182) (es := #[⟨.string ⟨#[]⟩, v0, 0⟩, ⟨.string ⟨#[99]⟩, v1, 1⟩]) (clock := 2) Tryz.underlying182 Tryz.underlying9 (.string ⟨#[120]⟩) v trivial (by kernel_rfl)
  have i3 := fun v v0 v1 v2 => run_put_new (P := Tryz.prog) w (t := 182) (es := #[⟨.string ⟨#[]⟩, v0, 0⟩, ⟨.string ⟨#[99]⟩, v1, 1⟩, ⟨.string ⟨#[120]⟩, v2, 2⟩]) (clock := 3) Tryz.underlying182 Tryz.underlying9 (.string ⟨#[45]⟩) v trivial (by kernel_rfl)
  simp only [List.push_toArray, List.nil_append, List.cons_append, Nat.zero_add, Nat.reduceAdd] at i0 i1 i2 i3
  go_enter Tryz.func116, Tryz.ntmps116
  go_wp2
  go_ret
  exact ⟨rfl, rfl⟩

theorem bytes_of_toList {m : ByteArray} {l : List UInt8} (h : m.toList = l) : m = ⟨l.toArray⟩ := by
  rw [ByteArray.toList_eq] at h
  rw [← h]

/-- What marks has of a text: which functions, or none. -/
def markVal (m : ByteArray) : Option (Nat × Nat) :=
  match markK m with
  | 0 => some (166, 118)
  | 1 => some (166, 168)
  | 2 => some (167, 169)
  | 3 => some (167, 170)
  | _ => none

theorem zeroMark (w : World) : (zeroValue 186).run Tryz.prog w = .ok (.agg #[.nilFunc, .nilFunc]) w := by kernel_rfl

theorem look_marks (W : World) (b : Nat) (m : ByteArray) (hb : W.heap[b]? = some marksObj) :
    (Instr.lookup 182 (.map (some b)) (.string m) true).run Tryz.prog W = .ok (.tuple #[match markVal m with | some (f, g) => .agg #[fnV f, fnV g] | none => .agg #[.nilFunc, .nilFunc], .bool (markVal m).isSome]) W := by
  unfold marksObj at hb
  unfold markVal
  rcases mark_cases m with ⟨h1, h2, h3, h4, h5⟩ | ⟨h1, h2, h3, h4, h5⟩ | ⟨h1, h2, h3, h4, h5⟩ | ⟨h1, h2, h3, h4, h5⟩ | ⟨h1, h2, h3, h4, h5⟩
  · rw [h5]
    have e := bytes_of_toList (List.isEmpty_iff.1 h1)
    subst e
    exact run_look_yes (i := 0) W Tryz.underlying182 Tryz.underlying9 hb _ trivial (by kernel_rfl)
  · rw [h5]
    have e := bytes_of_toList (beq_iff_eq.1 h2)
    subst e
    exact run_look_yes (i := 1) W Tryz.underlying182 Tryz.underlying9 hb _ trivial (by kernel_rfl)
  · rw [h5]
    have e := bytes_of_toList (beq_iff_eq.1 h3)
    subst e
    exact run_look_yes (i := 2) W Tryz.underlying182 Tryz.underlying9 hb _ trivial (by kernel_rfl)
  · rw [h5]
    have e := bytes_of_toList (beq_iff_eq.1 h4)
    subst e
    exact run_look_yes (i := 3) W Tryz.underlying182 Tryz.underlying9 hb _ trivial (by kernel_rfl)
  · rw [h5]
    refine run_look_no W Tryz.underlying182 Tryz.underlying9 (zeroMark W) hb _ trivial ?_
    have ne : ∀ l : List UInt8, m.toList ≠ l → (m == (⟨l.toArray⟩ : ByteArray)) = false := fun l hl => by
      cases hq : (m == (⟨l.toArray⟩ : ByteArray)) with
      | false => rfl
      | true => exact absurd (by rw [(MapKept.bytes_beq _ _).1 hq, ByteArray.toList_eq]) hl
    have n0 := ne [] (fun e => by rw [e] at h1; cases h1)
    have n1 := ne [99] (beq_eq_false_iff_ne.1 h2)
    have n2 := ne [120] (beq_eq_false_iff_ne.1 h3)
    have n3 := ne [45] (beq_eq_false_iff_ne.1 h4)
    simp only [Instr.findNow, Instr.sameNow] at *
    rw [show (m == (⟨#[]⟩ : ByteArray)) = false from n0, show (m == (⟨#[99]⟩ : ByteArray)) = false from n1, show (m == (⟨#[120]⟩ : ByteArray)) = false from n2, show (m == (⟨#[45]⟩ : ByteArray)) = false from n3]

end Go.Proofs.YtbckfkopdojggaaGreatDoor
