/- card.isInteger: whether a text is an integer in its normal form. -/
import Derived.Test.YtbckfkopdojggaaGreatDoorNotM
import Derived.Test.YtbckfkopdojggaaGreatDoorShelf
import Derived.Shelf.Strings.SlTrimAscii
import Derived.WalkKit
import Derived.Lib.Hide
import Derived.Below
set_option linter.unusedVariables false
set_option linter.unusedSimpArgs false
namespace Go.Proofs.YtbckfkopdojggaaGreatDoor
open Go.RowKit

theorem trim_digits (s : ByteArray) (w : World) (hs : s.size ≤ 9223372036854775807) :
    Calls Tryz.prog 225 #[.string s, .string ⟨#[48, 49, 50, 51, 52, 53, 54, 55, 56, 57]⟩] w fun e w' => e = .returned (.string ⟨(Lib.trimS s.data.toList [48, 49, 50, 51, 52, 53, 54, 55, 56, 57]).toArray⟩) ∧ Below w.heap.size w w' :=
  Any.strings_Trim_laid Tryz.lays160 (by kernel_rfl) s ⟨#[48, 49, 50, 51, 52, 53, 54, 55, 56, 57]⟩ w hs (by decide) (ascii_of_all (by decide))

theorem isD_all (x : UInt8) : [48, 49, 50, 51, 52, 53, 54, 55, 56, 57].contains x = NotMath.isD x := by
  have h : ∀ n, n < 256 → [48, 49, 50, 51, 52, 53, 54, 55, 56, 57].contains (UInt8.ofNat n) = NotMath.isD (UInt8.ofNat n) := by decide +kernel
  have := h x.toNat x.toNat_lt
  rwa [UInt8.ofNat_toNat] at this
theorem drop_nil {p : UInt8 → Bool} : ∀ l : List UInt8, l.dropWhile p = [] → l.all p = true
  | [], _ => rfl
  | c :: l, h => by
    rw [List.dropWhile_cons] at h
    split at h
    · rename_i hc
      simp only [List.all_cons, hc, Bool.true_and]
      exact drop_nil l h
    · simp at h
theorem all_drop {p : UInt8 → Bool} : ∀ l : List UInt8, l.all p = true → l.dropWhile p = []
  | [], _ => rfl
  | c :: l, h => by
    simp only [List.all_cons, Bool.and_eq_true] at h
    rw [List.dropWhile_cons, if_pos h.1]
    exact all_drop l h.2
theorem drop_head {p : UInt8 → Bool} : ∀ (l : List UInt8) (c : UInt8) (t : List UInt8), l.dropWhile p = c :: t → p c = false
  | [], c, t, h => by simp at h
  | d :: l, c, t, h => by
    rw [List.dropWhile_cons] at h
    split at h
    · exact drop_head l c t h
    · rename_i hd
      injection h with h1 _
      subst h1
      simpa using hd
theorem trim_empty (l : List UInt8) : (Lib.trimS l [48, 49, 50, 51, 52, 53, 54, 55, 56, 57]).isEmpty = l.all NotMath.isD := by
  have hp : (fun x => [48, 49, 50, 51, 52, 53, 54, 55, 56, 57].contains x) = NotMath.isD := funext isD_all
  unfold Lib.trimS Lib.trimLeftS Lib.trimRightS
  rw [hp]
  cases h : l.all NotMath.isD with
  | true =>
    have h1 : l.reverse.dropWhile NotMath.isD = [] := all_drop _ (by rw [List.all_reverse]; exact h)
    rw [h1]; rfl
  | false =>
    cases h2 : l.reverse.dropWhile NotMath.isD with
    | nil =>
      have := drop_nil _ h2
      rw [List.all_reverse, h] at this
      exact absurd this (by decide)
    | cons c t =>
      have hc := drop_head _ _ _ h2
      cases h3 : ((c :: t).reverse).dropWhile NotMath.isD with
      | cons _ _ => rfl
      | nil =>
        have := drop_nil _ h3
        rw [List.all_reverse] at this
        simp [hc] at this

theorem isInteger_any (s : ByteArray) (w : World) (hs : s.size ≤ 9223372036854775807) :
    Calls Tryz.prog 198 #[.string s] w fun e w' => e = .returned (.bool (NotMath.isInt s.data.toList)) ∧ Below w.heap.size w w' := by
  have HT := trim_digits s
  have hl : s.data.toList = s.toList := (Lib.toList_data s).symm
  obtain ⟨b, hb⟩ : ∃ b, NotMath.isInt s.data.toList = b := ⟨_, rfl⟩
  rw [hb]
  by_cases h1 : s.toList = [48]
  · have e : b = true := by rw [← hb, hl, h1]; rfl
    subst e
    clear hb hl
    go_enter Tryz.func198, Tryz.ntmps198
    go_wp2_with (go_at_call 225; (with_reducible refine (HT _ hs).mono ?_); rintro e w1 ⟨rfl, hb1⟩)
    all_goals go_ret
    all_goals exact ⟨rfl, Below.refl _ _⟩
  by_cases h2 : s.toList = []
  · have e : b = false := by rw [← hb, hl, h2]; rfl
    subst e
    clear hb hl
    go_enter Tryz.func198, Tryz.ntmps198
    go_wp2_with (go_at_call 225; (with_reducible refine (HT _ hs).mono ?_); rintro e w1 ⟨rfl, hb1⟩)
    all_goals go_ret
    all_goals exact ⟨rfl, Below.refl _ _⟩
  have hpos : 0 < s.size := by
    rw [Lib.size_eq, hl]
    exact List.length_pos_iff.2 h2
  have hh : s.data.toList.head? = some s[0] := by
    rw [List.head?_eq_getElem?]
    rw [List.getElem?_eq_getElem (by rw [← Lib.size_eq]; exact hpos)]
    rfl
  have n1 : (s.data.toList == [48]) = false := by rw [hl]; simpa using h1
  have n2 : (s.data.toList != []) = true := by rw [hl]; simpa using h2
  by_cases h3 : s[0].toNat = 48
  · have e : b = false := by
      rw [← hb]
      unfold NotMath.isInt
      have h48 : s[0] = 48 := UInt8.toNat_inj.1 (by rw [h3]; rfl)
      rw [n1, n2, hh, h48]; rfl
    subst e
    clear hb hl hh n1 n2
    have h3i : ((s[0].toNat : Nat) : Int) = 48 := by omega
    go_enter Tryz.func198, Tryz.ntmps198
    go_wp2_with (go_at_call 225; (with_reducible refine (HT _ hs).mono ?_); rintro e w1 ⟨rfl, hb1⟩)
    all_goals go_ret
    all_goals refine ⟨?_, Below.refl _ _⟩
    all_goals simp [h1]
  · have e : b = (Lib.trimS s.data.toList [48, 49, 50, 51, 52, 53, 54, 55, 56, 57]).isEmpty := by
      rw [← hb, trim_empty]
      unfold NotMath.isInt
      have h48 : (s.data.toList.head? != some 48) = true := by
        rw [hh]
        simp only [bne_iff_ne, ne_eq, Option.some.injEq]
        exact fun e => h3 (by rw [e]; rfl)
      rw [n1, n2, h48]; rfl
    subst e
    clear hb hl hh n1 n2
    have h3i : ¬ ((s[0].toNat : Nat) : Int) = 48 := by omega
    go_enter Tryz.func198, Tryz.ntmps198
    go_wp2_with (go_at_call 225; (with_reducible refine (HT _ hs).mono ?_); rintro e w1 ⟨rfl, hb1⟩)
    all_goals go_ret
    all_goals refine ⟨?_, hb1⟩
    have t1 : (s.toList == [48]) = false := by simpa using h1
    have t2 : s.toList.isEmpty = false := by simpa using h2
    have t3 : (((s[0].toNat : Nat) : Int) != 48) = true := by rw [bne_iff_ne]; exact h3i
    simp only [t1, t2, t3, Bool.false_or, Bool.not_false, Bool.true_and]
    rfl

end Go.Proofs.YtbckfkopdojggaaGreatDoor
