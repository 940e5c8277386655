/- The program's IsName returns nameB of the text. -/
import Derived.Test.YtmnmdeehcdfkfaaDoorCardD
import Derived.Test.YtmnmdeehcdfkfaaDoorCardC
import Derived.Laws.RangeAny
namespace Go.Proofs.YtmnmdeehcdfkfaaDoor
open Go.RowKit

theorem below_iter (w : World) (s : ByteArray) (pos : Nat) : Below w.heap.size w (w.iter s pos) :=
  (Below.refl _ _).alloc (Nat.le_refl _) _

set_option maxHeartbeats 2000000 in
theorem cardIsName_any (s : ByteArray) (w : World) :
    Calls Tryd.prog 34 #[.string s] w fun e w' => e = .returned (.bool (nameB s)) ∧ Below w.heap.size w w' := by
  by_cases h1 : s.size < 1
  · obtain rfl : s = ByteArray.empty := ByteArray.ext (Array.eq_empty_of_size_eq_zero (show s.size = 0 by omega))
    go_enter Tryd.func34, Tryd.ntmps34
    go_wp2
    go_ret
    exact ⟨rfl, Below.refl _ _⟩
  have hne : s.toList.isEmpty = false := by
    rw [ByteArray.toList_eq]
    have : s.data.toList.length ≠ 0 := by rw [Array.length_toList]; show s.size ≠ 0; omega
    cases hh : s.data.toList with
    | nil => rw [hh] at this; exact absurd rfl this
    | cons _ _ => rfl
  by_cases h2 : 24 < s.size
  · go_enter Tryd.func34, Tryd.ntmps34
    go_wp2
    go_ret
    exact ⟨by simp [nameB]; omega, Below.refl _ _⟩
  have hb : Hid (nameB s = nameGo s.data.toList true) := by
    show nameB s = _
    unfold nameB
    rw [decide_eq_true (by omega), decide_eq_true (by omega)]
    rfl
  go_enter Tryd.func34, Tryd.ntmps34
  go_wp2
  go_loopw [3, 4] (fun _ _ w' => ∃ k : Nat, k ≤ s.size ∧ w' = w.iter s k ∧ nameGo (s.data.toList.drop k) (k == 0) = nameGo s.data.toList true) (fun _ _ w' => s.size - w'.iterPos w.heap.size)
  case atStart => exact ⟨0, Nat.zero_le _, rfl, rfl⟩
  case round =>
    obtain ⟨k, hk, rfl, hd⟩ := hrel
    have HD := Lib.hid hd
    clear hd
    by_cases hlt : k < s.size
    · have hnx : ∀ ty, (Instr.next (.pointer (some ⟨w.heap.size, 0, none⟩)) true ty).run Tryd.prog (w.iter s k) = _ := fun ty => run_next_any w s k ty hlt
      have HS := Lib.hid (nameGo_drop s k hlt)
      by_cases ha : (s[k]'hlt).toNat < 128
      · rw [decode_ascii s k hlt ha] at hnx
        obtain ⟨c, hc⟩ : ∃ c : Int, (s[k].toNat : Int) = c := ⟨_, rfl⟩
        rw [hc] at HS hnx
        have fin_yes : Hid (nameCh (k == 0) c = true → nameGo (s.data.toList.drop (k + 1)) (k + 1 == 0) = nameGo s.data.toList true) := fun h => by
          rw [← HD.out, HS.out, h]; rfl
        have fin_no : Hid (nameCh (k == 0) c = false → nameB s = false) := fun h => by
          rw [hb.out, ← HD.out, HS.out, h]; rfl
        clear HS HD hb hc ha
        rcases Nat.eq_zero_or_pos k with rfl | hk0 <;> cases hL : letB c <;> cases hD : digB c <;> cases h95 : (c != 95)
        all_goals
          first
          | (exfalso; unfold letB digB at *; simp only [Bool.or_eq_false_iff, Bool.and_eq_false_iff, Bool.or_eq_true, Bool.and_eq_true, decide_eq_true_eq, decide_eq_false_iff_not, bne_eq_false_iff_eq, bne_iff_ne] at *; omega)
          | (go_wp2_with (first | (go_at_call 52; refine (isLetter_any _ _).mono ?_; rintro e w' ⟨rfl, rfl⟩) | (go_at_call 53; refine (isDigit_any _ _).mono ?_; rintro e w' ⟨rfl, rfl⟩))
             all_goals first
             | (go_roundw
                case rel => exact ⟨_, by omega, rfl, fin_yes.out (nameCh_yes _ _ (by simp only [bne_eq_false_iff_eq, bne_iff_ne] at h95; simp [hL, hD, h95] <;> omega))⟩
                case measure => simp <;> omega)
             | (go_ret
                exact ⟨by rw [fin_no.out (nameCh_no _ _ hL (by simp only [bne_eq_false_iff_eq, bne_iff_ne] at h95; simp [hD, h95]))]; rfl, below_iter _ _ _⟩))
      · have hh := decode_high s k hlt (by omega)
        generalize Utf8.decode s k = d at hh hnx
        obtain ⟨r, wd⟩ := d
        obtain ⟨r, rfl⟩ : ∃ q : Nat, q = r := ⟨_, rfl⟩
        have hr : (128 : Int) ≤ (r : Int) := by have := hh.1; simp at this; omega
        have fin_no : Hid (nameB s = false) := by
          show _ = _
          have hn : nameCh (k == 0) (s[k].toNat : Int) = false := nameCh_no _ _ (by simp [letB] <;> omega) (.inr ⟨by simp [digB] <;> omega, by omega⟩)
          rw [hb.out, ← HD.out, HS.out, hn]; rfl
        have hL : letB (r : Int) = false := by simp [letB] <;> omega
        have hD : digB (r : Int) = false := by simp [digB] <;> omega
        have h95 : ((r : Int) != 95) = true := by rw [bne_iff_ne]; omega
        clear HS HD hb ha hh
        rcases Nat.eq_zero_or_pos k with rfl | hk0
        all_goals
          go_wp2_with (first | (go_at_call 52; refine (isLetter_any _ _).mono ?_; rintro e w' ⟨rfl, rfl⟩) | (go_at_call 53; refine (isDigit_any _ _).mono ?_; rintro e w' ⟨rfl, rfl⟩))
          all_goals go_ret
          all_goals exact ⟨by rw [fin_no.out]; rfl, below_iter _ _ _⟩
    · have hnx : ∀ ty, (Instr.next (.pointer (some ⟨w.heap.size, 0, none⟩)) true ty).run Tryd.prog (w.iter s k) = _ := fun ty => run_next_end w s k ty hlt
      have hks := Lib.hid (show k = s.size by omega)
      go_wp2
      go_ret
      have hd := HD.out
      rw [List.drop_eq_nil_of_le (by have := hks.out; simp; omega)] at hd
      exact ⟨by rw [hb.out, ← hd]; rfl, below_iter _ _ _⟩

end Go.Proofs.YtmnmdeehcdfkfaaDoor
