/- Names: the reference's IsName and the program's, each returns nameB of the text. -/
import Derived.Test.YtmnmdeehcdfkfaaDoorGenA
import Derived.Laws.Runes
import Derived.Laws.RangeString
namespace Go.Proofs.YtmnmdeehcdfkfaaDoor
open Go.RowKit

def nameCh (start : Bool) (c : Int) : Bool := letB c || (!start && (digB c || c == 95))
def nameGo : List UInt8 → Bool → Bool
  | [], _ => true
  | c :: l, start => nameCh start (c.toNat : Int) && nameGo l false
def nameB (s : ByteArray) : Bool := decide (1 ≤ s.size) && decide (s.size ≤ 24) && nameGo s.data.toList true

theorem nameGo_drop (s : ByteArray) (k : Nat) (h : k < s.size) :
    nameGo (s.data.toList.drop k) (k == 0) = (nameCh (k == 0) (s[k].toNat : Int) && nameGo (s.data.toList.drop (k + 1)) false) := by
  have hl : k < s.data.toList.length := by simpa using h
  rw [List.drop_eq_getElem_cons hl]
  rfl

theorem cls (c : Int) : c < 48 ∨ (48 ≤ c ∧ c ≤ 57) ∨ (57 < c ∧ c < 65) ∨ (65 ≤ c ∧ c ≤ 90) ∨ (90 < c ∧ c < 95) ∨ c = 95 ∨ c = 96 ∨ (97 ≤ c ∧ c ≤ 122) ∨ 122 < c := by omega

theorem nameCh_no (st : Bool) (c : Int) (h : letB c = false) (h' : st = true ∨ (digB c = false ∧ c ≠ 95)) : nameCh st c = false := by
  unfold nameCh
  rcases h' with rfl | ⟨a, b⟩
  · simp [h]
  · simp [h, a, b]
theorem nameCh_yes (st : Bool) (c : Int) (h : letB c = true ∨ (st = false ∧ (digB c = true ∨ c = 95))) : nameCh st c = true := by
  unfold nameCh
  rcases h with h | ⟨rfl, h | h⟩
  · simp [h]
  · simp [h]
  · simp [h]

set_option maxHeartbeats 2000000 in
theorem refIsName_any (s : ByteArray) (w : World) :
    Calls Tryd.prog 12 #[.string s] w fun e w' => e = .returned (.bool (nameB s)) ∧ w = w' := by
  by_cases h1 : s.size < 1
  · go_enter Tryd.func12, Tryd.ntmps12
    go_wp2
    go_ret
    exact ⟨by simp [nameB]; omega, rfl⟩
  by_cases h2 : 24 < s.size
  · go_enter Tryd.func12, Tryd.ntmps12
    go_wp2
    go_ret
    exact ⟨by simp [nameB]; omega, rfl⟩
  have hb : Hid (nameB s = nameGo s.data.toList true) := by
    show nameB s = _
    unfold nameB
    rw [decide_eq_true (by omega), decide_eq_true (by omega)]
    rfl
  go_enter Tryd.func12, Tryd.ntmps12
  go_wp2
  go_loop [3] (fun i => ∃ k : Nat, k ≤ s.size ∧ i = .int .i64 k ∧ nameGo (s.data.toList.drop k) (k == 0) = nameGo s.data.toList true) (fun i => s.size - (intOf i).toNat)
  case atStart => exact ⟨0, Nat.zero_le _, rfl, rfl⟩
  case round =>
    obtain ⟨k, hk, rfl, hd⟩ := hrel
    have HD := Lib.hid hd
    clear hd
    by_cases hlt : k < s.size
    · have HS := Lib.hid (nameGo_drop s k hlt)
      obtain ⟨c, hc⟩ : ∃ c : Int, (s[k].toNat : Int) = c := ⟨_, rfl⟩
      rw [hc] at HS
      have fin_yes : Hid (nameCh (k == 0) c = true → nameGo (s.data.toList.drop (k + 1)) (k + 1 == 0) = nameGo s.data.toList true) := fun h => by
        rw [← HD.out, HS.out, h]; rfl
      have fin_no : Hid (nameCh (k == 0) c = false → nameB s = false) := fun h => by
        rw [hb.out, ← HD.out, HS.out, h]; rfl
      clear HS HD hb
      rcases Nat.eq_zero_or_pos k with rfl | hk0 <;> rcases cls c with h | ⟨h, h'⟩ | ⟨h, h'⟩ | ⟨h, h'⟩ | ⟨h, h'⟩ | h | h | ⟨h, h'⟩ | h
      all_goals
        go_wp2
        all_goals first
        | (exfalso; simp only [Bool.not_eq_false', Bool.not_eq_true', decide_eq_true_eq, decide_eq_false_iff_not, beq_eq_false_iff_ne, beq_iff_eq] at *; omega)
        | (go_round
           case rel => exact ⟨_, by omega, by first | rfl | go_num, fin_yes.out (nameCh_yes _ _ (by simp [letB, digB] <;> omega))⟩
           case measure => simp [intOf] <;> omega)
        | (go_ret
           exact ⟨by rw [fin_no.out (nameCh_no _ _ (by simp [letB] <;> omega) (by simp [digB] <;> omega))]; rfl, rfl⟩)
    · have : k = s.size := by omega
      go_wp2
      go_ret
      have hd := HD.out
      rw [List.drop_eq_nil_of_le (by simp; omega)] at hd
      exact ⟨by rw [hb.out, ← hd]; rfl, rfl⟩

end Go.Proofs.YtmnmdeehcdfkfaaDoor
