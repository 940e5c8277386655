/- card's reader of a notation: the way of a word, a bar. -/
import Derived.Test.YtbckfkopdojggaaGreatDoorNotC
import Derived.Outline
import Derived.BigQuiet
set_option linter.unusedVariables false
set_option linter.unusedSimpArgs false
namespace Go.Proofs.YtbckfkopdojggaaGreatDoor
open Go.RowKit

def barE (n : Nat) (q : Bool) : Int := if n = 0 ∨ n % 9 ≠ 0 ∨ q = true then 11 else 0

/-- The world behind a bar: it is noted where it may stand. -/
def barW (n : Nat) (q : Bool) (b : Nat) (w : World) : World := if barE n q = 0 then w.setCell ⟨b, 1, none⟩ (.bool true) else w

set_option maxRecDepth 100000 in
set_option maxHeartbeats 1000000 in
theorem takeBar_any (b : Nat) (A : Option Addr) (n c : Nat) (q : Bool) (s : ByteArray) (w : World) (hb : b < w.heap.size) (hn : n ≤ 1000)
    (c0 : w.cell? ⟨b, 0, none⟩ = some (.slice A n c)) (c1 : w.cell? ⟨b, 1, none⟩ = some (.bool q)) (hf : w.frozen? ⟨b, 1, none⟩ = false) :
    Calls Tryz.prog 124 #[.pointer (some ⟨b, 0, none⟩), .string s] w fun e w' => e = .returned (.int .i64 (barE n q)) ∧ w' = barW n q b w := by
  by_cases h0 : n = 0
  · have h0b : ((n : Int) == 0) = true := by rw [h0]; rfl
    have HE : Hid (barE n q = 11) := Lib.hid (by unfold barE; rw [if_pos (.inl h0)])
    clear h0
    go_enter Tryz.func124, Tryz.ntmps124
    go_wp2
    go_ret
    exact ⟨by rw [HE.out]; rfl, by rw [barW, HE.out, if_neg (by omega)]⟩
  have h0b : ((n : Int) == 0) = false := by rw [beq_eq_false_iff_ne]; omega
  by_cases h9 : n % 9 = 0
  · have h9b : (n : Int) % 9 = 0 := by omega
    cases q
    · have HE : Hid (barE n false = 0) := Lib.hid (by unfold barE; rw [if_neg (by simp; omega)])
      clear h0 h9
      go_enter Tryz.func124, Tryz.ntmps124
      go_wp2
      go_ret
      exact ⟨by rw [HE.out]; rfl, by rw [barW, HE.out, if_pos rfl]⟩
    · have HE : Hid (barE n true = 11) := Lib.hid (by unfold barE; rw [if_pos (by simp)])
      clear h0 h9
      go_enter Tryz.func124, Tryz.ntmps124
      go_wp2
      go_ret
      exact ⟨by rw [HE.out]; rfl, by rw [barW, HE.out, if_neg (by omega)]⟩
  · have h9b : ¬ (n : Int) % 9 = 0 := by omega
    have HE : Hid (barE n q = 11) := Lib.hid (by unfold barE; rw [if_pos (.inr (.inl h9))])
    clear h0 h9
    go_enter Tryz.func124, Tryz.ntmps124
    go_wp2
    go_ret
    exact ⟨by rw [HE.out]; rfl, by rw [barW, HE.out, if_neg (by omega)]⟩

/-- How a word is taken. -/
def wayF (s : ByteArray) : Nat := if s.toList = [124] then 0 else if 0 ≤ Lib.indexByte s.data.toList 42 then 1 else 2
def wayV (s : ByteArray) (p : Value) : Value := match wayF s with
  | 0 => .func (.func 124) #[p] #[]
  | 1 => .func (.func 126) #[p] #[]
  | _ => .func (.func 127) #[p] #[]

set_option maxRecDepth 100000 in
set_option maxHeartbeats 1000000 in
theorem way_any (b : Nat) (s : ByteArray) (w : World) :
    Calls Tryz.prog 69 #[.pointer (some ⟨b, 0, none⟩), .string s] w fun e w' => e = .returned (wayV s (.pointer (some ⟨b, 0, none⟩))) ∧ w' = w := by
  cases h1 : (s.toList == [124])
  · have h2 : s.toList ≠ [124] := fun h => by rw [h] at h1; cases h1
    cases hd : decide (0 ≤ Lib.indexByte s.data.toList 42)
    · have HV : Hid (wayV s (.pointer (some ⟨b, 0, none⟩)) = .func (.func 127) #[.pointer (some ⟨b, 0, none⟩)] #[]) := Lib.hid (by
        unfold wayV wayF; rw [if_neg h2, if_neg (of_decide_eq_false hd)]; rfl)
      have HD := Lib.hid hd
      clear h2 hd
      generalize wayV s (.pointer (some ⟨b, 0, none⟩)) = v at HV ⊢
      go_enter Tryz.func69, Tryz.ntmps69
      go_wp2_with fail
      refine (Tryz.strings_Contains_one s 42 _).mono ?_
      rintro e w1 ⟨rfl, rfl⟩
      rw [HD.out]
      go_wp2
      go_ret
      exact ⟨by rw [HV.out]; rfl, rfl⟩
    · have HV : Hid (wayV s (.pointer (some ⟨b, 0, none⟩)) = .func (.func 126) #[.pointer (some ⟨b, 0, none⟩)] #[]) := Lib.hid (by
        unfold wayV wayF; rw [if_neg h2, if_pos (of_decide_eq_true hd)]; rfl)
      have HD := Lib.hid hd
      clear h2 hd
      generalize wayV s (.pointer (some ⟨b, 0, none⟩)) = v at HV ⊢
      go_enter Tryz.func69, Tryz.ntmps69
      go_wp2_with fail
      refine (Tryz.strings_Contains_one s 42 _).mono ?_
      rintro e w1 ⟨rfl, rfl⟩
      rw [HD.out]
      go_wp2
      go_ret
      exact ⟨by rw [HV.out]; rfl, rfl⟩
  · have HV : Hid (wayV s (.pointer (some ⟨b, 0, none⟩)) = .func (.func 124) #[.pointer (some ⟨b, 0, none⟩)] #[]) := Lib.hid (by
      unfold wayV wayF; rw [if_pos (eq_of_beq h1)]; rfl)
    generalize wayV s (.pointer (some ⟨b, 0, none⟩)) = v at HV ⊢
    go_enter Tryz.func69, Tryz.ntmps69
    go_wp2
    go_ret
    exact ⟨by rw [HV.out]; rfl, rfl⟩
end Go.Proofs.YtbckfkopdojggaaGreatDoor
