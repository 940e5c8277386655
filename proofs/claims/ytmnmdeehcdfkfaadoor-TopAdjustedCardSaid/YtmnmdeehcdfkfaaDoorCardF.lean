/- The reference's CheckHoles returns holesI of the holes. -/
import Derived.Test.YtmnmdeehcdfkfaaDoorCardD
import Derived.BigQuiet
import Derived.Deep.QuietTactic
namespace Go.Proofs.YtmnmdeehcdfkfaaDoor
open Go.RowKit

/-- A slice's address under which holes lie: a par and an index each. -/
def HolesR (w : World) (A : Option Addr) (hs : List (Int × Int)) : Prop :=
  ∀ j, j < hs.length → ∃ a, A = some a ∧ w.cell? (a.add (j * 2)) = some (.int .i64 (hs.getD j (0, 0)).1) ∧ w.cell? ⟨(a.add (j * 2)).block, (a.add (j * 2)).off + 1, none⟩ = some (.int .i64 (hs.getD j (0, 0)).2)

def holesGo (n : Nat) : List Int → List (Int × Int) → Int
  | _, [] => 0
  | S, (p, x) :: l => if ¬ (3 ≤ p ∧ p ≤ 6) ∨ ¬ (1 ≤ x ∧ x ≤ n) then 3 else if x ∈ S then 9 else holesGo n (x :: S) l
def holesI (hs : List (Int × Int)) : Int := if hs.length = 0 then 12 else if 36 < hs.length then 5 else holesGo hs.length [] hs

theorem drewN2 (w : World) (a b : Nat) : ∃ n, (w.drewN a).drewN b = w.drewN n := ⟨_, World.drewN_drewN _ _ _⟩

theorem holesGo_drop (hs : List (Int × Int)) (n k : Nat) (h : k < hs.length) (p x : Int) (hp : hs.getD k (0, 0) = (p, x)) :
    holesGo n ((hs.take k).map (·.2)).reverse (hs.drop k) = if ¬ (3 ≤ p ∧ p ≤ 6) ∨ ¬ (1 ≤ x ∧ x ≤ n) then 3
      else if x ∈ (hs.take k).map (·.2) then 9 else holesGo n ((hs.take (k + 1)).map (·.2)).reverse (hs.drop (k + 1)) := by
  rw [List.drop_eq_getElem_cons h]
  have e : hs[k] = (p, x) := by rw [← hp]; simp [List.getD, List.getElem?_eq_getElem h]
  have e2 : ((hs.take (k + 1)).map (·.2)).reverse = x :: ((hs.take k).map (·.2)).reverse := by
    rw [List.take_succ_eq_append_getElem h, e]; simp
  rw [e, e2]
  simp only [holesGo, List.mem_reverse]

theorem mem_take_snd (hs : List (Int × Int)) (k : Nat) (x : Int) (hk : k ≤ hs.length) :
    x ∈ (hs.take k).map (·.2) ↔ ∃ j, j < k ∧ (hs.getD j (0, 0)).2 = x := by
  rw [List.mem_iff_getElem?]
  constructor
  · rintro ⟨j, hj⟩
    rw [List.getElem?_map] at hj
    by_cases h : j < k
    · refine ⟨j, h, ?_⟩
      rw [List.getElem?_take_of_lt h] at hj
      rw [List.getD]
      cases e : hs[j]? with
      | none => rw [e] at hj; cases hj
      | some y => rw [e] at hj; simpa using hj
    · rw [List.getElem?_take_eq_none (by omega)] at hj
      cases hj
  · rintro ⟨j, h, e⟩
    refine ⟨j, ?_⟩
    rw [List.getElem?_map, List.getElem?_take_of_lt h, List.getElem?_eq_getElem (by omega)]
    simp [List.getD, List.getElem?_eq_getElem (show j < hs.length by omega)] at e
    simp [e]

set_option maxHeartbeats 1000000 in
theorem refCheckHoles_any (A : Option Addr) (c : Nat) (hs : List (Int × Int)) (w : World) (hr : HolesR w A hs) :
    Calls Tryd.prog 4 #[.slice A hs.length c] w fun e w' => e = .returned (.int .i64 (holesI hs)) ∧ ∃ n, w' = w.drewN n := by
  have HR := Lib.hid hr
  clear hr
  by_cases h1 : hs.length < 1
  · have hb : ((hs.length : Int) == 0) = true := by rw [beq_iff_eq]; omega
    go_enter Tryd.func4, Tryd.ntmps4
    go_wp2
    go_ret
    exact ⟨by rw [holesI, if_pos (by omega)]; rfl, 0, rfl⟩
  have hb : ((hs.length : Int) == 0) = false := by rw [beq_eq_false_iff_ne]; omega
  by_cases h2 : 36 < hs.length
  · go_enter Tryd.func4, Tryd.ntmps4
    go_wp2
    go_ret
    exact ⟨by rw [holesI, if_neg (by omega), if_pos h2]; rfl, 0, rfl⟩
  have HI : Hid (holesI hs = holesGo hs.length [] hs) := by
    show _ = _
    rw [holesI, if_neg (by omega), if_neg h2]
  go_enter Tryd.func4, Tryd.ntmps4
  go_wp2
  go_loopw [3] (fun i w' => ∃ k n : Nat, k ≤ hs.length ∧ w' = w.drewN n ∧ i = .int .i64 k ∧ holesGo hs.length ((hs.take k).map (·.2)).reverse (hs.drop k) = holesGo hs.length [] hs) (fun i _ => hs.length - (intOf i).toNat)
  case atStart => exact ⟨0, 0, Nat.zero_le _, rfl, rfl, rfl⟩
  case round =>
    obtain ⟨k, n, hk, rfl, rfl, hd⟩ := hrel
    have HD := Lib.hid hd
    clear hd
    by_cases hlt : k < hs.length
    · obtain ⟨a, rfl, hc0, hc1⟩ := HR.out k hlt
      have HS := Lib.hid (fun p x => holesGo_drop hs hs.length k hlt p x)
      generalize hpx : hs.getD k (0, 0) = px at hc0 hc1
      have HPX := Lib.hid hpx
      clear hpx
      obtain ⟨p, x⟩ := px
      have HS2 := Lib.hid (HS.out p x HPX.out)
      clear HS
      by_cases hg : (3 ≤ p ∧ p ≤ 6) ∧ (1 ≤ x ∧ x ≤ hs.length)
      · obtain ⟨⟨g1, g2⟩, g3, g4⟩ := hg
        have HS3 : Hid (_ = _) := HS2.out.trans (if_neg (by omega))
        clear HS2
        go_wp2
        go_loopw [4] (fun i w' => ∃ m n : Nat, m ≤ k ∧ w' = w.drewN n ∧ i = .int .i64 m ∧ ∀ j, j < m → (hs.getD j (0, 0)).2 ≠ x) (fun i _ => k - (intOf i).toNat)
        case atStart => exact ⟨0, _, Nat.zero_le _, rfl, rfl, fun j hj => absurd hj (by omega)⟩
        case round =>
          obtain ⟨m, n', hm, rfl, rfl, hne⟩ := hrel
          have HNE := Lib.hid hne
          clear hne
          by_cases hmk : m < k
          · obtain ⟨a', ha', hd0, hd1⟩ := HR.out m (by omega)
            obtain rfl : a = a' := by injection ha'
            clear ha' hd0
            generalize hq : hs.getD m (0, 0) = py at hd1
            have HQ := Lib.hid hq
            clear hq
            obtain ⟨q, y⟩ := py
            cases hyx : (y == x)
            · go_wp2
              go_quiet (fail)
              go_wp2
              go_roundw
              case rel =>
                refine ⟨m + 1, _, by omega, rfl, by go_num, fun j hj => ?_⟩
                by_cases e : j = m
                · subst e; rw [HQ.out]; exact beq_eq_false_iff_ne.1 hyx
                · exact HNE.out j (by omega)
              case measure => simp [intOf]; omega
            · go_wp2
              go_quiet (fail)
              go_wp2
              go_ret
              have h9 : x ∈ (hs.take k).map (·.2) := (mem_take_snd hs k x hk).2 ⟨m, hmk, by rw [HQ.out]; exact beq_iff_eq.1 hyx⟩
              exact ⟨by rw [HI.out, ← HD.out, HS3.out, if_pos h9]; rfl, drewN2 _ _ _⟩
          · go_wp2
            go_roundw
            case rel =>
              have h9 : ¬ x ∈ (hs.take k).map (·.2) := fun h => by
                obtain ⟨j, hj, e⟩ := (mem_take_snd hs k x hk).1 h
                exact HNE.out j (by omega) e
              exact ⟨k + 1, _, by omega, rfl, by go_num, by rw [← HD.out, HS3.out, if_neg h9]⟩
            case measure => simp [intOf]; omega
      · have HS3 : Hid (_ = _) := HS2.out.trans (if_pos (by omega))
        clear HS2
        by_cases g1 : p < 3 <;> by_cases g2 : 6 < p <;> by_cases g3 : x < 1 <;> by_cases g4 : (hs.length : Int) < x
        all_goals first
        | (exfalso; omega)
        | (clear hg
           go_wp2
           go_ret
           exact ⟨by rw [HI.out, ← HD.out, HS3.out]; rfl, _, rfl⟩)
    · have hks := Lib.hid (show k = hs.length by omega)
      go_wp2
      go_ret
      have hd := HD.out
      rw [List.drop_eq_nil_of_le (by have := hks.out; omega)] at hd
      exact ⟨by rw [HI.out, ← hd]; rfl, _, rfl⟩

end Go.Proofs.YtmnmdeehcdfkfaaDoor
