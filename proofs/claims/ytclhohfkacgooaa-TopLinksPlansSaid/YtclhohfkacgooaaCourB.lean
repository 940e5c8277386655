/- The reference's CheckRules returns rulesI of the conditions. -/
import Derived.Test.YtclhohfkacgooaaCourA
import Derived.Deep.RegionWith
import Derived.Deep.RegionHeld3
import Derived.Below
import Derived.Deep.Draws
namespace Go.Proofs.Ytclhohfkacgooaa
open Go.RowKit

theorem block_of_add (a : Addr) (n : Nat) : (a.add n).block = a.block := by unfold Addr.add; split <;> rfl

/-- As Ints, in blocks below B. -/
def IntsAt (w : World) (B : Nat) (A : Option Addr) (xs : List Int) : Prop :=
  ∀ j, j < xs.length → ∃ a, A = some a ∧ a.block < B ∧ w.cell? (a.add j) = some (.int .i64 (xs.getD j 0))
theorem IntsAt.ints {w : World} {B : Nat} {A : Option Addr} {xs : List Int} (h : IntsAt w B A xs) : Ints w A xs := fun j hj => by
  obtain ⟨a, h1, _, h3⟩ := h j hj
  exact ⟨a, h1, h3⟩
theorem IntsAt.below {w w' : World} {B : Nat} {A : Option Addr} {xs : List Int} (h : IntsAt w B A xs) (hb : Below B w w') : IntsAt w' B A xs := fun j hj => by
  obtain ⟨a, h1, h2, h3⟩ := h j hj
  exact ⟨a, h1, h2, (hb.cell (by rw [block_of_add]; exact h2)).trans h3⟩
theorem IntsAt.mono {w : World} {B B' : Nat} {A : Option Addr} {xs : List Int} (h : IntsAt w B A xs) (hb : B ≤ B') : IntsAt w B' A xs := fun j hj => by
  obtain ⟨a, h1, h2, h3⟩ := h j hj
  exact ⟨a, h1, by omega, h3⟩
theorem Ints.drew {w : World} {A : Option Addr} {xs : List Int} (h : Ints w A xs) : Ints w.drew A xs := h

/-- A slice's address under which conditions lie: from, to and least each. -/
def RulesR (w : World) (B : Nat) (A : Option Addr) (rs : List (Int × Int × Int)) : Prop :=
  ∀ j, j < rs.length → ∃ a, A = some a ∧ a.block < B ∧ w.cell? (a.add (j * 3)) = some (.int .i64 (rs.getD j (0, 0, 0)).1) ∧
    w.cell? ⟨(a.add (j * 3)).block, (a.add (j * 3)).off + 1, none⟩ = some (.int .i64 (rs.getD j (0, 0, 0)).2.1) ∧
    w.cell? ⟨(a.add (j * 3)).block, (a.add (j * 3)).off + 2, none⟩ = some (.int .i64 (rs.getD j (0, 0, 0)).2.2)
theorem RulesR.below {w w' : World} {B : Nat} {A : Option Addr} {rs : List (Int × Int × Int)} (h : RulesR w B A rs) (hb : Below B w w') : RulesR w' B A rs := fun j hj => by
  obtain ⟨a, h1, h2, h3, h4, h5⟩ := h j hj
  have hbl : (a.add (j * 3)).block < B := by rw [block_of_add]; exact h2
  exact ⟨a, h1, h2, (hb.cell hbl).trans h3, (hb.cell (p := ⟨_, _, none⟩) hbl).trans h4, (hb.cell (p := ⟨_, _, none⟩) hbl).trans h5⟩
theorem RulesR.mono {w : World} {B B' : Nat} {A : Option Addr} {rs : List (Int × Int × Int)} (h : RulesR w B A rs) (hb : B ≤ B') : RulesR w B' A rs := fun j hj => by
  obtain ⟨a, h1, h2, h3⟩ := h j hj
  exact ⟨a, h1, by omega, h3⟩

def rulesGo (n : Int) : List (Int × Int × Int) → Int
  | [] => 0
  | (f, t, l) :: rs => if ¬ ((0 ≤ f ∧ f < n) ∧ 0 ≤ t ∧ t < n) then 10 else if ¬ (-10000 ≤ l ∧ l ≤ 10000) then 3 else rulesGo n rs
def rulesI (n : Int) (rs : List (Int × Int × Int)) : Int := if ¬ (1 ≤ n ∧ n ≤ 24) then 3 else if 256 < rs.length then 5 else rulesGo n rs

theorem rulesGo_drop (n : Int) (rs : List (Int × Int × Int)) (k : Nat) (h : k < rs.length) (f t l : Int) (hp : rs.getD k (0, 0, 0) = (f, t, l)) :
    rulesGo n (rs.drop k) = if ¬ ((0 ≤ f ∧ f < n) ∧ 0 ≤ t ∧ t < n) then 10 else if ¬ (-10000 ≤ l ∧ l ≤ 10000) then 3 else rulesGo n (rs.drop (k + 1)) := by
  rw [List.drop_eq_getElem_cons h]
  have e : rs[k] = (f, t, l) := by rw [← hp]; simp [List.getD, List.getElem?_eq_getElem h]
  rw [e]
  rfl

set_option maxHeartbeats 1000000 in
theorem refCheckRules_any (n : Int) (A : Option Addr) (c B : Nat) (rs : List (Int × Int × Int)) (w : World) (hl : rs.length ≤ 4611686018427387904) (hr : RulesR w B A rs) :
    Calls Try.prog 4 #[.int .i64 n, .slice A rs.length c] w fun e w' => e = .returned (.int .i64 (rulesI n rs)) ∧ w = w' := by
  have HR := Lib.hid hr
  clear hr
  by_cases h1 : n < 1
  · go_enter Try.func4, Try.ntmps4
    go_wp2
    go_ret
    exact ⟨by rw [rulesI, if_pos (by omega)]; rfl, rfl⟩
  by_cases h2 : 24 < n
  · go_enter Try.func4, Try.ntmps4
    go_wp2
    go_ret
    exact ⟨by rw [rulesI, if_pos (by omega)]; rfl, rfl⟩
  by_cases h3 : 256 < rs.length
  · go_enter Try.func4, Try.ntmps4
    go_wp2
    go_ret
    exact ⟨by rw [rulesI, if_neg (by omega), if_pos h3]; rfl, rfl⟩
  have HI : Hid (rulesI n rs = rulesGo n rs) := by
    show _ = _
    rw [rulesI, if_neg (by omega), if_neg h3]
  go_enter Try.func4, Try.ntmps4
  go_wp2
  go_loop [5] (fun i => ∃ k : Nat, k ≤ rs.length ∧ i = .int .i64 k ∧ rulesGo n (rs.drop k) = rulesGo n rs) (fun i => rs.length - (intOf i).toNat)
  case atStart => exact ⟨0, Nat.zero_le _, rfl, rfl⟩
  case round =>
    obtain ⟨k, hk, rfl, hd⟩ := hrel
    have HD := Lib.hid hd
    clear hd
    by_cases hlt : k < rs.length
    · obtain ⟨a, rfl, _, hc0, hc1, hc2⟩ := HR.out k hlt
      have HS := Lib.hid (fun f t l => rulesGo_drop n rs k hlt f t l)
      generalize hpx : rs.getD k (0, 0, 0) = px at hc0 hc1 hc2
      obtain ⟨f, t, l⟩ := px
      have HS2 := Lib.hid (HS.out f t l hpx)
      clear hpx HS
      have h7 : f < 0 ∨ (0 ≤ f ∧ n ≤ f) ∨ (0 ≤ f ∧ f < n ∧ t < 0) ∨ (0 ≤ f ∧ f < n ∧ 0 ≤ t ∧ n ≤ t) ∨ (0 ≤ f ∧ f < n ∧ 0 ≤ t ∧ t < n ∧ l < -10000) ∨ (0 ≤ f ∧ f < n ∧ 0 ≤ t ∧ t < n ∧ -10000 ≤ l ∧ 10000 < l) ∨
          (0 ≤ f ∧ f < n ∧ 0 ≤ t ∧ t < n ∧ -10000 ≤ l ∧ l ≤ 10000) := by omega
      rcases h7 with g | ⟨g1, g2⟩ | ⟨g1, g2, g3⟩ | ⟨g1, g2, g3, g4⟩ | ⟨g1, g2, g3, g4, g5⟩ | ⟨g1, g2, g3, g4, g5, g6⟩ | ⟨g1, g2, g3, g4, g5, g6⟩
      iterate 4
        · go_wp2
          go_ret
          exact ⟨by rw [HI.out, ← HD.out, HS2.out, if_pos (by omega)]; rfl, rfl⟩
      iterate 2
        · go_wp2
          go_ret
          exact ⟨by rw [HI.out, ← HD.out, HS2.out, if_neg (by omega), if_pos (by omega)]; rfl, rfl⟩
      · go_wp2
        go_round
        case rel => exact ⟨k + 1, by omega, by go_num, by rw [← HD.out, HS2.out, if_neg (by omega), if_neg (by omega)]⟩
        case measure => simp [intOf]; omega
    · have hks := Lib.hid (show k = rs.length by omega)
      go_wp2
      go_ret
      have hd := HD.out
      rw [List.drop_eq_nil_of_le (by have := hks.out; omega)] at hd
      exact ⟨by rw [HI.out, ← hd]; rfl, rfl⟩

end Go.Proofs.Ytclhohfkacgooaa
