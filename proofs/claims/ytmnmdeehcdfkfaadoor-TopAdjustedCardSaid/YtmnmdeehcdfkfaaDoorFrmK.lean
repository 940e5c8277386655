/- byPar's closures: the points and the result against par of a hole. -/
import Derived.Test.YtmnmdeehcdfkfaaDoorFrmJ
import Derived.Outline
namespace Go.Proofs.YtmnmdeehcdfkfaaDoor
open Go.RowKit

theorem holesGo_zero (n : Nat) : ∀ (l : List (Int × Int)) (S : List Int), holesGo n S l = 0 → (∀ x ∈ l, 3 ≤ x.1 ∧ x.1 ≤ 6 ∧ 1 ≤ x.2 ∧ x.2 ≤ n ∧ x.2 ∉ S) ∧ (l.map (·.2)).Nodup
  | [], _, _ => ⟨(fun x hx => by cases hx), by simp⟩
  | (p, x) :: l, S, h => by
    unfold holesGo at h
    by_cases h1 : ¬ (3 ≤ p ∧ p ≤ 6) ∨ ¬ (1 ≤ x ∧ x ≤ (n : Int))
    · rw [if_pos h1] at h; omega
    · rw [if_neg h1] at h
      by_cases h2 : x ∈ S
      · rw [if_pos h2] at h; omega
      · rw [if_neg h2] at h
        obtain ⟨i1, i2⟩ := holesGo_zero n l (x :: S) h
        refine ⟨fun y hy => ?_, ?_⟩
        · rcases List.mem_cons.1 hy with rfl | hy
          · exact ⟨by simp only; omega, by simp only; omega, by simp only; omega, by simp only; omega, h2⟩
          · obtain ⟨a, b, c, d, e⟩ := i1 y hy
            exact ⟨a, b, c, d, fun hs => e (List.mem_cons_of_mem _ hs)⟩
        · rw [List.map_cons, List.nodup_cons]
          refine ⟨fun hm => ?_, i2⟩
          obtain ⟨y, hy, e⟩ := List.mem_map.1 hm
          exact (i1 y hy).2.2.2.2 (by rw [e]; exact List.mem_cons_self ..)
theorem holesI_zero {hs : List (Int × Int)} (h : holesI hs = 0) : 0 < hs.length ∧ hs.length ≤ 36 ∧ (∀ x ∈ hs, 3 ≤ x.1 ∧ x.1 ≤ 6 ∧ 1 ≤ x.2 ∧ x.2 ≤ hs.length) ∧ (hs.map (·.2)).Nodup := by
  unfold holesI at h
  split at h
  · omega
  · split at h
    · omega
    · obtain ⟨i1, i2⟩ := holesGo_zero hs.length hs [] h
      exact ⟨by omega, by omega, fun x hx => by have := i1 x hx; omega, i2⟩
theorem player_holes {hs : List (Int × Int)} {nm : ByteArray} {l : List (Int × ByteArray)} {h : Int} (e : playerI hs nm l h = 0) : holesI hs = 0 := firstI_zero _ e (holesI hs) (by simp)

def pointsF (u : Int) : Int := max 0 (2 + u)

set_option maxHeartbeats 400000 in
theorem points1_any (u : Int) (w : World) (h : -100000 ≤ u ∧ u ≤ 100000) :
    Calls Tryd.prog 21 #[.int .i64 u] w fun e w' => e = .returned (.int .i64 (pointsF u)) ∧ w = w' := by
  by_cases g : 2 + u ≤ 0
  all_goals
    go_enter Tryd.func21, Tryd.ntmps21
    go_wp2
    go_ret
    refine ⟨?_, rfl⟩
    first
      | rfl
      | (have e : pointsF u = 2 + u := by unfold pointsF; omega
         rw [e]; rfl)
      | (have e : pointsF u = 0 := by unfold pointsF; omega
         rw [e]; rfl)

end Go.Proofs.YtmnmdeehcdfkfaaDoor
