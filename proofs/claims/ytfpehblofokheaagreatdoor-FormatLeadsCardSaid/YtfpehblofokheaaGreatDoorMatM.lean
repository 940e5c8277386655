/- FormatMatches: holes and states by the reference: plain mathematics. -/
import Derived.Test.YtfpehblofokheaaGreatDoorMgF
set_option linter.unusedVariables false
set_option linter.unusedSimpArgs false
namespace Go.Proofs.YtfpehblofokheaaGreatDoor
open Go.RowKit

/-- Net strokes as a list of them that is right has them. -/
def fineN (e : Int × ByteArray) : Prop := e.2.toList.isEmpty = true ∨ (e.1 = 0 ∧ (e.2.toList == [120]) = true) ∨ (e.1 = 0 ∧ (e.2.toList == [45]) = true)
def holeI (a b : Int × ByteArray) : Int := if a.2.toList.isEmpty = true ∧ (b.2.toList.isEmpty = false ∨ a.1 < b.1) then 1 else if b.2.toList.isEmpty = true ∧ (a.2.toList.isEmpty = false ∨ b.1 < a.1) then -1 else 0
theorem rank_empty {m : ByteArray} (h : m.toList.isEmpty = true) : rankI m = 0 := by
  have e : markK m = 0 := by
    rcases mark_cases m with ⟨h1, h2, h3, h4, h5⟩ | ⟨h1, h2, h3, h4, h5⟩ | ⟨h1, h2, h3, h4, h5⟩ | ⟨h1, h2, h3, h4, h5⟩ | ⟨h1, h2, h3, h4, h5⟩
    · exact h5
    all_goals (rw [h] at h1; cases h1)
  unfold rankI
  rw [e]
  rfl
theorem rank_x {m : ByteArray} (h : (m.toList == [120]) = true) : rankI m = 1 ∧ m.toList.isEmpty = false := by
  have e : markK m = 2 ∧ m.toList.isEmpty = false := by
    rcases mark_cases m with ⟨h1, h2, h3, h4, h5⟩ | ⟨h1, h2, h3, h4, h5⟩ | ⟨h1, h2, h3, h4, h5⟩ | ⟨h1, h2, h3, h4, h5⟩ | ⟨h1, h2, h3, h4, h5⟩
    · rw [h] at h3; cases h3
    · rw [h] at h3; cases h3
    · exact ⟨h5, h1⟩
    · rw [h] at h3; cases h3
    · rw [h] at h3; cases h3
  unfold rankI
  rw [e.1]
  exact ⟨rfl, e.2⟩
theorem hole_res {a b : Int × ByteArray} (ha : fineN a) (hb : fineN b) (pa : (a.2.toList == [45]) = false) (pb : (b.2.toList == [45]) = false) : holeI a b = resI a b := by
  obtain ⟨s, m⟩ := a
  obtain ⟨t, n⟩ := b
  unfold holeI resI meritI
  rcases ha with ha | ⟨ha0, ha⟩ | ⟨_, ha⟩
  · rcases hb with hb | ⟨hb0, hb⟩ | ⟨_, hb⟩
    · simp only at ha hb
      rw [rank_empty ha, rank_empty hb, ha, hb]
      have c0 : cmpI 0 0 = 0 := rfl
      have hf : firstI [cmpI 0 0, cmpI s t] = cmpI s t := by
        rw [c0]
        simp only [firstI, if_true]
        split
        · omega
        · rfl
      rw [hf]
      unfold cmpI
      by_cases g1 : s < t
      · simp [g1]
      · by_cases g2 : s = t
        · subst g2; simp
        · have g3 : t < s := by omega
          simp [g1, g2, g3]
    · simp only at ha hb
      obtain ⟨r, e⟩ := rank_x hb
      rw [rank_empty ha, r, ha, e]
      have hf : firstI [cmpI 0 1, cmpI s t] = -1 := rfl
      rw [hf]
      simp
    · rw [hb] at pb; cases pb
  · rcases hb with hb | ⟨hb0, hb⟩ | ⟨_, hb⟩
    · simp only at ha hb
      obtain ⟨r, e⟩ := rank_x ha
      rw [rank_empty hb, r, hb, e]
      have hf : firstI [cmpI 1 0, cmpI s t] = 1 := rfl
      rw [hf]
      simp
    · simp only at ha hb ha0 hb0
      obtain ⟨r, e⟩ := rank_x ha
      obtain ⟨r2, e2⟩ := rank_x hb
      subst ha0; subst hb0
      rw [r, r2, e, e2]
      have hf : firstI [cmpI 1 1, cmpI 0 0] = 0 := rfl
      rw [hf]
      simp
    · rw [hb] at pb; cases pb
  · rw [ha] at pa; cases pa
theorem netV_fine (g : Int) (e : Int × ByteArray) : fineN (netV g e) := by
  unfold netV fineN
  rcases mark_cases e.2 with ⟨h1, h2, h3, h4, h5⟩ | ⟨h1, h2, h3, h4, h5⟩ | ⟨h1, h2, h3, h4, h5⟩ | ⟨h1, h2, h3, h4, h5⟩ | ⟨h1, h2, h3, h4, h5⟩
  all_goals
    rw [h5]
    simp [noMark, h3, h4]
    try rfl
theorem nets_fine (hs : List (Int × Int)) (h : Int) (l : List (Int × ByteArray)) : ∀ e ∈ netsOf hs h l, fineN e := fun e he => by
  unfold netsOf netsL at he
  obtain ⟨x, _, rfl⟩ := List.mem_map.1 he
  exact netV_fine _ _
theorem statesGo_len : ∀ (u : Int) (o : Bool) (l : List Du), (statesGo u o l).length ≤ l.length
  | _, _, [] => Nat.le_refl _
  | u, o, x :: l => by
    rw [statesGo]
    split
    · simp
    · have := statesGo_len (u + resI x.2.1 x.2.2) (overI (u + resI x.2.1 x.2.2) x.1) l
      simp only [List.length_cons]
      omega
theorem states_len (xa xb : List Ent) : (statesL xa xb).length ≤ xa.length := by
  have := statesGo_len 0 false (duels xa xb xa.length)
  rwa [duels_length] at this
theorem two_go (x y z0 z : Int) (h0 : z0 = 0) : firstI [x, y, z] = if firstI [x, z0] = 0 then (if firstI [y, z] = 0 then 0 else firstI [y, z]) else firstI [x, z0] := by
  subst h0
  by_cases hx : x = 0 <;> by_cases hy : y = 0 <;> by_cases hz : z = 0 <;> simp [firstI, hx, hy, hz]
/-- The error of two players, as the law finds it. -/
theorem players_two (hs : List (Int × Int)) (a b : Pl) : firstI [playerI hs a.nm a.l a.h, playerI hs b.nm b.l b.h, unlessI (!decide (a.nm = b.nm)) 9] = playersGo hs [] [a, b] := by
  have e0 : unlessI (!decide (a.nm ∈ ([] : List ByteArray))) 9 = 0 := by simp [unlessI]
  have e1 : unlessI (!decide (a.nm = b.nm)) 9 = unlessI (!decide (b.nm ∈ ([] ++ [a.nm] : List ByteArray))) 9 := by
    congr 2
    exact decide_eq_decide.2 ⟨fun h => by simp [h], fun h => by simpa [eq_comm] using h⟩
  rw [e1]
  exact two_go (plI hs a) (plI hs b) _ _ e0
end Go.Proofs.YtfpehblofokheaaGreatDoor
