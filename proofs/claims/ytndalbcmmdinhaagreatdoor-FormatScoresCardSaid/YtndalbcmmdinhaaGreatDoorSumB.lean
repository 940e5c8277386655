/- FormatSums: its plain mathematics. -/
import Derived.Test.YtndalbcmmdinhaaGreatDoorAdjM
import Derived.Test.YtndalbcmmdinhaaGreatDoorMgD
set_option linter.unusedVariables false
set_option linter.unusedSimpArgs false
namespace Go.Proofs.YtndalbcmmdinhaaGreatDoor
open Go.RowKit

theorem parL_cons (x : Int × Int) (hs : List (Int × Int)) (e : Int × ByteArray) (nl : List (Int × ByteArray)) : parL pointsF 0 (x :: hs) (e :: nl) = parV pointsF 0 x.1 e :: parL pointsF 0 hs nl := rfl
/-- Where all points are above 0 every hole counts, and they are twice the holes and the pars less the net strokes. -/
theorem pts_pos : ∀ (hs : List (Int × Int)) (nl : List (Int × ByteArray)), nl.length = hs.length → (parL pointsF 0 hs nl).all (fun y => decide (0 < y)) = true →
    allCount nl = true ∧ ForMath.sumI (parL pointsF 0 hs nl) = 2 * (hs.length : Int) + parsS hs - sumS nl
  | [], [], _, _ => ⟨rfl, rfl⟩
  | [], _ :: _, h, _ => by simp at h
  | _ :: _, [], h, _ => by simp at h
  | x :: hs, e :: nl, h, hp => by
    rw [parL_cons, List.all_cons, Bool.and_eq_true, decide_eq_true_eq] at hp
    obtain ⟨i1, i2⟩ := pts_pos hs nl (by simpa using h) hp.2
    have h1 := hp.1
    unfold parV at h1
    by_cases hc : countsB e.2 = true
    · rw [if_pos hc] at h1
      refine ⟨by unfold allCount at i1 ⊢; rw [List.all_cons, hc, i1]; rfl, ?_⟩
      rw [parL_cons, ForMath.sumI_cons, i2]
      unfold parV
      rw [if_pos hc]
      unfold sumS firsts parsS
      simp only [List.map_cons, ForMath.sumI_cons, List.length_cons]
      unfold pointsF at h1 ⊢
      omega
    · rw [if_neg hc] at h1
      omega
theorem marks_of_all {hs : List (Int × Int)} {l : List (Int × ByteArray)} {h : Int} (hl : l.length = hs.length) (ha : allCount (netsOf hs h l) = true) : ∀ e ∈ l, markK e.2 ≠ 2 ∧ markK e.2 ≠ 3 := fun e he => by
  by_cases g : markK e.2 = 2 ∨ markK e.2 = 3
  · have := nets_some (h / (hs.length : Int)) (h % (hs.length : Int)) hs l hl ⟨e, he, g⟩
    unfold netsOf at ha
    rw [this] at ha
    cases ha
  · omega
/-- The gross and the net score: both there, or both not. -/
theorem sums_scores {hs : List (Int × Int)} {nm : ByteArray} {l : List (Int × ByteArray)} {h : Int} (hn : playerI hs nm l h = 0) :
    (allCount (netsOf hs h l) = true ∧ grossR hs nm l h = (sumS l, 0) ∧ scoreR hs nm l h = (sumS (netsOf hs h l), 0) ∧ sumS (netsOf hs h l) = sumS l - h) ∨
    (allCount (netsOf hs h l) = false ∧ grossR hs nm l h = (0, 7) ∧ scoreR hs nm l h = (0, 7)) := by
  have F := fit_of hn
  unfold grossR scoreR wholeR
  rw [if_pos hn, if_pos hn]
  cases ha : allCount (netsOf hs h l) with
  | true => exact .inl ⟨rfl, rfl, rfl, net_gross hs l h (player_holes hn) F.len (marks_of_all F.len ha)⟩
  | false => exact .inr ⟨rfl, rfl, rfl⟩
theorem sums_points {hs : List (Int × Int)} {nm : ByteArray} {l : List (Int × ByteArray)} {h : Int} (hn : playerI hs nm l h = 0) (hp : (parL pointsF 0 hs (netsOf hs h l)).all (fun y => decide (0 < y)) = true) :
    allCount (netsOf hs h l) = true ∧ ForMath.sumI (parL pointsF 0 hs (netsOf hs h l)) = 2 * (hs.length : Int) + parsS hs - sumS (netsOf hs h l) := pts_pos hs _ (fit_of hn).netsLen hp
/-- The strokes given on two holes differ by at most 1, and none with a greater index has more. -/
theorem given_near (q r a b : Int) : addI q r a - addI q r b ≤ 1 ∧ (a < b → addI q r b ≤ addI q r a) := by
  unfold addI
  split <;> split <;> omega
end Go.Proofs.YtndalbcmmdinhaaGreatDoor
