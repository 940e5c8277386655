/- Adjusted strokes and points: the mathematics of J6. -/
import Derived.Test.YtndalbcmmdinhaaGreatDoorMgE
set_option linter.unusedVariables false
set_option linter.unusedSimpArgs false
namespace Go.Proofs.YtndalbcmmdinhaaGreatDoor
open Go.RowKit

/-- Adjusted strokes of an entry under this limit. -/
def adjV (lim : Int) (e : Int × ByteArray) : Int := if markK e.2 = 2 then lim else if markK e.2 = 3 then max 1 (lim - 2) else min lim e.1
def limV (q r : Int) (x : Int × Int) : Int := x.1 + 2 + addI q r x.2
def adjL (q r : Int) (hs : List (Int × Int)) (l : List (Int × ByteArray)) : List Int := (hs.zip l).map fun x => adjV (limV q r x.1) x.2
def adjS (hs : List (Int × Int)) (h : Int) (l : List (Int × ByteArray)) : Int := ForMath.sumI (adjL (h / (hs.length : Int)) (h % (hs.length : Int)) hs l)
def parsS (hs : List (Int × Int)) : Int := ForMath.sumI (hs.map (·.1))

theorem counts_of {m : ByteArray} : (markK m = 0 ∧ countsB m = true) ∨ (markK m ≠ 0 ∧ countsB m = false) := by
  rcases mark_cases m with ⟨h1, _, _, _, h5⟩ | ⟨h1, _, _, _, h5⟩ | ⟨h1, _, _, _, h5⟩ | ⟨h1, _, _, _, h5⟩ | ⟨h1, _, _, _, h5⟩
  · exact .inl ⟨h5, h1⟩
  all_goals exact .inr ⟨by omega, h1⟩
theorem counts_noMark : countsB noMark = true := by
  have e : noMark.toList = [] := by
    unfold ByteArray.toList
    rw [ByteArray.toList.loop.eq_def]
    rfl
  rw [countsB, e]; rfl
theorem counts_no {m : ByteArray} (h : markK m ≠ 0) : countsB m = false := by
  rcases counts_of (m := m) with ⟨h1, _⟩ | ⟨_, h1⟩
  · exact absurd h1 h
  · exact h1

theorem adj_points_one (q r : Int) (x : Int × Int) (e : Int × ByteArray) (h3 : markK e.2 ≠ 3) :
    adjV (limV q r x) e + parV pointsF 0 x.1 (netV (addI q r x.2) e) = x.1 + 2 + addI q r x.2 := by
  unfold adjV netV parV limV pointsF
  generalize addI q r x.2 = g
  by_cases h2 : markK e.2 = 2
  · have hc : countsB e.2 = false := counts_no (by omega)
    simp only [h2, true_or, if_true, hc, Bool.false_eq_true, if_false]
    omega
  · simp only [h2, h3, or_self, if_false, counts_noMark, if_true]
    omega
theorem adj_points_sum (q r : Int) : ∀ (hs : List (Int × Int)) (l : List (Int × ByteArray)), l.length = hs.length → (∀ e ∈ l, markK e.2 ≠ 3) →
    ForMath.sumI (adjL q r hs l) + ForMath.sumI (parL pointsF 0 hs (netsL (givenL q r hs) l)) = parsS hs + 2 * (hs.length : Int) + ForMath.sumI (givenL q r hs)
  | [], [], _, _ => rfl
  | [], _ :: _, h, _ => by simp at h
  | _ :: _, [], h, _ => by simp at h
  | x :: hs, e :: l, hl, h3 => by
    have ih := adj_points_sum q r hs l (by simpa using hl) (fun e he => h3 e (List.mem_cons_of_mem _ he))
    have h1 := adj_points_one q r x e (h3 e (by simp))
    unfold adjL parL netsL givenL parsS at *
    simp only [List.map_cons, List.zip_cons_cons, ForMath.sumI_cons, List.length_cons] at ih ⊢
    rw [Int.natCast_add, Int.mul_add]
    simp only [Int.natCast_one]
    omega
theorem given_sum (hs : List (Int × Int)) (h : Int) (hz : holesI hs = 0) : ForMath.sumI (givenL (h / (hs.length : Int)) (h % (hs.length : Int)) hs) = h := by
  obtain ⟨h1, h2, h3, h4⟩ := holesI_zero hz
  have := ForMath.sum_given_all hs.length h1 h (hs.map (·.2)) (by simp) h4 (fun x hx => by
    obtain ⟨y, hy, rfl⟩ := List.mem_map.1 hx
    exact ⟨(h3 y hy).2.2.1, (h3 y hy).2.2.2⟩)
  rw [List.map_map] at this
  exact this
/-- Adjusted strokes and points of a card without '-' add up to the par, 2 for each hole and the strokes given. -/
theorem adj_points (hs : List (Int × Int)) (l : List (Int × ByteArray)) (h : Int) (hz : holesI hs = 0) (hl : l.length = hs.length) (h3 : ∀ e ∈ l, markK e.2 ≠ 3) :
    adjS hs h l + ForMath.sumI (parL pointsF 0 hs (netsOf hs h l)) = parsS hs + 2 * (hs.length : Int) + h := by
  have := adj_points_sum (h / (hs.length : Int)) (h % (hs.length : Int)) hs l hl h3
  rw [given_sum hs h hz] at this
  exact this

theorem nets_all (q r : Int) : ∀ (hs : List (Int × Int)) (l : List (Int × ByteArray)), (∀ e ∈ l, markK e.2 ≠ 2 ∧ markK e.2 ≠ 3) → allCount (netsL (givenL q r hs) l) = true
  | [], l, _ => by cases l <;> rfl
  | _ :: _, [], _ => rfl
  | x :: hs, e :: l, h => by
    have ih := nets_all q r hs l (fun e he => h e (List.mem_cons_of_mem _ he))
    have h1 := h e (by simp)
    unfold allCount netsL givenL at *
    simp only [List.map_cons, List.zip_cons_cons, List.all_cons, ih, Bool.and_true]
    unfold netV
    simp only [h1.1, h1.2, or_self, if_false, counts_noMark]
theorem nets_some (q r : Int) : ∀ (hs : List (Int × Int)) (l : List (Int × ByteArray)), l.length = hs.length → (∃ e ∈ l, markK e.2 = 2 ∨ markK e.2 = 3) → allCount (netsL (givenL q r hs) l) = false
  | _, [], _, h => by obtain ⟨e, he, _⟩ := h; cases he
  | [], _ :: _, hl, _ => by simp at hl
  | x :: hs, e :: l, hl, h => by
    unfold allCount netsL givenL
    simp only [List.map_cons, List.zip_cons_cons, List.all_cons]
    by_cases h1 : markK e.2 = 2 ∨ markK e.2 = 3
    · have hc : countsB e.2 = false := counts_no (by omega)
      unfold netV
      simp only [h1, if_true, hc, Bool.false_and]
    · have ih := nets_some q r hs l (by simpa using hl) (by
        obtain ⟨y, hy, hy2⟩ := h
        rcases List.mem_cons.1 hy with rfl | hy
        · exact absurd hy2 h1
        · exact ⟨y, hy, hy2⟩)
      unfold allCount netsL givenL at ih
      rw [ih, Bool.and_false]
theorem nets_sum (q r : Int) : ∀ (hs : List (Int × Int)) (l : List (Int × ByteArray)), l.length = hs.length → (∀ e ∈ l, markK e.2 ≠ 2 ∧ markK e.2 ≠ 3) → sumS (netsL (givenL q r hs) l) = sumS l - ForMath.sumI (givenL q r hs)
  | [], [], _, _ => rfl
  | [], _ :: _, h, _ => by simp at h
  | _ :: _, [], h, _ => by simp at h
  | x :: hs, e :: l, hl, h => by
    have ih := nets_sum q r hs l (by simpa using hl) (fun e he => h e (List.mem_cons_of_mem _ he))
    have h1 := h e (by simp)
    unfold sumS firsts netsL givenL at *
    simp only [List.map_cons, List.zip_cons_cons, ForMath.sumI_cons] at ih ⊢
    have e1 : (netV (addI q r x.2) e).1 = e.1 - addI q r x.2 := by unfold netV; simp only [h1.1, h1.2, or_self, if_false]
    rw [e1, ih]
    omega
/-- The net score of a card whose holes all count is the gross score less the strokes given. -/
theorem net_gross (hs : List (Int × Int)) (l : List (Int × ByteArray)) (h : Int) (hz : holesI hs = 0) (hl : l.length = hs.length) (hm : ∀ e ∈ l, markK e.2 ≠ 2 ∧ markK e.2 ≠ 3) :
    sumS (netsOf hs h l) = sumS l - h := by
  have := nets_sum (h / (hs.length : Int)) (h % (hs.length : Int)) hs l hl hm
  rw [given_sum hs h hz] at this
  exact this

/-- Whether some hole is worse than two above its net par. -/
def worseB (q r : Int) (hs : List (Int × Int)) (l : List (Int × ByteArray)) : Bool := (hs.zip l).any fun x => decide (x.1.1 + 2 < x.2.1 - addI q r x.1.2)
theorem adj_gross_sum (q r : Int) : ∀ (hs : List (Int × Int)) (l : List (Int × ByteArray)), l.length = hs.length → (∀ e ∈ l, markK e.2 ≠ 2 ∧ markK e.2 ≠ 3) →
    ForMath.sumI (adjL q r hs l) ≤ sumS l ∧ (ForMath.sumI (adjL q r hs l) = sumS l ↔ worseB q r hs l = false)
  | [], [], _, _ => ⟨Int.le_refl _, fun _ => rfl, fun _ => rfl⟩
  | [], _ :: _, h, _ => by simp at h
  | _ :: _, [], h, _ => by simp at h
  | x :: hs, e :: l, hl, h => by
    have ih := adj_gross_sum q r hs l (by simpa using hl) (fun e he => h e (List.mem_cons_of_mem _ he))
    have h1 := h e (by simp)
    unfold sumS firsts adjL worseB at *
    simp only [List.map_cons, List.zip_cons_cons, ForMath.sumI_cons, List.any_cons, Bool.or_eq_false_iff, decide_eq_false_iff_not] at ih ⊢
    have e1 : adjV (limV q r x) e = min (x.1 + 2 + addI q r x.2) e.1 := by unfold adjV limV; simp only [h1.1, h1.2, if_false]
    rw [e1]
    obtain ⟨i1, i2⟩ := ih
    refine ⟨by omega, ?_⟩
    rw [← i2]
    omega
theorem adj_gross (hs : List (Int × Int)) (l : List (Int × ByteArray)) (h : Int) (hl : l.length = hs.length) (hm : ∀ e ∈ l, markK e.2 ≠ 2 ∧ markK e.2 ≠ 3) :
    adjS hs h l ≤ sumS l ∧ (adjS hs h l = sumS l ↔ worseB (h / (hs.length : Int)) (h % (hs.length : Int)) hs l = false) := adj_gross_sum _ _ hs l hl hm
end Go.Proofs.YtndalbcmmdinhaaGreatDoor
