/- Formats as mathematics: strokes given, points against net scores, matches. -/
import Derived.KernelRfl
namespace ForMath

/-- The strokes given on n holes with these stroke indices. -/
def given (n : Nat) (h : Int) (idx : List Int) : List Int := idx.map fun i => h / (n : Int) + (if i ≤ h % (n : Int) then 1 else 0)
theorem given_raise (n : Nat) (hn : 0 < n) (h r : Int) (idx : List Int) : given n (h + r * n) idx = (given n h idx).map (· + r) := by
  have hn' : (n : Int) ≠ 0 := by omega
  unfold given
  rw [List.map_map]
  apply List.map_congr_left
  intro i _
  simp only [Function.comp]
  rw [Int.add_mul_ediv_right _ _ hn', Int.add_mul_emod_self_right]
  split <;> omega

def sumI (l : List Int) : Int := l.foldr (· + ·) 0
theorem sumI_cons (x : Int) (l : List Int) : sumI (x :: l) = x + sumI l := rfl

def pts (par net : Int) : Int := max 0 (2 + par - net)
/-- Where all points are above 0, points and net strokes of a card add up to 2 and the par for each hole. -/
theorem pts_sum : ∀ (par net : List Int), par.length = net.length → (∀ x ∈ par.zip net, 0 < pts x.1 x.2) → sumI ((par.zip net).map fun x => pts x.1 x.2) = 2 * (par.length : Int) + sumI par - sumI net
  | [], [], _, _ => rfl
  | p :: par, m :: net, hl, h => by
    have h1 := h (p, m) (by simp)
    have ih := pts_sum par net (by simpa using hl) (fun x hx => h x (by simp only [List.zip_cons_cons]; exact List.mem_cons_of_mem _ hx))
    simp only [List.zip_cons_cons, List.map_cons, sumI_cons, List.length_cons] at ih ⊢
    rw [ih]
    simp only [pts] at h1 ⊢
    omega
theorem pts_differ (par a b : List Int) (ha : par.length = a.length) (hb : par.length = b.length) (pa : ∀ x ∈ par.zip a, 0 < pts x.1 x.2) (pb : ∀ x ∈ par.zip b, 0 < pts x.1 x.2) :
    sumI ((par.zip a).map fun x => pts x.1 x.2) - sumI ((par.zip b).map fun x => pts x.1 x.2) = sumI b - sumI a := by
  rw [pts_sum par a ha pa, pts_sum par b hb pb]; omega

/-- Net strokes of a hole: m is 0 if it counts, 1 for 'x', 2 for '-'. -/
structure Nt where
  m : Nat
  s : Int
deriving DecidableEq, Inhabited

def res (a b : Nt) : Int :=
  if a.m = 0 ∧ b.m = 0 then (if a.s < b.s then 1 else if b.s < a.s then -1 else 0) else if a.m = 0 then 1 else if b.m = 0 then -1 else 0
def overB (u : Int) (left : Nat) : Bool := decide ((left : Int) < u) || decide ((left : Int) < -u) || left == 0
/-- The states of a match from Up on, with the holes that are still to come. -/
def states : Int → List Nt → List Nt → List (Int × Nat × Bool)
  | u, a :: as, b :: bs =>
    if a.m = 2 ∨ b.m = 2 then [] else
      (u + res a b, as.length, overB (u + res a b) as.length) :: if overB (u + res a b) as.length = true then [] else states (u + res a b) as bs
  | _, _, _ => []

/-- Alike for a match: the same marks, and where both count the same difference. -/
def Like (a b a' b' : Nt) : Prop := a.m = a'.m ∧ b.m = b'.m ∧ (a.m = 0 → b.m = 0 → a.s - b.s = a'.s - b'.s)
theorem res_like {a b a' b' : Nt} (h : Like a b a' b') : res a b = res a' b' := by
  obtain ⟨h1, h2, h3⟩ := h
  unfold res
  rw [← h1, ← h2]
  by_cases ha : a.m = 0
  · by_cases hb : b.m = 0
    · have := h3 ha hb
      simp only [ha, hb, and_self, if_true]
      repeat' split
      all_goals omega
    · simp only [ha, hb, and_false, if_false, if_true]
  · simp only [ha, false_and, if_false]
inductive Likes : List Nt → List Nt → List Nt → List Nt → Prop
  | nil : Likes [] [] [] []
  | cons {a b a' b' as bs as' bs'} (h : Like a b a' b') (t : Likes as bs as' bs') : Likes (a :: as) (b :: bs) (a' :: as') (b' :: bs')
theorem Likes.len {a b a' b' : List Nt} (h : Likes a b a' b') : a.length = a'.length := by
  induction h with
  | nil => rfl
  | cons _ _ ih => simp [ih]
theorem states_like {as bs as' bs' : List Nt} (h : Likes as bs as' bs') : ∀ u : Int, states u as bs = states u as' bs' := by
  induction h with
  | nil => intro u; rfl
  | cons h t ih =>
    intro u
    unfold states
    rw [← h.1, ← h.2.1, ← res_like h, ← t.len]
    split
    · rfl
    · split
      · rfl
      · rw [ih]

/-- A side that is at no hole worse: where it is not played, the other one is not, either. -/
def Better (a c : Nt) : Prop := (a.m = 2 → c.m = 2) ∧ (c.m = 0 → a.m = 0 ∧ a.s ≤ c.s)
theorem res_better {a c b : Nt} (h : Better a c) : res c b ≤ res a b := by
  obtain ⟨_, h2⟩ := h
  unfold res
  by_cases hc : c.m = 0
  · obtain ⟨ha, hs⟩ := h2 hc
    by_cases hb : b.m = 0
    · simp only [ha, hb, hc, and_self, if_true]
      repeat' split
      all_goals omega
    · simp only [ha, hb, hc, and_false, if_false, if_true]
      omega
  · by_cases ha : a.m = 0 <;> by_cases hb : b.m = 0 <;> simp only [ha, hb, hc, and_self, and_false, false_and, if_true, if_false]
    all_goals repeat' split
    all_goals omega
theorem states_better : ∀ (as cs bs : List Nt) (u v : Int), v ≤ u → (∀ x ∈ as.zip cs, Better x.1 x.2) → ∀ (i : Nat) (s t : Int × Nat × Bool), (states u as bs)[i]? = some s → (states v cs bs)[i]? = some t → t.1 ≤ s.1
  | [], _, _, _, _, _, _, i, s, t, hs, _ => by simp [states] at hs
  | _ :: _, [], _, _, _, _, _, i, s, t, _, ht => by simp [states] at ht
  | _ :: _, _ :: _, [], _, _, _, _, i, s, t, hs, _ => by simp [states] at hs
  | a :: as, c :: cs, b :: bs, u, v, huv, hB, i, s, t, hs, ht => by
    have hb := hB (a, c) (by simp)
    unfold states at hs ht
    split at hs
    · simp at hs
    · rename_i n1
      split at ht
      · simp at ht
      · rename_i n2
        have hr : res c b ≤ res a b := res_better hb
        cases i with
        | zero =>
          simp only [List.getElem?_cons_zero, Option.some.injEq] at hs ht
          subst hs; subst ht
          show v + res c b ≤ u + res a b
          omega
        | succ i =>
          simp only [List.getElem?_cons_succ] at hs ht
          split at hs
          · simp at hs
          · split at ht
            · simp at ht
            · exact states_better as cs bs _ _ (by omega) (fun x hx => hB x (by simp only [List.zip_cons_cons]; exact List.mem_cons_of_mem _ hx)) i s t hs ht

end ForMath
