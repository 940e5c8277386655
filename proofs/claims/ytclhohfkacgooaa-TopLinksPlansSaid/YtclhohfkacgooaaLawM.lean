/- The law's mathematics: conditions that the document's check accepts; days that fit. -/
import Derived.Test.YtclhohfkacgooaaLawA
namespace Go.Proofs.Ytclhohfkacgooaa
open Go.RowKit PlanMath

def downR (r : Int × Int × Int) : Cond := (r.1.toNat, r.2.1.toNat, r.2.2)
theorem rulesGo_zero (n : Nat) : ∀ (R : List (Int × Int × Int)), rulesGo (n : Int) R = 0 → (R.map downR).map upR = R ∧ Valid n (R.map downR)
  | [], _ => ⟨rfl, fun r hr => by simp at hr⟩
  | (f, t, l) :: R, h => by
    simp only [rulesGo] at h
    split at h
    · cases h
    · rename_i h1
      split at h
      · cases h
      · rename_i h2
        have h1 := Classical.not_not.1 h1
        have h2 := Classical.not_not.1 h2
        obtain ⟨e, v⟩ := rulesGo_zero n R h
        refine ⟨?_, fun r hr => ?_⟩
        · rw [List.map_cons, List.map_cons, e]
          simp only [upR, downR]
          rw [Int.toNat_of_nonneg h1.1.1, Int.toNat_of_nonneg h1.2.1]
        · rw [List.map_cons] at hr
          rcases List.mem_cons.1 hr with rfl | hr
          · simp only [downR]; omega
          · exact v r hr
theorem rulesI_zero (n : Nat) (R : List (Int × Int × Int)) (h : rulesI (n : Int) R = 0) : 1 ≤ n ∧ n ≤ 24 ∧ (R.map downR).map upR = R ∧ Valid n (R.map downR) := by
  unfold rulesI at h
  split at h
  · cases h
  · rename_i h1
    have h1 := Classical.not_not.1 h1
    split at h
    · cases h
    · exact ⟨by omega, by omega, rulesGo_zero n R h⟩

theorem conds_of_rules {w : World} {B : Nat} {A : Option Addr} {C : List Cond} (h : RulesR w B A (C.map upR)) : CondsR w B A C := fun j hj => by
  obtain ⟨a, h1, h2, h3, h4, h5⟩ := h j (by simpa using hj)
  rw [getD_up C j hj] at h3 h4 h5
  exact ⟨a, h1, h2, h3, h4, h5⟩

theorem fitsB_iff (C : List Cond) (d : List Int) : fitsB C d = true ↔ (∀ x ∈ d, 0 ≤ x ∧ x ≤ 100000) ∧ ∀ r ∈ C, d.getD r.1 0 + r.2.2 ≤ d.getD r.2.1 0 := by
  unfold fitsB inD okR
  simp only [Bool.and_eq_true, List.all_eq_true, decide_eq_true_eq]
theorem fits_feas {C : List Cond} {d : List Int} (h : fitsB C d = true) : Feas d.length C (fun v => d.getD v 0) := by
  obtain ⟨h1, h2⟩ := (fitsB_iff C d).1 h
  refine ⟨fun v hv => ?_, h2⟩
  have := h1 d[v] (List.getElem_mem hv)
  simp only [List.getD, List.getElem?_eq_getElem hv, Option.getD_some]
  omega
theorem no_fit {C : List Cond} {d : List Int} (hn : 0 < d.length) (hv : Valid d.length C) (hq : chg C (iter C (zeros d.length) (d.length - 1)) = true) : fitsB C d = false := by
  cases hf : fitsB C d with
  | false => rfl
  | true => rw [last_quiet hn hv (fits_feas hf)] at hq; cases hq

/-- The least days. -/
def daysL (n : Nat) (C : List Cond) : List Int := iter C (zeros n) n
theorem daysL_length (n : Nat) (C : List Cond) : (daysL n C).length = n := by unfold daysL; rw [iter_length]; simp [zeros]
theorem daysL_in {n : Nat} {C : List Cond} (hn : 0 < n) (h6 : n ≤ 6) (hv : Valid n C) (hq : chg C (iter C (zeros n) (n - 1)) = false) (v : Nat) (hvn : v < n) : 0 ≤ (daysL n C).getD v 0 ∧ (daysL n C).getD v 0 ≤ 50000 := by
  obtain ⟨a, b, c⟩ := quiet_days hn hv hq
  have h1 : 0 ≤ (iter C (zeros n) n).getD v 0 := a.1 v hvn
  have h2 := c v hvn
  have : ((n - 1 : Nat) : Int) ≤ 5 := by omega
  unfold daysL
  omega
theorem mem_getD {d : List Int} {x : Int} (h : x ∈ d) : ∃ v, v < d.length ∧ d.getD v 0 = x := by
  obtain ⟨v, hv, e⟩ := List.mem_iff_getElem.1 h
  exact ⟨v, hv, by simp [List.getD, List.getElem?_eq_getElem hv, e]⟩
theorem daysL_fits {n : Nat} {C : List Cond} (hn : 0 < n) (h6 : n ≤ 6) (hv : Valid n C) (hq : chg C (iter C (zeros n) (n - 1)) = false) : fitsB C (daysL n C) = true := by
  refine (fitsB_iff _ _).2 ⟨fun x hx => ?_, (quiet_days hn hv hq).1.2⟩
  obtain ⟨v, hvn, rfl⟩ := mem_getD hx
  rw [daysL_length] at hvn
  have := daysL_in hn h6 hv hq v hvn
  omega
theorem daysL_least {C : List Cond} {d : List Int} (hn : 0 < d.length) (hv : Valid d.length C) (hq : chg C (iter C (zeros d.length) (d.length - 1)) = false) (hf : fitsB C d = true) (v : Nat) (hvn : v < d.length) : (daysL d.length C).getD v 0 ≤ d.getD v 0 :=
  (quiet_days hn hv hq).2.1 _ (fits_feas hf) v hvn

def minL (a b : List Int) : List Int := (List.range a.length).map fun i => min (a.getD i 0) (b.getD i 0)
def maxL (a b : List Int) : List Int := (List.range a.length).map fun i => max (a.getD i 0) (b.getD i 0)
def laterL (a : List Int) : List Int := a.map (· + 7)
theorem getD_range (f : Nat → Int) (n i : Nat) (h : i < n) : ((List.range n).map f).getD i 0 = f i := by simp [List.getD, h]
theorem minL_fits {C : List Cond} {a b : List Int} (hl : a.length = b.length) (hv : Valid a.length C) (ha : fitsB C a = true) (hb : fitsB C b = true) : fitsB C (minL a b) = true := by
  obtain ⟨a1, a2⟩ := (fitsB_iff C a).1 ha
  obtain ⟨b1, b2⟩ := (fitsB_iff C b).1 hb
  refine (fitsB_iff _ _).2 ⟨fun x hx => ?_, fun r hr => ?_⟩
  · obtain ⟨v, hvn, rfl⟩ := List.mem_map.1 hx
    have hvn := List.mem_range.1 hvn
    have h1 := a1 a[v] (List.getElem_mem hvn)
    have h2 := b1 b[v] (List.getElem_mem (by omega))
    simp only [List.getD, List.getElem?_eq_getElem hvn, List.getElem?_eq_getElem (show v < b.length by omega), Option.getD_some]
    omega
  · have hr2 := hv r hr
    unfold minL
    rw [getD_range _ _ _ hr2.1, getD_range _ _ _ hr2.2.1]
    have := a2 r hr
    have := b2 r hr
    omega
theorem maxL_fits {C : List Cond} {a b : List Int} (hl : a.length = b.length) (hv : Valid a.length C) (ha : fitsB C a = true) (hb : fitsB C b = true) : fitsB C (maxL a b) = true := by
  obtain ⟨a1, a2⟩ := (fitsB_iff C a).1 ha
  obtain ⟨b1, b2⟩ := (fitsB_iff C b).1 hb
  refine (fitsB_iff _ _).2 ⟨fun x hx => ?_, fun r hr => ?_⟩
  · obtain ⟨v, hvn, rfl⟩ := List.mem_map.1 hx
    have hvn := List.mem_range.1 hvn
    have h1 := a1 a[v] (List.getElem_mem hvn)
    have h2 := b1 b[v] (List.getElem_mem (by omega))
    simp only [List.getD, List.getElem?_eq_getElem hvn, List.getElem?_eq_getElem (show v < b.length by omega), Option.getD_some]
    omega
  · have hr2 := hv r hr
    unfold maxL
    rw [getD_range _ _ _ hr2.1, getD_range _ _ _ hr2.2.1]
    have := a2 r hr
    have := b2 r hr
    omega
theorem laterL_getD (d : List Int) (v : Nat) (h : v < d.length) : (laterL d).getD v 0 = d.getD v 0 + 7 := by simp [laterL, List.getD, List.getElem?_eq_getElem h]
theorem later_fits {n : Nat} {C : List Cond} (hn : 0 < n) (h6 : n ≤ 6) (hv : Valid n C) (hq : chg C (iter C (zeros n) (n - 1)) = false) : fitsB C (laterL (daysL n C)) = true := by
  refine (fitsB_iff _ _).2 ⟨fun x hx => ?_, fun r hr => ?_⟩
  · obtain ⟨y, hy, rfl⟩ := List.mem_map.1 hx
    obtain ⟨v, hvn, rfl⟩ := mem_getD hy
    rw [daysL_length] at hvn
    have := daysL_in hn h6 hv hq v hvn
    omega
  · have hr2 := hv r hr
    have h := (quiet_days hn hv hq).1.2 r hr
    rw [laterL_getD _ _ (by rw [daysL_length]; exact hr2.1), laterL_getD _ _ (by rw [daysL_length]; exact hr2.2.1)]
    unfold daysL
    have h' : (iter C (zeros n) n).getD r.1 0 + r.2.2 ≤ (iter C (zeros n) n).getD r.2.1 0 := h
    omega

/-- The flows that the law makes of the days, and the greatest of them. -/
def flowsL (d : List Int) : List Int := d.map fun z => 1 + z % 9
def limL (l : List Int) : Int := l.foldl max 1
theorem flowsL_length (d : List Int) : (flowsL d).length = d.length := by simp [flowsL]
theorem flowsL_in (d : List Int) : ∀ f ∈ flowsL d, 1 ≤ f ∧ f ≤ 9 := fun f hf => by
  obtain ⟨z, _, rfl⟩ := List.mem_map.1 hf
  omega
theorem flowsL_getD (d : List Int) (k : Nat) (h : k < d.length) : (flowsL d).getD k 0 = 1 + d.getD k 0 % 9 := by simp [flowsL, List.getD, List.getElem?_eq_getElem h]
theorem limL_snoc (l : List Int) (x : Int) : limL (l ++ [x]) = max (limL l) x := by simp [limL]
theorem limL_in (l : List Int) (h : ∀ f ∈ l, 1 ≤ f ∧ f ≤ 9) : (1 ≤ limL l ∧ limL l ≤ 9) ∧ ∀ f ∈ l, f ≤ limL l := by
  have H : ∀ (l : List Int) (m : Int), 1 ≤ m → m ≤ 9 → (∀ f ∈ l, 1 ≤ f ∧ f ≤ 9) → (m ≤ l.foldl max m ∧ l.foldl max m ≤ 9) ∧ ∀ f ∈ l, f ≤ l.foldl max m := by
    intro l
    induction l with
    | nil => intro m h1 h2 _; exact ⟨⟨Int.le_refl _, h2⟩, fun f hf => by simp at hf⟩
    | cons x l ih =>
      intro m h1 h2 h3
      have hx := h3 x (by simp)
      obtain ⟨⟨a, b⟩, c⟩ := ih (max m x) (by omega) (by omega) (fun f hf => h3 f (List.mem_cons_of_mem _ hf))
      simp only [List.foldl_cons]
      refine ⟨⟨by omega, b⟩, fun f hf => ?_⟩
      rcases List.mem_cons.1 hf with rfl | hf
      · omega
      · exact c f hf
  obtain ⟨⟨a, b⟩, c⟩ := H l 1 (by omega) (by omega) h
  exact ⟨⟨a, b⟩, c⟩
theorem sumL_snoc (l : List Int) (x : Int) : WaterMath.sumL (l ++ [x]) = WaterMath.sumL l + x := by
  induction l with
  | nil => simp [WaterMath.sumL]
  | cons y l ih => simp only [List.cons_append, WaterMath.sumL, ih]; omega
theorem sumL_in (l : List Int) (h : ∀ f ∈ l, 1 ≤ f ∧ f ≤ 9) : 0 ≤ WaterMath.sumL l ∧ WaterMath.sumL l ≤ 9 * (l.length : Int) := by
  induction l with
  | nil => simp [WaterMath.sumL]
  | cons y l ih =>
    have h1 := h y (by simp)
    have h2 := ih (fun f hf => h f (List.mem_cons_of_mem _ hf))
    simp only [WaterMath.sumL, List.length_cons]
    omega
theorem take_snoc (l : List Int) (k : Nat) (h : k < l.length) : l.take (k + 1) = l.take k ++ [l.getD k 0] := by
  rw [List.take_succ_eq_append_getElem h]; simp [List.getD, List.getElem?_eq_getElem h]

theorem load_snoc (fs : List Int) (ss : List Nat) (f : Int) (s r : Nat) (h : ss.length = fs.length) : WaterMath.load (fs ++ [f]) (ss ++ [s]) r = WaterMath.load fs ss r + if s = r then f else 0 := by
  induction fs generalizing ss with
  | nil =>
    have : ss = [] := List.eq_nil_of_length_eq_zero (by simpa using h)
    subst this
    simp [WaterMath.load]
  | cons x fs ih =>
    cases ss with
    | nil => simp at h
    | cons y ss =>
      simp only [List.cons_append, WaterMath.load]
      rw [ih ss (by simpa using h)]
      omega
theorem take_snoc' (l : List Nat) (k : Nat) (h : k < l.length) : l.take (k + 1) = l.take k ++ [l.getD k 0] := by
  rw [List.take_succ_eq_append_getElem h]; simp [List.getD, List.getElem?_eq_getElem h]
/-- How many rounds there are. -/
def cntL (l : List Nat) : Nat := l.foldl (fun m s => max m (s + 1)) 0
theorem cntL_snoc (l : List Nat) (s : Nat) : cntL (l ++ [s]) = max (cntL l) (s + 1) := by simp [cntL]
theorem cntL_in (l : List Nat) (n : Nat) (h : ∀ s ∈ l, s < n) : cntL l ≤ n ∧ ∀ s ∈ l, s < cntL l := by
  have H : ∀ (l : List Nat) (m : Nat), m ≤ n → (∀ s ∈ l, s < n) → (m ≤ l.foldl (fun m s => max m (s + 1)) m ∧ l.foldl (fun m s => max m (s + 1)) m ≤ n) ∧ ∀ s ∈ l, s < l.foldl (fun m s => max m (s + 1)) m := by
    intro l
    induction l with
    | nil => intro m h1 _; exact ⟨⟨Nat.le_refl _, h1⟩, fun s hs => by simp at hs⟩
    | cons x l ih =>
      intro m h1 h2
      have hx := h2 x (by simp)
      obtain ⟨⟨a, b⟩, c⟩ := ih (max m (x + 1)) (by omega) (fun s hs => h2 s (List.mem_cons_of_mem _ hs))
      simp only [List.foldl_cons]
      refine ⟨⟨by omega, b⟩, fun s hs => ?_⟩
      rcases List.mem_cons.1 hs with rfl | hs
      · omega
      · exact c s hs
  obtain ⟨⟨_, b⟩, c⟩ := H l 0 (Nat.zero_le _) h
  exact ⟨b, c⟩

theorem rounds_end (F : List Int) (hF : ∀ f ∈ F, 1 ≤ f ∧ f ≤ 9) (lm : Int) (ss : List Nat) (n : Nat) (hft : WaterMath.Fits F (WaterMath.full n lm) ss) (hmin : ∀ k, 1 ≤ k → k < n → WaterMath.wat F (WaterMath.full k lm) = none) (hne : 0 < F.length) :
    (1 ≤ cntL ss ∧ cntL ss ≤ n) ∧ (∀ a b, b < a → a < cntL ss → lm < WaterMath.load F ss a + WaterMath.load F ss b) ∧ (∀ a, a < cntL ss → WaterMath.load F ss a ≤ lm) ∧ WaterMath.sumL F ≤ (cntL ss : Int) * lm := by
  have h1 := hft.1
  have h2 : ∀ s ∈ ss, s < n := fun s hs => by have := hft.2.1 s hs; rwa [WaterMath.full_length] at this
  obtain ⟨c1, c2⟩ := cntL_in ss n h2
  have h3 : ∀ a, a < cntL ss → WaterMath.load F ss a ≤ lm := fun a ha => by
    have := hft.2.2 a (by rw [WaterMath.full_length]; omega)
    rwa [WaterMath.full_getD _ _ _ (by omega)] at this
  refine ⟨⟨?_, c1⟩, fun a b hb ha => ?_, h3, ?_⟩
  · have hs : 0 < ss.length := by omega
    have := c2 ss[0] (List.getElem_mem hs)
    omega
  · rcases Int.lt_or_le lm (WaterMath.load F ss a + WaterMath.load F ss b) with h | h
    · exact h
    · exfalso
      have hn : n = (n - 1) + 1 := by omega
      rw [hn] at hft
      obtain ⟨tt, ht⟩ := WaterMath.merge F (fun f hf => by have := hF f hf; omega) (n - 1) lm ss hft a b hb (by omega) h
      rw [hmin (n - 1) (by omega) (by omega)] at ht
      cases ht
  · rw [← WaterMath.load_sum F ss (cntL ss) h1 c2]
    exact WaterMath.sumTo_le _ _ _ h3

end Go.Proofs.Ytclhohfkacgooaa
