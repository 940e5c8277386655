/- Plain mathematics of conditions between days: the least days, reached by delaying jobs in as many rounds as there are jobs. -/
namespace Go.Proofs.Ytclhohfkacgooaa.PlanMath

/-- A condition: from, to, least. -/
abbrev Cond := Nat × Nat × Int

def sumN (f : Nat → Int) : Nat → Nat
  | 0 => 0
  | n + 1 => sumN f n + (f n).toNat
def cntN (p : Nat → Bool) : Nat → Nat
  | 0 => 0
  | n + 1 => cntN p n + (if p n then 1 else 0)

theorem sumN_le (f g : Nat → Int) (n : Nat) (h : ∀ v, v < n → g v ≤ f v) : sumN g n ≤ sumN f n := by
  induction n with
  | zero => exact Nat.le_refl _
  | succ n ih =>
    have h1 := ih fun v hv => h v (by omega)
    have h2 := h n (by omega)
    simp only [sumN]; omega

theorem sumN_lt (f g : Nat → Int) (n : Nat) (h : ∀ v, v < n → g v ≤ f v) (hx : ∃ v, v < n ∧ 0 ≤ g v ∧ g v < f v) : sumN g n < sumN f n := by
  induction n with
  | zero => obtain ⟨v, hv, _⟩ := hx; omega
  | succ n ih =>
    obtain ⟨v, hv, h0, h1⟩ := hx
    have h2 := h n (by omega)
    simp only [sumN]
    by_cases e : v = n
    · subst e
      have := sumN_le f g v fun u hu => h u (by omega)
      omega
    · have := ih (fun u hu => h u (by omega)) ⟨v, by omega, h0, h1⟩
      omega

theorem cntN_le (p : Nat → Bool) (n : Nat) : cntN p n ≤ n := by
  induction n with
  | zero => exact Nat.le_refl _
  | succ n ih => simp only [cntN]; split <;> omega

theorem cntN_mono (p q : Nat → Bool) (n : Nat) (h : ∀ v, v < n → p v = true → q v = true) : cntN p n ≤ cntN q n := by
  induction n with
  | zero => exact Nat.le_refl _
  | succ n ih =>
    have h1 := ih fun v hv => h v (by omega)
    simp only [cntN]
    by_cases hp : p n = true
    · rw [if_pos hp, if_pos (h n (by omega) hp)]; omega
    · rw [if_neg hp]; split <;> omega

theorem cntN_lt (p q : Nat → Bool) (n : Nat) (h : ∀ v, v < n → p v = true → q v = true) (hx : ∃ v, v < n ∧ p v = false ∧ q v = true) : cntN p n < cntN q n := by
  induction n with
  | zero => obtain ⟨v, hv, _⟩ := hx; omega
  | succ n ih =>
    obtain ⟨v, hv, h0, h1⟩ := hx
    simp only [cntN]
    by_cases e : v = n
    · subst e
      have := cntN_mono p q v fun u hu => h u (by omega)
      rw [h0, h1]; simp; omega
    · have h2 := ih (fun u hu => h u (by omega)) ⟨v, by omega, h0, h1⟩
      by_cases hp : p n = true
      · rw [if_pos hp, if_pos (h n (by omega) hp)]; omega
      · rw [if_neg hp]; split <;> omega

theorem cntN_pos (p : Nat → Bool) (n : Nat) (h : 0 < cntN p n) : ∃ v, v < n ∧ p v = true := by
  induction n with
  | zero => simp [cntN] at h
  | succ n ih =>
    simp only [cntN] at h
    by_cases hp : p n = true
    · exact ⟨n, by omega, hp⟩
    · rw [if_neg hp] at h
      obtain ⟨v, hv, h1⟩ := ih (by omega)
      exact ⟨v, by omega, h1⟩

theorem cntN_zero (p : Nat → Bool) (n : Nat) (h : cntN p n = 0) : ∀ v, v < n → p v = false := fun v hv => by
  cases hp : p v with
  | false => rfl
  | true =>
    have := cntN_lt (fun _ => false) p n (fun _ _ h => by cases h) ⟨v, hv, rfl, hp⟩
    omega

def Feas (n : Nat) (R : List Cond) (f : Nat → Int) : Prop :=
  (∀ v, v < n → 0 ≤ f v) ∧ ∀ r ∈ R, f r.1 + r.2.2 ≤ f r.2.1
def Valid (n : Nat) (R : List Cond) : Prop := ∀ r ∈ R, r.1 < n ∧ r.2.1 < n ∧ -10000 ≤ r.2.2 ∧ r.2.2 ≤ 10000

def lower (f : Nat → Int) (U : Nat → Bool) : Nat → Int := fun v => if U v then f v - 1 else f v
/-- No set of jobs can be earlier by a day. -/
def Tight (n : Nat) (R : List Cond) (L : Nat → Int) : Prop :=
  ∀ U : Nat → Bool, (∃ v, v < n ∧ U v = true) → (∀ v, v < n → U v = true → 1 ≤ L v) → ¬ Feas n R (lower L U)

theorem tight_exists (n : Nat) (R : List Cond) (s : Nat) : ∀ f, sumN f n ≤ s → Feas n R f → ∃ L, Feas n R L ∧ Tight n R L := by
  induction s with
  | zero =>
    intro f hs hf
    refine ⟨f, hf, fun U hU h1 hl => ?_⟩
    obtain ⟨v, hv, hu⟩ := hU
    have := sumN_lt f (lower f U) n (fun u _ => by unfold lower; split <;> omega) ⟨v, hv, by have := hl.1 v hv; exact this, by unfold lower; rw [if_pos hu]; omega⟩
    omega
  | succ s ih =>
    intro f hs hf
    by_cases ht : Tight n R f
    · exact ⟨f, hf, ht⟩
    · unfold Tight at ht
      simp only [Classical.not_forall, Classical.not_not] at ht
      obtain ⟨U, hU, _, hl⟩ := ht
      obtain ⟨v, hv, hu⟩ := hU
      have := sumN_lt f (lower f U) n (fun u _ => by unfold lower; split <;> omega) ⟨v, hv, hl.1 v hv, by unfold lower; rw [if_pos hu]; omega⟩
      exact ih (lower f U) (by omega) hl

/-- How lowering a set keeps all conditions. -/
theorem lower_feas {n : Nat} {R : List Cond} {L : Nat → Int} {U : Nat → Bool} (hv : Valid n R) (hf : Feas n R L) (h1 : ∀ v, v < n → U v = true → 1 ≤ L v)
    (h : ∀ r ∈ R, U r.1 = false → U r.2.1 = true → L r.1 + r.2.2 ≤ L r.2.1 - 1) : Feas n R (lower L U) := by
  refine ⟨fun v hvn => ?_, fun r hr => ?_⟩
  · unfold lower
    by_cases hu : U v = true
    · rw [if_pos hu]; have := h1 v hvn hu; omega
    · rw [if_neg hu]; exact hf.1 v hvn
  · have h2 := hf.2 r hr
    unfold lower
    cases h3 : U r.1 <;> cases h4 : U r.2.1 <;> simp
    · exact h2
    · have := h r hr h3 h4; omega
    · omega
    · omega

theorem tight_zero {n : Nat} {R : List Cond} {L : Nat → Int} (hn : 0 < n) (hv : Valid n R) (hf : Feas n R L) (ht : Tight n R L) : ∃ v, v < n ∧ L v = 0 := by
  apply Classical.byContradiction
  intro hx
  have h1 : ∀ v, v < n → 1 ≤ L v := fun v hvn => by
    have h0 := hf.1 v hvn
    by_cases e : L v = 0
    · exact absurd ⟨v, hvn, e⟩ hx
    · omega
  exact ht (fun _ => true) ⟨0, hn, rfl⟩ (fun v hvn _ => h1 v hvn) (lower_feas hv hf (fun v hvn _ => h1 v hvn) fun r _ h => by cases h)

/-- Tight days are at most 10000 for each job but one. -/
theorem tight_band {n : Nat} {R : List Cond} {L : Nat → Int} (hn : 0 < n) (hv : Valid n R) (hf : Feas n R L) (ht : Tight n R L) (J : Nat) :
    cntN (fun v => decide (10000 * (J : Int) < L v)) n ≤ n - 1 - J := by
  induction J with
  | zero =>
    obtain ⟨v, hvn, h0⟩ := tight_zero hn hv hf ht
    have := cntN_lt (fun v => decide (10000 * ((0 : Nat) : Int) < L v)) (fun _ => true) n (fun _ _ _ => rfl) ⟨v, hvn, by simp [h0], rfl⟩
    have h2 := cntN_le (fun _ => true) n
    omega
  | succ J ih =>
    by_cases hx : ∃ v, v < n ∧ 10000 * (J : Int) < L v ∧ L v ≤ 10000 * ((J + 1 : Nat) : Int)
    · obtain ⟨v, hvn, a, b⟩ := hx
      have := cntN_lt (fun v => decide (10000 * ((J + 1 : Nat) : Int) < L v)) (fun v => decide (10000 * (J : Int) < L v)) n
        (fun u _ h => by simp only [decide_eq_true_eq] at h ⊢; omega) ⟨v, hvn, by simp; omega, by simp; omega⟩
      omega
    · by_cases h0 : cntN (fun v => decide (10000 * ((J + 1 : Nat) : Int) < L v)) n = 0
      · omega
      · exfalso
        obtain ⟨v, hvn, hu⟩ := cntN_pos _ n (Nat.pos_of_ne_zero h0)
        have h1 : ∀ v, v < n → (decide (10000 * ((J + 1 : Nat) : Int) < L v)) = true → 1 ≤ L v := fun v _ h => by
          simp only [decide_eq_true_eq] at h; omega
        refine ht (fun v => decide (10000 * ((J + 1 : Nat) : Int) < L v)) ⟨v, hvn, hu⟩ h1 (lower_feas hv hf h1 fun r hr a b => ?_)
        obtain ⟨q1, q2, q3, q4⟩ := hv r hr
        simp only [decide_eq_true_eq, decide_eq_false_iff_not] at a b
        have h3 : ¬ 10000 * (J : Int) < L r.1 := fun h => hx ⟨r.1, q1, h, by omega⟩
        omega

theorem tight_bound {n : Nat} {R : List Cond} {L : Nat → Int} (hn : 0 < n) (hv : Valid n R) (hf : Feas n R L) (ht : Tight n R L) :
    ∀ v, v < n → L v ≤ 10000 * ((n - 1 : Nat) : Int) := fun v hvn => by
  have h := tight_band hn hv hf ht (n - 1)
  have h0 := cntN_zero _ n (show cntN (fun v => decide (10000 * ((n - 1 : Nat) : Int) < L v)) n = 0 by omega) v hvn
  simp only [decide_eq_false_iff_not] at h0
  omega

/-- One condition: the later job is delayed if need be. -/
def relax (d : List Int) (r : Cond) : List Int :=
  if d.getD r.2.1 0 < d.getD r.1 0 + r.2.2 then d.set r.2.1 (d.getD r.1 0 + r.2.2) else d
def rnd (R : List Cond) (d : List Int) : List Int := R.foldl relax d
def chg (R : List Cond) (d : List Int) : Bool :=
  match R with
  | [] => false
  | r :: R => decide (d.getD r.2.1 0 < d.getD r.1 0 + r.2.2) || chg R (relax d r)
def iter (R : List Cond) (d : List Int) : Nat → List Int
  | 0 => d
  | k + 1 => rnd R (iter R d k)

theorem relax_length (d : List Int) (r : Cond) : (relax d r).length = d.length := by unfold relax; split <;> simp
theorem rnd_length (R : List Cond) (d : List Int) : (rnd R d).length = d.length := by
  induction R generalizing d with
  | nil => rfl
  | cons r R ih => show (rnd R (relax d r)).length = _; rw [ih, relax_length]
theorem iter_length (R : List Cond) (d : List Int) (k : Nat) : (iter R d k).length = d.length := by
  induction k with
  | zero => rfl
  | succ k ih => show (rnd R _).length = _; rw [rnd_length, ih]

theorem getD_set (d : List Int) (i j : Nat) (x : Int) (hi : i < d.length) : (d.set i x).getD j 0 = if j = i then x else d.getD j 0 := by
  simp only [List.getD, List.getElem?_set]
  by_cases e : i = j
  · subst e; simp [hi]
  · rw [if_neg e, if_neg (by omega)]

theorem relax_ge (d : List Int) (r : Cond) (j : Nat) (h : r.2.1 < d.length) : d.getD j 0 ≤ (relax d r).getD j 0 := by
  unfold relax
  split
  · rename_i hc
    rw [getD_set _ _ _ _ h]
    split
    · rename_i e; subst e; omega
    · exact Int.le_refl _
  · exact Int.le_refl _
theorem rnd_ge (R : List Cond) (d : List Int) (j : Nat) (h : ∀ r ∈ R, r.2.1 < d.length) : d.getD j 0 ≤ (rnd R d).getD j 0 := by
  induction R generalizing d with
  | nil => exact Int.le_refl _
  | cons r R ih =>
    have h1 := relax_ge d r j (h r (by simp))
    have h2 := ih (relax d r) fun q hq => by rw [relax_length]; exact h q (by simp [hq])
    exact Int.le_trans h1 h2

theorem relax_le {n : Nat} {R : List Cond} {f : Nat → Int} (hf : Feas n R f) (d : List Int) (r : Cond) (hr : r ∈ R) (h : r.2.1 < d.length) (hd : ∀ j, j < n → d.getD j 0 ≤ f j) (h1 : r.1 < n) : ∀ j, j < n → (relax d r).getD j 0 ≤ f j := fun j hj => by
  unfold relax
  split
  · rw [getD_set _ _ _ _ h]
    split
    · rename_i e; subst e
      have := hf.2 r hr; have := hd r.1 h1; omega
    · exact hd j hj
  · exact hd j hj
theorem rnd_le {n : Nat} {R0 : List Cond} {f : Nat → Int} (hv : Valid n R0) (hf : Feas n R0 f) (R : List Cond) (hR : ∀ r ∈ R, r ∈ R0) (d : List Int) (hl : d.length = n) (hd : ∀ j, j < n → d.getD j 0 ≤ f j) : ∀ j, j < n → (rnd R d).getD j 0 ≤ f j := by
  induction R generalizing d with
  | nil => exact hd
  | cons r R ih =>
    have hr := hR r (by simp)
    obtain ⟨q1, q2, _⟩ := hv r hr
    exact ih (fun q hq => hR q (by simp [hq])) (relax d r) (by rw [relax_length]; exact hl) (relax_le hf d r hr (by omega) hd q1)
theorem iter_le {n : Nat} {R : List Cond} {f : Nat → Int} (hv : Valid n R) (hf : Feas n R f) (d : List Int) (hl : d.length = n) (hd : ∀ j, j < n → d.getD j 0 ≤ f j) (k : Nat) : ∀ j, j < n → (iter R d k).getD j 0 ≤ f j := by
  induction k with
  | zero => exact hd
  | succ k ih => exact rnd_le hv hf R (fun _ h => h) _ (by rw [iter_length, hl]) ih
theorem iter_ge {n : Nat} {R : List Cond} (hv : Valid n R) (d : List Int) (hl : d.length = n) (k j : Nat) : d.getD j 0 ≤ (iter R d k).getD j 0 := by
  induction k with
  | zero => exact Int.le_refl _
  | succ k ih => exact Int.le_trans ih (rnd_ge R _ j fun r hr => by rw [iter_length, hl]; exact (hv r hr).2.1)

/-- Behind a round, each condition whose first job is not later than before holds at least for the days before. -/
theorem rnd_holds (R : List Cond) (d : List Int) (h : ∀ r ∈ R, r.2.1 < d.length) : ∀ r ∈ R, d.getD r.1 0 + r.2.2 ≤ (rnd R d).getD r.2.1 0 := by
  induction R generalizing d with
  | nil => intro r hr; simp at hr
  | cons q R ih =>
    intro r hr
    have hq := h q (by simp)
    have hR : ∀ r ∈ R, r.2.1 < (relax d q).length := fun r hr => by rw [relax_length]; exact h r (by simp [hr])
    show _ ≤ (rnd R (relax d q)).getD r.2.1 0
    rcases List.mem_cons.1 hr with e | hr
    · subst e
      refine Int.le_trans ?_ (rnd_ge R (relax d r) r.2.1 hR)
      unfold relax
      split
      · rw [getD_set _ _ _ _ hq, if_pos rfl]; exact Int.le_refl _
      · omega
    · have h1 := ih (relax d q) hR r hr
      have h2 := relax_ge d q r.1 hq
      omega

theorem chg_false (R : List Cond) (d : List Int) (h : chg R d = false) : rnd R d = d ∧ ∀ r ∈ R, d.getD r.1 0 + r.2.2 ≤ d.getD r.2.1 0 := by
  induction R with
  | nil => exact ⟨rfl, fun r hr => by simp at hr⟩
  | cons q R ih =>
    simp only [chg, Bool.or_eq_false_iff, decide_eq_false_iff_not] at h
    have e : relax d q = d := by unfold relax; rw [if_neg h.1]
    rw [e] at h
    obtain ⟨h1, h2⟩ := ih h.2
    refine ⟨?_, fun r hr => ?_⟩
    · show rnd R (relax d q) = d; rw [e]; exact h1
    · rcases List.mem_cons.1 hr with e2 | hr
      · subst e2; omega
      · exact h2 r hr

theorem chg_of_feas (R : List Cond) (d : List Int) (h : ∀ r ∈ R, d.getD r.1 0 + r.2.2 ≤ d.getD r.2.1 0) : chg R d = false := by
  induction R with
  | nil => rfl
  | cons q R ih =>
    have h1 := h q (by simp)
    have e : relax d q = d := by unfold relax; rw [if_neg (by omega)]
    simp only [chg, Bool.or_eq_false_iff, decide_eq_false_iff_not, e]
    exact ⟨by omega, ih fun r hr => h r (by simp [hr])⟩

def zeros (n : Nat) : List Int := List.replicate n 0
theorem zeros_getD (n j : Nat) : (zeros n).getD j 0 = 0 := by
  unfold zeros
  simp only [List.getD, List.getElem?_replicate]
  split <;> rfl

/-- After k rounds, so many jobs have their least days. -/
theorem iter_final {n : Nat} {R : List Cond} {L : Nat → Int} (hn : 0 < n) (hv : Valid n R) (hf : Feas n R L) (ht : Tight n R L) (k : Nat) :
    cntN (fun v => decide ((iter R (zeros n) k).getD v 0 < L v)) n ≤ n - 1 - k := by
  have hz : (zeros n).length = n := by simp [zeros]
  have h0 : ∀ j, j < n → (zeros n).getD j 0 ≤ L j := fun j hj => by rw [zeros_getD]; exact hf.1 j hj
  induction k with
  | zero =>
    obtain ⟨v, hvn, e⟩ := tight_zero hn hv hf ht
    have := cntN_lt (fun v => decide ((iter R (zeros n) 0).getD v 0 < L v)) (fun _ => true) n (fun _ _ _ => rfl) ⟨v, hvn, by
      simp only [decide_eq_false_iff_not]; show ¬ (zeros n).getD v 0 < _; rw [zeros_getD]; omega, rfl⟩
    have h2 := cntN_le (fun _ => true) n
    omega
  | succ k ih =>
    have hl := iter_length R (zeros n) k
    have hr : ∀ r ∈ R, r.2.1 < (iter R (zeros n) k).length := fun r hr => by rw [hl, hz]; exact (hv r hr).2.1
    have hle := iter_le hv hf (zeros n) hz h0 k
    have hge : ∀ j, 0 ≤ (iter R (zeros n) (k + 1)).getD j 0 := fun j => by
      have := iter_ge hv (zeros n) hz (k + 1) j; rw [zeros_getD] at this; exact this
    by_cases hx : ∃ v, v < n ∧ (iter R (zeros n) k).getD v 0 < L v ∧ ¬ (iter R (zeros n) (k + 1)).getD v 0 < L v
    · obtain ⟨v, hvn, a, b⟩ := hx
      have := cntN_lt (fun v => decide ((iter R (zeros n) (k + 1)).getD v 0 < L v)) (fun v => decide ((iter R (zeros n) k).getD v 0 < L v)) n
        (fun u _ h => by
          simp only [decide_eq_true_eq] at h ⊢
          have : (iter R (zeros n) k).getD u 0 ≤ (iter R (zeros n) (k + 1)).getD u 0 := rnd_ge R _ u hr
          omega) ⟨v, hvn, by simp only [decide_eq_false_iff_not]; exact b, by simp only [decide_eq_true_eq]; exact a⟩
      omega
    · by_cases hc : cntN (fun v => decide ((iter R (zeros n) (k + 1)).getD v 0 < L v)) n = 0
      · omega
      · exfalso
        obtain ⟨v, hvn, hu⟩ := cntN_pos _ n (Nat.pos_of_ne_zero hc)
        have h1 : ∀ v, v < n → decide ((iter R (zeros n) (k + 1)).getD v 0 < L v) = true → 1 ≤ L v := fun v _ h => by
          simp only [decide_eq_true_eq] at h; have := hge v; omega
        refine ht (fun v => decide ((iter R (zeros n) (k + 1)).getD v 0 < L v)) ⟨v, hvn, hu⟩ h1 (lower_feas hv hf h1 fun r hrr a b => ?_)
        obtain ⟨q1, q2, _⟩ := hv r hrr
        simp only [decide_eq_true_eq, decide_eq_false_iff_not] at a b
        have h3 : ¬ (iter R (zeros n) k).getD r.1 0 < L r.1 := fun h => hx ⟨r.1, q1, h, a⟩
        have h4 := hle r.1 q1
        have h5 : (iter R (zeros n) k).getD r.1 0 + r.2.2 ≤ (iter R (zeros n) (k + 1)).getD r.2.1 0 := rnd_holds R _ hr r hrr
        omega

/-- If some days fulfil all conditions, the last round delays nothing. -/
theorem last_quiet {n : Nat} {R : List Cond} {f : Nat → Int} (hn : 0 < n) (hv : Valid n R) (hf : Feas n R f) : chg R (iter R (zeros n) (n - 1)) = false := by
  obtain ⟨L, hL, ht⟩ := tight_exists n R _ f (Nat.le_refl _) hf
  have hz : (zeros n).length = n := by simp [zeros]
  have h0 : ∀ j, j < n → (zeros n).getD j 0 ≤ L j := fun j hj => by rw [zeros_getD]; exact hL.1 j hj
  have h := iter_final hn hv hL ht (n - 1)
  have hc := cntN_zero _ n (show cntN (fun v => decide ((iter R (zeros n) (n - 1)).getD v 0 < L v)) n = 0 by omega)
  have hle := iter_le hv hL (zeros n) hz h0 (n - 1)
  have he : ∀ v, v < n → (iter R (zeros n) (n - 1)).getD v 0 = L v := fun v hvn => by
    have a := hc v hvn
    simp only [decide_eq_false_iff_not] at a
    have b := hle v hvn
    omega
  refine chg_of_feas R _ fun r hr => ?_
  obtain ⟨q1, q2, _⟩ := hv r hr
  rw [he _ q1, he _ q2]
  exact hL.2 r hr

/-- The days of a quiet last round: they fulfil all conditions, none is later than in any days that do, and they are not great. -/
theorem quiet_days {n : Nat} {R : List Cond} (hn : 0 < n) (hv : Valid n R) (h : chg R (iter R (zeros n) (n - 1)) = false) :
    Feas n R (fun v => (iter R (zeros n) n).getD v 0) ∧ (∀ f, Feas n R f → ∀ v, v < n → (iter R (zeros n) n).getD v 0 ≤ f v) ∧
      ∀ v, v < n → (iter R (zeros n) n).getD v 0 ≤ 10000 * ((n - 1 : Nat) : Int) := by
  have hz : (zeros n).length = n := by simp [zeros]
  obtain ⟨h1, h2⟩ := chg_false R _ h
  have e : iter R (zeros n) n = iter R (zeros n) (n - 1) := by
    obtain ⟨m, rfl⟩ : ∃ m, n = m + 1 := ⟨n - 1, by omega⟩
    exact h1
  have hF : Feas n R (fun v => (iter R (zeros n) n).getD v 0) := ⟨fun v _ => by have := iter_ge hv (zeros n) hz n v; rw [zeros_getD] at this; exact this, fun r hr => by rw [e]; exact h2 r hr⟩
  have hL : ∀ f, Feas n R f → ∀ v, v < n → (iter R (zeros n) n).getD v 0 ≤ f v := fun f hf v hvn =>
    iter_le hv hf (zeros n) hz (fun j hj => by rw [zeros_getD]; exact hf.1 j hj) n v hvn
  refine ⟨hF, hL, tight_bound hn hv hF fun U hU h1 hl => ?_⟩
  obtain ⟨v, hvn, hu⟩ := hU
  have h3 : (iter R (zeros n) n).getD v 0 ≤ lower (fun v => (iter R (zeros n) n).getD v 0) U v := hL _ hl v hvn
  simp only [lower, hu, if_true] at h3
  omega

end Go.Proofs.Ytclhohfkacgooaa.PlanMath
