/- Plain mathematics of rounds of irrigation: the first rounds for flows, and why no two of the least number of rounds could be one. -/
namespace Go.Proofs.Ytclhohfkacgooaa.WaterMath

/-- The first rounds for the flows, where each round has so much left. -/
def wat : List Int → List Int → Option (List Nat)
  | [], _ => some []
  | f :: fs, left => (List.range left.length).findSome? fun r => if left.getD r 0 < f then none else (wat fs (left.set r (left.getD r 0 - f))).map (r :: ·)

/-- What a round has to give by an assignment. -/
def load : List Int → List Nat → Nat → Int
  | f :: fs, s :: ss, r => (if s = r then f else 0) + load fs ss r
  | _, _, _ => 0

theorem load_nonneg (fs : List Int) (h : ∀ f ∈ fs, 0 ≤ f) (ss : List Nat) (r : Nat) : 0 ≤ load fs ss r := by
  induction fs generalizing ss with
  | nil => simp [load]
  | cons f fs ih =>
    cases ss with
    | nil => simp [load]
    | cons s ss =>
      have h1 := ih (fun g hg => h g (by simp [hg])) ss
      have h2 := h f (by simp)
      simp only [load]
      split <;> omega

theorem getD_set (d : List Int) (i j : Nat) (x : Int) (hi : i < d.length) : (d.set i x).getD j 0 = if j = i then x else d.getD j 0 := by
  simp only [List.getD, List.getElem?_set]
  by_cases e : i = j
  · subst e; simp [hi]
  · rw [if_neg e, if_neg (by omega)]

def Fits (fs left : List Int) (ss : List Nat) : Prop := ss.length = fs.length ∧ (∀ s ∈ ss, s < left.length) ∧ ∀ r, r < left.length → load fs ss r ≤ left.getD r 0

theorem wat_sound (fs : List Int) (h : ∀ f ∈ fs, 0 ≤ f) : ∀ left ss, (∀ r, r < left.length → 0 ≤ left.getD r 0) → wat fs left = some ss → Fits fs left ss := by
  induction fs with
  | nil =>
    intro left ss hl e
    simp only [wat, Option.some.injEq] at e
    subst e
    exact ⟨rfl, fun s hs => by simp at hs, fun r hr => by simp only [load]; exact hl r hr⟩
  | cons f fs ih =>
    intro left ss hl e
    simp only [wat] at e
    obtain ⟨r, hr, e2⟩ := List.exists_of_findSome?_eq_some e
    rw [List.mem_range] at hr
    split at e2
    · cases e2
    · rename_i hlt
      rw [Option.map_eq_some_iff] at e2
      obtain ⟨tt, e3, rfl⟩ := e2
      have h3 := ih (fun g hg => h g (by simp [hg])) _ tt (fun q hq => by
        rw [List.length_set] at hq
        rw [getD_set _ _ _ _ hr]
        split
        · omega
        · exact hl q hq) e3
      obtain ⟨a, b, c⟩ := h3
      rw [List.length_set] at b c
      refine ⟨by simp [a], fun s hs => ?_, fun q hq => ?_⟩
      · rcases List.mem_cons.1 hs with rfl | hs
        · exact hr
        · exact b s hs
      · have := c q hq
        rw [getD_set _ _ _ _ hr] at this
        simp only [load]
        by_cases e : q = r
        · subst e; rw [if_pos rfl] at this ⊢; omega
        · rw [if_neg e] at this; rw [if_neg (by omega)]; omega

theorem wat_complete (fs : List Int) (h : ∀ f ∈ fs, 0 ≤ f) : ∀ left ss, Fits fs left ss → ∃ tt, wat fs left = some tt := by
  induction fs with
  | nil => intro left ss _; exact ⟨[], rfl⟩
  | cons f fs ih =>
    intro left ss ⟨a, b, c⟩
    cases ss with
    | nil => simp at a
    | cons s ss =>
      have hs := b s (by simp)
      have hf := h f (by simp)
      have hn := load_nonneg fs (fun g hg => h g (by simp [hg])) ss s
      have c1 := c s hs
      simp only [load, if_true] at c1
      obtain ⟨tt, e⟩ := ih (fun g hg => h g (by simp [hg])) (left.set s (left.getD s 0 - f)) ss ⟨by simpa using a, fun q hq => by rw [List.length_set]; exact b q (by simp [hq]), fun q hq => by
        rw [List.length_set] at hq
        rw [getD_set _ _ _ _ hs]
        have := c q hq
        simp only [load] at this
        split
        · rename_i e; subst e; rw [if_pos rfl] at this; omega
        · rename_i e; rw [if_neg (by omega)] at this; omega⟩
      cases hw : wat (f :: fs) left with
      | some tt => exact ⟨tt, rfl⟩
      | none =>
        simp only [wat] at hw
        rw [List.findSome?_eq_none_iff] at hw
        have := hw s (List.mem_range.2 hs)
        rw [if_neg (by omega), e] at this
        cases this

def full (c : Nat) (limit : Int) : List Int := List.replicate c limit
theorem full_length (c : Nat) (limit : Int) : (full c limit).length = c := by simp [full]
theorem full_getD (c : Nat) (limit : Int) (r : Nat) (h : r < c) : (full c limit).getD r 0 = limit := by
  simp [full, List.getD, List.getElem?_replicate, h]

theorem load_ge (fs : List Int) (ss : List Nat) (r : Nat) (h : ∀ s ∈ ss, s < r) : load fs ss r = 0 := by
  induction fs generalizing ss with
  | nil => simp [load]
  | cons f fs ih =>
    cases ss with
    | nil => simp [load]
    | cons s ss =>
      have := h s (by simp)
      simp only [load]
      rw [if_neg (by omega), ih ss fun q hq => h q (by simp [hq])]
      omega

/-- One round for each flow is enough. -/
theorem load_range (fs : List Int) (k r : Nat) (limit : Int) (h0 : 0 ≤ limit) (h : ∀ f ∈ fs, f ≤ limit) : load fs (List.range' k fs.length) r ≤ limit := by
  induction fs generalizing k with
  | nil => simp [load]; exact h0
  | cons f fs ih =>
    have h1 := h f (by simp)
    simp only [List.length_cons, List.range'_succ, load]
    by_cases e : k = r
    · subst e
      rw [if_pos rfl]
      have : load fs (List.range' (k + 1) fs.length) k = 0 := by
        clear ih h h1
        generalize hm : k + 1 = m
        have hkm : k < m := by omega
        clear hm
        induction fs generalizing m with
        | nil => simp [load]
        | cons g gs ih2 =>
          simp only [List.length_cons, List.range'_succ, load]
          rw [if_neg (by omega), ih2 (m + 1) (by omega)]
          omega
      omega
    · rw [if_neg e]
      have := ih (k + 1) fun g hg => h g (by simp [hg])
      omega

theorem enough (fs : List Int) (limit : Int) (h0 : 0 ≤ limit) (h : ∀ f ∈ fs, 0 ≤ f ∧ f ≤ limit) : ∃ tt, wat fs (full fs.length limit) = some tt := by
  refine wat_complete fs (fun f hf => (h f hf).1) _ (List.range' 0 fs.length) ⟨by simp, fun s hs => ?_, fun r hr => ?_⟩
  · rw [full_length]; rw [List.mem_range'] at hs; obtain ⟨i, hi, rfl⟩ := hs; omega
  · rw [full_length] at hr; rw [full_getD _ _ _ hr]; exact load_range fs 0 r limit h0 fun f hf => (h f hf).2

theorem load_map (fs : List Int) (ss : List Nat) (g : Nat → Nat) (hl : ss.length = fs.length) (r : Nat) (a b : Nat) (hab : a ≠ b) (h : ∀ s, g s = r ↔ s = a ∨ s = b) : load fs (ss.map g) r = load fs ss a + load fs ss b := by
  induction fs generalizing ss with
  | nil => simp [load]
  | cons f fs ih =>
    cases ss with
    | nil => simp at hl
    | cons s ss =>
      have h1 := ih ss (by simpa using hl)
      have h2 := h s
      simp only [List.map_cons, load]
      rw [h1]
      by_cases e1 : s = a
      · rw [if_pos (h2.2 (.inl e1)), if_pos e1, if_neg (by omega)]; omega
      · by_cases e2 : s = b
        · rw [if_pos (h2.2 (.inr e2)), if_neg e1, if_pos e2]; omega
        · rw [if_neg (fun e => by rcases h2.1 e with x | x <;> omega), if_neg e1, if_neg e2]; omega
theorem load_map1 (fs : List Int) (ss : List Nat) (g : Nat → Nat) (hl : ss.length = fs.length) (r : Nat) (a : Nat) (h : ∀ s ∈ ss, (g s = r ↔ s = a)) : load fs (ss.map g) r = load fs ss a := by
  induction fs generalizing ss with
  | nil => simp [load]
  | cons f fs ih =>
    cases ss with
    | nil => simp at hl
    | cons s ss =>
      have h1 := ih ss (by simpa using hl) fun q hq => h q (by simp [hq])
      have h2 := h s (by simp)
      simp only [List.map_cons, load]
      rw [h1]
      by_cases e1 : s = a
      · rw [if_pos (h2.2 e1), if_pos e1]
      · rw [if_neg (fun e => e1 (h2.1 e)), if_neg e1]

/-- Two rounds that could be one leave a round less. -/
theorem merge (fs : List Int) (h : ∀ f ∈ fs, 0 ≤ f) (c : Nat) (limit : Int) (ss : List Nat) (hf : Fits fs (full (c + 1) limit) ss) (i k : Nat) (hk : k < i) (hi : i < c + 1)
    (hm : load fs ss i + load fs ss k ≤ limit) : ∃ tt, wat fs (full c limit) = some tt := by
  obtain ⟨a, b, d⟩ := hf
  rw [full_length] at b d
  have d' : ∀ r, r < c + 1 → load fs ss r ≤ limit := fun r hr => by have := d r hr; rwa [full_getD _ _ _ hr] at this
  refine wat_complete fs h _ (ss.map fun s => if s = i then k else if s = c then i else s) ⟨by simpa using a, fun s hs => ?_, fun r hr => ?_⟩
  · rw [full_length]
    rw [List.mem_map] at hs
    obtain ⟨q, hq, rfl⟩ := hs
    have := b q hq
    split
    · omega
    · split <;> omega
  · rw [full_length] at hr
    rw [full_getD _ _ _ hr]
    by_cases e1 : r = k
    · subst e1
      rw [load_map fs ss _ a r i r (by omega) fun s => by
        constructor
        · intro e; split at e
          · rename_i x; exact .inl x
          · split at e
            · omega
            · exact .inr e
        · rintro (x | x)
          · rw [if_pos x]
          · rw [if_neg (by omega), if_neg (by omega)]; exact x]
      exact hm
    · by_cases e2 : r = i
      · subst e2
        rw [load_map1 fs ss _ a r c fun s hs => by
          constructor
          · intro e; split at e
            · omega
            · split at e
              · rename_i x; exact x
              · omega
          · intro x; rw [if_neg (by omega), if_pos x]]
        exact d' c (by omega)
      · rw [load_map1 fs ss _ a r r fun s hs => by
          constructor
          · intro e; split at e
            · omega
            · split at e
              · omega
              · exact e
          · intro x; rw [if_neg (by omega), if_neg (by omega)]; exact x]
        exact d' r (by omega)

/-- All rounds together give all flows. -/
def sumL : List Int → Int
  | [] => 0
  | f :: fs => f + sumL fs
def sumTo (g : Nat → Int) : Nat → Int
  | 0 => 0
  | n + 1 => sumTo g n + g n
theorem sumTo_zero (n : Nat) : sumTo (fun _ => 0) n = 0 := by
  induction n with
  | zero => rfl
  | succ n ih => simp only [sumTo, ih]; rfl
theorem sumTo_add (g h : Nat → Int) (n : Nat) : sumTo (fun r => g r + h r) n = sumTo g n + sumTo h n := by
  induction n with
  | zero => rfl
  | succ n ih => simp only [sumTo, ih]; omega
theorem sumTo_one (s : Nat) (f : Int) (n : Nat) : sumTo (fun r => if s = r then f else 0) n = if s < n then f else 0 := by
  induction n with
  | zero => simp [sumTo]
  | succ n ih =>
    simp only [sumTo, ih]
    by_cases e : s = n
    · subst e; rw [if_neg (by omega), if_pos rfl, if_pos (by omega)]; omega
    · rw [if_neg e]
      by_cases e2 : s < n
      · rw [if_pos e2, if_pos (by omega)]; omega
      · rw [if_neg e2, if_neg (by omega)]; omega
theorem load_sum (fs : List Int) (ss : List Nat) (c : Nat) (hl : ss.length = fs.length) (h : ∀ s ∈ ss, s < c) : sumTo (load fs ss) c = sumL fs := by
  induction fs generalizing ss with
  | nil => simp only [sumL]; exact (congrArg (sumTo · c) (by funext r; simp [load])).trans (sumTo_zero c)
  | cons f fs ih =>
    cases ss with
    | nil => simp at hl
    | cons s ss =>
      have h1 := ih ss (by simpa using hl) fun q hq => h q (by simp [hq])
      have e : load (f :: fs) (s :: ss) = fun r => (if s = r then f else 0) + load fs ss r := by funext r; simp [load]
      rw [e, sumTo_add, sumTo_one, if_pos (h s (by simp)), h1, sumL]
theorem sumTo_le (g : Nat → Int) (c : Nat) (limit : Int) (h : ∀ r, r < c → g r ≤ limit) : sumTo g c ≤ (c : Int) * limit := by
  induction c with
  | zero => simp [sumTo]
  | succ c ih =>
    have h1 := ih fun r hr => h r (by omega)
    have h2 := h c (by omega)
    simp only [sumTo]
    have : ((c + 1 : Nat) : Int) * limit = (c : Int) * limit + limit := by
      rw [Int.natCast_add, Int.add_mul]; simp
    omega

end Go.Proofs.Ytclhohfkacgooaa.WaterMath
