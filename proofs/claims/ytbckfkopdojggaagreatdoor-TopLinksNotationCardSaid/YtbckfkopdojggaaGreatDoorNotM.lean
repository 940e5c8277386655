/- The notation of a card as mathematics: what is printed is read again as it was. -/
import Derived.KernelRfl
set_option linter.unusedVariables false
set_option linter.unusedSimpArgs false
namespace NotMath

structure En where
  n : Nat
  mark : List UInt8
deriving DecidableEq, Inhabited

def isD (c : UInt8) : Bool := decide (48 ≤ c.toNat) && decide (c.toNat ≤ 57)
def val (t : List UInt8) : Nat := t.foldl (fun a c => 10 * a + (c.toNat - 48)) 0
def isInt (t : List UInt8) : Bool := t == [48] || (t != [] && t.head? != some 48 && t.all isD)
def num (t : List UInt8) : Option Nat := if isInt t && decide (t.length ≤ 9) then some (val t) else none
def digits (n : Nat) : List UInt8 := if n < 10 then [UInt8.ofNat (48 + n)] else [UInt8.ofNat (48 + n / 10), UInt8.ofNat (48 + n % 10)]
def entryOf (t : List UInt8) : Option En :=
  if t = [120] ∨ t = [45] then some ⟨0, t⟩
  else if t.getLast? = some 99 then (num t.dropLast).map fun n => ⟨n, [99]⟩ else (num t).map fun n => ⟨n, []⟩
def okE (x : En) : Bool := ((x.mark == [] || x.mark == [99]) && decide (1 ≤ x.n) && decide (x.n ≤ 99)) || ((x.mark == [120] || x.mark == [45]) && x.n == 0)
def wordE (x : En) : List UInt8 := if x.mark == [120] || x.mark == [45] then x.mark else digits x.n ++ x.mark

theorem num_digits : ∀ n, n < 100 → num (digits n) = some n := by decide +kernel
theorem entry_digits : ∀ n, n < 100 → entryOf (digits n) = some ⟨n, []⟩ ∧ entryOf (digits n ++ [99]) = some ⟨n, [99]⟩ := by decide +kernel
theorem digits_plain : ∀ n, n < 100 → (digits n).contains 42 = false ∧ (digits n ++ [99]).contains 42 = false ∧ digits n ≠ [124] ∧ digits n ++ [99] ≠ [124] ∧ digits n ≠ [120] ∧ digits n ≠ [45] := by decide +kernel

theorem marks_of {x : En} (h : okE x = true) : (x.mark = [] ∧ 1 ≤ x.n ∧ x.n < 100) ∨ (x.mark = [99] ∧ 1 ≤ x.n ∧ x.n < 100) ∨ (x.mark = [120] ∧ x.n = 0) ∨ (x.mark = [45] ∧ x.n = 0) := by
  simp only [okE, Bool.or_eq_true, Bool.and_eq_true, beq_iff_eq, decide_eq_true_eq] at h
  rcases h with ⟨⟨h | h, h1⟩, h2⟩ | ⟨h | h, h1⟩
  · exact .inl ⟨h, h1, by omega⟩
  · exact .inr (.inl ⟨h, h1, by omega⟩)
  · exact .inr (.inr (.inl ⟨h, h1⟩))
  · exact .inr (.inr (.inr ⟨h, h1⟩))

theorem entryOf_wordE (x : En) (h : okE x = true) : entryOf (wordE x) = some x ∧ (wordE x).contains 42 = false ∧ wordE x ≠ [124] := by
  obtain ⟨n, m⟩ := x
  rcases marks_of h with ⟨h0, h1, h2⟩ | ⟨h0, h1, h2⟩ | ⟨h0, h1⟩ | ⟨h0, h1⟩
  · simp only at h0 h1 h2; subst h0
    have e : wordE ⟨n, []⟩ = digits n := by simp [wordE]
    rw [e]; exact ⟨(entry_digits n h2).1, (digits_plain n h2).1, (digits_plain n h2).2.2.1⟩
  · simp only at h0 h1 h2; subst h0
    have e : wordE ⟨n, [99]⟩ = digits n ++ [99] := by simp [wordE]
    rw [e]; exact ⟨(entry_digits n h2).2, (digits_plain n h2).2.1, (digits_plain n h2).2.2.2.1⟩
  · simp only at h0 h1; subst h0; subst h1; decide
  · simp only at h0 h1; subst h0; subst h1; decide

def step (st : List En × Bool) (t : List UInt8) : Option (List En × Bool) :=
  if t = [124] then (if st.1 = [] ∨ st.1.length % 9 ≠ 0 ∨ st.2 = true then none else some (st.1, true))
  else if t.contains 42 then
    match num (t.takeWhile (· != 42)), entryOf ((t.dropWhile (· != 42)).drop 1) with
    | some k, some x => if okE x = true ∧ 2 ≤ k ∧ k ≤ 36 ∧ st.1.length + k ≤ 36 then some (st.1 ++ List.replicate k x, false) else none
    | _, _ => none
  else match entryOf t with
    | some x => if okE x = true ∧ st.1.length + 1 ≤ 36 then some (st.1 ++ [x], false) else none
    | none => none
def steps (st : List En × Bool) : List (List UInt8) → Option (List En × Bool)
  | [] => some st
  | t :: ts => match step st t with | some st' => steps st' ts | none => none
theorem steps_append (st : List En × Bool) (a b : List (List UInt8)) : steps st (a ++ b) = match steps st a with | some st' => steps st' b | none => none := by
  induction a generalizing st with
  | nil => rfl
  | cons t ts ih =>
    simp only [List.cons_append, steps]
    cases step st t with
    | none => rfl
    | some st' => exact ih st'

theorem step_one {es : List En} {b : Bool} {x : En} (h : okE x = true) (hl : es.length + 1 ≤ 36) : step (es, b) (wordE x) = some (es ++ [x], false) := by
  obtain ⟨h1, h2, h3⟩ := entryOf_wordE x h
  unfold step
  rw [if_neg h3, h2, if_neg (by simp), h1]
  simp only
  rw [if_pos ⟨h, hl⟩]
theorem take_star (a b : List UInt8) (h : a.contains 42 = false) : (a ++ 42 :: b).takeWhile (· != 42) = a ∧ (a ++ 42 :: b).dropWhile (· != 42) = 42 :: b := by
  induction a with
  | nil => simp
  | cons c a ih =>
    simp only [List.contains_cons, Bool.or_eq_false_iff] at h
    have hc : (c != 42) = true := by
      have := h.1
      simp only [beq_eq_false_iff_ne] at this
      simp only [bne_iff_ne]; exact fun e => this e.symm
    obtain ⟨i1, i2⟩ := ih h.2
    simp only [List.cons_append]
    exact ⟨by rw [List.takeWhile_cons, if_pos hc, i1], by rw [List.dropWhile_cons, if_pos hc, i2]⟩
theorem step_many {es : List En} {b : Bool} {x : En} {k : Nat} (h : okE x = true) (h2 : 2 ≤ k) (h3 : k ≤ 36) (hl : es.length + k ≤ 36) : step (es, b) (digits k ++ 42 :: wordE x) = some (es ++ List.replicate k x, false) := by
  obtain ⟨h1, _, _⟩ := entryOf_wordE x h
  obtain ⟨d1, _, d3, _⟩ := digits_plain k (by omega)
  obtain ⟨t1, t2⟩ := take_star (digits k) (wordE x) d1
  have hne : digits k ++ 42 :: wordE x ≠ [124] := fun e => by
    have := congrArg (fun t => List.contains t (42 : UInt8)) e
    simp at this
  have hc : (digits k ++ 42 :: wordE x).contains 42 = true := by simp
  unfold step
  rw [if_neg hne, if_pos hc, t1, t2, num_digits k (by omega)]
  simp only [List.drop_succ_cons, List.drop_zero, h1]
  rw [if_pos ⟨h, h2, h3, hl⟩]

/-- The words of one nine: three and more equal neighbours as a repetition. -/
def runsW : Nat → List En → List (List UInt8)
  | 0, _ => []
  | _ + 1, [] => []
  | f + 1, x :: l =>
    if 3 ≤ (l.takeWhile (· = x)).length + 1 then (digits ((l.takeWhile (· = x)).length + 1) ++ 42 :: wordE x) :: runsW f (l.dropWhile (· = x))
    else wordE x :: runsW f l

theorem all_take (x : En) : ∀ (l : List En) (y : En), y ∈ l.takeWhile (· = x) → y = x
  | [], y, h => by simp at h
  | z :: l, y, h => by
    rw [List.takeWhile_cons] at h
    split at h
    · rename_i hz
      rcases List.mem_cons.1 h with rfl | h
      · simpa using hz
      · exact all_take x l y h
    · simp at h
theorem replicate_take (x : En) (l : List En) : List.replicate ((l.takeWhile (· = x)).length + 1) x = x :: l.takeWhile (· = x) := by
  rw [List.replicate_succ]
  congr 1
  symm
  apply List.eq_replicate_of_mem
  intro y hy
  exact all_take x l y hy

theorem steps_runs : ∀ (f : Nat) (l es : List En) (b : Bool), l.length ≤ f → (∀ x ∈ l, okE x = true) → es.length + l.length ≤ 36 → steps (es, b) (runsW f l) = some (es ++ l, if l = [] then b else false)
  | 0, l, es, b, hf, _, _ => by
    have : l = [] := List.length_eq_zero_iff.1 (by omega)
    subst this
    simp [runsW, steps]
  | f + 1, [], es, b, _, _, _ => by simp [runsW, steps]
  | f + 1, x :: l, es, b, hf, ho, hl => by
    have hx := ho x (by simp)
    have hsplit : l.takeWhile (· = x) ++ l.dropWhile (· = x) = l := List.takeWhile_append_dropWhile
    have hlen := congrArg List.length hsplit
    simp only [List.length_append] at hlen
    simp only [List.length_cons] at hf hl
    unfold runsW
    split
    · rename_i h3
      simp only [steps]
      rw [step_many hx (by omega) (by omega) (by omega)]
      simp only
      have hd : ∀ y ∈ l.dropWhile (· = x), okE y = true := fun y hy => ho y (List.mem_cons_of_mem _ (by rw [← hsplit]; exact List.mem_append_right _ hy))
      rw [steps_runs f (l.dropWhile (· = x)) _ false (by omega) hd (by simp; omega), replicate_take]
      simp only [List.append_assoc, List.cons_append, hsplit, reduceCtorEq, if_false, ite_self]
    · simp only [steps]
      rw [step_one hx (by omega)]
      simp only
      rw [steps_runs f l _ false (by omega) (fun y hy => ho y (List.mem_cons_of_mem _ hy)) (by simp; omega)]
      simp

/-- All words: nines parted by bars. -/
def notW : Nat → List En → List (List UInt8)
  | 0, _ => []
  | f + 1, l => if l.length ≤ 9 then runsW 9 l else runsW 9 (l.take 9) ++ [124] :: notW f (l.drop 9)

theorem steps_not : ∀ (f : Nat) (l es : List En) (b : Bool), l ≠ [] → l.length ≤ 9 * f → es.length % 9 = 0 → (∀ x ∈ l, okE x = true) → es.length + l.length ≤ 36 → steps (es, b) (notW f l) = some (es ++ l, false)
  | 0, l, es, b, hne, hf, _, _, _ => absurd (List.length_eq_zero_iff.1 (by omega)) hne
  | f + 1, l, es, b, hne, hf, hm, ho, hl => by
    unfold notW
    split
    · rename_i h9
      rw [steps_runs 9 l es b h9 ho hl, if_neg hne]
    · rename_i h9
      have ht : (l.take 9).length = 9 := by simp; omega
      have hd : (l.drop 9).length = l.length - 9 := by simp
      have htn : l.take 9 ≠ [] := fun e => by rw [e] at ht; simp at ht
      rw [steps_append, steps_runs 9 (l.take 9) es b (by omega) (fun x hx => ho x (List.mem_of_mem_take hx)) (by omega), if_neg htn]
      simp only [steps]
      have hs : step (es ++ l.take 9, false) [124] = some (es ++ l.take 9, true) := by
        unfold step
        rw [if_pos rfl, if_neg]
        rintro (h | h | h)
        · exact htn (List.append_eq_nil_iff.1 h).2
        · exact h (by rw [List.length_append, ht]; omega)
        · exact Bool.false_ne_true h
      rw [hs]
      simp only
      rw [steps_not f (l.drop 9) _ true (fun e => by rw [e] at hd; simp at hd; omega) (by omega) (by rw [List.length_append, ht]; omega) (fun x hx => ho x (List.mem_of_mem_drop hx)) (by rw [List.length_append, ht]; omega), List.append_assoc, List.take_append_drop]

/-- What is printed is read again as it was. -/
theorem read_printed (l : List En) (hne : l ≠ []) (h36 : l.length ≤ 36) (ho : ∀ x ∈ l, okE x = true) : steps ([], false) (notW 4 l) = some (l, false) := by
  have := steps_not 4 l [] false hne (by omega) rfl ho (by simpa using h36)
  simpa using this

/-! The words of a text. -/
def splitB : List UInt8 → List (List UInt8)
  | [] => [[]]
  | c :: t => if c = 32 then [] :: splitB t else match splitB t with | [] => [[c]] | w :: ws => (c :: w) :: ws
def joinB : List (List UInt8) → List UInt8
  | [] => []
  | [t] => t
  | t :: u :: ts => t ++ 32 :: joinB (u :: ts)
theorem splitB_ne : ∀ s : List UInt8, splitB s ≠ []
  | [] => by simp [splitB]
  | c :: t => by
    unfold splitB
    split
    · simp
    · split <;> simp
theorem splitB_plain : ∀ (a : List UInt8), a.contains 32 = false → splitB a = [a]
  | [], _ => rfl
  | c :: a, h => by
    simp only [List.contains_cons, Bool.or_eq_false_iff, beq_eq_false_iff_ne] at h
    unfold splitB
    rw [if_neg (fun e => h.1 e.symm), splitB_plain a h.2]
theorem splitB_cut : ∀ (a b : List UInt8), a.contains 32 = false → splitB (a ++ 32 :: b) = a :: splitB b
  | [], b, _ => by
    show splitB (32 :: b) = _
    rw [splitB, if_pos rfl]
  | c :: a, b, h => by
    simp only [List.contains_cons, Bool.or_eq_false_iff, beq_eq_false_iff_ne] at h
    show splitB (c :: (a ++ 32 :: b)) = _
    rw [splitB, if_neg (fun e => h.1 e.symm), splitB_cut a b h.2]
theorem split_join : ∀ ts : List (List UInt8), ts ≠ [] → (∀ t ∈ ts, t.contains 32 = false) → splitB (joinB ts) = ts
  | [], h, _ => absurd rfl h
  | [t], _, h => splitB_plain t (h t (by simp))
  | t :: u :: ts, _, h => by
    show splitB (t ++ 32 :: joinB (u :: ts)) = _
    rw [splitB_cut t _ (h t (by simp)), split_join (u :: ts) (by simp) (fun x hx => h x (List.mem_cons_of_mem _ hx))]

theorem digits_blank : ∀ n, n < 100 → (digits n).contains 32 = false ∧ (digits n ++ [99]).contains 32 = false := by decide +kernel
theorem wordE_blank (x : En) (h : okE x = true) : (wordE x).contains 32 = false := by
  obtain ⟨n, m⟩ := x
  rcases marks_of h with ⟨h0, h1, h2⟩ | ⟨h0, h1, h2⟩ | ⟨h0, h1⟩ | ⟨h0, h1⟩
  · simp only at h0 h1 h2; subst h0
    have e : wordE ⟨n, []⟩ = digits n := by simp [wordE]
    rw [e]; exact (digits_blank n h2).1
  · simp only at h0 h1 h2; subst h0
    have e : wordE ⟨n, [99]⟩ = digits n ++ [99] := by simp [wordE]
    rw [e]; exact (digits_blank n h2).2
  · simp only at h0 h1; subst h0; subst h1; decide
  · simp only at h0 h1; subst h0; subst h1; decide
theorem runsW_blank : ∀ (f : Nat) (l : List En), l.length ≤ 9 → (∀ x ∈ l, okE x = true) → ∀ t ∈ runsW f l, t.contains 32 = false
  | 0, _, _, _, t, ht => by simp [runsW] at ht
  | f + 1, [], _, _, t, ht => by simp [runsW] at ht
  | f + 1, x :: l, hl, ho, t, ht => by
    have hx := ho x (by simp)
    have hsplit : l.takeWhile (· = x) ++ l.dropWhile (· = x) = l := List.takeWhile_append_dropWhile
    have hlen := congrArg List.length hsplit
    simp only [List.length_append] at hlen
    simp only [List.length_cons] at hl
    unfold runsW at ht
    split at ht
    · rcases List.mem_cons.1 ht with rfl | ht
      · have h1 := (digits_blank ((l.takeWhile (· = x)).length + 1) (by omega)).1
        have h2 := wordE_blank x hx
        rw [← Bool.not_eq_true, List.contains_iff_mem] at h1 h2 ⊢
        intro hm
        rcases List.mem_append.1 hm with hm | hm
        · exact h1 hm
        · rcases List.mem_cons.1 hm with hm | hm
          · exact absurd hm (by decide)
          · exact h2 hm
      · exact runsW_blank f _ (by omega) (fun y hy => ho y (List.mem_cons_of_mem _ (by rw [← hsplit]; exact List.mem_append_right _ hy))) t ht
    · rcases List.mem_cons.1 ht with rfl | ht
      · exact wordE_blank x hx
      · exact runsW_blank f l (by omega) (fun y hy => ho y (List.mem_cons_of_mem _ hy)) t ht
theorem notW_blank : ∀ (f : Nat) (l : List En), (∀ x ∈ l, okE x = true) → ∀ t ∈ notW f l, t.contains 32 = false
  | 0, _, _, t, ht => by simp [notW] at ht
  | f + 1, l, ho, t, ht => by
    unfold notW at ht
    split at ht
    · rename_i h9
      exact runsW_blank 9 l h9 ho t ht
    · rcases List.mem_append.1 ht with ht | ht
      · exact runsW_blank 9 _ (by simp; omega) (fun x hx => ho x (List.mem_of_mem_take hx)) t ht
      · rcases List.mem_cons.1 ht with rfl | ht
        · decide
        · exact notW_blank f _ (fun x hx => ho x (List.mem_of_mem_drop hx)) t ht
theorem notW_ne (f : Nat) (l : List En) (h : l ≠ []) : notW (f + 1) l ≠ [] := by
  unfold notW
  have hr : ∀ (m : List En), m ≠ [] → runsW 9 m ≠ [] := fun m hm => by
    cases m with
    | nil => exact absurd rfl hm
    | cons x m => unfold runsW; split <;> simp
  split
  · exact hr l h
  · simp
/-- The text that is printed, read again. -/
theorem read_text (l : List En) (hne : l ≠ []) (h36 : l.length ≤ 36) (ho : ∀ x ∈ l, okE x = true) : steps ([], false) (splitB (joinB (notW 4 l))) = some (l, false) := by
  rw [split_join _ (notW_ne 3 l hne) (notW_blank 4 l ho)]
  exact read_printed l hne h36 ho

end NotMath
