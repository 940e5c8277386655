/- A long region whose operations fill neighbouring slots, each looking at none of them but those that its edges name: the order of the text serves every order. A check in one pass in the place of one over all pairs. -/
import Derived.Test.YtkhhkicfeaeddaaGreatDoorMgA
import Derived.Deep.Quiet
import Derived.KernelRfl
set_option linter.unusedVariables false
set_option linter.unusedSimpArgs false
namespace Go.Proofs.YtkhhkicfeaeddaaGreatDoor
open Go

/-- What an operation at place j looks at: nothing of the region's slots (from b on) but what an edge of its own names. -/
def locOp (md : Region.Mode) (b : Nat) (ops : Array Oper) (j : Nat) (o : Oper) : Bool :=
  (o.dst == some (b + j)) && (o.after.toList.all fun e => decide (e.on < j)) && ((o.looksAt ops).all fun t => decide (t < b) || (decide (t < b + j) && o.after.toList.any fun e => Region.binds md e && (e.on + b == t)))
def locFrom (md : Region.Mode) (b : Nat) (ops : Array Oper) : Nat → List Oper → Bool
  | _, [] => true
  | j, o :: l => locOp md b ops j o && locFrom md b ops (j + 1) l
theorem locFrom_at {md : Region.Mode} {b : Nat} {ops : Array Oper} : ∀ {l : List Oper} {j : Nat}, locFrom md b ops j l = true → ∀ i o, l[i]? = some o → locOp md b ops (j + i) o = true
  | [], _, _, i, o, h => by simp at h
  | x :: l, j, H, i, o, h => by
    rw [locFrom, Bool.and_eq_true] at H
    match i with
    | 0 =>
      simp at h
      subst h
      exact H.1
    | i + 1 =>
      have := locFrom_at H.2 i o (by simpa using h)
      rwa [Nat.add_assoc, Nat.add_comm 1 i] at this
theorem lex_local_from {md : Region.Mode} {b : Nat} {ops : Array Oper} (H : ∀ j o, ops[j]? = some o → locOp md b ops j o = true) :
    ∀ (fuel k : Nat) (listed : Array Bool), fuel + k = ops.size → listed.size = ops.size → (∀ i, i < ops.size → listed[i]? = some (decide (i < k))) → Region.lexFrom md ops fuel k listed = true
  | 0, k, listed, hf, hs, hl => by
    rw [Region.lexFrom, List.isEmpty_iff]
    refine List.eq_nil_iff_forall_not_mem.2 (fun i hi => ?_)
    obtain ⟨h1, o, ho, _⟩ := mem_ready.1 hi
    have hlt : i < ops.size := (Array.getElem?_eq_some_iff.1 ho).1
    have h2 := hl i hlt
    rw [Array.getD_eq_getD_getElem?, h2] at h1
    simp at h1
    omega
  | fuel + 1, k, listed, hf, hs, hl => by
    have hk : k < ops.size := by omega
    obtain ⟨ok, hok⟩ : ∃ o, ops[k]? = some o := ⟨ops[k], Array.getElem?_eq_getElem hk⟩
    have Hk := H k ok hok
    unfold locOp at Hk
    simp only [Bool.and_eq_true, beq_iff_eq, List.all_eq_true, Bool.or_eq_true, decide_eq_true_eq, List.any_eq_true] at Hk
    obtain ⟨⟨hd, ha⟩, hlk⟩ := Hk
    rw [Region.lexFrom, Bool.and_eq_true, Bool.and_eq_true]
    refine ⟨⟨?_, ?_⟩, ?_⟩
    · rw [List.contains_iff_mem]
      refine mem_ready.2 ⟨?_, ok, hok, fun e he _ => ?_⟩
      · rw [Array.getD_eq_getD_getElem?, hl k hk]
        simp
      · have h1 := ha e (by simpa using he)
        rw [Array.getD_eq_getD_getElem?, hl e.on (by omega)]
        simpa using h1
    · unfold Region.free
      rw [hok]
      simp only [List.all_eq_true, List.mem_range, Bool.or_eq_true, beq_iff_eq]
      intro j hj
      by_cases hjk : j = k
      · exact .inl (.inl hjk)
      · by_cases hlt : j < k
        · left; right
          rw [Array.getD_eq_getD_getElem?, hl j hj]
          simpa using hlt
        · right
          obtain ⟨oj, hoj⟩ : ∃ o, ops[j]? = some o := ⟨ops[j], Array.getElem?_eq_getElem hj⟩
          rw [hoj]
          simp only [Bool.or_eq_true]
          have Hj := H j oj hoj
          unfold locOp at Hj
          simp only [Bool.and_eq_true, beq_iff_eq, List.all_eq_true, Bool.or_eq_true, decide_eq_true_eq, List.any_eq_true] at Hj
          obtain ⟨⟨hdj, _⟩, hlj⟩ := Hj
          by_cases hb : (oj.after.any fun e => Region.binds md e && e.on == k) = true
          · exact .inl hb
          · right
            have hno : ∀ e ∈ oj.after.toList, Region.binds md e = true → e.on ≠ k := fun e he hbe heq => by
              apply hb
              rw [Array.any_eq_true']
              exact ⟨e, by simpa using he, by rw [hbe, heq]; simp⟩
            unfold Oper.apart
            rw [hd, hdj]
            simp only [Bool.and_eq_true, Bool.not_eq_true', bne_iff_ne]
            refine ⟨⟨?_, fun h => ?_⟩, ?_⟩
            · rw [← Bool.not_eq_true, List.contains_iff_mem]
              intro hm
              rcases hlj _ hm with h | ⟨_, e, he, hbe, heq⟩
              · have h' : @LT.lt Nat _ (b + k) b := h
                omega
              · have h' : @Eq Nat (e.on + b) (b + k) := heq
                exact hno e he hbe (by omega)
            · injection h with h
              omega
            · rw [← Bool.not_eq_true, List.contains_iff_mem]
              intro hm
              rcases hlk _ hm with h | ⟨h, _⟩
              · have h' : @LT.lt Nat _ (b + j) b := h
                omega
              · have h' : @LT.lt Nat _ (b + j) (b + k) := h
                omega
    · refine lex_local_from H fuel (k + 1) _ (by omega) (by simpa using hs) (fun i hi => ?_)
      by_cases hik : i = k
      · subst hik
        rw [Array.getElem?_setIfInBounds_self_of_lt (by omega)]
        simp
      · rw [Array.getElem?_setIfInBounds_ne (Ne.symm hik), hl i hi]
        congr 1
        exact decide_eq_decide.2 ⟨fun h => by omega, fun h => by omega⟩
theorem lex_local (b : Nat) {md : Region.Mode} {l : List Oper} (hs : Region.noSelect l.toArray = true) (h : locFrom md b l.toArray 0 l = true) : Region.lexB md l.toArray = true := by
  unfold Region.lexB
  rw [hs, Bool.true_and]
  refine lex_local_from (b := b) (fun j o ho => ?_) _ _ _ (Nat.add_zero _) (by simp) (fun i hi => by
    have hi2 : i < l.length := by simpa using hi
    simp [hi2])
  have := locFrom_at h j o (by simpa using ho)
  rwa [Nat.zero_add] at this
end Go.Proofs.YtkhhkicfeaeddaaGreatDoor
