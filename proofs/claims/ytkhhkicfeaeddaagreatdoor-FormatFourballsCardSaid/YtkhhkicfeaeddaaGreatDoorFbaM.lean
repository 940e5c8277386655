/- FormatFourballs: the least and the sum of net strokes, step by step: plain mathematics. -/
import Derived.Test.YtkhhkicfeaeddaaGreatDoorAloA
set_option linter.unusedVariables false
set_option linter.unusedSimpArgs false
namespace Go.Proofs.YtkhhkicfeaeddaaGreatDoor
open Go.RowKit

abbrev Nt := Int × ByteArray
def dashB : ByteArray := ⟨#[45]⟩
def crossB : ByteArray := ⟨#[120]⟩
def stepM (a e : Nt) : Nt := if meritI e a < 0 then e else a
def upB (b n : Nt) : Bool := (n.2.toList.isEmpty && (!b.2.toList.isEmpty || decide (n.1 < b.1))) || (n.2.toList == [120] && b.2.toList == [45])
theorem dash_fine : fineN (0, dashB) := .inr (.inr ⟨rfl, by kernel_rfl⟩)
theorem marks_of (m : ByteArray) : (m.toList.isEmpty = true → (m.toList == [120]) = false ∧ (m.toList == [45]) = false) ∧ ((m.toList == [120]) = true → (m.toList == [45]) = false) ∧ ((m.toList == [45]) = true → (m.toList == [120]) = false) := by
  rcases mark_cases m with ⟨h1, h2, h3, h4, h5⟩ | ⟨h1, h2, h3, h4, h5⟩ | ⟨h1, h2, h3, h4, h5⟩ | ⟨h1, h2, h3, h4, h5⟩ | ⟨h1, h2, h3, h4, h5⟩
  all_goals
    rw [h1, h3, h4]
    simp
/-- The three kinds of net strokes of a hole. -/
theorem fine_kinds {e : Nt} (h : fineN e) : (rankI e.2 = 0 ∧ e.2.toList.isEmpty = true ∧ (e.2.toList == [120]) = false ∧ (e.2.toList == [45]) = false) ∨
    (rankI e.2 = 1 ∧ e.2.toList.isEmpty = false ∧ (e.2.toList == [120]) = true ∧ (e.2.toList == [45]) = false ∧ e = (0, crossB)) ∨
    (rankI e.2 = 2 ∧ e.2.toList.isEmpty = false ∧ (e.2.toList == [120]) = false ∧ (e.2.toList == [45]) = true ∧ e = (0, dashB)) := by
  obtain ⟨m1, m2, m3⟩ := marks_of e.2
  rcases fine_rank h with ⟨r, a⟩ | ⟨r, a, z, b⟩ | ⟨r, a, z, b⟩
  · exact .inl ⟨r, a, (m1 a).1, (m1 a).2⟩
  · refine .inr (.inl ⟨r, a, b, m2 b, Prod.ext z (bytes_same ?_)⟩)
    rw [eq_of_beq b]
    exact (eq_of_beq (show (crossB.toList == [120]) = true by kernel_rfl)).symm
  · refine .inr (.inr ⟨r, a, m3 b, b, Prod.ext z (bytes_same ?_)⟩)
    rw [eq_of_beq b]
    exact (eq_of_beq (show (dashB.toList == [45]) = true by kernel_rfl)).symm
theorem step_first {x : Nt} (h : fineN x) : stepM (0, dashB) x = x := by
  unfold stepM
  have rd : rankI dashB = 2 := by kernel_rfl
  rcases fine_kinds h with ⟨r, _⟩ | ⟨r, _⟩ | ⟨r, _, _, _, e⟩
  · rw [merit_of, if_pos (show rankI x.2 < rankI (0, dashB).2 by rw [r]; show (0 : Int) < rankI dashB; rw [rd]; decide)]
    rfl
  · rw [merit_of, if_pos (show rankI x.2 < rankI (0, dashB).2 by rw [r]; show (1 : Int) < rankI dashB; rw [rd]; decide)]
    rfl
  · rw [e, merit_self]
    rfl
theorem step_up {b n : Nt} (hb : fineN b) (hn : fineN n) : stepM b n = if upB b n = true then n else b := by
  unfold stepM upB
  rw [merit_of]
  rcases fine_kinds hn with ⟨r, a1, a2, a3⟩ | ⟨r, a1, a2, a3, e⟩ | ⟨r, a1, a2, a3, e⟩ <;> rcases fine_kinds hb with ⟨r', b1, b2, b3⟩ | ⟨r', b1, b2, b3, e'⟩ | ⟨r', b1, b2, b3, e'⟩
  all_goals
    rw [r, r', a1, a2, b1, b3]
  · by_cases g : n.1 < b.1
    · simp [g]
    · by_cases g2 : n.1 = b.1 <;> simp [g, g2]
  · simp
  · simp
  · simp
  · rw [e, e']; simp
  · simp
  · simp
  · simp
  · rw [e, e']; simp
theorem step_fine {b n : Nt} (hb : fineN b) (hn : fineN n) : fineN (stepM b n) := by
  unfold stepM
  split
  · exact hn
  · exact hb
def bestN (l : List Nt) : Nt := l.foldl stepM (0, dashB)
theorem bestN_fine : ∀ (l : List Nt) (b : Nt), fineN b → (∀ e ∈ l, fineN e) → fineN (l.foldl stepM b)
  | [], _, hb, _ => hb
  | x :: l, b, hb, h => bestN_fine l _ (step_fine hb (h x (by simp))) (fun e he => h e (by simp [he]))
theorem bestN_min {l : List Nt} (h : ∀ e ∈ l, fineN e) (h0 : 0 < l.length) : bestN l = minM l := by
  match l, h0 with
  | x :: l, _ =>
    show l.foldl stepM (stepM (0, dashB) x) = l.foldl _ x
    rw [step_first (h x (by simp))]
    rfl
theorem bestN_take {l : List Nt} (k : Nat) (h : k < l.length) : bestN (l.take (k + 1)) = stepM (bestN (l.take k)) (l.getD k (0, ByteArray.empty)) := by
  unfold bestN
  rw [List.take_succ_eq_append_getElem h, List.foldl_append]
  have e : l.getD k (0, ByteArray.empty) = l[k] := by simp [List.getD, List.getElem?_eq_getElem h]
  rw [e]
  rfl
theorem netsAt_fine {hs : List (Int × Int)} {ps : List Pl} {i : Nat} (hn : ∀ p ∈ ps, (netsOf hs p.h p.l).length = hs.length) (hi : i < hs.length) : ∀ e ∈ netsAt hs ps i, fineN e := fun e he => by
  unfold netsAt at he
  obtain ⟨p, hp, rfl⟩ := List.mem_map.1 he
  exact nets_at_fine hs p i (by rw [hn p hp]; exact hi)
theorem netsAt_get (hs : List (Int × Int)) (ps : List Pl) (i k : Nat) (hk : k < ps.length) : (netsAt hs ps i).getD k (0, ByteArray.empty) = (netsOf hs (ps.getD k plD).h (ps.getD k plD).l).getD i (0, ByteArray.empty) := by
  unfold netsAt
  simp [List.getD, List.getElem?_eq_getElem hk]
/-- The sum of two, or the worst of their marks. -/
def aggM (x y : Nt) : Nt := if (x.2.toList == [45] || y.2.toList == [45]) = true then (0, dashB) else if (x.2.toList == [120] || y.2.toList == [120]) = true then (0, crossB) else (x.1 + y.1, ⟨#[]⟩)
theorem agg_total {x y : Nt} (hx : fineN x) (hy : fineN y) : aggM x y = totalM [x, y] := by
  have hm : maxM [x, y] = if 0 < meritI y x then y else x := rfl
  have hs : sumS [x, y] = x.1 + y.1 := by
    show ForMath.sumI [x.1, y.1] = _
    simp [ForMath.sumI]
  have hcr : crossB.toList = [120] := eq_of_beq (by kernel_rfl)
  have hda : dashB.toList = [45] := eq_of_beq (by kernel_rfl)
  unfold aggM totalM countsB
  rw [hm, merit_of, hs]
  rcases fine_kinds hx with ⟨r, a1, a2, a3⟩ | ⟨r, a1, a2, a3, e⟩ | ⟨r, a1, a2, a3, e⟩ <;> rcases fine_kinds hy with ⟨r', b1, b2, b3⟩ | ⟨r', b1, b2, b3, e'⟩ | ⟨r', b1, b2, b3, e'⟩
  all_goals
    rw [r, r', a2, a3, b2, b3]
  · have hq : ∀ q : Int, (if 0 < q then y else x).2.toList.isEmpty = true := fun q => by
      split
      · exact b1
      · exact a1
    rw [hq]
    simp [noMark]
  · simp [b1, e', hcr]
  · simp [b1, e', hda]
  · simp [a1, e, hcr]
  · simp [a1, e, e', hcr]
  · simp [b1, e', hda]
  · simp [a1, e, hda]
  · simp [a1, e, hda]
  · simp [a1, e, e', hda]
end Go.Proofs.YtkhhkicfeaeddaaGreatDoor
