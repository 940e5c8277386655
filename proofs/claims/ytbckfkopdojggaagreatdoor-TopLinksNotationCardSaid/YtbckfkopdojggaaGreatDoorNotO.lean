/- card's reader of a notation: how any word is taken, against the mathematics; the words as a law. -/
import Derived.Test.YtbckfkopdojggaaGreatDoorNotN
import Derived.Test.YtbckfkopdojggaaGreatDoorNotL
set_option linter.unusedVariables false
set_option linter.unusedSimpArgs false
namespace Go.Proofs.YtbckfkopdojggaaGreatDoor
open Go Go.RowKit Go.Shelf

theorem okE_entry (x : NotMath.En) : entryI (enV x).1 (enV x).2 = 0 ↔ NotMath.okE x = true := by
  obtain ⟨n, m⟩ := x
  simp only [enV]
  have hm : (⟨m.toArray⟩ : ByteArray).toList = m := by rw [Lib.toList_data]
  by_cases h0 : m = []
  · subst h0
    unfold entryI
    rw [show markK ⟨([] : List UInt8).toArray⟩ = 0 by decide +kernel]
    by_cases g : 1 ≤ (n : Int) ∧ (n : Int) ≤ 99
    · simp [NotMath.okE]; omega
    · simp [NotMath.okE]; omega
  by_cases h1 : m = [99]
  · subst h1
    unfold entryI
    rw [show markK ⟨([99] : List UInt8).toArray⟩ = 1 by decide +kernel]
    by_cases g : 1 ≤ (n : Int) ∧ (n : Int) ≤ 99
    · simp [NotMath.okE]; omega
    · simp [NotMath.okE]; omega
  by_cases h2 : m = [120]
  · subst h2
    unfold entryI
    rw [show markK ⟨([120] : List UInt8).toArray⟩ = 2 by decide +kernel]
    by_cases g : (n : Int) = 0
    · simp [NotMath.okE]
    · simp [NotMath.okE]
  by_cases h3 : m = [45]
  · subst h3
    unfold entryI
    rw [show markK ⟨([45] : List UInt8).toArray⟩ = 3 by decide +kernel]
    by_cases g : (n : Int) = 0
    · simp [NotMath.okE]
    · simp [NotMath.okE]
  unfold entryI markK
  rw [hm]
  have e0 : m.isEmpty = false := by cases m with | nil => exact absurd rfl h0 | cons => rfl
  rw [e0, beq_false_of_ne h1, beq_false_of_ne h2, beq_false_of_ne h3]
  simp [NotMath.okE, h0, h1, h2, h3]

theorem has_star (t : List UInt8) : t.contains 42 = true ↔ 0 ≤ Lib.indexByte t 42 := by
  constructor
  · intro h
    rcases Int.lt_or_le (Lib.indexByte t 42) 0 with g | g
    · have hge := Lib.indexByte_ge t 42
      rw [not_contains (Lib.indexByte_none (by omega))] at h; cases h
    · exact g
  · intro h
    obtain ⟨o, ho⟩ := Int.eq_ofNat_of_zero_le h
    obtain ⟨h1, _⟩ := Lib.indexByte_some ho
    rw [List.contains_iff_mem]
    exact List.mem_of_getElem? h1

theorem rep_zero {a : Int} {k : Nat} (h : firstI [a, withinI (k : Int) 2 36] = 0) : a = 0 ∧ 2 ≤ k ∧ k ≤ 36 := by
  by_cases e : a = 0
  · rw [firstI, if_pos e, firstI] at h
    refine ⟨e, ?_⟩
    by_cases e2 : withinI (k : Int) 2 36 = 0
    · unfold withinI at e2
      by_cases g : 2 ≤ (k : Int) ∧ (k : Int) ≤ 36
      · omega
      · rw [if_neg g] at e2; cases e2
    · rw [if_neg e2] at h; exact absurd h e2
  · rw [firstI, if_neg e] at h; exact absurd h e

/-- How a word was taken. -/
def Took (b base : Nat) (es : List NotMath.En) (q : Bool) (t : List UInt8) (w : World) (e : Ending) (w' : World) : Prop :=
  (∃ es' q' v', NotMath.step (es, q) t = some (es', q') ∧ e = .returned (.int .i64 0) ∧ ReaderR w' b base v' (es'.map enV) q' ∧ es'.length ≤ 36 ∧ Below b w w' ∧ (∀ k, k < base → k ≠ b → w'.heap[k]? = w.heap[k]?) ∧ KeepsOthers w w') ∨
  (NotMath.step (es, q) t = none ∧ (∃ z : Int, z ≠ 0 ∧ e = .returned (.int .i64 z)) ∧ Below w.heap.size w w')

theorem took_add {b base : Nat} {es es' : List NotMath.En} {q : Bool} {t : List UInt8} {w : World} {e : Ending} {w' : World} (hs : NotMath.step (es, q) t = some (es', false)) (hl : es'.length ≤ 36) (h : AddOut b base (es'.map enV) w e w') : Took b base es q t w e w' := by
  obtain ⟨v', rfl, h1, h2, h3⟩ := h
  exact .inl ⟨es', false, v', hs, rfl, h1, hl, h2, h3⟩

set_option maxRecDepth 100000 in
theorem take_any (b base : Nat) (v : Value) (es : List NotMath.En) (q : Bool) (t : List UInt8) (mx : Int) (w : World) (ht : t.length ≤ 100000) (hm : w.cell? ⟨0, 0, none⟩ = some (.int .i64 mx)) (hr : ReaderR w b base v (es.map enV) q) (hl : es.length ≤ 36) :
    ∃ F, wayV ⟨t.toArray⟩ (.pointer (some ⟨b, 0, none⟩)) = .func (.func F) #[.pointer (some ⟨b, 0, none⟩)] #[] ∧ (F = 124 ∨ F = 126 ∨ F = 127) ∧
      Calls Tryz.prog F #[.pointer (some ⟨b, 0, none⟩), .string ⟨t.toArray⟩] w (Took b base es q t w) := by
  have hts : (⟨t.toArray⟩ : ByteArray).toList = t := by rw [Lib.toList_data]
  have hsz : (⟨t.toArray⟩ : ByteArray).size = t.length := by rw [Lib.size_eq]
  have hll : (es.map enV).length = es.length := List.length_map _
  by_cases h1 : t = [124]
  · refine ⟨_, by unfold wayV wayF; rw [hts, if_pos h1]; rfl, .inl rfl, ?_⟩
    obtain ⟨A, c, rfl⟩ := hr.own.slice
    refine (takeBar_any b A es.length c q _ w hr.blk.lt (by omega) (by rw [← hll]; exact hr.blk.cell 0) (hr.blk.cell 1) (hr.blk.frozen 1)).mono ?_
    rintro e w' ⟨rfl, rfl⟩
    by_cases hb : es.length = 0 ∨ es.length % 9 ≠ 0 ∨ q = true
    · have hE : barE es.length q = 11 := by unfold barE; rw [if_pos hb]
      refine .inr ⟨?_, ⟨11, by decide, by rw [hE]⟩, by unfold barW; rw [hE, if_neg (by decide)]; exact Below.refl _ _⟩
      unfold NotMath.step
      rw [if_pos h1, if_pos (by rcases hb with h | h | h <;> simp_all)]
    · have hE : barE es.length q = 0 := by unfold barE; rw [if_neg hb]
      refine Or.inl ⟨es, true, .slice A (es.map enV).length c, ?_, by rw [hE], ?_, hl, ?_, ?_, ?_⟩
      · unfold NotMath.step
        rw [if_pos h1, if_neg (by rintro (h | h | h) <;> simp_all)]
      all_goals (unfold barW; rw [hE, if_pos rfl])
      · exact ⟨hr.blk.set 1 _, hr.own.far (p := ⟨b, 1, none⟩) hr.lo _, hr.lo, by have := hr.hi; simpa using this⟩
      · exact (Below.refl b w).setCell (p := ⟨b, 1, none⟩) (Nat.le_refl _) _
      · intro k hk hkb
        exact Below.heap_setCell w ⟨b, 1, none⟩ _ k hkb
      · refine ⟨by simp, fun k o hk ho => ?_⟩
        have hkb : k ≠ b := fun e => by
          subst e
          have := hr.blk
          unfold BlkV at this
          rw [this] at hk; cases hk; cases ho
        rw [Below.heap_setCell w ⟨b, 1, none⟩ _ k hkb]; exact hk
  by_cases h2 : t.contains 42 = true
  · refine ⟨_, by unfold wayV wayF; rw [hts, if_neg h1, if_pos ((has_star t).1 h2)]; rfl, .inr (.inl rfl), ?_⟩
    rcases cut_one t 42 with ⟨p, r, hc, hspl, hp⟩ | ⟨_, h⟩
    · have hlen : p.length + r.length < t.length := by rw [hspl]; simp
      have htk := NotMath.take_star p r hp
      have hst : NotMath.step (es, q) t = match NotMath.num p, NotMath.entryOf r with
          | some k, some x => if NotMath.okE x = true ∧ 2 ≤ k ∧ k ≤ 36 ∧ es.length + k ≤ 36 then some (es ++ List.replicate k x, false) else none
          | _, _ => none := by
        unfold NotMath.step
        rw [if_neg h1, if_pos h2]
        conv => lhs; rw [hspl]
        rw [htk.1, htk.2]
        rfl
      have no : NotMath.step (es, q) t = none → repE (es.map enV) (NotMath.num p) (NotMath.entryOf r) ≠ 0 → Calls Tryz.prog 126 #[.pointer (some ⟨b, 0, none⟩), .string ⟨t.toArray⟩] w (Took b base es q t w) := fun g1 g2 =>
        (takeRepetition_no b base v (es.map enV) q ⟨t.toArray⟩ p r true mx w (by rw [hsz]; omega) hm hr (by omega) hc (by omega) (by omega) g2).mono (fun e w' h => .inr ⟨g1, h.1, h.2⟩)
      rcases hk : NotMath.num p with _ | k
      · rw [hk] at hst no
        exact no (by rw [hst]) (by simp [repE])
      rcases ho : NotMath.entryOf r with _ | x
      · rw [hk, ho] at hst no
        exact no (by rw [hst]) (by simp [repE])
      rw [hk, ho] at hst no
      simp only at hst
      by_cases hok : NotMath.okE x = true ∧ 2 ≤ k ∧ k ≤ 36 ∧ es.length + k ≤ 36
      · rw [if_pos hok] at hst
        refine (takeRepetition_yes b base v (es.map enV) q ⟨t.toArray⟩ p r k x mx w (by rw [hsz]; omega) hm hr hc (by omega) (by omega) hk hok.2.1 ho ((okE_entry x).2 hok.1) (by omega)).mono fun e w' h => took_add hst (by simp; omega) ?_
        rw [List.map_append, List.map_replicate]; exact h
      · rw [if_neg hok] at hst
        refine no hst fun hz => hok ?_
        unfold repE at hz
        by_cases e0 : firstI [entryI (enV x).1 (enV x).2, withinI (k : Int) 2 36] = 0
        · obtain ⟨e1, e2, e3⟩ := rep_zero e0
          simp only at hz
          rw [if_pos e0, addE] at hz
          refine ⟨(okE_entry x).1 e1, e2, e3, ?_⟩
          by_cases e4 : 36 < (es.map enV).length + k
          · rw [if_pos e4] at hz; cases hz
          · omega
        · simp only at hz
          rw [if_neg e0] at hz; exact absurd hz e0
    · rw [h] at h2; cases h2
  · refine ⟨_, by unfold wayV wayF; rw [hts, if_neg h1, if_neg (fun g => h2 ((has_star t).2 g))]; rfl, .inr (.inr rfl), ?_⟩
    have hst : NotMath.step (es, q) t = match NotMath.entryOf t with
        | some x => if NotMath.okE x = true ∧ es.length + 1 ≤ 36 then some (es ++ [x], false) else none
        | none => none := by
      unfold NotMath.step
      rw [if_neg h1, if_neg h2]
      rfl
    have no : NotMath.step (es, q) t = none → takeE (es.map enV) (NotMath.entryOf t) 1 ≠ 0 → Calls Tryz.prog 127 #[.pointer (some ⟨b, 0, none⟩), .string ⟨t.toArray⟩] w (Took b base es q t w) := fun g1 g2 =>
      (takeEntry_no b base v (es.map enV) q ⟨t.toArray⟩ w (by rw [hsz]; omega) hr (by omega) g2).mono (fun e w' h => .inr ⟨g1, h.1, h.2⟩)
    rcases ho : NotMath.entryOf t with _ | x
    · rw [ho] at hst no
      exact no hst (by simp [takeE])
    rw [ho] at hst no
    simp only at hst
    by_cases hok : NotMath.okE x = true ∧ es.length + 1 ≤ 36
    · rw [if_pos hok] at hst
      refine (takeEntry_yes b base v (es.map enV) q ⟨t.toArray⟩ x w (by rw [hsz]; omega) hr ho ((okE_entry x).2 hok.1) (by omega)).mono fun e w' h => took_add hst (by simp; omega) ?_
      rw [List.map_append]; exact h
    · rw [if_neg hok] at hst
      refine no hst fun hz => hok ?_
      unfold takeE at hz
      simp only [addE] at hz
      by_cases e1 : entryI (enV x).1 (enV x).2 = 0
      · rw [if_pos e1] at hz
        refine ⟨(okE_entry x).1 e1, ?_⟩
        by_cases e3 : 36 < (es.map enV).length + 1
        · rw [if_pos e3] at hz; omega
        · omega
      · rw [if_neg e1] at hz; exact absurd hz e1

/-- A word with its number, no longer than the text. -/
abbrev Wd (s : ByteArray) := {x : Nat × List UInt8 // x.2.length ≤ s.size}
theorem numbered_snd : ∀ (k : Nat) (l : List (List UInt8)), (numbered k l).map (·.2) = l
  | _, [] => rfl
  | k, t :: l => by simp [numbered, numbered_snd (k + 1) l]

theorem wordsLaw (n : Nat) (hn : 1 ≤ n) (Ba n₀ : Nat) (s : ByteArray) (mx : Int) (w : World) (h64 : s.size ≤ 100000) (h0n : 0 < n₀) (hn₀ : n₀ ≤ w.heap.size)
    (hBa : w.cell? ⟨Ba, 0, none⟩ = some (.string s)) (hm : w.cell? ⟨0, 0, none⟩ = some (.int .i64 mx)) :
    SeqStopsK Fence.wide n Tryz.prog 122 #[.pointer (some ⟨Ba, 0, none⟩)] (fun x : Wd s => encW x.1) (Below n₀) (fun ys => ys.map (·.1) = numbered 1 (NotMath.splitB s.data.toList)) (fun pre => pre.map (·.1) <+: numbered 1 (NotMath.splitB s.data.toList)) (NotMath.splitB s.data.toList).length w :=
  fun l J Jx W hW hJ _ hY h0 => by
    have := words1_in n hn l Ba n₀ s mx h64 h0n (fun pre W => ∃ ks : List (Wd s), ks.map (·.1) = pre ∧ J ks W) (fun pre W => ∃ ks : List (Wd s), ks.map (·.1) = pre ∧ Jx ks W)
      (fun pre W k ⟨ks, e, h⟩ => ⟨ks, e, hJ ks W (W.drewN k) none h ⟨rfl, rfl, rfl, Nat.le_refl _, fun _ _ _ => rfl⟩ (fun r e => by cases e)⟩)
      (fun pre x W hx ⟨ks, e, h⟩ hlt => by
        subst e
        obtain ⟨fn, tmps, assign, body, hy, hR⟩ := hY ks ⟨x, hx⟩ W h (by simpa using hlt)
        refine ⟨fn, tmps, assign, body, hy, hR.mono ?_⟩
        rintro e W' (⟨g1, g2, g3⟩ | ⟨g1, g2⟩)
        · exact .inl ⟨g1, ⟨ks ++ [⟨x, hx⟩], by simp, g2⟩, g3⟩
        · exact .inr ⟨g1, ⟨ks ++ [⟨x, hx⟩], by simp, g2⟩⟩)
      W ((hW.cell (p := ⟨Ba, 0, none⟩) (cell_lt hBa)).trans hBa) ((hW.cell (p := ⟨0, 0, none⟩) (cell_lt hm)).trans hm) ⟨[], rfl, h0⟩
    refine this.mono fun e W' h => ⟨h.1, ?_⟩
    rcases h.2 with ⟨ys, h1, ks, h2, h3⟩ | ⟨pre, h1, ks, h2, h3⟩
    · exact .inl ⟨ks, h2.trans h1, h3⟩
    · exact .inr ⟨ks, by show _ <+: _; rw [h2]; exact h1, h3⟩
end Go.Proofs.YtbckfkopdojggaaGreatDoor
