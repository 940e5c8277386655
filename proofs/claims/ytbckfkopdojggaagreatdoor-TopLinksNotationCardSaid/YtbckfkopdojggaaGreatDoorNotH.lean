/- card's reader of a notation: an entry so many times. -/
import Derived.Test.YtbckfkopdojggaaGreatDoorNotG
import Derived.Outline
import Derived.RangeFuncOwn
set_option linter.unusedVariables false
set_option linter.unusedSimpArgs false
namespace Go.Proofs.YtbckfkopdojggaaGreatDoor
open Go Go.RowKit

theorem step_repeat {base : Nat} {v : Value} {l : List (Int × ByteArray)} {w : World} {ops : Array Oper} {o : Oper} {a : Act} {K : Act → World → Prop} {Q : Exit → Act → World → Prop} {E : Prop} (hgd : o.guard = none) (s x : Operand)
    (ho : o.op = .call { callee := .builtin .append, args := #[s, x], argTypes := #[51, 51] })
    (hs : a.eval s = v) (hown : PairsOwn w base 73 v l) (hn : l.length ≤ 1000) (t m c : Nat) (hx : a.eval x = .slice (some ⟨t, 0, none⟩) m c) (y : Int × ByteArray) (hm : 0 < m) (hm2 : m ≤ 1000)
    (ht : PairsR w t (List.replicate m y)) (hbase : base ≤ w.heap.size)
    (h : ∀ g cap w', Hid (PairsOwn w' base 73 (.slice (some ⟨g, 0, none⟩) (l.length + m) cap) (l ++ List.replicate m y)) → Hid (w.grownBy w' v.ownBlock) → Hid (g < w'.heap.size) → K (a.put o.dst (.slice (some ⟨g, 0, none⟩) (l.length + m) cap)) w') :
    if Region.wanted o (yielded ops a.tmps) = true then Oper.wp Tryz.prog o a w K Q else E := by
  obtain ⟨i0, hi, hz0, hz1, hz2⟩ := info_parts info_entry
  refine step_append_lies w hgd s x 51 ho base 73 i0 _ 2 24 Tryz.underlying51 hi hz0 hz1 hz2 rfl (by decide) v l.length _ hs hown ⟨t, 0, none⟩ m c (pairCells (List.replicate m y)) hx (by rw [pairCells_len, List.length_replicate])
    (World.news_of_block ht) (pair_cells_one _) hm (by unfold maxLen; omega) (by omega) hbase w.heap.size rfl ?_
  intro g cap w' h1 h2 h3 h4
  exact h g cap w' (Lib.hid (by unfold PairsOwn; rw [pairCells_append, List.length_append, List.length_replicate]; exact h1)) (Lib.hid h2) (Lib.hid h4)

/-- The reader in block b has the entries l behind the value v, and whether a bar was read. -/
structure ReaderR (w : World) (b base : Nat) (v : Value) (l : List (Int × ByteArray)) (q : Bool) : Prop where
  blk : BlkV w b 128 #[v, .bool q]
  own : PairsOwn w base 73 v l
  lo : b < base
  hi : base ≤ w.heap.size

def addE (l : List (Int × ByteArray)) (n : Nat) : Int := if 36 < l.length + n then 5 else 0
def AddOut (b base : Nat) (l : List (Int × ByteArray)) (w : World) (e : Ending) (w' : World) : Prop :=
  ∃ v, e = .returned (.int .i64 0) ∧ ReaderR w' b base v l false ∧ Below b w w' ∧ (∀ k, k < base → k ≠ b → w'.heap[k]? = w.heap[k]?) ∧ KeepsOthers w w'

set_option maxRecDepth 100000 in
set_option maxHeartbeats 1000000 in
theorem add_no (b base : Nat) (v : Value) (l : List (Int × ByteArray)) (q : Bool) (s : Int) (m : ByteArray) (n : Nat) (w : World) (hr : ReaderR w b base v l q) (hl : l.length ≤ 36) (hn : n ≤ 36) (hx : 36 < l.length + n) :
    Calls Tryz.prog 178 #[.pointer (some ⟨b, 0, none⟩), .agg #[.int .i64 s, .string m], .int .i64 (n : Int)] w fun e w' => e = .returned (.int .i64 5) ∧ Below w.heap.size w w' := by
  obtain ⟨A, c, rfl⟩ := hr.own.slice
  have hb := hr.blk.lt
  have c0 := (hr.blk.alloc (.cells #[.int .i64 s, .string m] 73)).cell 0
  have hxi : (36 : Int) < (l.length : Int) + (n : Int) := by omega
  clear hr
  go_enter Tryz.func178, Tryz.ntmps178
  go_wp2
  go_ret
  exact ⟨rfl, (Below.refl _ _).alloc (Nat.le_refl _) _⟩

set_option maxRecDepth 100000 in
set_option maxHeartbeats 4000000 in
theorem add_yes (b base : Nat) (v : Value) (l : List (Int × ByteArray)) (q : Bool) (s : Int) (m : ByteArray) (n : Nat) (w : World) (hr : ReaderR w b base v l q) (h1 : 1 ≤ n) (hx : l.length + n ≤ 36) :
    Calls Tryz.prog 178 #[.pointer (some ⟨b, 0, none⟩), .agg #[.int .i64 s, .string m], .int .i64 (n : Int)] w (AddOut b base (l ++ List.replicate n (s, m)) w) := by
  obtain ⟨A, c, rfl⟩ := hr.own.slice
  have HR := Lib.hid hr
  have hb := hr.blk.lt
  have hxi : (l.length : Int) + (n : Int) ≤ 36 := by omega
  have hsi : (0 : Int) ≤ (l.length : Int) := Int.natCast_nonneg _
  have c0 := (hr.blk.alloc (.cells #[.int .i64 s, .string m] 73)).cell 0
  clear hr
  go_enter Tryz.func178, Tryz.ntmps178
  go_wp2
  clear c0
  generalize hW0 : w.alloc (.cells #[.int .i64 s, .string m] 73) = W0
  have hblk : BlkV W0 b 128 #[.slice A l.length c, .bool q] := by subst hW0; exact HR.out.blk.alloc _
  have hown : PairsOwn W0 base 73 (.slice A l.length c) l := by subst hW0; exact HR.out.own.below ((Below.refl _ _).alloc (Nat.le_refl _) _)
  have hent : BlkV W0 w.heap.size 73 #[.int .i64 s, .string m] := by subst hW0; exact BlkV.new w _ _
  have hsz : W0.heap.size = w.heap.size + 1 := by subst hW0; simp
  have hb0 : Below w.heap.size w W0 := by subst hW0; exact (Below.refl _ _).alloc (Nat.le_refl _) _
  have HBLK := Lib.hid hblk
  have HOWN := Lib.hid hown
  have HENT := Lib.hid hent
  have HSZ := Lib.hid hsz
  have HB0 := Lib.hid hb0
  have c0 := hblk.cell 0
  have e0 := hent.cell 0
  have e1 := hent.cell 1
  have hbw : b < W0.heap.size := hblk.lt
  clear hblk hown hent hsz hb0 hW0
  have DR := Lib.hid (Below.drew (Below.refl W0.heap.size W0))
  go_region_law (first
    | (refine step_repeat (v := .slice A l.length c) (base := base) (l := l) rfl (.tmp 19) (.tmp 23) rfl (by rfl) (HOWN.out.below HBX.out) (by omega) (W0.heap.size + 1) n n (by rfl) (s, m) (by omega) (by omega) hrep.out (by have := HBX.out.size; have := HR.out.hi; have := HSZ.out; omega) ?_
       intro g3 cap w3 ho hgr hlt2
       have hf3 : BlkV w3 b 128 #[.slice A l.length c, .bool q] := ((HBLK.out.below HBX.out hbw).grown hgr.out (fun e => by have := HOWN.out.block _ e.symm; have := HR.out.lo; omega))
       have c3 := hf3.cell 0
       have f3 := hf3.frozen 0
       have c4 := hf3.cell 1
       have f4 := hf3.frozen 1
       have HF3 := Lib.hid hf3
       clear hf3)
    | (go_simp; go_at_call 201; refine (repeatE_any n (s, m) _ _ h1 (by omega) ?_).mono ?_
       · exact heap_alloc_new _ _
       rintro r w2 ⟨rfl, hrep', hb2⟩
       have hrep : Hid (PairsR w2 (W0.heap.size + 1) (List.replicate n (s, m))) := Lib.hid (by simpa using hrep')
       have HBX : Hid (Below W0.heap.size W0 w2) := Lib.hid (DR.out.trans (((Below.refl _ _).alloc (by simp) _).trans (hb2.mono (by simp))))
       have c02 := (HBX.out.cell (p := ⟨b, 0, none⟩) hbw).trans c0
       clear hb2 hrep'))
  all_goals
    go_wp2
    go_ret
    have hb3 : Below base w w3 := (((HB0.out.mono HR.out.hi).trans (HBX.out.mono (by have := HR.out.hi; have := HSZ.out; omega))).grown hgr.out (by have := HR.out.hi; have := HSZ.out; have := HBX.out.size; omega) (fun k e => (HOWN.out.block _ e).1))
    refine ⟨_, rfl, ⟨(HF3.out.set 0 _).set 1 _, ?_, HR.out.lo, ?_⟩, ((hb3.mono (Nat.le_of_lt HR.out.lo)).setCell (by simp) _).setCell (by simp) _, fun k hk hkb => ?_, ?_⟩
    · have := (ho.out.far (p := ⟨b, 0, none⟩) HR.out.lo (.slice (some ⟨g3, 0, none⟩) (l.length + n) cap)).far (p := ⟨b, 1, none⟩) HR.out.lo (.bool false)
      exact this
    · have := hb3.size; have := HR.out.hi; simp; omega
    · rw [Below.heap_setCell _ _ _ k (by simpa using hkb), Below.heap_setCell _ _ _ k (by simpa using hkb)]
      exact hb3.block k hk
    · refine ⟨by have := hb3.size; simpa using this, fun k o hk ho => ?_⟩
      have hkl : k < w.heap.size := by
        rcases Nat.lt_or_ge k w.heap.size with h | h
        · exact h
        · rw [Array.getElem?_eq_none h] at hk; cases hk
      have hkb : k ≠ b := fun e => by
        subst e
        have := HR.out.blk
        unfold BlkV at this
        rw [this] at hk; cases hk; cases ho
      have hne : some k ≠ (Value.slice A l.length c).ownBlock := fun e => by
        rcases HR.out.own.2 with ⟨e1, _⟩ | ⟨g, cap, cur, e1, _, hgb, _⟩
        · rw [e1] at e; cases e
        · rw [e1] at e
          simp only [Value.ownBlock, Option.some.injEq] at e
          subst e
          rw [hgb] at hk; cases hk; cases ho
      rw [Below.heap_setCell _ _ _ k (by simpa using hkb), Below.heap_setCell _ _ _ k (by simpa using hkb), hgr.out.block k (by have := HBX.out.size; have := HSZ.out; omega) hne, HBX.out.block k (by have := HSZ.out; omega), HB0.out.block k hkl]
      exact hk
end Go.Proofs.YtbckfkopdojggaaGreatDoor
