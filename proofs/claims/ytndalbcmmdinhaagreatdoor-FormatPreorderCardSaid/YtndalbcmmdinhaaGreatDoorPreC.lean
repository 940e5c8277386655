/- FormatPreorder: its table of count-backs, rows that grow one after another. -/
import Derived.Test.YtndalbcmmdinhaaGreatDoorPreA
import Derived.Test.YtndalbcmmdinhaaGreatDoorPreM
import Derived.Test.YtndalbcmmdinhaaGreatDoorMgH
import Derived.Outline
set_option linter.unusedVariables false
set_option linter.unusedSimpArgs false
namespace Go.Proofs.YtndalbcmmdinhaaGreatDoor
open Go.RowKit

theorem info_row : (Tryz.prog.info? 25).map (fun i => (i.zero, i.size, i.bytes)) = some (some (.slice none 0 0), 1, 24) := by kernel_rfl
def noRows (n : Nat) : List Value := List.replicate n (.slice none 0 0)
theorem made_rows (n : Nat) : madeCells (Value.slice none 0 0).cells n = (noRows n).toArray := by
  unfold madeCells noRows
  apply Array.ext
  · simp
  · intro i h1 h2
    simp [Value.cells, Nat.mod_one]
theorem make_rows (n : Nat) (hn : n ≤ 1000000) (w : World) :
    (Instr.makeSlice 64 (.int .i64 (n : Int)) (.int .i64 (n : Int))).run Tryz.prog w = .ok (.slice (some ⟨w.heap.size, 0, none⟩) n n) (w.alloc (.cells (noRows n).toArray 25)) := by
  obtain ⟨i0, hi, hz0, hz1, hz2⟩ := info_parts info_row
  have hr := run_make (P := Tryz.prog) w 64 25 i0 (.slice none 0 0) Tryz.underlying64 hi hz0 .i64 .i64 n n (by omega) (by omega) (by rw [hz2]; omega) (by omega)
  rw [hz1] at hr
  simp only [Int.toNat_natCast, Nat.mul_one] at hr
  rw [made_rows] at hr
  exact hr

/-- The first i rows of the table are whole, in blocks between g and B. -/
def TabR (W : World) (g B n : Nat) (M : Nat → List Int) (i : Nat) (cs : List Value) : Prop :=
  ∀ j, j < i → ∃ a c, cs[j]? = some (.slice (some a) n c) ∧ g < a.block ∧ a.block < B ∧ ∀ m, m < n → W.cell? (a.add m) = some (.int .i64 ((M j).getD m 0))
section
variable {W W' : World} {g B B' n i : Nat} {M : Nat → List Int} {cs : List Value}
theorem TabR.below (h : TabR W g B n M i cs) (hb : Below B W W') : TabR W' g B n M i cs := fun j hj => by
  obtain ⟨a, c, h1, h2, h3, h4⟩ := h j hj
  exact ⟨a, c, h1, h2, h3, fun m hm => (hb.cell (by rw [block_of_add]; exact h3)).trans (h4 m hm)⟩
theorem TabR.mono (h : TabR W g B n M i cs) (hB : B ≤ B') : TabR W g B' n M i cs := fun j hj => by
  obtain ⟨a, c, h1, h2, h3, h4⟩ := h j hj
  exact ⟨a, c, h1, h2, by omega, h4⟩
theorem TabR.set (h : TabR W g B n M i cs) (k : Nat) (u : Value) : TabR (W.setCell ⟨g, k, none⟩ u) g B n M i cs := fun j hj => by
  obtain ⟨a, c, h1, h2, h3, h4⟩ := h j hj
  refine ⟨a, c, h1, h2, h3, fun m hm => ?_⟩
  rw [World.cell?_setCell_far _ _ _ _ (by rw [block_of_add]; show g ≠ a.block; omega)]
  exact h4 m hm
theorem TabR.put (h : TabR W g B n M i cs) (u : Value) : TabR W g B n M i (cs.set i u) := fun j hj => by
  obtain ⟨a, c, h1, h2, h3, h4⟩ := h j hj
  exact ⟨a, c, by rw [List.getElem?_set_ne (by omega)]; exact h1, h2, h3, h4⟩
/-- A row that is whole joins the table. -/
theorem TabR.next (h : TabR W g B n M i cs) (hn : 0 < n) (hg : g < B) (hB : B ≤ W.heap.size) {v : Value} (hv : cs[i]? = some v) (hl : (M i).length = n) (ho : W.ownsRow B 3 1 v (M i).length ((M i).map (Value.int .i64))) : TabR W g W.heap.size n M (i + 1) cs := fun j hj => by
  by_cases e : j = i
  · subst e
    obtain ⟨A, c, rfl, _, hx⟩ := rows_ints ho
    obtain ⟨a, rfl, hb, _⟩ := hx 0 (by omega)
    rw [hl] at hv
    refine ⟨a, c, hv, ?_, hb, fun m hm => ?_⟩
    · have := (World.ownsRow.lt ho a.block (by
        rcases ho.2 with ⟨e1, _⟩ | ⟨g2, cap, cur, e1, _⟩
        · cases e1
        · injection e1 with e1 e2 e3
          injection e1 with e1
          rw [e1]
          rfl)).1
      omega
    · obtain ⟨a', ha', _, hc⟩ := hx m (by omega)
      cases ha'
      exact hc
  · exact (h.mono hB) j (by omega)
end
theorem own_far {w w' : World} {B n size : Nat} {e : TypeId} {v : Value} {xs : List Value} (h : w.ownsRow B e size v n xs) (hb : Below w.heap.size w w') : w'.ownsRow B e size v n xs :=
  h.kept (row := none) ⟨hb.os, hb.tape, hb.output, hb.size, fun k hk _ => hb.block k hk⟩ (by cases v.ownBlock <;> simp)
/-- The table's rows. -/
def rowM (ls : List (List Int)) (j : Nat) : List Int := ls.map fun y => ForMath.cback (ls.getD j []) y
theorem rowM_len (ls : List (List Int)) (j : Nat) : (rowM ls j).length = ls.length := by simp [rowM]
theorem rowM_at (ls : List (List Int)) (j m : Nat) (h : m < ls.length) : (rowM ls j).getD m 0 = ForMath.cback (ls.getD j []) (ls.getD m []) := by
  simp [rowM, List.getD, List.getElem?_eq_getElem h]
theorem rowM_take (ls : List (List Int)) (j k : Nat) (h : k < ls.length) : (rowM ls j).take (k + 1) = (rowM ls j).take k ++ [ForMath.cback (ls.getD j []) (ls.getD k [])] := by
  rw [List.take_succ_eq_append_getElem (by rw [rowM_len]; exact h)]
  simp [rowM, List.getD, List.getElem?_eq_getElem h]
end Go.Proofs.YtndalbcmmdinhaaGreatDoor
