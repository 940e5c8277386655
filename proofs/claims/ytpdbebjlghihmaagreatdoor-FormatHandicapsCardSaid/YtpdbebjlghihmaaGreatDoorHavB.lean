/- The reference's sorted: insertion in a copy. -/
import Derived.Test.YtpdbebjlghihmaaGreatDoorHavA
import Derived.IntWalk
import Derived.BigQuiet
import Derived.Outline
set_option linter.unusedVariables false
set_option linter.unusedSimpArgs false
namespace Go.Proofs.YtpdbebjlghihmaaGreatDoor
open Go.RowKit

/-- Block g begins with these integers; behind them lies what is never looked at. -/
def PreR (w : World) (g : Nat) (ys : List Int) (rest : List Value) : Prop := w.heap[g]? = some (.cells (ys.map (Value.int .i64) ++ rest).toArray 3 (0, 0))
section
variable {w w' : World} {g : Nat} {ys : List Int} {rest : List Value}
theorem PreR.lt (h : PreR w g ys rest) : g < w.heap.size := by
  rcases Nat.lt_or_ge g w.heap.size with hlt | hge
  · exact hlt
  · unfold PreR at h; rw [Array.getElem?_eq_none hge] at h; cases h
theorem PreR.cell (h : PreR w g ys rest) {j : Nat} (hj : j < ys.length) : w.cell? ⟨g, j, none⟩ = some (.int .i64 (ys.getD j 0)) := by
  rw [cell_of_row w g j _ _ _ h]
  simp [List.getElem?_append_left (show j < (ys.map (Value.int .i64)).length by simpa using hj), List.getElem?_eq_getElem hj, List.getD]
theorem PreR.frozen (h : PreR w g ys rest) (j : Nat) : w.frozen? ⟨g, j, none⟩ = false := by
  unfold PreR at h
  simp [World.frozen?, h]
theorem PreR.set (h : PreR w g ys rest) {k : Nat} (hk : k < ys.length) (y : Int) : PreR (w.setCell ⟨g, k, none⟩ (.int .i64 y)) g (ys.set k y) rest := by
  unfold PreR at h ⊢
  simp [World.setCell, Array.getElem?_modify, h, List.map_set, List.set_append_left _ _ (show k < (ys.map (Value.int .i64)).length by simpa using hk)]
theorem PreR.drew (h : PreR w g ys rest) : PreR w.drew g ys rest := h
theorem PreR.drewN (h : PreR w g ys rest) (n : Nat) : PreR (w.drewN n) g ys rest := h
theorem PreR.eq_ (h : PreR w g ys rest) {zs : List Int} (e : ys = zs) : PreR w g zs rest := e ▸ h
theorem PreR.ints (h : PreR w g ys rest) {B : Nat} (hB : g < B) : IntsAt w B (some ⟨g, 0, none⟩) ys := fun j hj =>
  ⟨_, rfl, hB, by rw [add_zero_at]; exact h.cell hj⟩
theorem PreR.below {B : Nat} (h : PreR w g ys rest) (hb : Below B w w') (hg : g < B) : PreR w' g ys rest := (hb.block g hg).trans h
end

theorem belowJ {B : Nat} {a w : World} (h : Below B a w) (k : Nat) : Below B a (w.drewN k) := ⟨h.os, h.tape, h.output, h.size, h.block⟩

set_option maxRecDepth 100000 in
set_option maxHeartbeats 2000000 in
theorem refSorted_any (a : Addr) (c : Nat) (xs : List Int) (w : World) (h : IntsAt w w.heap.size (some a) xs) (h1 : 1 ≤ xs.length) (hl : xs.length ≤ 1000) :
    Calls Tryz.prog 50 #[.slice (some a) xs.length c] w fun e w' => ∃ g cap rest, e = .returned (.slice (some ⟨g, 0, none⟩) xs.length cap) ∧ PreR w' g (srtJ xs) rest ∧ w.heap.size ≤ g ∧ xs.length ≤ cap ∧ Below w.heap.size w w' := by
  have hfit : ¬ 281474976710656 < Builtin.nextslicecap xs.length 0 * Tryz.t3.bytes := by
    rw [nextslicecap_zero (by omega), show Tryz.t3.bytes = 8 from rfl]
    omega
  have hload : Sem.run Tryz.prog (loadCellsFrom a 0 xs.length #[]) (w.alloc (.cells #[] 3)).drew = .ok (rowI xs) (w.alloc (.cells #[] 3)).drew := by
    have h2 := run_loadCells_list (P := Tryz.prog) (w.alloc (.cells #[] 3)).drew a (xs.map (Value.int .i64)) (fun j u hu => by
      have hj : j < xs.length := by
        rcases Nat.lt_or_ge j xs.length with g | g
        · exact g
        · rw [List.getElem?_eq_none (by simpa using g)] at hu; cases hu
      obtain ⟨a2, e2, _, hc⟩ := h j hj
      obtain rfl := Option.some.inj e2
      show (w.alloc (.cells #[] 3)).cell? (a.add j) = some u
      rw [World.cell?_alloc_lt w _ _ (World.block_lt_of_cell? _ _ hc), hc, ← hu]
      simp [List.getElem?_eq_getElem hj, List.getD])
    rw [List.length_map] at h2
    exact h2
  have hn : xs.length ≠ 0 := by omega
  go_enter Tryz.func50, Tryz.ntmps50
  go_wp2
  have hcap := grownCap_ge ((w.alloc (.cells #[] 3))) xs.length 0 3
  unfold grownCap at hcap
  have hcap2 : xs.length ≤ (Question.appendCap xs.length 0 3).cut (w.tape w.drawn (Question.appendCap xs.length 0 3)) := hcap
  clear hcap
  generalize (Question.appendCap xs.length 0 3).cut (w.tape w.drawn (Question.appendCap xs.length 0 3)) = cap at hcap2 ⊢
  obtain ⟨rest, hrest⟩ : ∃ rest, (Builtin.zeroCells #[Value.int .i64 0] (cap - xs.length)).toList = rest := ⟨_, rfl⟩
  have hrow : PreR ((w.alloc (.cells #[] 3)).alloc (.cells (rowI xs ++ Builtin.zeroCells #[Value.int .i64 0] (cap - xs.length)) 3)).drew (w.heap.size + 1) xs rest := by
    unfold PreR
    have h2 := heap_alloc_new (w.alloc (.cells #[] 3)) (.cells (rowI xs ++ Builtin.zeroCells #[Value.int .i64 0] (cap - xs.length)) 3)
    rw [World.size_alloc] at h2
    show ((w.alloc (.cells #[] 3)).alloc (.cells (rowI xs ++ Builtin.zeroCells #[Value.int .i64 0] (cap - xs.length)) 3)).heap[w.heap.size + 1]? = _
    rw [h2, ← hrest]
    congr 2
    simp [rowI]
  have hb2 : Below w.heap.size w ((w.alloc (.cells #[] 3)).alloc (.cells (rowI xs ++ Builtin.zeroCells #[Value.int .i64 0] (cap - xs.length)) 3)).drew := (((Below.refl _ _).alloc (Nat.le_refl _) _).alloc (by simp) _).drew
  generalize hW2 : ((w.alloc (.cells #[] 3)).alloc (.cells (rowI xs ++ Builtin.zeroCells #[Value.int .i64 0] (cap - xs.length)) 3)).drew = w2 at *
  have HROW := Lib.hid hrow
  have HB2 := Lib.hid hb2
  clear hW2 hrow hb2 hload hfit hrest h
  go_loopw [4, 5] (fun iv _ w' => ∃ i : Nat, 1 ≤ i ∧ i ≤ xs.length ∧ iv = .int .i64 i ∧ PreR w' (w.heap.size + 1) (srtJ (xs.take i) ++ xs.drop i) rest ∧ Below w.heap.size w w') (fun iv _ _ => xs.length - (intOf iv).toNat)
  case atStart => exact ⟨1, Nat.le_refl _, h1, rfl, HROW.out.eq_ (sort_one xs h1).symm, HB2.out⟩
  case round =>
    obtain ⟨i, hi1, hi2, rfl, hr, hb⟩ := hrel
    have HR := Lib.hid hr
    have HB := Lib.hid hb
    clear hr hb HROW HB2
    have hi0 : (0 : Int) ≤ (i : Int) := Int.natCast_nonneg _
    by_cases hlt : i < xs.length
    · have hil : (i : Int) < (xs.length : Int) := by omega
      have HPL : Hid ((srtJ (xs.take i)).length = i) := Lib.hid (by rw [(srtJ_perm _).length_eq]; simp; omega)
      have HNX := Lib.hid (fun k => ins_next xs i k hlt)
      have HTOP := Lib.hid (HR.out.eq_ (sort_top xs i hlt))
      have HTL : Hid ((xs.drop (i + 1)).length + (i + 1) = xs.length) := Lib.hid (by simp; omega)
      clear HR
      generalize srtJ (xs.take i) = P at HPL HNX HTOP
      generalize xs.getD i 0 = x at HNX HTOP
      generalize hT : xs.drop (i + 1) = T at HNX HTOP HTL
      have HT := Lib.hid hT
      clear hT
      go_wp2
      go_loopw [5] (fun kv w' => ∃ k : Nat, k ≤ i ∧ kv = .int .i64 k ∧ PreR w' (w.heap.size + 1) (insS P x T k) rest ∧ (∀ y ∈ P.drop k, x < y) ∧ Below w.heap.size w w') (fun kv _ => (intOf kv).toNat)
      case atStart => exact ⟨i, Nat.le_refl _, rfl, HTOP.out, by rw [List.drop_of_length_le (by rw [HPL.out]; omega)]; simp, HB.out⟩
      case round =>
        obtain ⟨k, hk, rfl, hr, hgt, hb⟩ := hrel
        have HR := Lib.hid hr
        have HB3 := Lib.hid hb
        have HGT := Lib.hid hgt
        clear hr hb hgt HTOP HB
        rcases Nat.eq_zero_or_pos k with hk0 | hk0
        · subst hk0
          have hg0 : decide ((0 : Int) < ((0 : Nat) : Int)) = false := rfl
          go_wp2
          go_quiet (fail)
          go_wp2
          go_round
          case rel => exact ⟨i + 1, by omega, by omega, by go_num, (HR.out.eq_ ((HNX.out 0 (Nat.zero_le _) HGT.out (.inl rfl)).trans (by rw [HT.out]))).drewN _, belowJ HB3.out _⟩
          case measure => simp [intOf]; omega
        · obtain ⟨m, rfl⟩ : ∃ m, k = m + 1 := ⟨k - 1, by omega⟩
          have hlen : (insS P x T (m + 1)).length = xs.length := by rw [insS_len, HPL.out]; have := HTL.out; omega
          have hc1 := HR.out.cell (j := m + 1) (by omega)
          have hc0 := HR.out.cell (j := m) (by omega)
          rw [insS_at P x T (m + 1) (by rw [HPL.out]; omega)] at hc1
          rw [insS_below P x T m (by rw [HPL.out]; omega)] at hc0
          have hf1 := HR.out.frozen (m + 1)
          have hf0 := HR.out.frozen m
          have hp1 : (0 : Int) < ((m + 1 : Nat) : Int) := by omega
          have hd1 : decide ((0 : Int) < ((m + 1 : Nat) : Int)) = true := decide_eq_true hp1
          have hp2 : ((m + 1 : Nat) : Int) < (xs.length : Int) := by omega
          have hp3 : (0 : Int) ≤ ((m + 1 : Nat) : Int) := by omega
          have hw1 : IntKind.i64.wrap (((m + 1 : Nat) : Int) - 1) = (m : Int) := by rw [IntWalk.i64_in _ (by omega)]; omega
          have hp4 : (0 : Int) ≤ (m : Int) := Int.natCast_nonneg _
          have hp5 : (m : Int) < (xs.length : Int) := by omega
          have hmx : m ≤ xs.length := by omega
          by_cases hxy : x < P.getD m 0
          · have HSW := Lib.hid (fun n => ((HR.out.drewN n).set (k := m + 1) (by omega) (P.getD m 0)).set (k := m) (by simp; omega) x)
            have HSE := Lib.hid (insS_swap P x T m (by rw [HPL.out]; omega))
            have HGT2 : Hid (∀ y ∈ P.drop m, x < y) := Lib.hid (fun y hy => by
              rw [List.drop_eq_getElem_cons (by rw [HPL.out]; omega)] at hy
              rcases List.mem_cons.1 hy with rfl | h
              · have : P.getD m 0 = P[m]'(by rw [HPL.out]; omega) := by simp [List.getD, List.getElem?_eq_getElem (show m < P.length by rw [HPL.out]; omega)]
                rw [← this]; exact hxy
              · exact HGT.out y h)
            generalize P.getD m 0 = y at hc0 hxy HSW HSE
            have hdx : decide (x < y) = true := decide_eq_true hxy
            clear hlen
            go_wp2
            go_quiet (fail)
            go_wp2
            go_region
            have HRS := Lib.hid ((HSW.out (nq + 1)).eq_ HSE.out)
            have HBS := Lib.hid (((belowJ HB3.out (nq + 1)).setCell (p := ⟨w.heap.size + 1, m + 1, none⟩) (by simp) (.int .i64 y)).setCell (p := ⟨w.heap.size + 1, m, none⟩) (by simp) (.int .i64 x))
            generalize hWS : ((wr.drewN (nq + 1)).setCell ⟨w.heap.size + 1, m + 1, none⟩ (.int .i64 y)).setCell ⟨w.heap.size + 1, m, none⟩ (.int .i64 x) = WS at HRS HBS ⊢
            clear hWS
            go_wp2
            go_round
            case rel => exact ⟨m, by omega, by go_num, HRS.out, HGT2.out, HBS.out⟩
            case measure => simp [intOf]
          · have HNX2 := Lib.hid (HNX.out (m + 1) hk HGT.out (.inr (by rw [Nat.add_sub_cancel]; omega)))
            generalize P.getD m 0 = y at hc0 hxy
            have hdx : decide (x < y) = false := decide_eq_false hxy
            clear hlen
            go_wp2
            go_quiet (fail)
            go_wp2
            exact ⟨⟨i + 1, by omega, by omega, by go_num, (HR.out.eq_ (HNX2.out.trans (by rw [HT.out]))).drewN _, belowJ HB3.out _⟩, by simp [intOf]; omega⟩
    · have hil : ¬ (i : Int) < (xs.length : Int) := by omega
      go_wp2
      go_ret
      exact ⟨w.heap.size + 1, cap, rfl, ⟨rest, HR.out.eq_ (sort_all xs i (by omega))⟩, by omega, hcap2, HB.out⟩
end Go.Proofs.YtpdbebjlghihmaaGreatDoor
