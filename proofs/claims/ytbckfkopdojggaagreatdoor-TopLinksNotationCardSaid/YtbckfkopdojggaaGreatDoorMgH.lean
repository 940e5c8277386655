/- Merged: FrDC FrDD. -/
import Derived.Test.YtbckfkopdojggaaGreatDoorMgF
import Derived.Test.YtbckfkopdojggaaGreatDoorShelf
import Derived.Outline
/- slices.Values, slices.Collect. -/
set_option linter.unusedVariables false
set_option linter.unusedSimpArgs false
namespace Go.Proofs.YtbckfkopdojggaaGreatDoor
open Go.RowKit Go.Shelf

attribute [local go_sem] Oper.semAt_some

set_option maxHeartbeats 400000 in
theorem values_any (A : Option Addr) (n c : Nat) (w : World) :
    Calls Tryz.prog 94 #[.slice A n c] w fun e w' => e = .returned (.func (.func 156) #[] #[.pointer (some ⟨w.heap.size, 0, none⟩)]) ∧ w.alloc (.cells #[.slice A n c] 35) = w' := by
  go_enter Tryz.func94, Tryz.ntmps94
  go_wp2
  go_ret
  exact ⟨rfl, rfl⟩

set_option maxRecDepth 100000 in
set_option maxHeartbeats 20000000 in
/-- The iterator over a slice of numbers, for every loop body that keeps what lay below n₀. -/
theorem values1_in (n : Nat) (hn : 1 ≤ n) (l Ba n₀ : Nat) (A : Option Addr) (c : Nat) (xs : List Int) (h64 : xs.length ≤ 100000)
    (J Jx : List Int → World → Prop)
    (hY : ∀ pre x W, J pre W → pre.length < xs.length → YieldAt Fence.wide (n - 1) Tryz.prog l #[.int .i64 x] W fun e W' =>
      (e = .returned (.bool true) ∧ J (pre ++ [x]) W' ∧ Below n₀ W W') ∨ (e = .returned (.bool false) ∧ Jx (pre ++ [x]) W'))
    (W : World) (hBa : W.cell? ⟨Ba, 0, none⟩ = some (.slice A xs.length c)) (hpa : IntsAt W n₀ A xs) (h0 : J [] W) :
    CallsIn Fence.wide n Tryz.prog 156 #[.func (.yield l) #[] #[], .pointer (some ⟨Ba, 0, none⟩)] W fun e W' => (∃ v, e = .returned v) ∧
      ((∃ ys, ys = xs ∧ J ys W') ∨ (∃ pre, pre <+: xs ∧ Jx pre W')) := by
  have HY := Lib.hid hY
  have HPA := Lib.hid hpa
  clear hpa hY
  refine callsIn_of_wp Tryz.func156 rfl trivial ?_ rfl
  simp only [Tryz.ntmps156, List.size_toArray, List.length_cons, List.length_nil, Nat.reduceAdd, Nat.reduceSub, Array.replicate_succ, Array.replicate_zero, List.push_toArray, List.append_toArray, List.nil_append, List.cons_append]
  gi_wp2
  gi_loopw [7] (fun i wr => ∃ k : Nat, k ≤ xs.length ∧ i = .int .i64 k ∧ J (xs.take k) wr ∧ Below n₀ W wr) (fun i _ => xs.length - (intOf i).toNat)
  case atStart => exact ⟨0, Nat.zero_le _, rfl, h0, Below.refl _ _⟩
  case round =>
    obtain ⟨k, hk, rfl, hJs, hnx⟩ := hrel
    by_cases hlt : k < xs.length
    · obtain ⟨a, rfl, hab1, c0⟩ := (HPA.out.below hnx) k hlt
      have HTK : Hid (xs.take (k + 1) = xs.take k ++ [xs.getD k 0]) := Lib.hid (by
        rw [List.take_succ_eq_append_getElem hlt]; simp [List.getD, List.getElem?_eq_getElem hlt])
      have HPF : Hid (xs.take (k + 1) <+: xs) := Lib.hid (List.take_prefix _ _)
      generalize xs.getD k 0 = x at c0 HTK
      obtain ⟨fn, tmps, assign, body, hy, hR⟩ := HY.out (xs.take k) x _ hJs (by rw [List.length_take]; omega)
      have HRR := Lib.hid (hR.mono (R' := fun e W' => ∃ b : Bool, e = .returned (.bool b) ∧ Hid ((b = true ∧ J (xs.take k ++ [x]) W' ∧ Below n₀ wr W') ∨ (b = false ∧ Jx (xs.take k ++ [x]) W'))) (by
        rintro e W' (⟨rfl, h1, h2⟩ | ⟨rfl, h1⟩)
        · exact ⟨true, rfl, .inl ⟨rfl, h1, h2⟩⟩
        · exact ⟨false, rfl, .inr ⟨rfl, h1⟩⟩))
      have HNX := Lib.hid hnx
      clear hR hnx hJs hBa h0 HPA
      gi_wp2
      refine HRR.out.mono ?_
      rintro e W3 ⟨b, rfl, hbb⟩
      rcases hbb.out with ⟨rfl, hJ3, hk3⟩ | ⟨rfl, hJx3⟩
      · gi_wp2
        go_roundw
        case rel => exact ⟨k + 1, by omega, by go_num, by rw [HTK.out]; exact hJ3, HNX.out.trans hk3⟩
        case measure => simp [intOf]; omega
      · gi_wp2
        refine bodyPost_ret (results_none rfl _ _ _) rfl ?_
        exact ⟨⟨_, rfl⟩, .inr ⟨_, by have := HPF.out; rw [HTK.out] at this; exact this, hJx3⟩⟩
    · have hfull : xs.take k = xs := List.take_of_length_le (by omega)
      rw [hfull] at hJs
      clear hfull
      gi_wp2
      go_end0
      exact ⟨⟨_, rfl⟩, .inl ⟨xs, rfl, hJs⟩⟩

theorem valuesLaw (n : Nat) (hn : 1 ≤ n) (Ba n₀ : Nat) (A : Option Addr) (c : Nat) (xs : List Int) (w : World) (h64 : xs.length ≤ 100000)
    (hBa : w.cell? ⟨Ba, 0, none⟩ = some (.slice A xs.length c)) (hn₀ : n₀ ≤ w.heap.size) (hpa : IntsAt w n₀ A xs) :
    SeqStopsK Fence.wide n Tryz.prog 156 #[.pointer (some ⟨Ba, 0, none⟩)] (fun x : Int => #[.int .i64 x]) (Below n₀) (fun ys => ys = xs) (fun pre => pre <+: xs) xs.length w :=
  fun l J Jx W hW hJ _ hY h0 => values1_in n hn l Ba n₀ A c xs h64 J Jx hY W ((hW.cell (p := ⟨Ba, 0, none⟩) (cell_lt hBa)).trans hBa) (hpa.below (hW.mono hn₀)) h0

end Go.Proofs.YtbckfkopdojggaaGreatDoor

/- slices.AppendSeq, slices.Collect of the numbers of a slice. -/
namespace Go.Proofs.YtbckfkopdojggaaGreatDoor
open Go.RowKit Go.Shelf

attribute [local go_sem] Oper.semAt_some

/-- The slice value v owns these numbers. -/
def NumOwn (w : World) (base : Nat) (v : Value) (xs : List Int) : Prop := w.ownsRow base 3 1 v xs.length (xs.map (Value.int .i64))
theorem NumOwn.turn {w w' : World} {base : Nat} {v : Value} {xs : List Int} (h : NumOwn w base v xs) {row : Option Nat} (hg : w.grownBy w' row) (hr : ∀ r, row = some r → ∃ o : Obj, w.heap[r]? = some o ∧ o.isCells = false) : NumOwn w' base v xs := by
  refine World.ownsRow.kept h hg ?_
  rcases h.2 with ⟨rfl, _⟩ | ⟨g, cap, cur, rfl, _, hgb, _⟩
  · exact .inl rfl
  · refine .inr fun e => ?_
    obtain ⟨o, ho, hc⟩ := hr g e.symm
    rw [hgb] at ho; cases ho; cases hc
theorem NumOwn.far {w : World} {base : Nat} {v : Value} {xs : List Int} (h : NumOwn w base v xs) {p : Addr} (hp : p.block < base) (u : Value) : NumOwn (w.setCell p u) base v xs := by
  refine ⟨h.1, ?_⟩
  rcases h.2 with hn | ⟨g, cap, cur, e1, e2, e3, rest⟩
  · exact .inl hn
  · exact .inr ⟨g, cap, cur, e1, e2, (Below.heap_setCell w p u g (by omega)).trans e3, rest⟩
def GotNums (b : Nat) (pre : List Int) (W : World) : Prop := ∃ v, BlkV W b 35 #[v] ∧ NumOwn W (b + 1) v pre
theorem gotNums_own (b : Nat) : Own (GotNums b) := fun pre X Y row h hg hr => by
  obtain ⟨v, h1, h2⟩ := h
  exact ⟨v, h1.turn hg hr, h2.turn hg hr⟩

/-- Numbers as a slice of the call's own. -/
def NumsOut (xs : List Int) (w : World) (e : Ending) (w' : World) : Prop :=
  ∃ A c, e = .returned (.slice A xs.length c) ∧ NumOwn w' w.heap.size (.slice A xs.length c) xs ∧ Below w.heap.size w w'

set_option maxRecDepth 100000 in
set_option maxHeartbeats 8000000 in
theorem appendSeq_any (Ba : Nat) (A : Option Addr) (c : Nat) (xs : List Int) (w : World) (h64 : xs.length ≤ 100000) (hBa : w.cell? ⟨Ba, 0, none⟩ = some (.slice A xs.length c)) (hpa : IntsAt w w.heap.size A xs) :
    Calls Tryz.prog 184 #[.slice none 0 0, .func (.func 156) #[] #[.pointer (some ⟨Ba, 0, none⟩)]] w (NumsOut xs w) := by
  refine (callsIn_wide (n := 9)).1 ?_
  refine callsIn_of_wp_marks Tryz.func184 rfl trivial ?_ rfl
  simp only [Tryz.ntmps184, List.size_toArray, List.length_cons, List.length_nil, Nat.reduceAdd, Nat.reduceSub, Array.replicate_succ, Array.replicate_zero, List.push_toArray, List.append_toArray, List.nil_append, List.cons_append]
  have HPA := Lib.hid hpa
  have hBt := cell_lt hBa
  clear hpa
  gi_wp2
  obtain ⟨W0, hW0⟩ : ∃ W0, w.alloc (.cells #[.slice none 0 0] 35) = W0 := ⟨_, rfl⟩
  rw [hW0]
  obtain ⟨a1, hB0, hsz⟩ := one_alloc w _ _ hW0
  have HSZ := Lib.hid hsz
  clear hW0 hsz
  refine wpIn_rangeFunc_ownH rfl (by omega) (gf := 156) (lb := #[.pointer (some ⟨Ba, 0, none⟩)]) rfl trivial (enters_of Tryz.func156 (by kernel_rfl) rfl)
    (valuesLaw _ (by omega) Ba w.heap.size A c xs W0 h64 ((hB0.cell (p := ⟨Ba, 0, none⟩) hBt).trans hBa) (by have := HSZ.out; omega) (HPA.out.below hB0)) (fun h k => h.trans k) (belowK_b (by have := HSZ.out; omega)) (Below.refl _ _) (fun _ => rfl)
    (fun pre W => GotNums w.heap.size pre W ∧ Below w.heap.size w W)
    (fun _ _ _ => False)
    (OwnFrom.and (Own.from (gotNums_own _) _) (ownFrom_below (Nat.le_refl _) (by have := HSZ.out; omega)))
    (fun cc _ _ _ _ h _ _ => h)
    ⟨⟨_, a1, World.ownsRow_nil _ _ _ _⟩, hB0⟩
    (fun x a' W => a' = { tmps := #[.slice none 0 0, .func (.func 156) #[] #[.pointer (some ⟨Ba, 0, none⟩)], .pointer (some ⟨w.heap.size, 0, none⟩), undef, .slice none 0 0, .int .i64 x, .func (.func 156) #[] #[.pointer (some ⟨Ba, 0, none⟩)], .int .i64 x, undef, undef, undef, undef, undef], defers := [] })
    (fun x a' _ X Y row hs hg hr => hs)
    ?assign ?body ?done ?stop
  case assign =>
    rintro l pre x W K ⟨hI, hB1⟩ hK
    gi_wp2
    exact hK _ _ ((KeepsOthers.refl _).from _) (Below.refl _ _) ⟨hI, hB1⟩ rfl
  case body =>
    rintro l pre x a' W hl ⟨r, hr⟩ ⟨⟨v, h1, h2⟩, hB1⟩ rfl hlt
    obtain ⟨i0, hi, hz0, hz1, hz2⟩ := info_parts info_int
    have hv : Boxed W w.heap.size 35 v := h1
    have c0 : W.cell? ⟨w.heap.size, 0, none⟩ = some v := h1.cell 0
    have HV := Lib.hid hv
    have HOWN := Lib.hid h2
    have HB1 := Lib.hid hB1
    have hsW := hB1.size
    clear h1 h2 hv hB1 hl hr
    generalize hQ2 : ownPostG _ _ _ _ _ _ = Q2
    have HQ := Lib.hid hQ2
    clear hQ2
    gi_wp2_with ((gi_at_builtin; go_loud (refine wpListIn_append_own _ rfl _ _ 35 rfl (w.heap.size + 1) 3 i0 _ 1 8 Tryz.underlying35 hi hz0 hz1 hz2 rfl (by decide) v pre.length _ rfl (HOWN.out.alloc _) ⟨W.heap.size, 0, none⟩ 1 1 [.int .i64 x] rfl rfl (World.news_of_block (heap_alloc_new _ _)) (by simp [Value.oneCell']) (by unfold maxLen; omega) (by omega) (by have := HV.out.lt; simp; omega) ?_; intro v' w1 hown' hgrow _; obtain ⟨g', cap', rfl⟩ := ownsRow_succ hown'; obtain ⟨hv1, hv2, hr2, hk2, hb2⟩ := HV.out.appended (n₀ := w.heap.size) (by decide) (ownsRow_base HOWN.out (Nat.le_succ _)) hsW (Nat.le_refl _) (ownsRow_base hown' (Nat.le_succ _)) hgrow; have hc1 := hv1.cell; have hf1 := hv1.frozen; have HOWN' := Lib.hid hown'; have HV2 := Lib.hid hv2; have HK2 := Lib.hid hk2; have HB2 := Lib.hid hb2; have HGR := Lib.hid hgrow; clear hown' hv2 hk2 hb2 hr2 hgrow)))
    rw [← HQ.out]
    refine ⟨HK2.out.from _, HB2.out, ⟨_, HV2.out, ?_⟩, HB1.out.trans HB2.out⟩
    have hn : NumOwn w1 (w.heap.size + 1) (.slice (some ⟨g', 0, none⟩) (pre.length + 1) cap') (pre ++ [x]) := by
      unfold NumOwn
      rw [List.map_append, List.length_append]
      exact HOWN'.out
    exact hn.far (p := ⟨w.heap.size, 0, none⟩) (by simp) _
  case done =>
    rintro D ys W hD hS ⟨⟨v, h1, h2⟩, hB1⟩ hK
    obtain ⟨A', c', rfl⟩ : ∃ A' c', v = .slice A' ys.length c' := by
      rcases h2.2 with ⟨rfl, h0⟩ | ⟨g, cap, cur, rfl, _⟩
      · exact ⟨none, 0, by rw [h0]⟩
      · exact ⟨_, _, rfl⟩
    have lc := h1.cell 0
    have HOWN := Lib.hid (h2.turn (grownBy_putObj' W D (.deferred none)) (fun r e => by cases e; exact ⟨_, hK, rfl⟩))
    have HB1 := Lib.hid hB1
    have HDD := Lib.hid hD
    have HS := Lib.hid hS
    clear h1 h2 hB1 hD hS
    gi_wp2
    refine ⟨by simp, .inl ⟨_, _, rfl, run_takeDeferred hK, ?_⟩⟩
    refine ⟨.slice A' ys.length c', ?_, A', c', by rw [HS.out], by rw [← HS.out]; exact ownsRow_base HOWN.out (Nat.le_succ _), HB1.out.trans (belowK_b (w := w) (Nat.le_refl _) W D _ _ (by have := HDD.out; have := HSZ.out; omega) hK rfl rfl)⟩
    simp [results, Tryz.f184, go_sem]
  case stop =>
    rintro D cc pre W hD _ h
    exact h.elim

set_option maxHeartbeats 400000 in
theorem collect_any (Ba : Nat) (A : Option Addr) (c : Nat) (xs : List Int) (w : World) (h64 : xs.length ≤ 100000) (hBa : w.cell? ⟨Ba, 0, none⟩ = some (.slice A xs.length c)) (hpa : IntsAt w w.heap.size A xs) :
    Calls Tryz.prog 154 #[.func (.func 156) #[] #[.pointer (some ⟨Ba, 0, none⟩)]] w (NumsOut xs w) := by
  have H := Lib.hid (appendSeq_any Ba A c xs w h64 hBa hpa)
  clear hpa
  go_enter Tryz.func154, Tryz.ntmps154
  go_wp2_with fail
  refine H.out.mono ?_; rintro e w1 ⟨A', c', rfl, ho, hb⟩
  have HO := Lib.hid ho
  have HB := Lib.hid hb
  clear ho hb
  go_wp2
  go_ret
  exact ⟨A', c', rfl, HO.out, HB.out⟩

end Go.Proofs.YtbckfkopdojggaaGreatDoor
