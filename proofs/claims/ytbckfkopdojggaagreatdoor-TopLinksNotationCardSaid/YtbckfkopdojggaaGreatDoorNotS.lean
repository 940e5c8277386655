/- slices.Chunk of entries, nine by nine: the iterator over the parts. -/
import Derived.Test.YtbckfkopdojggaaGreatDoorMgF
set_option linter.unusedVariables false
set_option linter.unusedSimpArgs false
namespace Go.Proofs.YtbckfkopdojggaaGreatDoor
open Go Go.RowKit Go.Shelf

attribute [local go_sem] Oper.semAt_some

set_option maxHeartbeats 1000000 in
theorem chunk_in (F : Fence) (n : Nat) (h5 : F.fn 65) (hro : F.round = none) (A : Option Addr) (m c : Nat) (w : World) :
    CallsIn F n Tryz.prog 65 #[.slice A m c, .int .i64 9] w fun e w' => e = .returned (.func (.func 115) #[] #[.pointer (some ⟨w.heap.size, 0, none⟩), .pointer (some ⟨w.heap.size + 1, 0, none⟩)]) ∧
      w' = (w.alloc (.cells #[.slice A m c] 51)).alloc (.cells #[.int .i64 9] 3) := by
  refine callsIn_of_wp Tryz.func65 rfl h5 ?_ hro
  simp only [Tryz.ntmps65, List.size_toArray, List.length_cons, List.length_nil, Nat.reduceAdd, Nat.reduceSub, Array.replicate_succ, Array.replicate_zero, List.push_toArray, List.append_toArray, List.nil_append, List.cons_append]
  gi_wp2
  go_ret
  exact ⟨rfl, rfl⟩

/-- How many elements a part has, and the part. -/
def partN (N k : Nat) : Nat := min 9 (N - 9 * k)
def encK (a : Addr) (N k : Nat) : Array Value := #[.slice (some (a.add (9 * k * 2))) (partN N k) (partN N k)]
theorem range_prefix {k m : Nat} (h : k ≤ m) : List.range k <+: List.range m := by
  obtain ⟨d, rfl⟩ : ∃ d, m = k + d := ⟨m - k, by omega⟩
  rw [List.range_add]
  exact List.prefix_append _ _

set_option maxRecDepth 100000 in
set_option maxHeartbeats 20000000 in
/-- The iterator, for every loop body that keeps what lay below n₀, and both boxes. -/
theorem chunk1_in (n : Nat) (hn : 1 ≤ n) (l Ba Bb n₀ : Nat) (a : Addr) (c N : Nat) (h64 : N ≤ 1000) (hc : N ≤ c)
    (J Jx : List Nat → World → Prop) (hJab : ∀ pre W W', J pre W → W.grownBy W' none → J pre W')
    (hY : ∀ pre x W, 9 * x < N → J pre W → pre.length < (N + 8) / 9 → YieldAt Fence.wide (n - 1) Tryz.prog l (encK a N x) W fun e W' =>
      (e = .returned (.bool true) ∧ J (pre ++ [x]) W' ∧ KeepD n₀ Ba Bb W W') ∨ (e = .returned (.bool false) ∧ Jx (pre ++ [x]) W'))
    (W : World) (hBa : W.cell? ⟨Ba, 0, none⟩ = some (.slice (some a) N c)) (hBb : W.cell? ⟨Bb, 0, none⟩ = some (.int .i64 9)) (h0 : J [] W) :
    CallsIn Fence.wide n Tryz.prog 115 #[.func (.yield l) #[] #[], .pointer (some ⟨Ba, 0, none⟩), .pointer (some ⟨Bb, 0, none⟩)] W fun e W' => (∃ v, e = .returned v) ∧
      ((∃ ys, ys = List.range ((N + 8) / 9) ∧ J ys W') ∨ (∃ pre, pre <+: List.range ((N + 8) / 9) ∧ Jx pre W')) := by
  have HY := Lib.hid hY
  have HC := Lib.hid hc
  clear hY hc
  refine callsIn_of_wp Tryz.func115 rfl trivial ?_ rfl
  simp only [Tryz.ntmps115, List.size_toArray, List.length_cons, List.length_nil, Nat.reduceAdd, Nat.reduceSub, Array.replicate_succ, Array.replicate_zero, List.push_toArray, List.append_toArray, List.nil_append, List.cons_append]
  gi_wp2
  gi_loopw [4] (fun i wr => ∃ k p : Nat, Hid (p = 9 * k) ∧ k ≤ (N + 8) / 9 ∧ i = .int .i64 (p : Int) ∧ Hid (J (List.range k) wr) ∧ KeepD n₀ Ba Bb W wr) (fun i _ => N + 9 - (intOf i).toNat)
  case atStart => exact ⟨0, 0, Lib.hid rfl, Nat.zero_le _, rfl, Lib.hid h0, keepD_refl _ _ _ _⟩
  case round =>
    obtain ⟨k, p, HP, hk, rfl, hJs, hnx⟩ := hrel
    have hp := HP.out
    by_cases hlt : p < N
    · have hba := hnx.2.1 _ hBa
      have hbn := hnx.2.2 _ hBb
      have HNX := Lib.hid hnx
      have hk2 : k < (N + 8) / 9 := by omega
      have hc := HC.out
      have hp0 : (0 : Int) ≤ (p : Int) := Int.natCast_nonneg _
      have hp1 : (p : Int) < (N : Int) := by omega
      have hp2 : (p : Int) ≤ (N : Int) := by omega
      have hc2 : (N : Int) ≤ (c : Int) := by omega
      obtain ⟨m, hm⟩ : ∃ m, partN N k = m := ⟨_, rfl⟩
      have hm2 : m = min 9 (N - p) := by rw [← hm, hp]; rfl
      have hcp : ¬ c = p := by omega
      obtain ⟨q, hq⟩ : ∃ q, q = p + m := ⟨_, rfl⟩
      have hwq : IntKind.i64.wrap ((p : Int) + (m : Int)) = (q : Int) := by rw [IntWalk.i64_in _ (by omega)]; omega
      have hw9 : IntKind.i64.wrap ((p : Int) + 9) = ((p + 9 : Nat) : Int) := by rw [IntWalk.i64_in _ (by omega)]; omega
      have hqN : (q : Int) ≤ (N : Int) := by omega
      have hpq : (p : Int) ≤ (q : Int) := by omega
      have hqc : (q : Int) ≤ (c : Int) := by omega
      have hJ1 : J (List.range k) wr.drew := hJab _ _ _ hJs.out ⟨rfl, rfl, rfl, by simp, fun b _ _ => rfl⟩
      obtain ⟨fn, tmps, assign, body, hy, hR⟩ := HY.out (List.range k) k _ (by omega) hJ1 (by rw [List.length_range]; exact hk2)
      have HRR := Lib.hid (hR.mono (R' := fun e W' => ∃ b : Bool, e = .returned (.bool b) ∧ Hid ((b = true ∧ J (List.range k ++ [k]) W' ∧ KeepD n₀ Ba Bb wr.drew W') ∨ (b = false ∧ Jx (List.range k ++ [k]) W'))) (by
        rintro e W' (⟨rfl, h1, h2⟩ | ⟨rfl, h1⟩)
        · exact ⟨true, rfl, .inl ⟨rfl, h1, h2⟩⟩
        · exact ⟨false, rfl, .inr ⟨rfl, h1⟩⟩))
      have henc : encK a N k = #[.slice (some (a.add (p * 2))) m m] := by unfold encK; rw [hm, hp]
      rw [henc] at hy
      clear hR henc hJ1 hnx hJs hBa hBb hJab h0 HC hm hp
      by_cases h9 : 9 ≤ N - p
      all_goals
        obtain rfl : m = _ := hm2.trans (by first | exact Nat.min_eq_left h9 | exact Nat.min_eq_right (by omega))
        clear hm2
        gi_wp2
        refine region_tail_in 6 (by kernel_rfl) (by kernel_rfl) ?_
        simp only [List.take_succ_cons, List.take_zero, List.drop_succ_cons, List.drop_zero]
        iterate 6 still_step
        refine wpStill_nil ?_
        gi_wp2
        refine HRR.out.mono ?_
        rintro e W3 ⟨b, rfl, hbb⟩
        rcases hbb.out with ⟨rfl, hJ3, hk3⟩ | ⟨rfl, hJx3⟩
        · have hbn3 : W3.cell? ⟨Bb, 0, none⟩ = some (.int .i64 9) := hk3.2.2 _ hbn
          gi_wp2
          go_roundw
          case rel => exact ⟨k + 1, p + 9, Lib.hid (by have := HP.out; omega), by omega, by go_num, Lib.hid (by rw [List.range_succ]; exact hJ3), keepD_t HNX.out (keepD_t ⟨(Below.refl _ _).drew, fun _ h => h, fun _ h => h⟩ hk3)⟩
          case measure => simp [intOf]; omega
        · gi_wp2
          refine bodyPost_ret (results_none rfl _ _ _) rfl ?_
          refine ⟨⟨_, rfl⟩, .inr ⟨_, ?_, hJx3⟩⟩
          have := range_prefix (show k + 1 ≤ (N + 8) / 9 by omega)
          rwa [List.range_succ] at this
    · obtain rfl : k = (N + 8) / 9 := by omega
      clear hp
      have hp1 : ¬ (p : Int) < (N : Int) := by omega
      have hba := hnx.2.1 _ hBa
      gi_wp2
      go_end0
      exact ⟨⟨_, rfl⟩, .inl hJs.out⟩

/-- The iterator's law. -/
theorem chunkLaw (n : Nat) (hn : 1 ≤ n) (Ba Bb n₀ : Nat) (a : Addr) (c N : Nat) (w : World) (h64 : N ≤ 1000) (hc : N ≤ c)
    (hBa : w.cell? ⟨Ba, 0, none⟩ = some (.slice (some a) N c)) (hBb : w.cell? ⟨Bb, 0, none⟩ = some (.int .i64 9)) :
    SeqStopsK Fence.wide n Tryz.prog 115 #[.pointer (some ⟨Ba, 0, none⟩), .pointer (some ⟨Bb, 0, none⟩)] (fun x : { k : Nat // 9 * k < N } => encK a N x.1) (KeepD n₀ Ba Bb) (fun ys => ys.map (·.1) = List.range ((N + 8) / 9)) (fun pre => pre.map (·.1) <+: List.range ((N + 8) / 9)) ((N + 8) / 9) w :=
  fun l J Jx W hW hJ _ hY h0 => by
    refine (chunk1_in n hn l Ba Bb n₀ a c N h64 hc (fun pre W => ∃ ps : List { k : Nat // 9 * k < N }, ps.map (·.1) = pre ∧ J ps W) (fun pre W => ∃ ps : List { k : Nat // 9 * k < N }, ps.map (·.1) = pre ∧ Jx ps W)
      (fun pre W W' ⟨ps, e, h⟩ hg => ⟨ps, e, hJ ps W W' none h hg (fun r e => by cases e)⟩)
      ?_ W ((hW.cell (p := ⟨Ba, 0, none⟩) (cell_lt hBa)).trans hBa) ((hW.cell (p := ⟨Bb, 0, none⟩) (cell_lt hBb)).trans hBb) ⟨[], rfl, h0⟩).mono ?_
    · rintro pre x W hx ⟨ps, rfl, h⟩ hl
      obtain ⟨fn, tmps, assign, body, hy, hR⟩ := hY ps ⟨x, hx⟩ W h (by simpa using hl)
      refine ⟨fn, tmps, assign, body, hy, hR.mono ?_⟩
      rintro e W' (⟨h1, h2, h3⟩ | ⟨h1, h2⟩)
      · exact .inl ⟨h1, ⟨ps ++ [⟨x, hx⟩], by simp, h2⟩, h3⟩
      · exact .inr ⟨h1, ⟨ps ++ [⟨x, hx⟩], by simp, h2⟩⟩
    · rintro e W' ⟨hv, ⟨ys, rfl, ps, e, h⟩ | ⟨pre, hp, ps, rfl, h⟩⟩
      · exact ⟨hv, .inl ⟨ps, e, h⟩⟩
      · exact ⟨hv, .inr ⟨ps, hp, h⟩⟩
end Go.Proofs.YtbckfkopdojggaaGreatDoor
