/- The iterator over a polygon's sides hands over each side with its number, in order. -/
import Derived.Test.YtclhohfkacgooaaPolyS
import Derived.Test.YtclhohfkacgooaaTailIn
namespace Go.Proofs.Ytclhohfkacgooaa
open Go.RowKit Go.Shelf

attribute [local go_sem] Oper.semAt_some

set_option maxRecDepth 100000 in
set_option maxHeartbeats 20000000 in
/-- The iterator, for every loop body that keeps what lay below n₀. -/
theorem sides1_in (n : Nat) (hn : 1 ≤ n) (l Bs n₀ : Nat) (A : Option Addr) (c : Nat) (ps : List Pl) (h64 : ps.length ≤ 64) (hin : ∀ p ∈ ps, In 1000000 p)
    (J Jx : List SdX → World → Prop) (hJab : ∀ pre W W', J pre W → W.grownBy W' none → J pre W')
    (hY : ∀ pre x W, J pre W → pre.length < ps.length → YieldAt Fence.wide (n - 1) Try.prog l (encX x) W fun e W' =>
      (e = .returned (.bool true) ∧ J (pre ++ [x]) W' ∧ KeepS n₀ Bs W W') ∨ (e = .returned (.bool false) ∧ Jx (pre ++ [x]) W'))
    (W : World) (hBs : W.cell? ⟨Bs, 0, none⟩ = some (.slice A ps.length c)) (hn₀ : n₀ ≤ W.heap.size) (hp : PlacesR W n₀ A ps) (h0 : J [] W) :
    CallsIn Fence.wide n Try.prog 35 #[.func (.yield l) #[] #[], .pointer (some ⟨Bs, 0, none⟩)] W fun e W' => (∃ v, e = .returned v) ∧
      ((∃ ys, ys.map (·.1) = numbered ps ps.length ∧ J ys W') ∨ (∃ pre, pre.map (·.1) <+: numbered ps ps.length ∧ Jx pre W')) := by
  have HY := Lib.hid hY
  have HP := Lib.hid hp
  clear hp hY
  refine callsIn_of_wp Try.func35 rfl trivial ?_ rfl
  simp only [Try.ntmps35, List.size_toArray, List.length_cons, List.length_nil, Nat.reduceAdd, Nat.reduceSub, Array.replicate_succ, Array.replicate_zero, List.push_toArray, List.append_toArray, List.nil_append, List.cons_append]
  gi_wp2
  gi_loopw [7] (fun i wr => ∃ (k : Nat) (pre : List SdX), k ≤ ps.length ∧ i = .int .i64 k ∧ pre.map (·.1) = numbered ps k ∧ J pre wr ∧ KeepS n₀ Bs W wr) (fun i _ => ps.length - (intOf i).toNat)
  case atStart => exact ⟨0, [], Nat.zero_le _, rfl, rfl, h0, keepS_refl _ _ _⟩
  case round =>
    obtain ⟨k, pre, hk, rfl, hpre, hJs, hnx⟩ := hrel
    by_cases hlt : k < ps.length
    · have hbs := hnx.2 _ hBs
      obtain ⟨m, hm⟩ : ∃ m, m = (k + 1) % ps.length := ⟨_, rfl⟩
      have hml : m < ps.length := by rw [hm]; exact Nat.mod_lt _ (by omega)
      have HP2 := HP.out.below hnx.1
      obtain ⟨a, rfl, hab, c0, c1⟩ := HP2 k hlt
      obtain ⟨a', he, _, d0, d1⟩ := HP2 m hml
      obtain rfl : a = a' := by injection he
      have hmi : ((k : Int) + 1).tmod (ps.length : Int) = (m : Int) := by rw [hm]; rfl
      have hmi2 : ((k : Int) + 1) % (ps.length : Int) = (m : Int) := by rw [hm]; rfl
      have HM := Lib.hid hm
      have hsz := hnx.1.size
      clear hm he HP2
      obtain ⟨p1, hp1⟩ : ∃ p1, ps.getD k (0, 0) = p1 := ⟨_, rfl⟩
      obtain ⟨p2, hp2⟩ : ∃ p2, ps.getD m (0, 0) = p2 := ⟨_, rfl⟩
      rw [hp1] at c0 c1
      rw [hp2] at d0 d1
      have HP1 := Lib.hid hp1
      have HP2 := Lib.hid hp2
      clear hp1 hp2
      have hab1 : (a.add (m * 2)).block < wr.heap.size := by rw [block_of_add]; omega
      have hB0 : Bs < wr.heap.size := by obtain ⟨o, ho, _⟩ := cells_of_cell hbs; exact (Array.getElem?_eq_some_iff.1 ho).1
      have r0 := fun (O : Obj) => (World.cell?_alloc_lt wr O ⟨Bs, 0, none⟩ hB0).trans hbs
      have r1 := fun (O : Obj) => (World.cell?_alloc_lt wr O (a.add (m * 2)) hab1).trans d0
      have r2 := fun (O : Obj) => (World.cell?_alloc_lt wr O ⟨(a.add (m * 2)).block, (a.add (m * 2)).off + 1, none⟩ hab1).trans d1
      have hmb : (m : Int) < (ps.length : Int) := by omega
      have hl0 : ((ps.length : Int) == 0) = false := by rw [beq_eq_false_iff_ne]; omega
      have hl1 : ¬ (ps.length : Int) = 0 := by omega
      have hl2 : ¬ ps = [] := fun e => by subst e; simp at hlt
      have hw : IntKind.i64.wrap ((k : Int) + 1) = (k : Int) + 1 := IntWalk.i64_in _ (by omega)
      have hw2 : IntKind.i64.wrap (m : Int) = (m : Int) := IntWalk.i64_in _ (by omega)
      have hi1 : In 1000000 p1 := by rw [← HP1.out]; exact hin _ (by simp [List.getD, List.getElem?_eq_getElem hlt])
      have hi2 : In 1000000 p2 := by rw [← HP2.out]; exact hin _ (by simp [List.getD, List.getElem?_eq_getElem hml])
      have HJ1 := hJab _ _ ((wr.alloc (.cells #[.int .i64 p1.1, .int .i64 p1.2] 40)).drew) hJs ⟨rfl, rfl, rfl, by simp, fun b hb _ => Below.heap_alloc _ _ _ hb⟩
      obtain ⟨X, hX⟩ : ∃ X : SdX, X.1 = (k, (p1, p2)) := ⟨⟨(k, (p1, p2)), by omega, hi1, hi2⟩, rfl⟩
      have henc : encX X = #[.int .i64 (k : Int), .agg #[.int .i64 p1.1, .int .i64 p1.2, .int .i64 p2.1, .int .i64 p2.2]] := by simp only [encX, sdV, hX]
      obtain ⟨fn, tmps, assign, body, hy, hR⟩ := HY.out pre X _ HJ1 (by have := congrArg List.length hpre; simp [numbered_length] at this; omega)
      rw [henc] at hy
      have HX := Lib.hid hX
      have HRR := Lib.hid (hR.mono (R' := fun e W' => ∃ b : Bool, e = .returned (.bool b) ∧ Hid ((b = true ∧ J (pre ++ [X]) W' ∧ KeepS n₀ Bs ((wr.alloc (.cells #[.int .i64 p1.1, .int .i64 p1.2] 40)).drew) W') ∨ (b = false ∧ Jx (pre ++ [X]) W'))) (by
        rintro e W' (⟨rfl, h1, h2⟩ | ⟨rfl, h1⟩)
        · exact ⟨true, rfl, .inl ⟨rfl, h1, h2⟩⟩
        · exact ⟨false, rfl, .inr ⟨rfl, h1⟩⟩))
      have HNX := Lib.hid hnx
      have HPRE := Lib.hid hpre
      clear hR henc hX hi1 hi2 HJ1 hnx hpre hJs hBs hbs d0 d1 hJab hin h0 HP hab
      gi_wp2
      clear c0 c1
      refine region_tail_in 12 (by kernel_rfl) (by kernel_rfl) ?_
      simp only [List.take_succ_cons, List.take_zero, List.drop_succ_cons, List.drop_zero]
      iterate 12 still_step
      refine wpStill_nil ?_
      gi_wp2
      refine HRR.out.mono ?_
      rintro e W3 ⟨b, rfl, hbb⟩
      rcases hbb.out with ⟨rfl, hJ3, hk3⟩ | ⟨rfl, hJx3⟩
      · gi_wp2
        go_roundw
        case rel =>
          refine ⟨k + 1, pre ++ [X], by omega, by go_num, ?_, hJ3, ?_⟩
          · rw [List.map_append, HPRE.out, numbered_succ]
            simp only [List.map_cons, List.map_nil]
            rw [HX.out]
            unfold sideOf
            rw [HP1.out, ← HM.out, HP2.out]
          · exact keepS_t HNX.out (keepS_t (keepS_t (keepS_alloc (Nat.le_trans hn₀ hsz) _) ⟨(Below.refl _ _).drew, fun _ h => h⟩) hk3)
        case measure => simp [intOf]; omega
      · gi_wp2
        refine bodyPost_ret (results_none rfl _ _ _) rfl ?_
        refine ⟨⟨_, rfl⟩, .inr ⟨pre ++ [X], ?_, hJx3⟩⟩
        rw [List.map_append, HPRE.out]
        have := numbered_prefix ps (show k + 1 ≤ ps.length by omega)
        rw [numbered_succ] at this
        simp only [List.map_cons, List.map_nil]
        rw [HX.out]
        unfold sideOf at this
        rwa [HP1.out, ← HM.out, HP2.out] at this
    · obtain rfl : k = ps.length := by omega
      gi_wp2
      go_end0
      exact ⟨⟨_, rfl⟩, .inl ⟨pre, hpre, hJs⟩⟩

theorem sidesLaw : SidesLaw := fun n hn Bs n₀ A c ps w h64 hin hBs hn₀ hc hp l J Jx W hW hJ _ hY h0 =>
  sides1_in n hn l Bs n₀ A c ps h64 hin J Jx (fun pre W W' h hg => hJ pre W W' none h hg (fun r e => by cases e)) hY W ((hW.cell (p := ⟨Bs, 0, none⟩) hBs).trans hc) (Nat.le_trans hn₀ hW.size) (hp.below (hW.mono hn₀)) h0

end Go.Proofs.Ytclhohfkacgooaa
