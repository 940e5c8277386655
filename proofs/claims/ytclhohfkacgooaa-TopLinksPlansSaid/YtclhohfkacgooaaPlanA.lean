/- planOf: the days of as many rounds as there are jobs, and whether the last one delayed a job. -/
import Derived.Test.YtclhohfkacgooaaCourC
import Derived.Test.YtclhohfkacgooaaPlanM
import Derived.Test.YtclhohfkacgooaaRowI
import Derived.Maps.Own
import Derived.Deep.QuietTactic
import Derived.BigQuiet
import Derived.StillTailTactics
import Derived.Deep.RegionLaw
import Derived.Deep.RegionHeld3
namespace Go.Proofs.Ytclhohfkacgooaa
open Go.RowKit Go.Maps PlanMath

/-- A slice's address under which conditions between jobs lie, in blocks below B. -/
def CondsR (w : World) (B : Nat) (A : Option Addr) (R : List Cond) : Prop :=
  ∀ j, j < R.length → ∃ a, A = some a ∧ a.block < B ∧ w.cell? (a.add (j * 3)) = some (.int .i64 ((R.getD j (0, 0, 0)).1 : Nat)) ∧
    w.cell? ⟨(a.add (j * 3)).block, (a.add (j * 3)).off + 1, none⟩ = some (.int .i64 ((R.getD j (0, 0, 0)).2.1 : Nat)) ∧
    w.cell? ⟨(a.add (j * 3)).block, (a.add (j * 3)).off + 2, none⟩ = some (.int .i64 (R.getD j (0, 0, 0)).2.2)
theorem CondsR.below {w w' : World} {B : Nat} {A : Option Addr} {R : List Cond} (h : CondsR w B A R) (hb : Below B w w') : CondsR w' B A R := fun j hj => by
  obtain ⟨a, h1, h2, h3, h4, h5⟩ := h j hj
  have hbl : (a.add (j * 3)).block < B := by rw [block_of_add]; exact h2
  exact ⟨a, h1, h2, (hb.cell hbl).trans h3, (hb.cell (p := ⟨_, _, none⟩) hbl).trans h4, (hb.cell (p := ⟨_, _, none⟩) hbl).trans h5⟩
theorem CondsR.mono {w : World} {B B' : Nat} {A : Option Addr} {R : List Cond} (h : CondsR w B A R) (hb : B ≤ B') : CondsR w B' A R := fun j hj => by
  obtain ⟨a, h1, h2, h3⟩ := h j hj
  exact ⟨a, h1, by omega, h3⟩

theorem getD_eq' {R : List Cond} {k : Nat} (h : k < R.length) {r : Cond} (hr : R.getD k (0, 0, 0) = r) : R[k] = r := by
  rw [← hr]; simp [List.getD, List.getElem?_eq_getElem h]
theorem rnd_take {R : List Cond} {d : List Int} {k : Nat} (h : k < R.length) (r : Cond) (hr : R.getD k (0, 0, 0) = r) : rnd (R.take (k + 1)) d = relax (rnd (R.take k) d) r := by
  rw [List.take_succ_eq_append_getElem h, getD_eq' h hr]
  simp [rnd]
theorem chg_append (R S : List Cond) (d : List Int) : chg (R ++ S) d = (chg R d || chg S (rnd R d)) := by
  induction R generalizing d with
  | nil => simp [chg, rnd]
  | cons r R ih =>
    simp only [List.cons_append, chg]
    rw [ih, Bool.or_assoc]
    rfl
theorem chg_take {R : List Cond} {d : List Int} {k : Nat} (h : k < R.length) (r : Cond) (hr : R.getD k (0, 0, 0) = r) :
    chg (R.take (k + 1)) d = (chg (R.take k) d || decide ((rnd (R.take k) d).getD r.2.1 0 < (rnd (R.take k) d).getD r.1 0 + r.2.2)) := by
  rw [List.take_succ_eq_append_getElem h, getD_eq' h hr, chg_append]
  simp [chg]
/-- Days stay below a bound that grows with each condition. -/
theorem relax_bound {n : Nat} {d : List Int} {r : Cond} {M : Int} (h : ∀ j, d.getD j 0 ≤ M) (h0 : ∀ j, 0 ≤ d.getD j 0) (hr : r.2.2 ≤ 10000) (ht : r.2.1 < d.length) :
    (∀ j, (relax d r).getD j 0 ≤ M + 10000) ∧ ∀ j, 0 ≤ (relax d r).getD j 0 := by
  unfold relax
  split
  · rename_i hlt
    refine ⟨fun j => ?_, fun j => ?_⟩
    · rw [getD_set _ _ _ _ ht]; split
      · have := h r.1; omega
      · have := h j; omega
    · rw [getD_set _ _ _ _ ht]; split
      · have := h0 r.2.1; omega
      · exact h0 j
  · exact ⟨fun j => by have := h j; omega, h0⟩

/-- What planOf hands back. -/
def PlanOut (n : Nat) (R : List Cond) (w : World) (e : Ending) (w' : World) : Prop :=
  ∃ g m last, e = .returned (.agg #[.slice (some ⟨g, 0, none⟩) n n, .map (some m), .int .i64 last, .bool (chg R (iter R (zeros n) (n - 1)))]) ∧
    RowI w' g (iter R (zeros n) n) ∧ w.heap.size ≤ g ∧ Below w.heap.size w w'

theorem keyInt : Keyed Try.prog 3 := int_keyed Try.underlying3

/-- The state of the plan p: its days, the map of causes with at most m entries, the job delayed last, whether jobs were delayed in this round. -/
def PS (w w' : World) (n m : Nat) (d : List Int) (last : Int) (fl : Bool) : Prop :=
  (∃ C : DataW Unit, w'.ownsMap Try.prog 3 (plainElem Try.prog 3) (w.heap.size + 1 + 1) m C) ∧
  BlkV w' w.heap.size 49 #[.slice none 0 0, .map none, .int .i64 0, .bool false] ∧
  BlkV w' (w.heap.size + 1 + 1 + 1) 49 #[.slice (some ⟨w.heap.size + 1, 0, none⟩) n n, .map (some (w.heap.size + 1 + 1)), .int .i64 last, .bool fl] ∧
  RowI w' (w.heap.size + 1) d ∧ Below w.heap.size w w' ∧ d.length = n ∧ ∀ i, 0 ≤ d.getD i 0 ∧ d.getD i 0 ≤ 10000 * (m : Int)

theorem grown_set (W : World) (b i : Nat) (v : Value) : W.grownBy (W.setCell ⟨b, i, none⟩ v) (some b) :=
  ⟨rfl, rfl, rfl, by simp [World.setCell], fun k _ hk => Below.heap_setCell _ _ _ k (fun e => hk (by rw [e]))⟩

section
variable {w W : World} {n m : Nat} {d : List Int} {last : Int} {fl : Bool}
theorem PS.alloc (h : PS w W n m d last fl) (O : Obj) : PS w (W.alloc O) n m d last fl := by
  obtain ⟨⟨C, hmap⟩, hb0, hb3, hrow, hbel, hdl, hbd⟩ := h
  exact ⟨⟨C, hmap.alloc O⟩, hb0.alloc O, hb3.alloc O, hrow.alloc O, hbel.alloc hbel.size O, hdl, hbd⟩
theorem PS.drewN (h : PS w W n m d last fl) (q : Nat) : PS w (W.drewN q) n m d last fl := by
  obtain ⟨⟨C, es, cl, hm, hm2⟩, hb0, hb3, hrow, hbel, hdl, hbd⟩ := h
  exact ⟨⟨C, es, cl, hm, hm2⟩, hb0, hb3, hrow, ⟨hbel.os, hbel.tape, hbel.output, hbel.size, hbel.block⟩, hdl, hbd⟩
theorem PS.mono (h : PS w W n m d last fl) {m' : Nat} (hm : m ≤ m') : PS w W n m' d last fl := by
  obtain ⟨⟨C, hmap⟩, hb0, hb3, hrow, hbel, hdl, hbd⟩ := h
  exact ⟨⟨C, hmap.mono hm⟩, hb0, hb3, hrow, hbel, hdl, fun i => by have := hbd i; omega⟩
theorem PS.flag (h : PS w W n m d last fl) (b : Bool) : PS w (W.setCell ⟨w.heap.size + 1 + 1 + 1, 3, none⟩ (.bool b)) n m d last b := by
  obtain ⟨⟨C, hmap⟩, hb0, hb3, hrow, hbel, hdl, hbd⟩ := h
  refine ⟨⟨C, hmap.kept (grown_set W (w.heap.size + 1 + 1 + 1) 3 _) (by simp)⟩, hb0.far (by simp; omega) _, ?_, hrow.far (by simp) _, hbel.setCell (by simp; omega) _, hdl, hbd⟩
  exact (hb3.set 3 _).trans rfl

/-- A job is delayed. -/
theorem PS.delay (h : PS w W n m d last fl) (t : Nat) (v : Int) (j : Nat) (ht : t < n) (hn : n ≤ 24) (hj : j ≤ 256) (hm : m < 1000000) (h0 : 0 ≤ v) (h1 : v ≤ 10000 * ((m + 1 : Nat) : Int)) :
    ∃ w3, (Instr.mapUpdate 47 (.map (some (w.heap.size + 1 + 1))) (.int .i64 (t : Int)) (.int .i64 (j : Int))).run Try.prog ((W.setCell ⟨w.heap.size + 1, t, none⟩ (.int .i64 v)).drew) = .ok () w3 ∧
      Hid (((W.setCell ⟨w.heap.size + 1, t, none⟩ (.int .i64 v)).drew).grownBy w3 (some (w.heap.size + 1 + 1))) ∧
      Hid (PS w (w3.setCell ⟨w.heap.size + 1 + 1 + 1, 2, none⟩ (.int .i64 (t : Int))) n (m + 1) (d.set t v) t fl) := by
  obtain ⟨⟨C, hmap⟩, hb0, hb3, hrow, hbel, hdl, hbd⟩ := h
  have hmap2 := (hmap.kept (grown_set W (w.heap.size + 1) t (.int .i64 v)) (by simp)).drew
  obtain ⟨w3, hrun, hown, hg⟩ := hmap2.update keyInt Try.underlying47 (by unfold maxLen; omega) (keyOf_int_mk Try.underlying3 (WalkArith.wf_i64 (show -9223372036854775808 ≤ (t : Int) ∧ (t : Int) ≤ 9223372036854775807 by omega))) (plainElem_int Try.underlying3 (WalkArith.wf_i64 (show -9223372036854775808 ≤ (j : Int) ∧ (j : Int) ≤ 9223372036854775807 by omega)))
  refine ⟨w3, hrun, Lib.hid hg, Lib.hid ⟨⟨_, hown.kept (grown_set w3 (w.heap.size + 1 + 1 + 1) 2 _) (by simp)⟩, ?_, ?_, ?_, ?_, by simpa using hdl, fun i => ?_⟩⟩
  · exact (((hb0.far (by simp) _).drew.grown hg (by simp; omega)).far (by simp; omega) _)
  · exact (((hb3.far (by simp; omega) _).drew.grown hg (by simp)).set 2 _).trans rfl
  · exact (((hrow.set t v).drew.grown hg (by simp)).far (by simp) _)
  · exact (((hbel.setCell (by simp) _).drew.grown hg (by have := hbel.size; simp [World.setCell]; omega) (fun k e => by cases e; omega)).setCell (by simp; omega) _)
  · rw [PlanMath.getD_set _ _ _ _ (by omega)]
    have := hbd i
    split <;> omega
theorem PS.start (w : World) (n : Nat) : PS w ((((w.alloc (.cells #[.slice none 0 0, .map none, .int .i64 0, .bool false] 49)).alloc (.cells (rowI (nils n)) 3)).alloc (.map #[] 0)).alloc
    (.cells #[.slice (some ⟨w.heap.size + 1, 0, none⟩) n n, .map (some (w.heap.size + 1 + 1)), .int .i64 0, .bool false] 49)) n 0 (zeros n) 0 false := by
  have s1 : (w.alloc (.cells #[.slice none 0 0, .map none, .int .i64 0, .bool false] 49)).heap.size = w.heap.size + 1 := World.size_alloc _ _
  have s2 : ((w.alloc (.cells #[.slice none 0 0, .map none, .int .i64 0, .bool false] 49)).alloc (.cells (rowI (nils n)) 3)).heap.size = w.heap.size + 1 + 1 := by rw [World.size_alloc, s1]
  have s3 : (((w.alloc (.cells #[.slice none 0 0, .map none, .int .i64 0, .bool false] 49)).alloc (.cells (rowI (nils n)) 3)).alloc (.map #[] 0)).heap.size = w.heap.size + 1 + 1 + 1 := by rw [World.size_alloc, s2]
  refine ⟨⟨.map [], ?_⟩, ?_, ?_, ?_, ?_, by simp [zeros], fun i => by rw [zeros_getD]; omega⟩
  · have := (World.ownsMap_made (H := Unit) ((w.alloc (.cells #[.slice none 0 0, .map none, .int .i64 0, .bool false] 49)).alloc (.cells (rowI (nils n)) 3)) Try.prog 3 (plainElem Try.prog 3))
    rw [s2] at this
    exact this.alloc _
  · exact (((BlkV.new w _ _).alloc _).alloc _).alloc _
  · have := BlkV.new (((w.alloc (.cells #[.slice none 0 0, .map none, .int .i64 0, .bool false] 49)).alloc (.cells (rowI (nils n)) 3)).alloc (.map #[] 0)) 49 #[.slice (some ⟨w.heap.size + 1, 0, none⟩) n n, .map (some (w.heap.size + 1 + 1)), .int .i64 0, .bool false]
    rw [s3] at this
    exact this
  · have := RowI.new (w.alloc (.cells #[.slice none 0 0, .map none, .int .i64 0, .bool false] 49)) (nils n)
    rw [s1] at this
    exact (this.alloc _).alloc _
  · exact ((((Below.refl _ w).alloc (Nat.le_refl _) _).alloc (by rw [s1]; omega) _).alloc (by rw [s2]; omega) _).alloc (by rw [s3]; omega) _

/-- What the walk reads and writes of the plan. -/
theorem PS.cells (h : PS w W n m d last fl) :
    W.cell? ⟨w.heap.size + 1 + 1 + 1, 0, none⟩ = some (.slice (some ⟨w.heap.size + 1, 0, none⟩) n n) ∧ W.cell? ⟨w.heap.size + 1 + 1 + 1, 1, none⟩ = some (.map (some (w.heap.size + 1 + 1))) ∧
    W.cell? ⟨w.heap.size + 1 + 1 + 1, 2, none⟩ = some (.int .i64 last) ∧ W.cell? ⟨w.heap.size + 1 + 1 + 1, 3, none⟩ = some (.bool fl) ∧
    (∀ i, W.frozen? ⟨w.heap.size + 1 + 1 + 1, i, none⟩ = false) ∧ (∀ i, W.frozen? ⟨w.heap.size + 1, i, none⟩ = false) ∧
    (∀ i, i < n → W.cell? ⟨w.heap.size + 1, i, none⟩ = some (.int .i64 (d.getD i 0))) ∧ w.heap.size + 1 + 1 + 1 < W.heap.size := by
  obtain ⟨_, hb0, hb3, hrow, hbel, hdl, hbd⟩ := h
  exact ⟨(hb3.cell 0).trans rfl, (hb3.cell 1).trans rfl, (hb3.cell 2).trans rfl, (hb3.cell 3).trans rfl, fun i => hb3.frozen i, fun i => hrow.frozen i, fun i hi => hrow.cell (by omega), hb3.lt⟩
end

set_option maxRecDepth 100000 in
set_option maxHeartbeats 1000000 in
theorem planOf_any (n : Nat) (A : Option Addr) (c B : Nat) (R : List Cond) (w : World) (h1 : 1 ≤ n) (h2 : n ≤ 24) (hl : R.length ≤ 256) (hv : Valid n R) (hB : B ≤ w.heap.size) (hr : CondsR w B A R) :
    Calls Try.prog 15 #[.int .i64 (n : Int), .slice A R.length c] w (PlanOut n R w) := by
  have HR := Lib.hid hr
  have HV := Lib.hid hv
  clear hr hv
  have hmm := @run_makeMap Try.prog
  have hmk := make_ints n (by omega)
  go_enter Try.func15, Try.ntmps15
  go_wp2
  go_loopw [14] (fun i w' => ∃ (k : Nat) (last : Int) (fl : Bool), k ≤ n ∧ i = .int .i64 k ∧ PS w w' n (k * 256) (iter R (zeros n) k) last fl ∧ (0 < k → fl = chg R (iter R (zeros n) (k - 1)))) (fun i _ => n - (intOf i).toNat)
  case atStart =>
    exact ⟨0, 0, false, Nat.zero_le _, rfl, PS.start w n, fun h => absurd h (by omega)⟩
  case round =>
    obtain ⟨k, last, fl, hk, rfl, hps, hfl⟩ := hrel
    have HFL := Lib.hid hfl
    clear hfl
    by_cases hlt : k < n
    · have hps' := hps
      obtain ⟨hmap, hb0, hb3, hrow, hbel, hdl, hbd⟩ := hps
      have q3 := hb3.cell 3
      have f3 := hb3.frozen 3
      simp only [List.getElem?_toArray, List.getElem?_cons_succ, List.getElem?_cons_zero] at q3
      have HPS := Lib.hid (show PS w (wr.setCell ⟨w.heap.size + 1 + 1 + 1, 3, none⟩ (.bool false)) n (k * 256) (iter R (zeros n) k) last false from hps'.flag false)
      clear hmap hb0 hb3 hrow hbel hdl hbd hps'
      go_wp2
      go_loopw [19] (fun i w' => ∃ (j : Nat) (last : Int), j ≤ R.length ∧ i = .int .i64 j ∧ PS w w' n (k * 256 + j) (rnd (R.take j) (iter R (zeros n) k)) last (chg (R.take j) (iter R (zeros n) k))) (fun i _ => R.length - (intOf i).toNat)
      case atStart => exact ⟨0, last, Nat.zero_le _, rfl, HPS.out⟩
      case round =>
        clear HPS q3 f3
        obtain ⟨j, last', hj, rfl, hps⟩ := hrel
        by_cases hjt : j < R.length
        · have HPSW := Lib.hid hps
          obtain ⟨q0, q1, q2, q3, _, _, qd, hs3⟩ := hps.cells
          obtain ⟨_, _, _, _, hbel, hdl, hbd⟩ := hps
          obtain ⟨a, rfl, hbl, c0, c1, c2⟩ := HR.out.below (hbel.mono hB) j hjt
          have HRT := Lib.hid (fun r h => rnd_take (d := iter R (zeros n) k) hjt r h)
          have HCT := Lib.hid (fun r h => chg_take (d := iter R (zeros n) k) hjt r h)
          generalize hpx : R.getD j (0, 0, 0) = px at c0 c1 c2
          have HMEM : Hid (px ∈ R) := by
            show px ∈ R
            rw [← hpx]; simp [List.getD, List.getElem?_eq_getElem hjt]
          obtain ⟨v1, v2, v3, v4⟩ := HV.out px HMEM.out
          obtain ⟨f, t, l⟩ := px
          simp only at v1 v2 v3 v4
          have HRT2 := Lib.hid (HRT.out _ hpx)
          have HCT2 := Lib.hid (HCT.out _ hpx)
          clear HRT HCT HMEM hpx hbl
          generalize hD : rnd (R.take j) (iter R (zeros n) k) = D at qd hdl hbd HRT2 HCT2 HPSW
          have HDD := Lib.hid hD
          clear hD
          have b1 := hbd f
          have b2 := hbd t
          have cf := qd f v1
          have ct := qd t v2
          clear qd hbd
          generalize hx : D.getD f 0 = x at cf b1
          generalize hy : D.getD t 0 = y at ct b2
          have HX := Lib.hid hx
          have HY := Lib.hid hy
          clear hx hy
          have hs1 : w.heap.size + 1 < wr.heap.size := by omega
          have r0 := fun (O : Obj) => (World.cell?_alloc_lt wr O ⟨w.heap.size + 1 + 1 + 1, 0, none⟩ hs3).trans q0
          have rf := fun (O : Obj) => (World.cell?_alloc_lt wr O ⟨w.heap.size + 1, f, none⟩ hs1).trans cf
          have rt := fun (O : Obj) => (World.cell?_alloc_lt wr O ⟨w.heap.size + 1, t, none⟩ hs1).trans ct
          have e1 : IntKind.i64.wrap (x + l) = x + l := IntWalk.i64_in _ (by omega)
          have fi : (f : Int) < (n : Int) := by omega
          have ti : (t : Int) < (n : Int) := by omega
          have HDL := Lib.hid hdl
          clear hdl hbel
          by_cases hc : y < x + l
          · go_wp2
            go_quiet (fail)
            go_wp2
            clear r0 rf rt q0 q1 q2 q3 cf ct c0 c1 c2
            have kr : ((wr.alloc (.cells #[.int .i64 (f : Int), .int .i64 (t : Int), .int .i64 l] 26)).drewN nq).cell? ⟨wr.heap.size, 1, none⟩ = some (.int .i64 (t : Int)) := (BlkV.new wr 26 #[.int .i64 (f : Int), .int .i64 (t : Int), .int .i64 l]).cell 1
            have HP1 := (HPSW.out.alloc (.cells #[.int .i64 (f : Int), .int .i64 (t : Int), .int .i64 l] 26)).drewN nq
            obtain ⟨W1, hW1⟩ : ∃ W1, World.drewN (wr.alloc (.cells #[.int .i64 (f : Int), .int .i64 (t : Int), .int .i64 l] 26)) nq = W1 := ⟨_, rfl⟩
            rw [hW1] at kr HP1 ⊢
            clear hW1 HPSW
            obtain ⟨w3, hup, HG, HP3⟩ := HP1.delay t (x + l) j v2 h2 (by omega) (by omega) (by omega) (by omega)
            obtain ⟨g0, g1, g2, g3, gf, gr, gd, gs⟩ := HP1.cells
            obtain ⟨z0, z1, z2, z3, zf, zr, zd, zs⟩ := HP3.out.cells
            have gt := gd t v2
            have grt := gr t
            have HX1 : Hid (Below W1.heap.size W1 ((W1.setCell ⟨w.heap.size + 1, t, none⟩ (.int .i64 (x + l))).drew) ∨ True) := .inr trivial
            clear HX1 gd gr z0 z1 z2 zr zd zs
            have far1 (p : Addr) (hp : p.block ≠ w.heap.size + 1) : ((W1.setCell ⟨w.heap.size + 1, t, none⟩ (.int .i64 (x + l))).drew).cell? p = W1.cell? p := World.cell?_of_block (Below.heap_setCell _ _ _ _ hp)
            have far2 (p : Addr) (hp : p.block ≠ w.heap.size + 1) (hp2 : p.block ≠ w.heap.size + 1 + 1) (hp3 : p.block < W1.heap.size) : w3.cell? p = W1.cell? p :=
              (World.cell?_of_block (HG.out.block p.block (by simp [World.setCell]; exact hp3) (fun e => hp2 (by injection e)))).trans (far1 p hp)
            have far3 (i : Nat) : w3.frozen? ⟨w.heap.size + 1 + 1 + 1, i, none⟩ = false :=
              ((World.frozen?_of_block (w := (W1.setCell ⟨w.heap.size + 1, t, none⟩ (.int .i64 (x + l))).drew) (HG.out.block (w.heap.size + 1 + 1 + 1) (by simp [World.setCell]; exact gs) (by simp))).trans (World.frozen?_setCell _ _ _ _)).trans (gf i)
            have kb := World.block_lt_of_cell? W1 _ kr
            have hrb : w.heap.size + 1 + 1 + 1 < wr.heap.size := hs3
            have SA := Lib.hid (show (W1.drew).cell? ⟨w.heap.size + 1 + 1 + 1, 0, none⟩ = some (.slice (some ⟨w.heap.size + 1, 0, none⟩) n n) ∧ (W1.drew).cell? ⟨w.heap.size + 1 + 1 + 1, 1, none⟩ = some (.map (some (w.heap.size + 1 + 1))) ∧ (W1.drew).cell? ⟨wr.heap.size, 1, none⟩ = some (.int .i64 (t : Int)) from ⟨g0, g1, kr⟩)
            have SB := Lib.hid (show ((W1.setCell ⟨w.heap.size + 1, t, none⟩ (.int .i64 (x + l))).drew).cell? ⟨w.heap.size + 1 + 1 + 1, 0, none⟩ = some (.slice (some ⟨w.heap.size + 1, 0, none⟩) n n) ∧ ((W1.setCell ⟨w.heap.size + 1, t, none⟩ (.int .i64 (x + l))).drew).cell? ⟨w.heap.size + 1 + 1 + 1, 1, none⟩ = some (.map (some (w.heap.size + 1 + 1))) ∧ ((W1.setCell ⟨w.heap.size + 1, t, none⟩ (.int .i64 (x + l))).drew).cell? ⟨wr.heap.size, 1, none⟩ = some (.int .i64 (t : Int)) from
              ⟨(far1 _ (by simp; omega)).trans g0, (far1 _ (by simp; omega)).trans g1, (far1 _ (by simp; omega)).trans kr⟩)
            have SC := Lib.hid (show w3.cell? ⟨w.heap.size + 1 + 1 + 1, 0, none⟩ = some (.slice (some ⟨w.heap.size + 1, 0, none⟩) n n) ∧ w3.cell? ⟨w.heap.size + 1 + 1 + 1, 1, none⟩ = some (.map (some (w.heap.size + 1 + 1))) ∧ w3.cell? ⟨wr.heap.size, 1, none⟩ = some (.int .i64 (t : Int)) from
              ⟨(far2 _ (by simp; omega) (by simp) gs).trans g0, (far2 _ (by simp; omega) (by simp) gs).trans g1, (far2 _ (by simp; omega) (by simp; omega) kb).trans kr⟩)
            have SD := Lib.hid (show (w3.setCell ⟨w.heap.size + 1 + 1 + 1, 2, none⟩ (.int .i64 (t : Int))).cell? ⟨w.heap.size + 1 + 1 + 1, 0, none⟩ = some (.slice (some ⟨w.heap.size + 1, 0, none⟩) n n) ∧ (w3.setCell ⟨w.heap.size + 1 + 1 + 1, 2, none⟩ (.int .i64 (t : Int))).cell? ⟨w.heap.size + 1 + 1 + 1, 1, none⟩ = some (.map (some (w.heap.size + 1 + 1))) ∧ (w3.setCell ⟨w.heap.size + 1 + 1 + 1, 2, none⟩ (.int .i64 (t : Int))).cell? ⟨wr.heap.size, 1, none⟩ = some (.int .i64 (t : Int)) from
              ⟨HP3.out.cells.1, HP3.out.cells.2.1, (World.cell?_setCell_other _ _ _ _ (by simp)).trans SC.out.2.2⟩)
            have l2 := (far2 ⟨w.heap.size + 1 + 1 + 1, 2, none⟩ (by simp; omega) (by simp) gs).trans g2
            have l2f := far3 2
            have z3f := zf 3
            clear far1 far2 far3 g0 g1 g2 g3 gf zf kr
            go_region_held3 (fun w' => w'.cell? ⟨w.heap.size + 1 + 1 + 1, 0, none⟩ = some (.slice (some ⟨w.heap.size + 1, 0, none⟩) n n) ∧ w'.cell? ⟨w.heap.size + 1 + 1 + 1, 1, none⟩ = some (.map (some (w.heap.size + 1 + 1))) ∧ w'.cell? ⟨wr.heap.size, 1, none⟩ = some (.int .i64 (t : Int)))
              ((first | assumption | exact SA.out | exact SB.out | exact SC.out | exact SD.out)) (fail)
            clear SA SB SC SD hup
            have HFIN := Lib.hid (HP3.out.flag true)
            go_wp2
            go_roundw
            case rel =>
              refine ⟨j + 1, t, by omega, by go_num, ?_⟩
              have h1' := HRT2.out
              have h2' := HCT2.out
              rw [h1', h2', ← Nat.add_assoc]
              have h3 : relax D (f, t, l) = D.set t (x + l) := by
                unfold relax; simp only; rw [HX.out, HY.out, if_pos hc]
              have h4 : (decide (D.getD t 0 < D.getD f 0 + l)) = true := by rw [HX.out, HY.out]; exact decide_eq_true hc
              rw [h3, h4, Bool.or_true]
              exact HFIN.out
            case measure => simp [intOf]; omega
          · go_wp2
            go_quiet (fail)
            go_wp2
            go_roundw
            case rel =>
              refine ⟨j + 1, last', by omega, by go_num, ?_⟩
              have h1' := HRT2.out
              have h2' := HCT2.out
              rw [h1', h2', ← Nat.add_assoc]
              have h3 : relax D (f, t, l) = D := by
                unfold relax; simp only; rw [HX.out, HY.out, if_neg (by omega)]
              have h4 : (decide (D.getD t 0 < D.getD f 0 + l)) = false := by rw [HX.out, HY.out]; exact decide_eq_false (by omega)
              rw [h3, h4, Bool.or_false]
              exact ((HPSW.out.alloc _).drewN _).mono (by omega)
            case measure => simp [intOf]; omega
        · have HPSW := Lib.hid hps
          clear hps
          have HJ := Lib.hid (show j = R.length by omega)
          go_wp2
          go_roundw
          case rel =>
            refine ⟨k + 1, last', chg (R.take j) (iter R (zeros n) k), by omega, by go_num, ?_, fun _ => ?_⟩
            · have := HPSW.out
              have hj' := HJ.out
              rw [List.take_of_length_le (by omega)] at this ⊢
              exact this.mono (by omega)
            · have hj' := HJ.out
              rw [List.take_of_length_le (by omega)]; rfl
          case measure => simp [intOf]; omega
    · obtain rfl : k = n := by omega
      have HPSW := Lib.hid hps
      obtain ⟨q0, q1, q2, q3, qf, _, _, hs3⟩ := hps.cells
      obtain ⟨hmap, hb0, hb3, hrow, hbel, hdl, hbd⟩ := hps
      have p0 := hb0.cell 0
      have p1 := hb0.cell 1
      have p2 := hb0.cell 2
      have p3 := hb0.cell 3
      have pf0 := hb0.frozen 0
      have pf1 := hb0.frozen 1
      have pf2 := hb0.frozen 2
      have pf3 := hb0.frozen 3
      simp only [List.getElem?_toArray, List.getElem?_cons_succ, List.getElem?_cons_zero] at p0 p1 p2 p3
      have HROW := Lib.hid hrow
      have HBEL := Lib.hid hbel
      clear hmap hb0 hb3 hrow hbel hdl hbd
      go_wp2
      refine bodyPost_ret (v := .agg #[.slice (some ⟨w.heap.size + 1, 0, none⟩) k k, .map (some (w.heap.size + 1 + 1)), .int .i64 last, .bool fl]) (by simp [results, Try.results15, go_sem, p0, p1, p2, p3]) rfl ⟨w.heap.size + 1, w.heap.size + 1 + 1, last, by rw [← HFL.out (by omega)], ?_, by omega, ?_⟩
      · exact (((HROW.out.far (by simp) _).far (by simp) _).far (by simp) _).far (by simp) _
      · exact (((HBEL.out.setCell (by simp) _).setCell (by simp) _).setCell (by simp) _).setCell (by simp) _

end Go.Proofs.Ytclhohfkacgooaa
