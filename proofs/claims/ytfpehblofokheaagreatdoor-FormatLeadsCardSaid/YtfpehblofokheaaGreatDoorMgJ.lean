/- Merged: FrDO FrDQ FrDR FrDS. -/
import Derived.Test.YtfpehblofokheaaGreatDoorMgG
import Derived.Test.YtfpehblofokheaaGreatDoorMgH
import Derived.Test.YtfpehblofokheaaGreatDoorMgC
import Derived.BigQuiet
import Derived.Deep.QuietTactic
import Derived.Outline
import Derived.Lib.OwnBridge
import Derived.Shelf.SlicesE.DeleteFunc
import Derived.Test.YtfpehblofokheaaGreatDoorShelf
import Derived.Laws.EntriesVeiled
/- A play-off: the closures, eachOf over players, the least number. -/
set_option linter.unusedVariables false
set_option linter.unusedSimpArgs false
namespace Go.Proofs.YtfpehblofokheaaGreatDoor
open Go.RowKit

/-- The strokes of a player on hole h. -/
def strokesV (ls : List (List Int)) (h : Nat) (x : Int) : Int := (ls.getD x.toNat []).getD h 0
/-- What a play-off has in memory: the lists' box, the lists, the hole's number. -/
structure PlayR (w : World) (bl bh : Nat) (A : Option Addr) (c : Nat) (ls : List (List Int)) (h : Nat) : Prop where
  box : w.cell? ⟨bl, 0, none⟩ = some (.slice A ls.length c)
  lists : ListsR w A ls
  hole : w.cell? ⟨bh, 0, none⟩ = some (.int .i64 h)
theorem PlayR.keep {w w' : World} {bl bh : Nat} {A : Option Addr} {c : Nat} {ls : List (List Int)} {h : Nat} (p : PlayR w bl bh A c ls h) (hb : Below w.heap.size w w') : PlayR w' bl bh A c ls h :=
  ⟨(hb.cell (p := ⟨bl, 0, none⟩) (cell_lt p.box)).trans p.box, p.lists.keep hb, (hb.cell (p := ⟨bh, 0, none⟩) (cell_lt p.hole)).trans p.hole⟩
theorem PlayR.drewN {w : World} {bl bh : Nat} {A : Option Addr} {c : Nat} {ls : List (List Int)} {h : Nat} (p : PlayR w bl bh A c ls h) (n : Nat) : PlayR (w.drewN n) bl bh A c ls h := p.keep (below_drewN (Below.refl _ _) n)

set_option maxRecDepth 100000 in
set_option maxHeartbeats 1000000 in
theorem playoff1_any (bl bh : Nat) (A : Option Addr) (c : Nat) (ls : List (List Int)) (h k : Nat) (w : World) (p : PlayR w bl bh A c ls h) (hk : k < ls.length) (hh : h < (ls.getD k []).length) :
    Calls Tryz.prog 96 #[.int .i64 (k : Int), .pointer (some ⟨bl, 0, none⟩), .pointer (some ⟨bh, 0, none⟩)] w fun e w' => e = .returned (.int .i64 (strokesV ls h k)) ∧ ∃ n, w' = w.drewN n := by
  obtain ⟨a, B, d, rfl, d0, _, _, hi⟩ := p.lists k hk
  obtain ⟨b, rfl, _, e0⟩ := hi h hh
  have hx := p.box
  have hy := p.hole
  have hk0 : (0 : Int) ≤ (k : Int) := Int.natCast_nonneg _
  have hk1 : (k : Int) < (ls.length : Int) := by omega
  have hh0 : (0 : Int) ≤ (h : Int) := Int.natCast_nonneg _
  have hh1 : (h : Int) < ((ls.getD k []).length : Int) := by omega
  have HV : Hid (strokesV ls h (k : Int) = (ls.getD k []).getD h 0) := Lib.hid rfl
  clear p hi hk hh
  generalize strokesV ls h (k : Int) = r at HV ⊢
  generalize (ls.getD k []).getD h 0 = v at HV e0
  generalize (ls.getD k []).length = m at d0 hh1
  go_enter Tryz.func96, Tryz.ntmps96
  go_wp2
  go_quiet (fail)
  go_wp2
  go_ret
  exact ⟨by rw [HV.out]; rfl, _, rfl⟩

set_option maxRecDepth 100000 in
set_option maxHeartbeats 4000000 in
theorem eachStrokes_any (B : Option Addr) (d bl bh : Nat) (A : Option Addr) (c : Nat) (ls : List (List Int)) (h : Nat) (L : List Nat) (w : World) (p : PlayR w bl bh A c ls h) (hB : IntsAt w w.heap.size B (L.map fun x => ((x : Nat) : Int))) (hl : L.length ≤ 1000)
    (hL : ∀ x ∈ L, x < ls.length ∧ h < (ls.getD x []).length) :
    Calls Tryz.prog 98 #[.slice B L.length d, .func (.func 96) #[] #[.pointer (some ⟨bl, 0, none⟩), .pointer (some ⟨bh, 0, none⟩)]] w (IntsOut (L.map fun x => strokesV ls h ((x : Nat) : Int)) w) := by
  have hmk := make_ints L.length (by omega)
  have HP := Lib.hid p
  have HI := Lib.hid hB
  have HLL := Lib.hid hL
  have HX : Hid ((L.map fun x => strokesV ls h ((x : Nat) : Int)).length = L.length) := Lib.hid (by simp)
  have HAT : Hid (∀ k, k < L.length → (L.map fun x => strokesV ls h ((x : Nat) : Int)).getD k 0 = strokesV ls h ((L.getD k 0 : Nat) : Int)) := Lib.hid (fun k hk => by simp [List.getD, List.getElem?_eq_getElem hk])
  have HIN : Hid (∀ k, k < L.length → (L.map fun x => ((x : Nat) : Int)).getD k 0 = ((L.getD k 0 : Nat) : Int)) := Lib.hid (fun k hk => by simp [List.getD, List.getElem?_eq_getElem hk])
  clear p hB hL
  generalize (L.map fun x => strokesV ls h ((x : Nat) : Int)) = xs at HX HAT ⊢
  go_enter Tryz.func98, Tryz.ntmps98
  go_wp2
  go_loopw [13] (fun i w' => ∃ k : Nat, k ≤ L.length ∧ i = .int .i64 k ∧ RowI w' w.heap.size (partI xs k) ∧ Below w.heap.size w w') (fun i _ => L.length - (intOf i).toNat)
  case atStart => exact ⟨0, Nat.zero_le _, rfl, by rw [partI_zero, HX.out]; exact RowI.new _ _, (Below.refl _ _).alloc (Nat.le_refl _) _⟩
  case round =>
    obtain ⟨k, hk, rfl, hrow, hb⟩ := hrel
    have HROW := Lib.hid hrow
    have HB := Lib.hid hb
    clear hrow hb
    by_cases hlt : k < L.length
    · obtain ⟨b, rfl, _, c0⟩ := (HI.out.keep HB.out) k (by simpa using hlt)
      rw [HIN.out k hlt] at c0
      have hx := HLL.out (L.getD k 0) (by simp [List.getD, List.getElem?_eq_getElem hlt])
      have HA := Lib.hid (HAT.out k hlt)
      generalize L.getD k 0 = x at c0 hx HA
      have HC := Lib.hid (playoff1_any bl bh A c ls h x wr (HP.out.keep HB.out) hx.1 hx.2)
      generalize strokesV ls h (x : Int) = v at HA HC
      have hk0 : (0 : Int) ≤ (k : Int) := Int.natCast_nonneg _
      have hk1 : (k : Int) < (L.length : Int) := by omega
      have hkl : k < (partI xs k).length := by rw [partI_len, HX.out]; exact hlt
      have r0 := HROW.out.cell hkl
      have f0 := HROW.out.frozen k
      clear hx hkl
      go_wp2_with fail
      refine HC.out.mono ?_
      rintro e w3 ⟨rfl, n, rfl⟩
      go_wp2
      go_roundw
      case rel =>
        refine ⟨k + 1, by omega, by go_num, ?_, (below_drewN HB.out n).setCell (by simp) _⟩
        have := (HROW.out.drewN n).set k v
        rw [← HA.out, partI_set _ _ (by rw [HX.out]; exact hlt)] at this
        rw [← HA.out]
        exact this
      case measure => simp [intOf]; omega
    · go_wp2
      go_ret
      exact ⟨w.heap.size, by rw [HX.out]; rfl, by have := HROW.out; rwa [partI_all _ _ (by rw [HX.out]; omega)] at this, Nat.le_refl _, HB.out⟩

/-- The least number of a list. -/
def leastI : List Int → Int
  | [] => 0
  | x :: l => l.foldl min x
theorem leastI_take (l : List Int) (k : Nat) (h0 : 1 ≤ k) (h : k < l.length) : leastI (l.take (k + 1)) = min (leastI (l.take k)) (l.getD k 0) := by
  rw [List.take_succ_eq_append_getElem h]
  have e : l.getD k 0 = l[k] := by simp [List.getD, List.getElem?_eq_getElem h]
  rw [e]
  match l, k, h0 with
  | x :: l', k + 1, _ => simp only [List.take_succ_cons, List.cons_append, leastI, List.foldl_append, List.foldl_cons, List.foldl_nil]

set_option maxRecDepth 100000 in
set_option maxHeartbeats 1000000 in
theorem minInt_any (A : Option Addr) (c : Nat) (xs : List Int) (w : World) (h : Ints w A xs) (h0 : 0 < xs.length) (hl : xs.length ≤ 1000) :
    Calls Tryz.prog 97 #[.slice A xs.length c] w fun e w' => e = .returned (.int .i64 (leastI xs)) ∧ w = w' := by
  have H := Lib.hid h
  obtain ⟨a, rfl, z0⟩ := h 0 h0
  have ha0 : a.add 0 = a := Addr.add_zero' a
  rw [ha0] at z0
  have HONE : Hid (leastI (xs.take 1) = xs.getD 0 0) := Lib.hid (by
    match xs, h0 with
    | x :: l', _ => rfl)
  have h0i : (0 : Int) < (xs.length : Int) := by omega
  clear h ha0
  generalize xs.getD 0 0 = x0 at z0 HONE
  go_enter Tryz.func97, Tryz.ntmps97
  go_wp2
  go_loop [3, 4] (fun t i => ∃ k : Nat, 1 ≤ k ∧ k ≤ xs.length ∧ i = .int .i64 k ∧ t = .int .i64 (leastI (xs.take k))) (fun _ i => xs.length - (intOf i).toNat)
  case atStart => exact ⟨1, Nat.le_refl _, h0, rfl, by rw [HONE.out]⟩
  case round =>
    obtain ⟨k, hk1, hk, rfl, rfl⟩ := hrel
    by_cases hlt : k < xs.length
    · obtain ⟨a', ha', c0⟩ := H.out k hlt
      obtain rfl : a = a' := by injection ha'
      have HT := Lib.hid (leastI_take xs k hk1 hlt)
      generalize xs.getD k 0 = x at c0 HT
      generalize leastI (xs.take k) = t at HT
      have hk0 : (0 : Int) ≤ (k : Int) := Int.natCast_nonneg _
      have hk2 : (k : Int) < (xs.length : Int) := by omega
      by_cases hm : t ≤ x
      all_goals
        go_wp2
        go_round
        case rel => exact ⟨k + 1, by omega, by omega, by go_num, by rw [HT.out]⟩
        case measure => simp [intOf]; omega
    · have HK : Hid (leastI (xs.take k) = leastI xs) := Lib.hid (by rw [List.take_of_length_le (by omega)])
      rw [HK.out]
      go_wp2
      go_ret
      exact ⟨rfl, rfl⟩
end Go.Proofs.YtfpehblofokheaaGreatDoor

/- A play-off: the predicate, its mathematics. -/
namespace Go.Proofs.YtfpehblofokheaaGreatDoor
open Go.RowKit Go.Shelf Go.Sort

theorem ListsR.of_cells {w W : World} {A : Option Addr} {ls : List (List Int)} (h : ListsR w A ls) (hc : ∀ a : Addr, a.block < w.heap.size → W.cell? a = w.cell? a) (hs : w.heap.size ≤ W.heap.size) : ListsR W A ls := fun j hj => by
  obtain ⟨a, B, c, rfl, h0, h1, h2, h3⟩ := h j hj
  refine ⟨a, B, c, rfl, (hc _ h1).trans h0, Nat.lt_of_lt_of_le h1 hs, h2, fun i hi => ?_⟩
  obtain ⟨b, rfl, h4, h5⟩ := h3 i hi
  exact ⟨b, rfl, Nat.lt_of_lt_of_le h4 hs, (hc (b.add i) (by rw [add_block]; exact h4)).trans h5⟩

set_option maxRecDepth 100000 in
set_option maxHeartbeats 1000000 in
theorem playoff2_any (bf bm bl bh : Nat) (A : Option Addr) (c : Nat) (ls : List (List Int)) (h k : Nat) (f : Int) (w : World) (p : PlayR w bl bh A c ls h) (hk : k < ls.length) (hh : h < (ls.getD k []).length)
    (hf : w.cell? ⟨bf, 0, none⟩ = some (.func (.func 96) #[] #[.pointer (some ⟨bl, 0, none⟩), .pointer (some ⟨bh, 0, none⟩)])) (hm : w.cell? ⟨bm, 0, none⟩ = some (.int .i64 f)) :
    Calls Tryz.prog 100 #[.int .i64 (k : Int), .pointer (some ⟨bf, 0, none⟩), .pointer (some ⟨bm, 0, none⟩)] w fun e w' => e = .returned (.bool (decide (f < strokesV ls h k))) ∧ ∃ n, w' = w.drewN n := by
  have HQ : Hid (∀ a, Calls Tryz.prog 96 #[.int .i64 (k : Int), .pointer (some ⟨bl, 0, none⟩), .pointer (some ⟨bh, 0, none⟩)] (w.drewN a) fun e w' => e = .returned (.int .i64 (strokesV ls h k)) ∧ ∃ m, w' = w.drewN m) :=
    Lib.hid (fun a => (playoff1_any bl bh A c ls h k (w.drewN a) (p.drewN a) hk hh).mono fun e w' ⟨h1, n, h2⟩ => ⟨h1, a + n, by rw [h2, World.drewN_drewN]⟩)
  clear p hk hh
  generalize strokesV ls h (k : Int) = v at HQ ⊢
  go_enter Tryz.func100, Tryz.ntmps100
  go_wp2
  go_quiet ((go_at_call 96; first | with_reducible exact HQ.out _ | exact HQ.out _))
  go_wp2
  go_ret
  exact ⟨rfl, _, rfl⟩

/-- The players of a play-off. -/
def finL (n : Nat) : List (Fin n) := (List.range n).pmap (fun x h => ⟨x, h⟩) (fun _ hx => List.mem_range.1 hx)
theorem finL_val (n : Nat) : (finL n).map (·.val) = List.range n := by
  unfold finL
  rw [List.map_pmap]
  simp
theorem finL_len (n : Nat) : (finL n).length = n := by simp [finL]
def encF (n : Nat) (x : Fin n) : Value := .int .i64 ((x.val : Nat) : Int)
def strokesF (n : Nat) (ls : List (List Int)) (h : Nat) (x : Fin n) : Int := strokesV ls h ((x.val : Nat) : Int)
/-- Who is left after a hole: those with the fewest strokes. -/
def stepL (n : Nat) (ls : List (List Int)) (h : Nat) (L : List (Fin n)) : List (Fin n) := L.filter fun x => !decide (leastI (L.map (strokesF n ls h)) < strokesF n ls h x)
def playGo (n : Nat) (ls : List (List Int)) : Nat → Nat → List (Fin n) → List (Fin n) × Nat
  | 0, h, L => (L, h)
  | k + 1, h, L => if 1 < L.length then playGo n ls k (h + 1) (stepL n ls h L) else (L, h)
theorem foldl_min_mem : ∀ (l : List Int) (x : Int), l.foldl min x = x ∨ l.foldl min x ∈ l
  | [], x => .inl rfl
  | y :: l, x => by
    rcases foldl_min_mem l (min x y) with h | h
    · simp only [List.foldl_cons]
      rw [h]
      by_cases g : x ≤ y
      · left; omega
      · right; rw [show min x y = y by omega]; simp
    · right; simp only [List.foldl_cons]; exact List.mem_cons_of_mem _ h
theorem leastI_mem {l : List Int} (h : l ≠ []) : leastI l ∈ l := by
  match l, h with
  | x :: l, _ =>
    rcases foldl_min_mem l x with h | h
    · show l.foldl min x ∈ _; rw [h]; simp
    · exact List.mem_cons_of_mem _ h
theorem stepL_ne {n : Nat} {ls : List (List Int)} {h : Nat} {L : List (Fin n)} (hL : L ≠ []) : stepL n ls h L ≠ [] := by
  have := leastI_mem (l := L.map (strokesF n ls h)) (by simpa using hL)
  obtain ⟨x, hx, e⟩ := List.mem_map.1 this
  have hm : x ∈ stepL n ls h L := by
    unfold stepL
    rw [List.mem_filter]
    refine ⟨hx, ?_⟩
    rw [← e]
    simp
  exact fun h0 => by rw [h0] at hm; cases hm
theorem stepL_len {n : Nat} {ls : List (List Int)} {h : Nat} {L : List (Fin n)} : (stepL n ls h L).length ≤ L.length := List.length_filter_le _ _
theorem playGo_more {n : Nat} {ls : List (List Int)} {m h : Nat} {L : List (Fin n)} (h1 : 1 < L.length) (h2 : h < m) : playGo n ls (m - h) h L = playGo n ls (m - (h + 1)) (h + 1) (stepL n ls h L) := by
  rw [show m - h = (m - (h + 1)) + 1 by omega, playGo, if_pos h1]
theorem playGo_done {n : Nat} {ls : List (List Int)} {m h : Nat} {L : List (Fin n)} (h1 : ¬ (1 < L.length ∧ h < m)) : playGo n ls (m - h) h L = (L, h) := by
  cases hk : m - h with
  | zero => rfl
  | succ k => rw [playGo, if_neg (by omega)]

/-- The slice value v owns these players. -/
def FinOwn (n : Nat) (w : World) (base : Nat) (v : Value) (L : List (Fin n)) : Prop := w.ownsRow base 3 1 v L.length (L.map (encF n))
theorem FinOwn.nums {n : Nat} {w : World} {base : Nat} {v : Value} {L : List (Fin n)} (h : FinOwn n w base v L) : NumOwn w base v (L.map fun x => ((x.val : Nat) : Int)) := by
  unfold NumOwn
  rw [List.length_map, List.map_map]
  exact h
theorem FinOwn.of_nums {n : Nat} {w : World} {base : Nat} {v : Value} {L : List (Fin n)} (h : NumOwn w base v (L.map fun x => ((x.val : Nat) : Int))) : FinOwn n w base v L := by
  unfold NumOwn at h
  rw [List.length_map, List.map_map] at h
  exact h
theorem sw_cell {α : Type} [Inhabited α] (enc : α → Value) (w : World) (blk off m : Nat) (dk : Array α) (os : Array Obj) (a : Addr) (h1 : a.block ≠ blk) (h2 : a.block < w.heap.size) : (sortWorld enc w blk off m dk os).cell? a = w.cell? a := by
  unfold sortWorld
  rw [cell?_grow _ _ _ (by rw [size_putRow]; exact h2), cell?_putRow_other _ _ blk off _ _ (Or.inl h1)]
  rfl
theorem sw_size {α : Type} [Inhabited α] (enc : α → Value) (w : World) (blk off m : Nat) (dk : Array α) (os : Array Obj) : w.heap.size ≤ (sortWorld enc w blk off m dk os).heap.size := by
  unfold sortWorld
  have : (putRow enc (Sort.ahead w m) blk off dk).heap.size = w.heap.size := by rw [size_putRow]; rfl
  simp only [grow, Array.size_append]
  omega
end Go.Proofs.YtfpehblofokheaaGreatDoor

/- A play-off: the whole loop. -/
namespace Go.Proofs.YtfpehblofokheaaGreatDoor
open Go.RowKit Go.Shelf Go.Sort

theorem wpList_append_run {P : Program} {w : World} {ops : Array Oper} {rest : List Oper} {o : Oper} {a : Act} {Q : Exit → Act → World → Prop} (hgd : o.guard = none) (s x : Operand) (t : TypeId)
    (ho : o.op = .call { callee := .builtin .append, args := #[s, x], argTypes := #[t, t] }) (v1 v2 v' : Value) (w' : World) (h1 : a.eval s = v1) (h2 : a.eval x = v2)
    (hrun : (Builtin.append_ #[t, t] o.type #[v1, v2]).run P w = .ok v' w') (h : wpList P ops Q rest (a.put o.dst v') w') : wpList P ops Q (o :: rest) a w := by
  refine wpList_plain hgd fun K hK => ?_
  unfold Oper.wp execOp
  simp only [ho, resolve, invoke, builtin, Sem.run_bind, Sem.run_pure, Result.andThen_ok, List.map_toArray, List.map_cons, List.map_nil, h1, h2, hrun]
  exact hK _ _ h

def holeN (w : World) (bh : Nat) : Nat := match w.cell? ⟨bh, 0, none⟩ with
  | some (.int _ i) => i.toNat
  | _ => 0
/-- Lists of strokes that a play-off takes. -/
structure PlayL (m : Nat) (ls : List (List Int)) : Prop where
  least : 2 ≤ ls.length
  most : ls.length ≤ 200
  same : ∀ y ∈ ls, y.length = m
  pos : 0 < m
  small : m ≤ 36
theorem PlayL.at {m : Nat} {ls : List (List Int)} (h : PlayL m ls) (k : Nat) (hk : k < ls.length) : (ls.getD k []).length = m := h.same _ (by simp [List.getD, List.getElem?_eq_getElem hk])
def PlayOut (m : Nat) (ls : List (List Int)) (w : World) (e : Ending) (w' : World) : Prop :=
  ∃ A c, e = .returned (.tuple #[.slice A (playGo ls.length ls m 0 (finL ls.length)).1.length c, .int .i64 (((playGo ls.length ls m 0 (finL ls.length)).2 : Nat) : Int)]) ∧
    IntsAt w' w'.heap.size A ((playGo ls.length ls m 0 (finL ls.length)).1.map fun x => ((x.val : Nat) : Int)) ∧ Below w.heap.size w w'

set_option maxRecDepth 100000 in
set_option maxHeartbeats 8000000 in
theorem playoff_any (A : Option Addr) (c m : Nat) (ls : List (List Int)) (w : World) (hls : ListsR w A ls) (hp : PlayL m ls) :
    Calls Tryz.prog 53 #[.slice A ls.length c] w (PlayOut m ls w) := by
  have HLS := Lib.hid hls
  have HP := Lib.hid hp
  have hn2 : 2 ≤ ls.length := hp.least
  have hn200 : ls.length ≤ 200 := hp.most
  have HRES : Hid (PlayOut m ls w = PlayOut m ls w) := Lib.hid rfl
  have z3 : ∀ w : World, (zeroValue 3).run Tryz.prog w = .ok (.int .i64 0) w := fun w => by kernel_rfl
  have eg : ∀ args w, (callFunc 100 args).run Tryz.prog w = .ok (.enter 100 args) w := enters_of Tryz.func100 (by kernel_rfl) rfl
  have HZ3 := Lib.hid z3
  have HEG := Lib.hid eg
  clear hls hp z3 eg
  go_enter Tryz.func53, Tryz.ntmps53
  go_wp2
  generalize hW0 : (w.alloc (.cells #[.slice A ls.length c] 26)).alloc (.cells #[.int .i64 0] 3) = W0
  obtain ⟨a1, a2, a3, a4⟩ := two_allocs w _ _ _ _ hW0
  have HA1 := Lib.hid a1
  have HA2 := Lib.hid a2
  have HB0 := Lib.hid a3
  have HSZ := Lib.hid a4
  clear hW0 a1 a2 a3 a4
  go_loopw [2, 9] (fun v i w' => ∃ k : Nat, k ≤ ls.length ∧ i = .int .i64 k ∧ NumOwn w' (w.heap.size + 2) v ((List.range k).map fun x => ((x : Nat) : Int)) ∧ Below (w.heap.size + 2) W0 w') (fun _ i _ => ls.length - (intOf i).toNat)
  case atStart => exact ⟨0, Nat.zero_le _, rfl, World.ownsRow_nil _ _ _ _, Below.refl _ _⟩
  case round =>
    obtain ⟨k, hk, rfl, hown, hb⟩ := hrel
    by_cases hlt : k < ls.length
    · have ho : wr.ownsRow (w.heap.size + 2) 3 1 u2 k (((List.range k).map fun x => ((x : Nat) : Int)).map (Value.int .i64)) := by
        have := hown
        unfold NumOwn at this
        rwa [List.length_map, List.length_range] at this
      obtain ⟨v', w2, hrun, h2, hb2⟩ := append_gen (w.heap.size + 2) 35 3 (.int .i64 0) 1 8 Tryz.underlying35 info_int rfl (by decide) [.int .i64 (k : Int)] rfl (by simp [Value.oneCell']) wr u2 k _ (by have := hb.size; have := HSZ.out; omega) (by omega) (by omega) ho
      have HB := Lib.hid (hb.trans hb2)
      have HO : Hid (NumOwn w2 (w.heap.size + 2) v' ((List.range (k + 1)).map fun x => ((x : Nat) : Int))) := Lib.hid (by
        unfold NumOwn
        rw [List.length_map, List.length_range, List.range_succ, List.map_append, List.map_append]
        exact h2)
      have hk0 : (0 : Int) ≤ (k : Int) := Int.natCast_nonneg _
      have hk1 : (k : Int) < (ls.length : Int) := by omega
      have HRUN := Lib.hid hrun
      clear h2 hb hb2 hown ho hrun
      go_wp2_with (at_builtin; refine wpList_append_run rfl _ _ 35 rfl _ _ v' w2 rfl rfl HRUN.out ?_)
      go_roundw
      case rel => exact ⟨k + 1, by omega, by go_num, HO.out, HB.out⟩
      case measure => simp [intOf]; omega
    · have hke : k = ls.length := by omega
      subst hke
      have HF : Hid (FinOwn ls.length wr (w.heap.size + 2) u2 (finL ls.length)) := Lib.hid (FinOwn.of_nums (by
        have e : (finL ls.length).map (fun x => ((x.val : Nat) : Int)) = (List.range ls.length).map fun x => ((x : Nat) : Int) := by
          rw [← finL_val, List.map_map]; rfl
        rw [e]
        exact hown))
      have HB := Lib.hid hb
      have HX1 := Lib.hid (HA1.out.below hb (by omega))
      have HX2 := Lib.hid (HA2.out.below hb (by omega))
      have HBW := Lib.hid (HB0.out.trans (hb.mono (by omega)))
      have hszr : w.heap.size + 2 ≤ wr.heap.size := by have := hb.size; have := HSZ.out; omega
      have HSR := Lib.hid hszr
      clear hown hb hszr HB HA1 HA2 HB0
      go_wp2
      go_loopw [2] (fun v w' => ∃ (h : Nat) (L : List (Fin ls.length)), h ≤ m ∧ L ≠ [] ∧ L.length ≤ ls.length ∧ FinOwn ls.length w' (w.heap.size + 2) v L ∧ BlkV w' w.heap.size 26 #[.slice A ls.length c] ∧ BlkV w' (w.heap.size + 1) 3 #[.int .i64 (h : Int)] ∧ Below w.heap.size w w' ∧ w.heap.size + 2 ≤ w'.heap.size ∧ playGo ls.length ls (m - h) h L = playGo ls.length ls m 0 (finL ls.length)) (fun _ w' => m - holeN w' (w.heap.size + 1))
      case atStart => exact ⟨0, finL ls.length, Nat.zero_le _, (fun e => by have h9 := finL_len ls.length; rw [e] at h9; simp only [List.length_nil] at h9; omega), Nat.le_of_eq (finL_len _), HF.out, HX1.out, HX2.out, HBW.out, HSR.out, rfl⟩
      case round =>
        obtain ⟨h, L, hh, hne, hll, hown, hbx, hho, hb, hsz, hgo⟩ := hrel
        have hv : u2 ≠ .slice none 0 0 := fun e => by
          rcases hown.2 with ⟨_, h0⟩ | ⟨g, _, _, e2, _⟩
          · exact hne (List.eq_nil_of_length_eq_zero h0)
          · rw [e] at e2; cases e2
        haveI : Inhabited (Fin ls.length) := ⟨⟨0, by omega⟩⟩
        obtain ⟨g, cap, rfl, hgb, hgl, hnc, hmx, _, hH⟩ := Lib.holds_of_ownsRow (enc := encF ls.length) (zs := L) hown hv
        have HOWN := Lib.hid hown
        have HIA := Lib.hid hown.nums.ints.1
        have HBX := Lib.hid hbx
        have HHO := Lib.hid hho
        have HBB := Lib.hid hb
        have HSS := Lib.hid hsz
        have HGO := Lib.hid hgo
        have HHH := Lib.hid hH
        have HPR : Hid (PlayR wr w.heap.size (w.heap.size + 1) A c ls h) := Lib.hid ⟨hbx.cell 0, HLS.out.keep hb, hho.cell 0⟩
        have HNE := Lib.hid hne
        have x0 := hbx.cell 0
        have y0 := hho.cell 0
        simp only [List.getElem?_toArray, List.getElem?_cons_zero, List.getElem?_cons_succ] at x0 y0
        have HHN : Hid (holeN wr (w.heap.size + 1) = h) := Lib.hid (by unfold holeN; rw [y0]; simp)
        clear hown hbx hho hb hgo hH hv hne
        have hgcap : (L.length : Int) ≤ (cap : Int) := by omega
        have hL0 : 0 < L.length := Nat.pos_of_ne_zero (fun e => HNE.out (List.eq_nil_of_length_eq_zero e))
        by_cases hc1 : 1 < L.length
        · obtain ⟨a, B, cc, hA, d0, _, _, _⟩ := HPR.out.lists 0 (by omega)
          subst hA
          rw [HP.out.at 0 (by omega), Addr.add_zero'] at d0
          have hpos : (0 : Int) < (ls.length : Int) := by omega
          have hc1i : (1 : Int) < (L.length : Int) := by omega
          by_cases hc2 : h < m
          · have hc2i : (h : Int) < (m : Int) := by omega
            go_wp2
            go_quiet (fail)
            obtain ⟨W1, hW1⟩ : ∃ W1, wr.drewN nq = W1 := ⟨_, rfl⟩
            rw [hW1]
            have HBX1 : Hid (BlkV W1 w.heap.size 26 #[.slice (some a) ls.length c]) := Lib.hid (by subst hW1; exact HBX.out)
            have HHO1 : Hid (BlkV W1 (w.heap.size + 1) 3 #[.int .i64 (h : Int)]) := Lib.hid (by subst hW1; exact HHO.out)
            have HOWN1 : Hid (FinOwn ls.length W1 (w.heap.size + 2) (.slice (some ⟨g, 0, none⟩) L.length cap) L) := Lib.hid (by subst hW1; exact HOWN.out)
            have HBB1 : Hid (Below w.heap.size w W1) := Lib.hid (by subst hW1; exact below_drewN HBB.out nq)
            have HSS1 : Hid (w.heap.size + 2 ≤ W1.heap.size) := Lib.hid (by subst hW1; exact HSS.out)
            have HPR1 : Hid (PlayR W1 w.heap.size (w.heap.size + 1) (some a) c ls h) := Lib.hid (by subst hW1; exact HPR.out.drewN nq)
            have hgl1 : g < W1.heap.size := by subst hW1; exact hgl
            clear hW1 HBX HHO HOWN HBB HSS HPR HIA HHH x0 y0 d0 hgl
            go_wp2_with fail
            generalize hW5 : W1.alloc (.cells #[.func (.func 96) #[] #[.pointer (some ⟨w.heap.size, 0, none⟩), .pointer (some ⟨w.heap.size + 1, 0, none⟩)]] 122) = W5
            have hb5 : Below W1.heap.size W1 W5 := by subst hW5; exact (Below.refl _ _).alloc (Nat.le_refl _) _
            have hf5 : BlkV W5 W1.heap.size 122 #[.func (.func 96) #[] #[.pointer (some ⟨w.heap.size, 0, none⟩), .pointer (some ⟨w.heap.size + 1, 0, none⟩)]] := by subst hW5; exact BlkV.new _ _ _
            have HB5 := Lib.hid hb5
            have HF5 := Lib.hid hf5
            clear hW5 hb5 hf5
            have HSF : Hid ((L.map (·.val)).map (fun x => strokesV ls h ((x : Nat) : Int)) = L.map (strokesF ls.length ls h)) := Lib.hid (by rw [List.map_map]; rfl)
            have HES : Hid (Calls Tryz.prog 98 #[.slice (some ⟨g, 0, none⟩) L.length cap, .func (.func 96) #[] #[.pointer (some ⟨w.heap.size, 0, none⟩), .pointer (some ⟨w.heap.size + 1, 0, none⟩)]] W5 (IntsOut (L.map (strokesF ls.length ls h)) W5)) := Lib.hid (by
              have hn5 := (HOWN1.out.nums.below HB5.out).ints.1
              have := eachStrokes_any (some ⟨g, 0, none⟩) cap w.heap.size (w.heap.size + 1) (some a) c ls h (L.map (·.val)) W5 (HPR1.out.keep HB5.out) (by rw [List.map_map]; exact hn5) (by rw [List.length_map]; omega)
                (fun x hx => by
                  obtain ⟨y, _, rfl⟩ := List.mem_map.1 hx
                  exact ⟨y.isLt, by rw [HP.out.at y.val y.isLt]; exact hc2⟩)
              rw [List.length_map, HSF.out] at this
              exact this)
            refine HES.out.mono ?_
            rintro e w6 ⟨g2, rfl, hrow, hg2, hb6⟩
            have HROW := Lib.hid hrow
            have HB6 := Lib.hid (HB5.out.trans (hb6.mono HB5.out.size))
            have HF6 := Lib.hid (HF5.out.below hb6 HF5.out.lt)
            have HMIN : Hid (Calls Tryz.prog 97 #[.slice (some ⟨g2, 0, none⟩) L.length L.length] w6 fun e w' => e = .returned (.int .i64 (leastI (L.map (strokesF ls.length ls h)))) ∧ w6 = w') := Lib.hid (by
              have := minInt_any (some ⟨g2, 0, none⟩) L.length (L.map (strokesF ls.length ls h)) w6 (hrow.ints hrow.lt).ints (by rw [List.length_map]; exact hL0) (by rw [List.length_map]; omega)
              rw [List.length_map] at this
              exact this)
            clear hrow hg2 hb6 HES HF5
            rw [List.length_map]
            go_wp2_with fail
            refine HMIN.out.mono ?_
            rintro e w7 ⟨rfl, rfl⟩
            have HSTEP : Hid (stepL ls.length ls h L = L.filter fun x => !decide (leastI (L.map (strokesF ls.length ls h)) < strokesF ls.length ls h x)) := Lib.hid rfl
            generalize leastI (L.map (strokesF ls.length ls h)) = f at HSTEP
            clear HMIN HROW
            go_wp2_with fail
            generalize hW7 : w6.alloc (.cells #[.int .i64 f] 3) = W7
            have hb7 : Below W1.heap.size W1 W7 := by subst hW7; exact HB6.out.alloc HB6.out.size _
            have hm7 : BlkV W7 w6.heap.size 3 #[.int .i64 f] := by subst hW7; exact BlkV.new _ _ _
            have hf7 : BlkV W7 W1.heap.size 122 #[.func (.func 96) #[] #[.pointer (some ⟨w.heap.size, 0, none⟩), .pointer (some ⟨w.heap.size + 1, 0, none⟩)]] := by subst hW7; exact HF6.out.alloc _
            have HB7 := Lib.hid hb7
            have HM7 := Lib.hid hm7
            have HF7 := Lib.hid hf7
            have HS6 : Hid (W1.heap.size ≤ w6.heap.size) := Lib.hid HB6.out.size
            clear hW7 hb7 hm7 hf7 HB5 HB6 HF6
            have HOWN7 := Lib.hid (FinOwn.of_nums (HOWN1.out.nums.below HB7.out))
            have HBX7 := Lib.hid (HBX1.out.below HB7.out HBX1.out.lt)
            have HHO7 := Lib.hid (HHO1.out.below HB7.out HHO1.out.lt)
            have HBB7 := Lib.hid (HBB1.out.trans (HB7.out.mono HBB1.out.size))
            have HPR7 := Lib.hid (HPR1.out.keep HB7.out)
            have HDEL : Hid (Calls Tryz.prog 99 #[.slice (some ⟨g, 0, none⟩) L.length cap, .func (.func 100) #[] #[.pointer (some ⟨W1.heap.size, 0, none⟩), .pointer (some ⟨w6.heap.size, 0, none⟩)]] W7 fun e w' =>
                e = .returned (.slice (some ⟨g, 0, none⟩) (stepL ls.length ls h L).length cap) ∧ FinOwn ls.length w' (w.heap.size + 2) (.slice (some ⟨g, 0, none⟩) (stepL ls.length ls h L).length cap) (stepL ls.length ls h L) ∧ Below (w.heap.size + 2) W7 w') := Lib.hid (by
              have hv7 : (Value.slice (some ⟨g, 0, none⟩) L.length cap) ≠ .slice none 0 0 := fun e => by cases e
              obtain ⟨g', cap', e9, _, hgl7, _, _, _, hH7⟩ := Lib.holds_of_ownsRow (enc := encF ls.length) (zs := L) HOWN7.out hv7
              injection e9 with e1 e2 e3
              injection e1 with e1
              injection e1 with e1
              subst e1
              have hlt : ∀ x : Fin ls.length, h < (ls.getD x.val []).length := fun x => by rw [HP.out.at x.val x.isLt]; exact hc2
              have := Tryz.slices_DeleteFunc (encF ls.length) (fun x => rfl) (fun x => decide (f < strokesF ls.length ls h x)) 100 #[.pointer (some ⟨W1.heap.size, 0, none⟩), .pointer (some ⟨w6.heap.size, 0, none⟩)] HEG.out ⟨0, by omega⟩ HZ3.out g 0 cap L.toArray W7
                (fun W x hbW => by
                  have hq := playoff2_any W1.heap.size w6.heap.size w.heap.size (w.heap.size + 1) (some a) c ls h x.val f W (HPR7.out.keep hbW) x.isLt (hlt x) ((HF7.out.below hbW HF7.out.lt).cell 0) ((HM7.out.below hbW HM7.out.lt).cell 0)
                  exact hq)
                (fun n os dk x _ => by
                  have hc : ∀ b : Addr, b.block ≠ g → b.block < W7.heap.size → (sortWorld (encF ls.length) W7 g 0 n dk os).cell? b = W7.cell? b := fun b h1 h2 => sw_cell _ _ _ _ _ _ _ b h1 h2
                  have hpr : PlayR (sortWorld (encF ls.length) W7 g 0 n dk os) w.heap.size (w.heap.size + 1) (some a) c ls h := ⟨(hc _ (by show w.heap.size ≠ g; omega) HBX7.out.lt).trans (HBX7.out.cell 0),
                    HLS.out.of_cells (fun b hb => (hc b (by omega) (by have := HBB7.out.size; omega)).trans (HBB7.out.cell hb)) (Nat.le_trans HBB7.out.size (sw_size _ _ _ _ _ _ _)),
                    (hc _ (by show w.heap.size + 1 ≠ g; omega) HHO7.out.lt).trans (HHO7.out.cell 0)⟩
                  exact playoff2_any W1.heap.size w6.heap.size w.heap.size (w.heap.size + 1) (some a) c ls h x.val f _ hpr x.isLt (hlt x) ((hc _ (by show W1.heap.size ≠ g; omega) HF7.out.lt).trans (HF7.out.cell 0)) ((hc _ (by show w6.heap.size ≠ g; have := HS6.out; omega) HM7.out.lt).trans (HM7.out.cell 0)))
                hH7 (by simp; omega) (by simp; omega)
              rw [List.size_toArray] at this
              refine this.mono ?_
              rintro e w9 ⟨rfl, q, rfl⟩
              rw [HSTEP.out]
              refine ⟨rfl, ?_, Lib.below_putRow (Below.refl _ _) hgb⟩
              have hlen : ((L.filter fun x => !decide (f < strokesF ls.length ls h x)) ++ List.replicate (L.length - (L.filter fun x => !decide (f < strokesF ls.length ls h x)).length) (⟨0, by omega⟩ : Fin ls.length)).length = L.length := by
                have := List.length_filter_le (fun x => !decide (f < strokesF ls.length ls h x)) L
                simp only [List.length_append, List.length_replicate]
                omega
              have h9 := Lib.ownsRow_putRow (q := q) (ys := (L.filter fun x => !decide (f < strokesF ls.length ls h x)) ++ List.replicate (L.length - (L.filter fun x => !decide (f < strokesF ls.length ls h x)).length) (⟨0, by omega⟩ : Fin ls.length)) (k := (L.filter fun x => !decide (f < strokesF ls.length ls h x)).length) (show W7.ownsRow (w.heap.size + 2) 3 1 (.slice (some ⟨g, 0, none⟩) L.length cap) L.length (L.map (encF ls.length)) from HOWN7.out) hlen (List.length_filter_le _ _)
              rw [List.take_left] at h9
              exact h9)
            refine HDEL.out.mono ?_
            rintro e w9 ⟨rfl, hown9, hb9⟩
            have HOWN9 := Lib.hid hown9
            have HBX9 := Lib.hid (HBX7.out.below hb9 (by omega))
            have HHO9 := Lib.hid (HHO7.out.below hb9 (by omega))
            have HBB9 := Lib.hid (HBB7.out.trans (hb9.mono (by omega)))
            have HSS9 : Hid (w.heap.size + 2 ≤ w9.heap.size) := Lib.hid (by have := hb9.size; have := HB7.out.size; have := HSS1.out; omega)
            clear hown9 hb9 HDEL HSTEP HM7 HF7 HB7 HOWN7 HBX7 HHO7 HBB7 HPR7 HBX1 HHO1 HOWN1 HBB1 HPR1
            have y9 := HHO9.out.cell 0
            have f9 := HHO9.out.frozen 0
            simp only [List.getElem?_toArray, List.getElem?_cons_zero, List.getElem?_cons_succ] at y9
            have hm36 := HP.out.small
            go_wp2
            go_roundw
            case rel =>
              refine ⟨h + 1, stepL ls.length ls h L, by omega, stepL_ne HNE.out, Nat.le_trans stepL_len hll, FinOwn.of_nums (HOWN9.out.nums.far (p := ⟨w.heap.size + 1, 0, none⟩) (by simp) _), HBX9.out.far (p := ⟨w.heap.size + 1, 0, none⟩) (by simp) _, ?_, HBB9.out.setCell (by simp) _, by simpa using HSS9.out, ?_⟩
              · have := HHO9.out.set 0 (.int .i64 ((h : Int) + 1))
                simpa using this
              · rw [← playGo_more hc1 hc2]; exact HGO.out
            case measure =>
              have q := (HHO9.out.set 0 (.int .i64 ((h : Int) + 1))).cell 0
              have e2 : holeN (w9.setCell ⟨w.heap.size + 1, 0, none⟩ (.int .i64 ((h : Int) + 1))) (w.heap.size + 1) = h + 1 := by
                unfold holeN
                rw [q]
                simp
              rw [e2, HHN.out]
              omega
          · have hc2i : (m : Int) ≤ (h : Int) := by omega
            go_wp2
            go_quiet (fail)
            obtain ⟨W1, hW1⟩ : ∃ W1, wr.drewN nq = W1 := ⟨_, rfl⟩
            rw [hW1]
            have HHO1 : Hid (BlkV W1 (w.heap.size + 1) 3 #[.int .i64 (h : Int)]) := Lib.hid (by subst hW1; exact HHO.out)
            have HOWN1 : Hid (FinOwn ls.length W1 (w.heap.size + 2) (.slice (some ⟨g, 0, none⟩) L.length cap) L) := Lib.hid (by subst hW1; exact HOWN.out)
            have HBB1 : Hid (Below w.heap.size w W1) := Lib.hid (by subst hW1; exact below_drewN HBB.out nq)
            clear hW1 HBX HHO HOWN HBB HSS HPR HIA HHH x0 y0 d0 hgl HHN
            have y1 := HHO1.out.cell 0
            have f1 := HHO1.out.frozen 0
            simp only [List.getElem?_toArray, List.getElem?_cons_zero, List.getElem?_cons_succ] at y1
            go_wp2
            go_region
            all_goals
              go_wp2
              refine bodyPost_ret (v := .tuple #[.slice (some ⟨g, 0, none⟩) L.length cap, .int .i64 (h : Int)]) ?_ rfl ?_
              · have q := (HHO1.out.set 0 (.int .i64 (h : Int))).cell 0
                simp [results, Tryz.results53, go_sem, q, y1]
              · have e := HGO.out
                rw [playGo_done (by omega)] at e
                unfold PlayOut
                rw [← e]
                refine ⟨some ⟨g, 0, none⟩, cap, rfl, ?_, (HBB1.out.drew).setCell (by simp) _⟩
                exact (HOWN1.out.nums.far (p := ⟨w.heap.size + 1, 0, none⟩) (by simp) (.int .i64 (h : Int))).ints.1
        · have hc1i : (L.length : Int) ≤ 1 := by omega
          have hc1f : decide ((1 : Int) < (L.length : Int)) = false := decide_eq_false (by omega)
          go_wp2
          go_quiet (fail)
          obtain ⟨W1, hW1⟩ : ∃ W1, wr.drewN nq = W1 := ⟨_, rfl⟩
          rw [hW1]
          have HHO1 : Hid (BlkV W1 (w.heap.size + 1) 3 #[.int .i64 (h : Int)]) := Lib.hid (by subst hW1; exact HHO.out)
          have HOWN1 : Hid (FinOwn ls.length W1 (w.heap.size + 2) (.slice (some ⟨g, 0, none⟩) L.length cap) L) := Lib.hid (by subst hW1; exact HOWN.out)
          have HBB1 : Hid (Below w.heap.size w W1) := Lib.hid (by subst hW1; exact below_drewN HBB.out nq)
          clear hW1 HBX HHO HOWN HBB HSS HPR HIA HHH x0 y0 hgl HHN
          have y1 := HHO1.out.cell 0
          have f1 := HHO1.out.frozen 0
          simp only [List.getElem?_toArray, List.getElem?_cons_zero, List.getElem?_cons_succ] at y1
          go_wp2
          go_region
          all_goals
            go_wp2
            refine bodyPost_ret (v := .tuple #[.slice (some ⟨g, 0, none⟩) L.length cap, .int .i64 (h : Int)]) ?_ rfl ?_
            · have q := (HHO1.out.set 0 (.int .i64 (h : Int))).cell 0
              simp [results, Tryz.results53, go_sem, q, y1]
            · have e := HGO.out
              rw [playGo_done (by omega)] at e
              unfold PlayOut
              rw [← e]
              refine ⟨some ⟨g, 0, none⟩, cap, rfl, ?_, (HBB1.out.drew).setCell (by simp) _⟩
              exact (HOWN1.out.nums.far (p := ⟨w.heap.size + 1, 0, none⟩) (by simp) (.int .i64 (h : Int))).ints.1
end Go.Proofs.YtfpehblofokheaaGreatDoor

/- Playoff, for lists without an error. -/
namespace Go.Proofs.YtfpehblofokheaaGreatDoor
open Go.RowKit

def playE (ls : List (List Int)) : Int := firstI [unlessI (decide (2 ≤ (ls.length : Int))) 2, unlessI (decide ((ls.length : Int) ≤ 200)) 5, listsI playC ls]
theorem playE_zero {ls : List (List Int)} (h : playE ls = 0) : PlayL (ls.getD 0 []).length ls := by
  have h1 := firstI_zero _ h (unlessI (decide (2 ≤ (ls.length : Int))) 2) (by simp)
  have h2 := firstI_zero _ h (unlessI (decide ((ls.length : Int) ≤ 200)) 5) (by simp)
  have h3 := firstI_zero _ h (listsI playC ls) (by simp)
  have g1 : 2 ≤ (ls.length : Int) := by
    by_cases g : 2 ≤ (ls.length : Int)
    · exact g
    · rw [decide_eq_false g] at h1; simp [unlessI] at h1
  have g2 : (ls.length : Int) ≤ 200 := by
    by_cases g : (ls.length : Int) ≤ 200
    · exact g
    · rw [decide_eq_false g] at h2; simp [unlessI] at h2
  have each : ∀ y ∈ ls, playC y = 0 ∧ y.length = (ls.getD 0 []).length := fun y hy => by
    have := firstI_zero _ h3 (lineI playC (ls.getD 0 []).length y) (List.mem_map.2 ⟨y, hy, rfl⟩)
    unfold lineI at this
    have e1 := firstI_zero _ this (playC y) (by simp)
    have e2 := firstI_zero _ this (unlessI (decide (y.length = (ls.getD 0 []).length)) 2) (by simp)
    refine ⟨e1, ?_⟩
    by_cases g : y.length = (ls.getD 0 []).length
    · exact g
    · rw [decide_eq_false g] at e2; simp [unlessI] at e2
  have hz := each (ls.getD 0 []) (by
    have h0 : 0 < ls.length := by omega
    simp [List.getD, List.getElem?_eq_getElem h0])
  have hs := firstI_zero _ hz.1 (sizedI (ls.getD 0 []).length 36) (by simp)
  refine ⟨by omega, by omega, fun y hy => (each y hy).2, ?_, ?_⟩
  · unfold sizedI at hs
    by_cases g : (ls.getD 0 []).length = 0
    · rw [if_pos g] at hs; omega
    · omega
  · unfold sizedI at hs
    by_cases g : (ls.getD 0 []).length = 0
    · omega
    · rw [if_neg g] at hs
      by_cases g3 : ((ls.getD 0 []).length : Int) ≤ 36
      · omega
      · rw [if_neg g3] at hs; omega
def PlayOut3 (m : Nat) (ls : List (List Int)) (w : World) (e : Ending) (w' : World) : Prop :=
  ∃ A c, e = .returned (.tuple #[.slice A (playGo ls.length ls m 0 (finL ls.length)).1.length c, .int .i64 (((playGo ls.length ls m 0 (finL ls.length)).2 : Nat) : Int), .int .i64 0]) ∧
    IntsAt w' w'.heap.size A ((playGo ls.length ls m 0 (finL ls.length)).1.map fun x => ((x.val : Nat) : Int)) ∧ Below w.heap.size w w'

set_option maxRecDepth 100000 in
set_option maxHeartbeats 1000000 in
theorem fmPlayoff_yes (A : Option Addr) (c : Nat) (ls : List (List Int)) (w : World) (hls : ListsR w A ls) (hE : playE ls = 0) :
    Calls Tryz.prog 14 #[.slice A ls.length c] w (PlayOut3 (ls.getD 0 []).length ls w) := by
  have hp := playE_zero hE
  have hll : ∀ y ∈ ls, y.length ≤ 4611686018427387904 := fun y hy => by rw [hp.same y hy]; have := hp.small; omega
  have HPO := Lib.hid (fun W (hb : Below w.heap.size w W) => playoff_any A c _ ls W (hls.keep hb) hp)
  have HCL := Lib.hid (checkLists_play A c ls w hls (by have := hp.most; omega) hll)
  have HF : Hid (firstI [unlessI (decide (2 ≤ (ls.length : Int))) 2, unlessI (decide ((ls.length : Int) ≤ 200)) 5, listsI playC ls] = 0) := Lib.hid hE
  clear hls hE hp hll
  generalize (ls.getD 0 []).length = m at HPO ⊢
  go_enter Tryz.func14, Tryz.ntmps14
  go_wp2_with fail
  refine (fmUnless_any _ _ _).mono ?_; rintro e w1 ⟨rfl, rfl⟩
  go_wp2_with fail
  refine (fmUnless_any _ _ _).mono ?_; rintro e w1 ⟨rfl, rfl⟩
  go_wp2_with fail
  refine HCL.out.mono ?_
  rintro e w2 ⟨rfl, hb2⟩
  have HB2 := Lib.hid hb2
  clear hb2
  go_wp2_with fail
  refine (fmFirst_any _ _ [_, _, _] _ (by simp) (Ints.three _ _ _ _ _ _ rfl)).mono ?_
  rintro e w3 ⟨rfl, rfl⟩
  rw [HF.out]
  go_wp2_with fail
  refine (HPO.out _ (HB2.out.alloc HB2.out.size _)).mono ?_
  rintro e w4 ⟨A', c', rfl, hi, hb4⟩
  have HI := Lib.hid hi
  have HB4 := Lib.hid ((HB2.out.alloc HB2.out.size (.cells #[.int .i64 (unlessI (decide (2 ≤ (ls.length : Int))) 2), .int .i64 (unlessI (decide ((ls.length : Int) ≤ 200)) 5), .int .i64 (listsI playC ls)] 36)).trans (hb4.mono (by have := HB2.out.size; simp; omega)))
  clear hi hb4
  go_wp2
  refine bodyPost_ret (v := .tuple #[.slice A' (playGo ls.length ls m 0 (finL ls.length)).1.length c', .int .i64 (((playGo ls.length ls m 0 (finL ls.length)).2 : Nat) : Int), .int .i64 0]) ?_ rfl ⟨A', c', rfl, HI.out, HB4.out⟩
  simp [results, Tryz.results14, go_sem]
end Go.Proofs.YtfpehblofokheaaGreatDoor
