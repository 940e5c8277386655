/- Merged: FrmV FrmW. -/
import Derived.Test.YtbckfkopdojggaaGreatDoorMgE
import Derived.Test.YtbckfkopdojggaaGreatDoorMgC
import Derived.Outline
/- Lists of numbers: their errors, sums, count-back. -/
set_option linter.unusedVariables false
set_option linter.unusedSimpArgs false
namespace Go.Proofs.YtbckfkopdojggaaGreatDoor
open Go.RowKit

set_option maxHeartbeats 400000 in
theorem sizedInt_any (A : Option Addr) (n c : Nat) (m : Int) (w : World) (hn : n ≤ 4611686018427387904) :
    Calls Tryz.prog 58 #[.slice A n c, .int .i64 m] w fun e w' => e = .returned (.int .i64 (sizedI n m)) ∧ Below w.heap.size w w' := by
  by_cases h1 : 0 < n <;> by_cases h2 : (n : Int) ≤ m
  all_goals
    go_enter Tryz.func58, Tryz.ntmps58
    go_wp2_with fail
    refine (fmUnless_any _ _ _).mono ?_; rintro e w' ⟨rfl, rfl⟩
    go_wp2_with fail
    refine (fmUnless_any _ _ _).mono ?_; rintro e w' ⟨rfl, rfl⟩
    go_wp2_with fail
    refine (fmFirst_any _ _ [_, _] _ (by simp) (Ints.two _ _ _ _ _ rfl)).mono ?_; rintro e w' ⟨rfl, rfl⟩
    go_wp2
    go_ret
    exact ⟨by simp [sizedI, firstI, unlessI, h2]; omega, (Below.refl _ _).alloc (Nat.le_refl _) _⟩

/-- The first error of numbers that are not between two others. -/
def eachI (xs : List Int) (a b : Int) : Int := firstI (xs.map fun x => withinI x a b)
theorem eachI_drop (xs : List Int) (a b : Int) (k : Nat) (h : k < xs.length) : eachI (xs.drop k) a b = if withinI (xs.getD k 0) a b = 0 then eachI (xs.drop (k + 1)) a b else withinI (xs.getD k 0) a b := by
  rw [List.drop_eq_getElem_cons h]
  have e : xs.getD k 0 = xs[k] := by simp [List.getD, List.getElem?_eq_getElem h]
  rw [e]
  simp only [eachI, List.map_cons, firstI]

set_option maxHeartbeats 400000 in
theorem eachWithin_any (A : Option Addr) (c : Nat) (xs : List Int) (p q : Int) (w : World) (hl : xs.length ≤ 4611686018427387904) (h : Ints w A xs) :
    Calls Tryz.prog 59 #[.slice A xs.length c, .int .i64 p, .int .i64 q] w fun e w' => e = .returned (.int .i64 (eachI xs p q)) ∧ w = w' := by
  have H := Lib.hid h
  clear h
  go_enter Tryz.func59, Tryz.ntmps59
  go_wp2
  go_loop [12] (fun i => ∃ k : Nat, k ≤ xs.length ∧ i = .int .i64 k ∧ eachI (xs.drop k) p q = eachI xs p q) (fun i => xs.length - (intOf i).toNat)
  case atStart => exact ⟨0, Nat.zero_le _, rfl, rfl⟩
  case round =>
    obtain ⟨k, hk, rfl, hd⟩ := hrel
    have HD := Lib.hid hd
    clear hd
    by_cases hlt : k < xs.length
    · obtain ⟨a, rfl, hc⟩ := H.out k hlt
      have hs := Lib.hid (eachI_drop xs p q k hlt)
      generalize xs.getD k 0 = x at hc hs
      generalize hwi : withinI x p q = y at hs
      have HWI := Lib.hid hwi
      clear hwi
      by_cases hx : y = 0
      · subst hx
        go_wp2_with fail
        refine (fmWithin_any _ _ _ _).mono ?_; rintro e w' ⟨rfl, rfl⟩
        rw [HWI.out]
        go_wp2
        go_round
        case rel => exact ⟨k + 1, by omega, by go_num, by have := hs.out; simp only [if_true] at this; rw [← this]; exact HD.out⟩
        case measure => simp [intOf]; omega
      · have hxb : (y != 0) = true := by simpa using hx
        go_wp2_with fail
        refine (fmWithin_any _ _ _ _).mono ?_; rintro e w' ⟨rfl, rfl⟩
        rw [HWI.out]
        go_wp2
        go_ret
        have := hs.out
        rw [if_neg hx] at this
        exact ⟨by rw [← HD.out, this]; rfl, rfl⟩
    · go_wp2
      go_ret
      have hd := HD.out
      rw [List.drop_eq_nil_of_le (by omega)] at hd
      exact ⟨by rw [← hd]; rfl, rfl⟩

/-- The error of numbers. -/
def numsI (xs : List Int) (most : Int) : Int := firstI [sizedI xs.length most, eachI xs (-9999) 9999]
theorem IntsAt.keep {w w' : World} {A : Option Addr} {xs : List Int} (h : IntsAt w w.heap.size A xs) (hb : Below w.heap.size w w') : IntsAt w' w'.heap.size A xs := (h.below hb).mono hb.size

set_option maxHeartbeats 400000 in
theorem checkNumbers_any (A : Option Addr) (c : Nat) (xs : List Int) (m : Int) (w : World) (hl : xs.length ≤ 4611686018427387904) (h : IntsAt w w.heap.size A xs) :
    Calls Tryz.prog 84 #[.slice A xs.length c, .int .i64 m] w fun e w' => e = .returned (.int .i64 (numsI xs m)) ∧ Below w.heap.size w w' := by
  have H := Lib.hid h
  clear h
  go_enter Tryz.func84, Tryz.ntmps84
  go_wp2_with fail
  refine (sizedInt_any _ _ _ _ _ hl).mono ?_; rintro e w1 ⟨rfl, hb1⟩
  have HB := Lib.hid hb1
  clear hb1
  go_wp2_with fail
  refine (eachWithin_any _ _ xs _ _ _ hl (H.out.below HB.out).ints).mono ?_; rintro e w2 ⟨rfl, rfl⟩
  go_wp2_with fail
  refine (fmFirst_any _ _ [_, _] _ (by simp) (Ints.two _ _ _ _ _ rfl)).mono ?_; rintro e w2 ⟨rfl, rfl⟩
  go_wp2
  go_ret
  exact ⟨rfl, HB.out.alloc HB.out.size _⟩

set_option maxHeartbeats 400000 in
theorem itself_any (n : Int) (w : World) :
    Calls Tryz.prog 95 #[.int .i64 n] w fun e w' => e = .returned (.int .i64 n) ∧ w = w' := by
  go_enter Tryz.func95, Tryz.ntmps95
  go_wp2
  go_ret
  exact ⟨rfl, rfl⟩
def SmallI (xs : List Int) : Prop := ∀ x ∈ xs, -10000 ≤ x ∧ x ≤ 10000
theorem SmallI.at {xs : List Int} (h : SmallI xs) (k : Nat) (hk : k < xs.length) : -10000 ≤ xs.getD k 0 ∧ xs.getD k 0 ≤ 10000 := by
  have := h _ (List.getElem_mem hk)
  simpa [List.getD, List.getElem?_eq_getElem hk] using this

set_option maxRecDepth 100000 in
set_option maxHeartbeats 1000000 in
theorem sumInt_any (A : Option Addr) (c : Nat) (xs : List Int) (w : World) (h : Ints w A xs) (hs : SmallI xs) (hl : xs.length ≤ 1000) :
    Calls Tryz.prog 92 #[.slice A xs.length c, .func (.func 95) #[] #[]] w fun e w' => e = .returned (.int .i64 (ForMath.sumI xs)) ∧ w = w' := by
  have H := Lib.hid h
  have HS := Lib.hid hs
  clear h hs
  go_enter Tryz.func92, Tryz.ntmps92
  go_wp2
  go_loop [5, 10] (fun t i => ∃ k : Nat, k ≤ xs.length ∧ i = .int .i64 k ∧ t = .int .i64 (ForMath.sumI (xs.take k))) (fun _ i => xs.length - (intOf i).toNat)
  case atStart => exact ⟨0, Nat.zero_le _, rfl, by simp [ForMath.sumI]⟩
  case round =>
    obtain ⟨k, hk, rfl, rfl⟩ := hrel
    by_cases hlt : k < xs.length
    · obtain ⟨a, rfl, d0⟩ := H.out k hlt
      have hkb := HS.out.at k hlt
      have HT := Lib.hid (sumI_take xs k hlt)
      generalize xs.getD k 0 = x at d0 hkb HT
      have hsb := sumI_take_bound xs k hl HS.out
      generalize ForMath.sumI (xs.take k) = t at hsb HT
      go_wp2_with fail
      refine (itself_any _ _).mono ?_; rintro e w2 ⟨rfl, rfl⟩
      go_wp2
      go_round
      case rel => exact ⟨k + 1, by omega, by go_num, by rw [HT.out]⟩
      case measure => simp [intOf]; omega
    · have hk2 : xs.take k = xs := List.take_of_length_le (by omega)
      have HK := Lib.hid hk2
      clear hk2
      go_wp2
      go_ret
      exact ⟨by show Ending.returned (.int .i64 (ForMath.sumI (xs.take k))) = _; rw [HK.out], rfl⟩

theorem cbGo_drop (a b : List Int) (cs : List Nat) (k : Nat) (h : k < cs.length) : ForMath.cbGo a b (cs.drop k) = if a.length < cs.getD k 0 then ForMath.cbGo a b (cs.drop (k + 1)) else
    if cmpI (ForMath.lastSum a (cs.getD k 0)) (ForMath.lastSum b (cs.getD k 0)) = 0 then ForMath.cbGo a b (cs.drop (k + 1)) else cmpI (ForMath.lastSum a (cs.getD k 0)) (ForMath.lastSum b (cs.getD k 0)) := by
  rw [List.drop_eq_getElem_cons h]
  have e : cs.getD k 0 = cs[k] := by simp [List.getD, List.getElem?_eq_getElem h]
  rw [e, ForMath.cbGo]
  unfold cmpI
  repeat' split
  all_goals first | rfl | omega

theorem Ints.drop {w : World} {a : Addr} {xs : List Int} (h : Ints w (some a) xs) (k : Nat) : Ints w (some (a.add k)) (xs.drop k) := fun j hj => by
  rw [List.length_drop] at hj
  obtain ⟨a', e, hc⟩ := h (k + j) (by omega)
  obtain rfl : a = a' := by injection e
  refine ⟨_, rfl, ?_⟩
  have e2 : (a.add k).add j = a.add (k + j) := by
    unfold Addr.add
    by_cases h1 : k = 0 <;> by_cases h2 : j = 0 <;> simp [h1, h2]
    omega
  rw [e2, hc]
  simp [List.getD, List.getElem?_drop]

theorem quiet_w {P : Program} {f : FuncId} {args : Array Value} {w : World} {n : Nat} {v : Value}
    (h : Calls P f args (w.drewN n) fun e w' => e = .returned v ∧ w.drewN n = w') : Calls P f args (w.drewN n) fun e w' => e = .returned v ∧ ∃ m, w' = w.drewN m :=
  h.mono fun _ _ ⟨he, hm⟩ => ⟨he, n, hm.symm⟩
theorem quiet_wa {P : Program} {f : FuncId} {args : Array Value} {w : World} {a n : Nat} {v : Value}
    (h : Calls P f args (w.drewN (a + n)) fun e w' => e = .returned v ∧ w.drewN (a + n) = w') : Calls P f args (w.drewN (a + n)) fun e w' => e = .returned v ∧ ∃ m, w' = w.drewN (a + m) :=
  h.mono fun _ _ ⟨he, hm⟩ => ⟨he, n, hm.symm⟩

theorem Ints.drewN {w : World} {A : Option Addr} {xs : List Int} (h : Ints w A xs) (n : Nat) : Ints (w.drewN n) A xs := h
theorem SmallI.drop {xs : List Int} (h : SmallI xs) (k : Nat) : SmallI (xs.drop k) := fun x hx => h x (List.mem_of_mem_drop hx)
def lasts (n : Nat) : List Nat := [n, 9, 6, 3, 1]
theorem lasts_pos (n k : Nat) (h0 : 0 < n) (hk : k < 5) : 1 ≤ (lasts n).getD k 0 := by
  match k, hk with
  | 0, _ => exact h0
  | 1, _ => simp [lasts]
  | 2, _ => simp [lasts]
  | 3, _ => simp [lasts]
  | 4, _ => simp [lasts]
theorem lasts_at (n k : Nat) (hk : k < 5) : ([(n : Int), 9, 6, 3, 1] : List Int).getD k 0 = ((lasts n).getD k 0 : Nat) := by
  match k, hk with
  | 0, _ => rfl
  | 1, _ => rfl
  | 2, _ => rfl
  | 3, _ => rfl
  | 4, _ => rfl

set_option maxRecDepth 100000 in
set_option maxHeartbeats 2000000 in
theorem countback_any (A B : Option Addr) (c d : Nat) (xa xb : List Int) (w : World) (ha : IntsAt w w.heap.size A xa) (hb : IntsAt w w.heap.size B xb) (hab : xa.length = xb.length) (h0 : 0 < xa.length) (hl : xa.length ≤ 1000) (hc : xa.length ≤ c) (hd : xb.length ≤ d) (sa : SmallI xa) (sb : SmallI xb) :
    Calls Tryz.prog 85 #[.slice A xa.length c, .slice B xb.length d] w fun e w' => e = .returned (.int .i64 (ForMath.cback xa xb)) ∧ Below w.heap.size w w' := by
  have HA := Lib.hid ha
  have HB := Lib.hid hb
  have HAB := Lib.hid hab
  obtain ⟨a, rfl⟩ : ∃ a, A = some a := by obtain ⟨a, e, _⟩ := ha 0 h0; exact ⟨a, e⟩
  obtain ⟨b, rfl⟩ : ∃ b, B = some b := by obtain ⟨b, e, _⟩ := hb 0 (by omega); exact ⟨b, e⟩
  have HD : Hid (ForMath.cbGo xa xb (lasts xa.length) = ForMath.cback xa xb) := Lib.hid rfl
  have HSA := Lib.hid sa
  have HSB := Lib.hid sb
  clear ha hb hab sa sb
  go_enter Tryz.func85, Tryz.ntmps85
  go_wp2
  go_loopw [13] (fun i w' => ∃ k : Nat, k ≤ 5 ∧ i = .int .i64 k ∧ ForMath.cbGo xa xb ((lasts xa.length).drop k) = ForMath.cbGo xa xb (lasts xa.length) ∧ RowI w' w.heap.size [(xa.length : Int), 9, 6, 3, 1] ∧ Below w.heap.size w w') (fun i _ => 5 - (intOf i).toNat)
  case atStart => exact ⟨0, by omega, rfl, rfl, RowI.new w [(xa.length : Int), 9, 6, 3, 1], (Below.refl _ _).alloc (Nat.le_refl _) _⟩
  case round =>
    obtain ⟨k, hk, rfl, hg, hrow, hbel⟩ := hrel
    have HG := Lib.hid hg
    have HROW := Lib.hid hrow
    have HBEL := Lib.hid hbel
    clear hg hbel
    by_cases hlt : k < 5
    · have c0 := hrow.cell (j := k) hlt
      rw [lasts_at _ _ hlt] at c0
      have hm1 := lasts_pos xa.length k h0 hlt
      have HS := Lib.hid (cbGo_drop xa xb (lasts xa.length) k hlt)
      clear hrow
      generalize (lasts xa.length).getD k 0 = m at c0 hm1 HS
      by_cases hgt : xa.length < m
      · go_wp2
        go_roundw
        case rel => exact ⟨k + 1, by omega, by go_num, by rw [← HG.out, HS.out, if_pos hgt], HROW.out, HBEL.out⟩
        case measure => simp [intOf]; omega
      · obtain ⟨f, hf⟩ : ∃ f, f + m = xa.length := ⟨xa.length - m, by omega⟩
        have hw : IntKind.i64.wrap ((xa.length : Int) - (m : Int)) = (f : Int) := by rw [IntWalk.i64_in _ (by omega)]; omega
        have hf1 : (0 : Int) ≤ (f : Int) := Int.natCast_nonneg _
        have hf2 : (f : Int) ≤ (xa.length : Int) := by omega
        have hf3 : (f : Int) ≤ (xb.length : Int) := by have := HAB.out; omega
        have hf4 : (xa.length : Int) ≤ (c : Int) := by omega
        have hf5 : (xb.length : Int) ≤ (d : Int) := by omega
        have HF := Lib.hid hf
        clear hf
        have HSUMA := Lib.hid (fun (W : World) (hW : Below w.heap.size w W) => by
          have h := sumInt_any (some (a.add f)) (c - f) (xa.drop f) W ((HA.out.below hW).ints.drop f) (HSA.out.drop f) (by rw [List.length_drop]; omega)
          rw [List.length_drop, show ForMath.sumI (xa.drop f) = ForMath.lastSum xa m by unfold ForMath.lastSum; rw [show xa.length - m = f by have := HF.out; omega]] at h
          exact h)
        have HSUMB := Lib.hid (fun (W : World) (hW : Below w.heap.size w W) => by
          have h := sumInt_any (some (b.add f)) (d - f) (xb.drop f) W ((HB.out.below hW).ints.drop f) (HSB.out.drop f) (by rw [List.length_drop]; have := HAB.out; omega)
          rw [List.length_drop, show ForMath.sumI (xb.drop f) = ForMath.lastSum xb m by unfold ForMath.lastSum; rw [show xb.length - m = f by have := HF.out; have := HAB.out; omega]] at h
          exact h)
        rw [if_neg hgt] at HS
        generalize ForMath.lastSum xa m = sx at HSUMA HS
        generalize ForMath.lastSum xb m = sy at HSUMB HS
        have hcf : ¬ c = f := by have := HF.out; omega
        have hdf : ¬ d = f := by have := HF.out; have := HAB.out; omega
        by_cases hz : cmpI sx sy = 0
        · have hz2 : (cmpI sx sy != 0) = false := by rw [hz]; rfl
          have HZ := Lib.hid hz
          clear hz
          go_wp2
          go_quiet ((first
            | (go_at_call 92; first | with_reducible exact quiet_w (HSUMA.out _ (below_drewN HBEL.out _)) | with_reducible exact quiet_w (HSUMB.out _ (below_drewN HBEL.out _)))
            | (go_at_call 102; with_reducible exact quiet_w (compareInt_any _ _ _))))
          all_goals
            go_wp2
            go_roundw
            case rel => exact ⟨k + 1, by omega, by go_num, by rw [← HG.out, HS.out, if_pos HZ.out], HROW.out.drewN _, below_drewN HBEL.out _⟩
            case measure => simp [intOf]; omega
        · have hz2 : (cmpI sx sy != 0) = true := by simpa using hz
          have HZ := Lib.hid hz
          clear hz
          go_wp2
          go_quiet ((first
            | (go_at_call 92; first | with_reducible exact quiet_w (HSUMA.out _ (below_drewN HBEL.out _)) | with_reducible exact quiet_w (HSUMB.out _ (below_drewN HBEL.out _)))
            | (go_at_call 102; with_reducible exact quiet_w (compareInt_any _ _ _))))
          all_goals
            go_wp2
            go_ret
            exact ⟨by rw [← HD.out, ← HG.out, HS.out, if_neg HZ.out]; rfl, below_drewN HBEL.out _⟩
    · have HZ : Hid (ForMath.cback xa xb = 0) := Lib.hid (by rw [← HD.out, ← HG.out, show k = 5 by omega]; rfl)
      go_wp2
      go_ret
      exact ⟨by rw [HZ.out]; rfl, HBEL.out⟩

end Go.Proofs.YtbckfkopdojggaaGreatDoor

/- Countback, Ranks. -/
namespace Go.Proofs.YtbckfkopdojggaaGreatDoor
open Go.RowKit

theorem eachI_zero {xs : List Int} {a b : Int} (h : eachI xs a b = 0) : ∀ x ∈ xs, a ≤ x ∧ x ≤ b := fun x hx => by
  have := firstI_zero _ h (withinI x a b) (List.mem_map.2 ⟨x, hx, rfl⟩)
  unfold withinI at this
  by_cases g : a ≤ x ∧ x ≤ b
  · exact g
  · rw [if_neg g] at this; omega
theorem numsI_zero {xs : List Int} {m : Int} (h : numsI xs m = 0) : 0 < xs.length ∧ (xs.length : Int) ≤ m ∧ SmallI xs := by
  have h1 := firstI_zero _ h (sizedI xs.length m) (by simp)
  have h2 := firstI_zero _ h (eachI xs (-9999) 9999) (by simp)
  unfold sizedI at h1
  by_cases g1 : xs.length = 0
  · rw [if_pos g1] at h1; omega
  · rw [if_neg g1] at h1
    by_cases g2 : (xs.length : Int) ≤ m
    · exact ⟨by omega, g2, fun x hx => by have := eachI_zero h2 x hx; omega⟩
    · rw [if_neg g2] at h1; omega

def cbI (xa xb : List Int) : Int := firstI [numsI xa 36, numsI xb 36, unlessI (decide (xa.length = xb.length)) 2]
def cbR (xa xb : List Int) : Int × Int := if cbI xa xb = 0 then (ForMath.cback xa xb, 0) else (0, cbI xa xb)

set_option maxRecDepth 100000 in
set_option maxHeartbeats 1000000 in
theorem fmCountback_any (A B : Option Addr) (c d : Nat) (xa xb : List Int) (w : World) (ha : IntsAt w w.heap.size A xa) (hb : IntsAt w w.heap.size B xb) (la : xa.length ≤ 4611686018427387904) (lb : xb.length ≤ 4611686018427387904) (hc : xa.length ≤ c) (hd : xb.length ≤ d) :
    Calls Tryz.prog 39 #[.slice A xa.length c, .slice B xb.length d] w fun e w' => e = .returned (.tuple #[.int .i64 (cbR xa xb).1, .int .i64 (cbR xa xb).2]) ∧ Below w.heap.size w w' := by
  have HA := Lib.hid ha
  have HB := Lib.hid hb
  have he : ((xa.length : Int) == (xb.length : Int)) = decide (xa.length = xb.length) := by
    by_cases g : xa.length = xb.length
    · rw [decide_eq_true g, g]; simp
    · rw [decide_eq_false g, beq_eq_false_iff_ne]; omega
  have HCB : Hid (∀ W, Below w.heap.size w W → cbI xa xb = 0 → Calls Tryz.prog 85 #[.slice A xa.length c, .slice B xb.length d] W fun e w' => e = .returned (.int .i64 (ForMath.cback xa xb)) ∧ Below W.heap.size W w') := Lib.hid (fun W hW h0 => by
    have h1 := numsI_zero (firstI_zero _ h0 (numsI xa 36) (by simp))
    have h2 := numsI_zero (firstI_zero _ h0 (numsI xb 36) (by simp))
    have h3 := firstI_zero _ h0 (unlessI (decide (xa.length = xb.length)) 2) (by simp)
    have h4 : xa.length = xb.length := by
      by_cases g : xa.length = xb.length
      · exact g
      · rw [decide_eq_false g] at h3; simp [unlessI] at h3
    exact countback_any A B c d xa xb W ((HA.out.below hW).mono hW.size) ((HB.out.below hW).mono hW.size) h4 h1.1 (by omega) hc hd h1.2.2 h2.2.2)
  have HQ : Hid (firstI [numsI xa 36, numsI xb 36, unlessI (decide (xa.length = xb.length)) 2] = cbI xa xb) := Lib.hid rfl
  have HR : Hid (cbR xa xb = if cbI xa xb = 0 then (ForMath.cback xa xb, 0) else (0, cbI xa xb)) := Lib.hid rfl
  clear ha hb
  generalize decide (xa.length = xb.length) = eq at he HQ
  by_cases hz : cbI xa xb = 0
  all_goals
    have HZ := Lib.hid hz
    clear hz
    go_enter Tryz.func39, Tryz.ntmps39
    go_wp2_with fail
    refine (checkNumbers_any _ _ xa _ _ la HA.out).mono ?_; rintro e w1 ⟨rfl, hb1⟩
    have HB1 := Lib.hid hb1
    clear hb1
    go_wp2_with fail
    refine (checkNumbers_any _ _ xb _ _ lb ((HB.out.below HB1.out).mono HB1.out.size)).mono ?_; rintro e w2 ⟨rfl, hb2⟩
    have HB2 := Lib.hid (HB1.out.trans (hb2.mono HB1.out.size))
    clear hb2
    go_wp2_with fail
    refine (fmUnless_any _ _ _).mono ?_; rintro e w3 ⟨rfl, rfl⟩
    go_wp2_with fail
    refine (fmFirst_any _ _ [_, _, _] _ (by simp) (Ints.three _ _ _ _ _ _ rfl)).mono ?_; rintro e w3 ⟨rfl, rfl⟩
    rw [HQ.out]
  · rw [HZ.out]
    go_wp2_with fail
    refine (HCB.out _ (HB2.out.alloc HB2.out.size _) HZ.out).mono ?_; rintro e w3 ⟨rfl, hb3⟩
    have HB3 := Lib.hid hb3
    clear hb3
    go_wp2
    go_ret2
    exact ⟨by rw [HR.out, if_pos HZ.out]; rfl, (HB2.out.alloc HB2.out.size _).trans (HB3.out.mono (by have := HB2.out.size; simp; omega))⟩
  · have hzb : (cbI xa xb != 0) = true := by have := HZ.out; simpa using this
    go_wp2
    go_ret2
    exact ⟨by rw [HR.out, if_neg HZ.out]; rfl, HB2.out.alloc HB2.out.size _⟩

/-- A slice's address under which lists of numbers lie. -/
def ListsR (w : World) (A : Option Addr) (ls : List (List Int)) : Prop := ∀ j, j < ls.length → ∃ a B c, A = some a ∧ w.cell? (a.add j) = some (.slice B (ls.getD j []).length c) ∧ (a.add j).block < w.heap.size ∧ (ls.getD j []).length ≤ c ∧ IntsAt w w.heap.size B (ls.getD j [])
theorem ListsR.keep {w w' : World} {A : Option Addr} {ls : List (List Int)} (h : ListsR w A ls) (hb : Below w.heap.size w w') : ListsR w' A ls := fun j hj => by
  obtain ⟨a, B, c, rfl, h0, h1, h2, h3⟩ := h j hj
  exact ⟨a, B, c, rfl, (hb.cell h1).trans h0, Nat.lt_of_lt_of_le h1 hb.size, h2, (h3.below hb).mono hb.size⟩

end Go.Proofs.YtbckfkopdojggaaGreatDoor
