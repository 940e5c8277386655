/- Merged: FrDE FrDF. -/
import Derived.Test.YtbckfkopdojggaaGreatDoorMgH
import Derived.Lib.OwnBridge
import Derived.Outline
import Derived.Test.YtbckfkopdojggaaGreatDoorMgA
import Derived.Test.YtbckfkopdojggaaGreatDoorMgB
import Derived.Test.YtbckfkopdojggaaGreatDoorMgGx
/- slices.Sorted of the numbers of a slice. -/
set_option linter.unusedVariables false
set_option linter.unusedSimpArgs false
namespace Go.Proofs.YtbckfkopdojggaaGreatDoor
open Go.RowKit

def sortI (xs : List Int) : List Int := xs.mergeSort fun x y => decide (x ≤ y)
theorem sortI_len (xs : List Int) : (sortI xs).length = xs.length := List.length_mergeSort xs
theorem below_grow (w : World) (os : Array Obj) : Below w.heap.size w (Sort.grow w os) := ⟨rfl, rfl, rfl, by simp [Sort.grow], fun k hk => by simp [Sort.grow, Array.getElem?_append, hk]⟩
theorem NumOwn.below {w w' : World} {base : Nat} {v : Value} {l : List Int} (h : NumOwn w base v l) (hb : Below w.heap.size w w') : NumOwn w' base v l := by
  refine ⟨h.1, ?_⟩
  rcases h.2 with hn | ⟨g, cap, cur, e1, e2, e3, rest⟩
  · exact .inl hn
  · exact .inr ⟨g, cap, cur, e1, e2, (hb.block g (Array.getElem?_eq_some_iff.1 e3).1).trans e3, rest⟩
theorem NumOwn.ints {w : World} {base : Nat} {A : Option Addr} {n c : Nat} {l : List Int} (h : NumOwn w base (.slice A n c) l) : IntsAt w w.heap.size A l ∧ (n = l.length) ∧ (l.length ≤ c) ∧ (∀ a, A = some a → base ≤ a.block ∧ a = ⟨a.block, 0, none⟩) := by
  rcases h.2 with ⟨e, h0⟩ | ⟨g, cap, cur, e, hg, hgb, hnc, _, _, htk⟩
  · injection e with e1 e2 e3
    exact ⟨fun j hj => by omega, by omega, by omega, fun a ha => by rw [e1] at ha; cases ha⟩
  · injection e with e1 e2 e3
    subst e1; subst e3
    refine ⟨fun j hj => ⟨_, rfl, (Array.getElem?_eq_some_iff.1 hgb).1, ?_⟩, e2, hnc, fun a ha => by injection ha with ha; subst ha; exact ⟨hg, rfl⟩⟩
    rw [add_zero_at, cell_of_row w g _ _ _ _ hgb]
    have : (l.map (Value.int .i64))[j]? = some (.int .i64 (l.getD j 0)) := by simp [List.getElem?_eq_getElem hj, List.getD]
    rw [← htk, List.getElem?_take_of_lt (by omega)] at this
    simpa using this

set_option maxHeartbeats 1000000 in
theorem sortNums_any (base : Nat) (A : Option Addr) (n c : Nat) (xs : List Int) (w : World) (h : NumOwn w base (.slice A n c) xs) (hl : xs.length ≤ 100000) :
    Calls Tryz.prog 155 #[.slice A n c] w fun e w' => e = .returned (.tuple #[]) ∧ NumOwn w' base (.slice A n c) (sortI xs) ∧ Below base w w' := by
  by_cases hv : (Value.slice A n c) = .slice none 0 0
  · injection hv with e1 e2 e3
    subst e1; subst e2
    have hx : xs = [] := List.eq_nil_of_length_eq_zero h.ints.2.1.symm
    subst hx
    exact (Tryz.slices_Sort_int_none none c w).mono fun e w' ⟨h1, h2⟩ => by subst h2; exact ⟨h1, by rw [show sortI [] = [] by simp [sortI]]; exact h, Below.refl _ _⟩
  · obtain ⟨g, cap, e, hb, hlt, hn, hm, hlen, hH⟩ := Lib.holds_of_ownsRow (enc := Value.int .i64) h hv
    injection e with e1 e2 e3
    subst e1; subst e3
    obtain rfl : n = xs.length := h.ints.2.1
    refine (Tryz.slices_Sort_int g 0 c xs w hH hlt (by omega)).mono ?_
    rintro e w' ⟨rfl, q, os, rfl⟩
    have h2 := Lib.ownsRow_putRow (q := q) (ys := sortI xs) (k := xs.length) (show w.ownsRow base 3 1 (.slice (some ⟨g, 0, none⟩) xs.length c) xs.length (xs.map (Value.int .i64)) from h) (sortI_len xs) (Nat.le_refl _)
    rw [List.take_of_length_le (by rw [sortI_len]; omega)] at h2
    have h3 : NumOwn (Sort.putRow (Value.int .i64) (Sort.ahead w q) g 0 (sortI xs).toArray) base (.slice (some ⟨g, 0, none⟩) xs.length c) (sortI xs) := by unfold NumOwn; rw [sortI_len]; exact h2
    have hbp : Below base w (Sort.putRow (Value.int .i64) (Sort.ahead w q) g 0 (sortI xs).toArray) := Lib.below_putRow (Below.refl _ _) hb
    have hbg := below_grow (Sort.putRow (Value.int .i64) (Sort.ahead w q) g 0 (sortI xs).toArray) os
    exact ⟨rfl, h3.below hbg, hbp.trans (hbg.mono (by have := hbp.size; omega))⟩

set_option maxHeartbeats 1000000 in
theorem sorted_any (Ba : Nat) (A : Option Addr) (c : Nat) (xs : List Int) (w : World) (h64 : xs.length ≤ 100000) (hBa : w.cell? ⟨Ba, 0, none⟩ = some (.slice A xs.length c)) (hpa : IntsAt w w.heap.size A xs) :
    Calls Tryz.prog 93 #[.func (.func 156) #[] #[.pointer (some ⟨Ba, 0, none⟩)]] w (NumsOut (sortI xs) w) := by
  have H := Lib.hid (collect_any Ba A c xs w h64 hBa hpa)
  have HL := Lib.hid (sortI_len xs)
  clear hpa
  go_enter Tryz.func93, Tryz.ntmps93
  go_wp2_with fail
  refine H.out.mono ?_; rintro e w1 ⟨A', c', rfl, ho, hb⟩
  have HB := Lib.hid hb
  have HS := Lib.hid (sortNums_any w.heap.size A' xs.length c' xs w1 ho h64)
  clear ho hb H
  go_wp2_with fail
  refine HS.out.mono ?_; rintro e w2 ⟨rfl, ho2, hb2⟩
  have HO := Lib.hid ho2
  have HB2 := Lib.hid hb2
  clear ho2 hb2 HS
  go_wp2
  go_ret
  exact ⟨A', c', by rw [HL.out]; rfl, by rw [HL.out]; exact HO.out, HB.out.trans HB2.out⟩

end Go.Proofs.YtbckfkopdojggaaGreatDoor

/- The formats of sides: the map, a side's check, the hundredths. -/
namespace Go.Proofs.YtbckfkopdojggaaGreatDoor
open Go.RowKit

def sFour : ByteArray := ⟨#[102, 111, 117, 114, 115, 111, 109, 101]⟩
def sScr : ByteArray := ⟨#[115, 99, 114, 97, 109, 98, 108, 101]⟩
def sBall : ByteArray := ⟨#[102, 111, 117, 114, 98, 97, 108, 108]⟩
def sAgg : ByteArray := ⟨#[97, 103, 103, 114, 101, 103, 97, 116, 101]⟩
def vFour : Value := .agg #[.int .i64 2, fnV 142, .nilFunc]
def vScr : Value := .agg #[.int .i64 4, fnV 143, .nilFunc]
def vBall : Value := .agg #[.int .i64 4, .nilFunc, fnV 144]
def vAgg : Value := .agg #[.int .i64 2, .nilFunc, fnV 145]
def sidesObj : Obj := .map #[{ key := .string sFour, val := vFour, born := 0 }, { key := .string sScr, val := vScr, born := 1 }, { key := .string sBall, val := vBall, born := 2 }, { key := .string sAgg, val := vAgg, born := 3 }] 4

set_option maxRecDepth 100000 in
set_option maxHeartbeats 400000 in
theorem sides_any (w : World) :
    Calls Tryz.prog 80 #[] w fun e w' => e = .returned (.map (some w.heap.size)) ∧ w.alloc sidesObj = w' := by
  have hmm := @run_makeMap Tryz.prog
  have i0 := fun v => run_put_new (P := Tryz.prog) w (t := 151) (es := #[]) (clock := 0) Tryz.underlying151 Tryz.underlying9 (.string sFour) v trivial rfl
  have i1 := fun v v0 => run_put_new (P := Tryz.prog) w (t := 151) (es := #[⟨.string sFour, v0, 0⟩]) (clock := 1) Tryz.underlying151 Tryz.underlying9 (.string sScr) v trivial (by kernel_rfl)
  have i2 := fun v v0 v1 => run_put_new (P := Tryz.prog) w (t := 151) (es := #[⟨.string sFour, v0, 0⟩, ⟨.string sScr, v1, 1⟩]) (clock := 2) Tryz.underlying151 Tryz.underlying9 (.string sBall) v trivial (by kernel_rfl)
  have i3 := fun v v0 v1 v2 => run_put_new (P := Tryz.prog) w (t := 151) (es := #[⟨.string sFour, v0, 0⟩, ⟨.string sScr, v1, 1⟩, ⟨.string sBall, v2, 2⟩]) (clock := 3) Tryz.underlying151 Tryz.underlying9 (.string sAgg) v trivial (by kernel_rfl)
  simp only [List.push_toArray, List.nil_append, List.cons_append, Nat.zero_add, Nat.reduceAdd, sFour, sScr, sBall, sAgg] at i0 i1 i2 i3
  go_enter Tryz.func80, Tryz.ntmps80
  go_wp2
  go_ret
  exact ⟨rfl, rfl⟩

theorem look_four (W : World) (b : Nat) (hb : W.heap[b]? = some sidesObj) : (Instr.lookup 151 (.map (some b)) (.string sFour) false).run Tryz.prog W = .ok vFour W :=
  run_get_yes (i := 0) W Tryz.underlying151 Tryz.underlying9 hb _ trivial (by kernel_rfl)
theorem look_scr (W : World) (b : Nat) (hb : W.heap[b]? = some sidesObj) : (Instr.lookup 151 (.map (some b)) (.string sScr) false).run Tryz.prog W = .ok vScr W :=
  run_get_yes (i := 1) W Tryz.underlying151 Tryz.underlying9 hb _ trivial (by kernel_rfl)
theorem look_ball (W : World) (b : Nat) (hb : W.heap[b]? = some sidesObj) : (Instr.lookup 151 (.map (some b)) (.string sBall) false).run Tryz.prog W = .ok vBall W :=
  run_get_yes (i := 2) W Tryz.underlying151 Tryz.underlying9 hb _ trivial (by kernel_rfl)
theorem look_agg (W : World) (b : Nat) (hb : W.heap[b]? = some sidesObj) : (Instr.lookup 151 (.map (some b)) (.string sAgg) false).run Tryz.prog W = .ok vAgg W :=
  run_get_yes (i := 3) W Tryz.underlying151 Tryz.underlying9 hb _ trivial (by kernel_rfl)

def sideI (m : Int) (n : Nat) : Int := if 2 ≤ n ∧ (n : Int) ≤ m then 0 else 2
set_option maxRecDepth 100000 in
set_option maxHeartbeats 1000000 in
theorem sideCheck_any (m : Int) (f g : Value) (n : Nat) (w : World) (hn : n ≤ 4611686018427387904) :
    Calls Tryz.prog 137 #[.agg #[.int .i64 m, f, g], .int .i64 n] w fun e w' => e = .returned (.int .i64 (sideI m n)) ∧ Below w.heap.size w w' := by
  by_cases g1 : (2 : Int) ≤ (n : Int) <;> by_cases g2 : (n : Int) ≤ m
  all_goals
    go_enter Tryz.func137, Tryz.ntmps137
    go_wp2_with fail
    refine (fmUnless_any _ _ _).mono ?_; rintro e w1 ⟨rfl, rfl⟩
    go_wp2
    go_ret
    exact ⟨by
      first
        | (rw [show sideI m n = 0 by unfold sideI; rw [if_pos (by omega)]]; rfl)
        | (rw [show sideI m n = 2 by unfold sideI; rw [if_neg (by omega)]]; rfl), (Below.refl _ _).alloc (Nat.le_refl _) _⟩

def hundF (_ : Nat) : List Int := [50, 50]
def hundS (n : Nat) : List Int := if n = 2 then [35, 15] else if n = 3 then [30, 20, 10] else [25, 20, 15, 10]
set_option maxHeartbeats 400000 in
theorem hundF_any (n : Nat) (w : World) :
    Calls Tryz.prog 142 #[.int .i64 n] w (IntsOut (hundF n) w) := by
  go_enter Tryz.func142, Tryz.ntmps142
  go_wp2
  go_ret
  exact ⟨w.heap.size, rfl, RowI.new w [50, 50], Nat.le_refl _, (Below.refl _ _).alloc (Nat.le_refl _) _⟩
set_option maxHeartbeats 400000 in
theorem hundS_any (n : Nat) (w : World) :
    Calls Tryz.prog 143 #[.int .i64 n] w (IntsOut (hundS n) w) := by
  by_cases h2 : n = 2
  · have g2 : ((n : Int) == 2) = true := by rw [beq_iff_eq]; omega
    have H : Hid (hundS n = [35, 15]) := Lib.hid (by unfold hundS; rw [if_pos h2])
    clear h2
    go_enter Tryz.func143, Tryz.ntmps143
    go_wp2
    go_ret
    exact ⟨w.heap.size, by rw [H.out]; rfl, by rw [H.out]; exact RowI.new w [35, 15], Nat.le_refl _, (Below.refl _ _).alloc (Nat.le_refl _) _⟩
  · have g2 : ((n : Int) == 2) = false := by rw [beq_eq_false_iff_ne]; omega
    by_cases h3 : n = 3
    · have g3 : ((n : Int) == 3) = true := by rw [beq_iff_eq]; omega
      have H : Hid (hundS n = [30, 20, 10]) := Lib.hid (by unfold hundS; rw [if_neg h2, if_pos h3])
      clear h2 h3
      go_enter Tryz.func143, Tryz.ntmps143
      go_wp2
      go_ret
      exact ⟨w.heap.size, by rw [H.out]; rfl, by rw [H.out]; exact RowI.new w [30, 20, 10], Nat.le_refl _, (Below.refl _ _).alloc (Nat.le_refl _) _⟩
    · have g3 : ((n : Int) == 3) = false := by rw [beq_eq_false_iff_ne]; omega
      have H : Hid (hundS n = [25, 20, 15, 10]) := Lib.hid (by unfold hundS; rw [if_neg h2, if_neg h3])
      clear h2 h3
      go_enter Tryz.func143, Tryz.ntmps143
      go_wp2
      go_ret
      exact ⟨w.heap.size, by rw [H.out]; rfl, by rw [H.out]; exact RowI.new w [25, 20, 15, 10], Nat.le_refl _, (Below.refl _ _).alloc (Nat.le_refl _) _⟩

end Go.Proofs.YtbckfkopdojggaaGreatDoor
