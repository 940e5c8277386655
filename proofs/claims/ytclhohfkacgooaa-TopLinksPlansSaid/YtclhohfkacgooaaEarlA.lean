/- Earliest of valid conditions: the days of planOf, or that there are none. -/
import Derived.Test.YtclhohfkacgooaaPlanA
namespace Go.Proofs.Ytclhohfkacgooaa
open Go.RowKit PlanMath

def upR (r : Cond) : Int × Int × Int := ((r.1 : Int), (r.2.1 : Int), r.2.2)
theorem getD_up (R : List Cond) (j : Nat) (h : j < R.length) : (R.map upR).getD j (0, 0, 0) = upR (R.getD j (0, 0, 0)) := by
  simp [List.getD, List.getElem?_eq_getElem h]
theorem CondsR.rules {w : World} {B : Nat} {A : Option Addr} {R : List Cond} (h : CondsR w B A R) : RulesR w B A (R.map upR) := fun j hj => by
  rw [List.length_map] at hj
  obtain ⟨a, h1, h2, h3, h4, h5⟩ := h j hj
  rw [getD_up R j hj]
  exact ⟨a, h1, h2, h3, h4, h5⟩
theorem rulesGo_valid (n : Nat) (R : List Cond) (h : Valid n R) : rulesGo n (R.map upR) = 0 := by
  induction R with
  | nil => rfl
  | cons r R ih =>
    obtain ⟨f, t, l⟩ := r
    obtain ⟨h1, h2, h3, h4⟩ := h (f, t, l) (by simp)
    simp only at h1 h2 h3 h4
    show (if ¬ ((0 ≤ (f : Int) ∧ (f : Int) < n) ∧ 0 ≤ (t : Int) ∧ (t : Int) < n) then (10 : Int) else if ¬ (-10000 ≤ l ∧ l ≤ 10000) then 3 else rulesGo n (R.map upR)) = 0
    rw [if_neg (by omega), if_neg (by omega)]
    exact ih fun r hr => h r (by simp [hr])
theorem rulesI_valid (n : Nat) (R : List Cond) (h1 : 1 ≤ n) (h2 : n ≤ 24) (hl : R.length ≤ 256) (h : Valid n R) : rulesI n (R.map upR) = 0 := by
  rw [rulesI, if_neg (by omega), if_neg (by simpa using hl), rulesGo_valid n R h]

def EarlOut (n : Nat) (R : List Cond) (w : World) (e : Ending) (w' : World) : Prop :=
  ∃ g, e = .returned (.tuple #[.slice (some ⟨g, 0, none⟩) n n, .int .i64 0]) ∧ RowI w' g (iter R (zeros n) n) ∧ w.heap.size ≤ g ∧ Below w.heap.size w w'

set_option maxRecDepth 100000 in
set_option maxHeartbeats 1000000 in
theorem earliest_yes (n : Nat) (A : Option Addr) (c B : Nat) (R : List Cond) (w : World) (h1 : 1 ≤ n) (h2 : n ≤ 24) (hl : R.length ≤ 256) (hv : Valid n R) (hB : B ≤ w.heap.size) (hr : CondsR w B A R)
    (hq : chg R (iter R (zeros n) (n - 1)) = false) :
    Calls Try.prog 6 #[.int .i64 (n : Int), .slice A R.length c] w (EarlOut n R w) := by
  have HCK := Lib.hid (checkRules_any n A c B (R.map upR) w (by simp; omega) hB hr.rules)
  have HPL := Lib.hid (fun (w1 : World) (hb : Below w.heap.size w w1) => planOf_any n A c B R w1 h1 h2 hl hv (Nat.le_trans hB hb.size) (hr.below (hb.mono hB)))
  have HZ : Hid (rulesI n (R.map upR) = 0) := rulesI_valid n R h1 h2 hl hv
  have HQ := Lib.hid hq
  clear hr hv hq
  go_enter Try.func6, Try.ntmps6
  go_wp2_with fail
  have hck := HCK.out
  rw [List.length_map, HZ.out] at hck
  refine hck.mono ?_
  clear hck HCK
  rintro e w1 ⟨rfl, hb1⟩
  go_wp2_with fail
  refine (HPL.out w1 hb1).mono ?_
  rintro e w2 ⟨g, m, last, rfl, hrow, hg, hb2⟩
  rw [HQ.out]
  have HROW := Lib.hid hrow
  have HB : Hid (Below w.heap.size w w2) := Lib.hid (hb1.trans (hb2.mono hb1.size))
  have HG : Hid (w.heap.size ≤ g) := Nat.le_trans hb1.size hg
  clear hrow hb1 hb2 hg HPL
  go_wp2
  go_ret2
  exact ⟨g, rfl, HROW.out.alloc _, HG.out, HB.out.alloc HB.out.size _⟩

set_option maxRecDepth 100000 in
set_option maxHeartbeats 1000000 in
theorem earliest_no (n : Nat) (A : Option Addr) (c B : Nat) (R : List Cond) (w : World) (h1 : 1 ≤ n) (h2 : n ≤ 24) (hl : R.length ≤ 256) (hv : Valid n R) (hB : B ≤ w.heap.size) (hr : CondsR w B A R)
    (hq : chg R (iter R (zeros n) (n - 1)) = true) :
    Calls Try.prog 6 #[.int .i64 (n : Int), .slice A R.length c] w fun e w' => e = .returned (.tuple #[.slice none 0 0, .int .i64 23]) ∧ Below w.heap.size w w' := by
  have HCK := Lib.hid (checkRules_any n A c B (R.map upR) w (by simp; omega) hB hr.rules)
  have HPL := Lib.hid (fun (w1 : World) (hb : Below w.heap.size w w1) => planOf_any n A c B R w1 h1 h2 hl hv (Nat.le_trans hB hb.size) (hr.below (hb.mono hB)))
  have HZ : Hid (rulesI n (R.map upR) = 0) := rulesI_valid n R h1 h2 hl hv
  have HQ := Lib.hid hq
  clear hr hv hq
  go_enter Try.func6, Try.ntmps6
  go_wp2_with fail
  have hck := HCK.out
  rw [List.length_map, HZ.out] at hck
  refine hck.mono ?_
  clear hck HCK
  rintro e w1 ⟨rfl, hb1⟩
  go_wp2_with fail
  refine (HPL.out w1 hb1).mono ?_
  rintro e w2 ⟨g, m, last, rfl, hrow, hg, hb2⟩
  rw [HQ.out]
  have HB : Hid (Below w.heap.size w w2) := Lib.hid (hb1.trans (hb2.mono hb1.size))
  clear hrow hb1 hb2 hg HPL
  go_wp2
  go_ret2
  exact ⟨rfl, HB.out.alloc HB.out.size _⟩

end Go.Proofs.Ytclhohfkacgooaa
