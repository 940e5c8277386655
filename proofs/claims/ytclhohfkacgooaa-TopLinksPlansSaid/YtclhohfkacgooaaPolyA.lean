/- Ways and turns of package course: cross, dot, difference, turn, overlapping, foldedBack, touching. -/
import Derived.Test.YtclhohfkacgooaaCourB
namespace Go.Proofs.Ytclhohfkacgooaa
open Go.RowKit

def cmpI (a b : Int) : Int := if a < b then -1 else if b < a then 1 else 0

set_option maxHeartbeats 400000 in
theorem cmpInt_any (a b : Int) (w : World) :
    Calls Try.prog 45 #[.int .i64 a, .int .i64 b] w fun e w' => e = .returned (.int .i64 (cmpI a b)) ∧ w = w' := by
  rcases Int.lt_trichotomy a b with h | h | h
  · go_enter Try.func45, Try.ntmps45
    go_wp2_with (go_in)
    go_ret
    exact ⟨by unfold cmpI; rw [if_pos h]; rfl, rfl⟩
  · subst h
    go_enter Try.func45, Try.ntmps45
    go_wp2_with (go_in)
    go_ret
    exact ⟨by unfold cmpI; rw [if_neg (by omega), if_neg (by omega)]; rfl, rfl⟩
  · go_enter Try.func45, Try.ntmps45
    go_wp2_with (go_in)
    go_ret
    exact ⟨by unfold cmpI; rw [if_neg (by omega), if_pos h]; rfl, rfl⟩

/-- A place, and a side: from, to. -/
abbrev Pl := Int × Int
abbrev Sd := Pl × Pl
abbrev plV (p : Pl) : Value := .agg #[.int .i64 p.1, .int .i64 p.2]
def crossI (a b : Pl) : Int := a.1 * b.2 - a.2 * b.1
def dotI (a b : Pl) : Int := a.1 * b.1 + a.2 * b.2
def diffP (a b : Pl) : Pl := (b.1 - a.1, b.2 - a.2)
def turnI (a b c : Pl) : Int := cmpI (crossI (diffP a b) (diffP a c)) 0
/-- Coordinates of at most m. -/
def In (m : Int) (p : Pl) : Prop := (-m ≤ p.1 ∧ p.1 ≤ m) ∧ -m ≤ p.2 ∧ p.2 ≤ m

theorem mul_in {a b m k : Int} (ha : -m ≤ a ∧ a ≤ m) (hb : -k ≤ b ∧ b ≤ k) : -(m * k) ≤ a * b ∧ a * b ≤ m * k := by
  have h1 : (a * b).natAbs ≤ m.natAbs * k.natAbs := by
    rw [Int.natAbs_mul]
    exact Nat.mul_le_mul (by omega) (by omega)
  have h2 : (m.natAbs * k.natAbs : Nat) = (m * k).natAbs := (Int.natAbs_mul m k).symm
  have h3 : 0 ≤ m * k := Int.mul_nonneg (by omega) (by omega)
  omega

theorem diff_in {m : Int} {a b : Pl} (ha : In m a) (hb : In m b) : In (m + m) (diffP a b) := by
  obtain ⟨⟨a1, a2⟩, a3, a4⟩ := ha
  obtain ⟨⟨b1, b2⟩, b3, b4⟩ := hb
  unfold In diffP
  simp only
  omega

set_option maxHeartbeats 400000 in
theorem cross_any (a b : Pl) (w : World) (ha : In 2000000 a) (hb : In 2000000 b) :
    Calls Try.prog 23 #[plV a, plV b] w fun e w' => e = .returned (.int .i64 (crossI a b)) ∧ Below w.heap.size w w' := by
  obtain ⟨a1, a2⟩ := a
  obtain ⟨b1, b2⟩ := b
  have m1 := mul_in ha.1 hb.2
  have m2 := mul_in ha.2 hb.1
  simp only [Int.reduceMul, Int.reduceNeg] at m1 m2
  obtain ⟨m3, m4⟩ := m1
  obtain ⟨m5, m6⟩ := m2
  clear ha hb
  unfold plV
  go_enter Try.func23, Try.ntmps23
  go_wp2
  go_ret
  exact ⟨rfl, ((Below.refl _ _).alloc (Nat.le_refl _) _).alloc (by simp) _⟩

set_option maxHeartbeats 400000 in
theorem dot_any (a b : Pl) (w : World) (ha : In 2000000 a) (hb : In 2000000 b) :
    Calls Try.prog 47 #[plV a, plV b] w fun e w' => e = .returned (.int .i64 (dotI a b)) ∧ Below w.heap.size w w' := by
  obtain ⟨a1, a2⟩ := a
  obtain ⟨b1, b2⟩ := b
  have m1 := mul_in ha.1 hb.1
  have m2 := mul_in ha.2 hb.2
  simp only [Int.reduceMul, Int.reduceNeg] at m1 m2
  obtain ⟨m3, m4⟩ := m1
  obtain ⟨m5, m6⟩ := m2
  clear ha hb
  unfold plV
  go_enter Try.func47, Try.ntmps47
  go_wp2
  go_ret
  exact ⟨rfl, ((Below.refl _ _).alloc (Nat.le_refl _) _).alloc (by simp) _⟩

set_option maxHeartbeats 400000 in
theorem difference_any (a b : Pl) (w : World) (ha : In 1000000 a) (hb : In 1000000 b) :
    Calls Try.prog 46 #[plV a, plV b] w fun e w' => e = .returned (plV (diffP a b)) ∧ Below w.heap.size w w' := by
  obtain ⟨a1, a2⟩ := a
  obtain ⟨b1, b2⟩ := b
  obtain ⟨⟨x1, x2⟩, x3, x4⟩ := ha
  obtain ⟨⟨y1, y2⟩, y3, y4⟩ := hb
  simp only at x1 x2 x3 x4 y1 y2 y3 y4
  unfold plV
  go_enter Try.func46, Try.ntmps46
  go_wp2
  refine bodyPost_ret (v := .agg #[.int .i64 (b1 - a1), .int .i64 (b2 - a2)]) (by simp [results, Try.results46, go_sem]) rfl ⟨rfl, ?_⟩
  exact (((Below.refl _ _).alloc (Nat.le_refl _) _).alloc (by simp) _).alloc (by simp; omega) _

/-- What lay in W lies there still, behind whatever leaves what is below W's end alone. -/
theorem keepB {W w1 w2 : World} (hB : Hid (Below W.heap.size W w1)) (hb : Below w1.heap.size w1 w2) : Hid (Below W.heap.size W w2) := Lib.hid (hB.out.trans (hb.mono hB.out.size))
theorem keepA {W w1 : World} (hB : Hid (Below W.heap.size W w1)) (o : Obj) : Hid (Below W.heap.size W (w1.alloc o)) := Lib.hid (hB.out.alloc hB.out.size o)
theorem cellH {W w2 : World} (h : Hid (Below W.heap.size W w2)) {p : Addr} {v : Value} (hc : W.cell? p = some v) (hp : p.block < W.heap.size) : w2.cell? p = some v := (h.out.cell hp).trans hc
theorem plCell {w : World} {g : Nat} {T : TypeId} {x y : Int} (h : w.heap[g]? = some (.cells #[.int .i64 x, .int .i64 y] T)) : w.cell? ⟨g, 0, none⟩ = some (.int .i64 x) ∧ w.cell? ⟨g, 1, none⟩ = some (.int .i64 y) :=
  ⟨cell_of_row w g 0 _ _ _ h, cell_of_row w g 1 _ _ _ h⟩

set_option maxRecDepth 100000 in
set_option maxHeartbeats 1000000 in
theorem turn_any (a b c : Pl) (w : World) (ha : In 1000000 a) (hb : In 1000000 b) (hc : In 1000000 c) :
    Calls Try.prog 37 #[plV a, plV b, plV c] w fun e w' => e = .returned (.int .i64 (turnI a b c)) ∧ Below w.heap.size w w' := by
  have HD1 := Lib.hid (show In 2000000 (diffP a b) from diff_in ha hb)
  have HD2 := Lib.hid (show In 2000000 (diffP a c) from diff_in ha hc)
  have HA := Lib.hid ha
  have HB := Lib.hid hb
  have HC := Lib.hid hc
  clear ha hb hc
  unfold plV
  go_enter Try.func37, Try.ntmps37
  go_wp2
  obtain ⟨W, hW⟩ : ∃ W, ((w.alloc (.cells #[.int .i64 a.1, .int .i64 a.2] 40)).alloc (.cells #[.int .i64 b.1, .int .i64 b.2] 40)).alloc (.cells #[.int .i64 c.1, .int .i64 c.2] 40) = W := ⟨_, rfl⟩
  have hs : W.heap.size = w.heap.size + 3 := by rw [← hW]; simp
  have HW : Hid (Below w.heap.size w W) := by rw [← hW]; exact Lib.hid ((((Below.refl _ _).alloc (Nat.le_refl _) _).alloc (by simp) _).alloc (by simp; omega) _)
  obtain ⟨a0, a1⟩ := plCell (w := W) (g := w.heap.size) (T := 40) (x := a.1) (y := a.2) (by rw [← hW, Below.heap_alloc _ _ _ (by simp; omega), Below.heap_alloc _ _ _ (by simp)]; exact heap_alloc_new _ _)
  obtain ⟨b0, b1⟩ := plCell (w := W) (g := w.heap.size + 1) (T := 40) (x := b.1) (y := b.2) (by rw [← hW, Below.heap_alloc _ _ _ (by simp)]; have := heap_alloc_new (w.alloc (.cells #[.int .i64 a.1, .int .i64 a.2] 40)) (.cells #[.int .i64 b.1, .int .i64 b.2] 40); simpa using this)
  obtain ⟨c0, c1⟩ := plCell (w := W) (g := w.heap.size + 1 + 1) (T := 40) (x := c.1) (y := c.2) (by rw [← hW]; have := heap_alloc_new ((w.alloc (.cells #[.int .i64 a.1, .int .i64 a.2] 40)).alloc (.cells #[.int .i64 b.1, .int .i64 b.2] 40)) (.cells #[.int .i64 c.1, .int .i64 c.2] 40); simpa using this)
  rw [hW]
  clear hW
  have p0 : w.heap.size < W.heap.size := by omega
  have p1 : w.heap.size + 1 < W.heap.size := by omega
  have p2 : w.heap.size + 1 + 1 < W.heap.size := by omega
  go_region_held3 (fun w' => w'.cell? ⟨w.heap.size, 0, none⟩ = some (.int .i64 a.1) ∧ w'.cell? ⟨w.heap.size, 1, none⟩ = some (.int .i64 a.2) ∧ w'.cell? ⟨w.heap.size + 1, 0, none⟩ = some (.int .i64 b.1) ∧ w'.cell? ⟨w.heap.size + 1, 1, none⟩ = some (.int .i64 b.2) ∧ w'.cell? ⟨w.heap.size + 1 + 1, 0, none⟩ = some (.int .i64 c.1) ∧ w'.cell? ⟨w.heap.size + 1 + 1, 1, none⟩ = some (.int .i64 c.2) ∧ Hid (Below W.heap.size W w'))
    ((first | assumption | exact ⟨a0, a1, b0, b1, c0, c1, Lib.hid ((Below.refl _ W).drew)⟩ | (go_split_ands; have hN := keepB (by assumption) hb1; exact ⟨cellH hN a0 p0, cellH hN a1 p0, cellH hN b0 p1, cellH hN b1 p1, cellH hN c0 p2, cellH hN c1 p2, hN⟩)))
    (first | (go_at_call 46; (with_reducible refine (difference_any a b _ HA.out HB.out).mono ?_); rintro e w2 ⟨rfl, hb1⟩) | (go_at_call 46; (with_reducible refine (difference_any a c _ HA.out HC.out).mono ?_); rintro e w2 ⟨rfl, hb1⟩) | (go_at_call 23; (with_reducible refine (cross_any _ _ _ HD1.out HD2.out).mono ?_); rintro e w2 ⟨rfl, hb1⟩) | (go_at_call 45; (with_reducible refine (cmpInt_any _ _ _).mono ?_); rintro e w2 ⟨rfl, rfl⟩))
  go_wp2
  go_ret
  refine ⟨rfl, ?_⟩
  go_split_ands
  exact HW.out.trans (Below.mono (Hid.out (by assumption)) (by omega))

end Go.Proofs.Ytclhohfkacgooaa
