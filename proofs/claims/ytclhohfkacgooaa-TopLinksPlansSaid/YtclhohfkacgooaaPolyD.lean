/- foldedBack: a side that runs back along the one before it. -/
import Derived.Test.YtclhohfkacgooaaPolyC
import Derived.Deep.RegionHeld3
namespace Go.Proofs.Ytclhohfkacgooaa
open Go.RowKit Go.Sort

set_option maxHeartbeats 400000 in
/-- difference, with the world that it leaves. -/
theorem difference_exact (a b : Pl) (w : World) (ha : In 1000000 a) (hb : In 1000000 b) :
    Calls Try.prog 46 #[plV a, plV b] w fun e w' => e = .returned (plV (diffP a b)) ∧ w' = ((w.alloc (.cells #[.int .i64 a.1, .int .i64 a.2] 40)).alloc (.cells #[.int .i64 b.1, .int .i64 b.2] 40)).alloc (.cells #[.int .i64 (diffP a b).1, .int .i64 (diffP a b).2] 40) := by
  obtain ⟨a1, a2⟩ := a
  obtain ⟨b1, b2⟩ := b
  obtain ⟨⟨x1, x2⟩, x3, x4⟩ := ha
  obtain ⟨⟨y1, y2⟩, y3, y4⟩ := hb
  simp only at x1 x2 x3 x4 y1 y2 y3 y4
  unfold plV
  go_enter Try.func46, Try.ntmps46
  go_wp2
  exact bodyPost_ret (v := .agg #[.int .i64 (b1 - a1), .int .i64 (b2 - a2)]) (by simp [results, Try.results46, go_sem]) rfl ⟨rfl, rfl⟩

set_option maxHeartbeats 400000 in
theorem cross_exact (a b : Pl) (w : World) (ha : In 2000000 a) (hb : In 2000000 b) :
    Calls Try.prog 23 #[plV a, plV b] w fun e w' => e = .returned (.int .i64 (crossI a b)) ∧ w' = (w.alloc (.cells #[.int .i64 a.1, .int .i64 a.2] 40)).alloc (.cells #[.int .i64 b.1, .int .i64 b.2] 40) := by
  obtain ⟨a1, a2⟩ := a
  obtain ⟨b1, b2⟩ := b
  have m1 := mul_in ha.1 hb.2
  have m2 := mul_in ha.2 hb.1
  simp only [Int.reduceMul, Int.reduceNeg] at m1 m2
  obtain ⟨m3, m4⟩ := m1
  obtain ⟨m5, m6⟩ := m2
  clear ha hb
  unfold plV
  go_enter Try.func23, Try.ntmps23
  go_wp2
  go_ret
  exact ⟨rfl, rfl⟩

set_option maxHeartbeats 400000 in
theorem dot_exact (a b : Pl) (w : World) (ha : In 2000000 a) (hb : In 2000000 b) :
    Calls Try.prog 47 #[plV a, plV b] w fun e w' => e = .returned (.int .i64 (dotI a b)) ∧ w' = (w.alloc (.cells #[.int .i64 a.1, .int .i64 a.2] 40)).alloc (.cells #[.int .i64 b.1, .int .i64 b.2] 40) := by
  obtain ⟨a1, a2⟩ := a
  obtain ⟨b1, b2⟩ := b
  have m1 := mul_in ha.1 hb.1
  have m2 := mul_in ha.2 hb.2
  simp only [Int.reduceMul, Int.reduceNeg] at m1 m2
  obtain ⟨m3, m4⟩ := m1
  obtain ⟨m5, m6⟩ := m2
  clear ha hb
  unfold plV
  go_enter Try.func47, Try.ntmps47
  go_wp2
  go_ret
  exact ⟨rfl, rfl⟩

theorem keepD {W w1 : World} (hB : Hid (Below W.heap.size W w1)) : Hid (Below W.heap.size W w1.drew) := Lib.hid hB.out.drew

set_option maxRecDepth 100000 in
set_option maxHeartbeats 2000000 in
theorem foldedBack_any (a b : Sd) (w : World) (ha : InS a) (hb : InS b) :
    Calls Try.prog 43 #[sdV a, sdV b] w fun e w' => e = .returned (.bool (foldB a b)) ∧ Below w.heap.size w w' := by
  obtain ⟨W, hW⟩ : ∃ W, (w.alloc (.cells #[.int .i64 a.1.1, .int .i64 a.1.2, .int .i64 a.2.1, .int .i64 a.2.2] 64)).alloc (.cells #[.int .i64 b.1.1, .int .i64 b.1.2, .int .i64 b.2.1, .int .i64 b.2.2] 64) = W := ⟨_, rfl⟩
  have HS2 := Sd2.new w 64 a b
  have HBW : Hid (Below w.heap.size w W) := by rw [← hW]; exact Lib.hid (((Below.refl _ _).alloc (Nat.le_refl _) _).alloc (by simp) _)
  have hs : W.heap.size = w.heap.size + 2 := by rw [← hW]; simp
  rw [hW] at HS2
  obtain ⟨q0, q1, q2, q3, q4, q5, q6, q7⟩ := HS2
  have p0 : w.heap.size < W.heap.size := by omega
  have p1 : w.heap.size + 1 < W.heap.size := by omega
  have HWE := Lib.hid hW
  have HD1 := Lib.hid (show In 2000000 (diffP b.1 a.1) from diff_in hb.1 ha.1)
  have HD2 := Lib.hid (show In 2000000 (diffP b.1 b.2) from diff_in hb.1 hb.2)
  have H1 := Lib.hid ha.1
  have H2 := Lib.hid hb.1
  have H3 := Lib.hid hb.2
  have MK := Lib.hid (show ∀ w' : World, Hid (Below W.heap.size W w') → (w'.cell? ⟨w.heap.size, 0, none⟩ = some (.int .i64 a.1.1) ∧ w'.cell? ⟨w.heap.size, 1, none⟩ = some (.int .i64 a.1.2) ∧ w'.cell? ⟨w.heap.size + 1, 0, none⟩ = some (.int .i64 b.1.1) ∧ w'.cell? ⟨w.heap.size + 1, 1, none⟩ = some (.int .i64 b.1.2) ∧ w'.cell? ⟨w.heap.size + 1, 2, none⟩ = some (.int .i64 b.2.1) ∧ w'.cell? ⟨w.heap.size + 1, 3, none⟩ = some (.int .i64 b.2.2) ∧ Hid (Below W.heap.size W w')) from fun w' hN => ⟨cellH hN q0 p0, cellH hN q1 p0, cellH hN q4 p1, cellH hN q5 p1, cellH hN q6 p1, cellH hN q7 p1, hN⟩)
  clear hW ha hb hs
  go_enter Try.func43, Try.ntmps43
  go_wp2
  rw [HWE.out]
  have HB0 := Lib.hid (Below.refl W.heap.size W)
  go_region_held3 (fun w' => w'.cell? ⟨w.heap.size, 0, none⟩ = some (.int .i64 a.1.1) ∧ w'.cell? ⟨w.heap.size, 1, none⟩ = some (.int .i64 a.1.2) ∧ w'.cell? ⟨w.heap.size + 1, 0, none⟩ = some (.int .i64 b.1.1) ∧ w'.cell? ⟨w.heap.size + 1, 1, none⟩ = some (.int .i64 b.1.2) ∧ w'.cell? ⟨w.heap.size + 1, 2, none⟩ = some (.int .i64 b.2.1) ∧ w'.cell? ⟨w.heap.size + 1, 3, none⟩ = some (.int .i64 b.2.2) ∧ Hid (Below W.heap.size W w'))
    ((first | assumption | with_reducible exact MK.out _ (keepD HB0) | with_reducible exact MK.out _ (keepD (keepA HB0 _)) | with_reducible exact MK.out _ (keepD (keepA (keepA HB0 _) _)) | with_reducible exact MK.out _ (keepD (keepA (keepA (keepA HB0 _) _) _)) | with_reducible exact MK.out _ (keepD (keepA (keepA (keepA (keepA HB0 _) _) _) _)) | with_reducible exact MK.out _ (keepD (keepA (keepA (keepA (keepA (keepA HB0 _) _) _) _) _)) | with_reducible exact MK.out _ (keepD (keepA (keepA (keepA (keepA (keepA (keepA HB0 _) _) _) _) _) _)) | with_reducible exact MK.out _ (keepD (keepA (keepA (keepA (keepA (keepA (keepA (keepA HB0 _) _) _) _) _) _) _)) | with_reducible exact MK.out _ (keepD (keepA (keepA (keepA (keepA (keepA (keepA (keepA (keepA HB0 _) _) _) _) _) _) _) _)) | with_reducible exact MK.out _ (keepD (keepA (keepA (keepA (keepA (keepA (keepA (keepA (keepA (keepA HB0 _) _) _) _) _) _) _) _) _))))
    (first | (go_at_call 46; (with_reducible refine (difference_exact b.1 a.1 _ H2.out H1.out).mono ?_); rintro e w2 ⟨rfl, rfl⟩) | (go_at_call 46; (with_reducible refine (difference_exact b.1 b.2 _ H2.out H3.out).mono ?_); rintro e w2 ⟨rfl, rfl⟩))
  all_goals
    clear q0 q1 q2 q3 q4 q5 q6 q7
    cases hcr : (crossI (diffP b.1 a.1) (diffP b.1 b.2) == 0)
    · go_wp2_with (first | (go_at_call 23; (with_reducible refine (cross_exact _ _ _ HD1.out HD2.out).mono ?_); rintro e w2 ⟨rfl, rfl⟩))
      go_ret
      refine ⟨retB (by rw [beq_eq_false_iff_ne] at hcr; unfold foldB; rw [decide_eq_false hcr]; rfl), HBW.out.trans (Below.mono (B := W.heap.size) ?_ HBW.out.size)⟩
      repeat (first | exact Below.refl _ _ | apply Below.drew | refine Below.alloc ?_ (by simp <;> omega) _)
    · go_wp2_with (first | (go_at_call 23; (with_reducible refine (cross_exact _ _ _ HD1.out HD2.out).mono ?_); rintro e w2 ⟨rfl, rfl⟩) | (go_at_call 47; (with_reducible refine (dot_exact _ _ _ HD1.out HD2.out).mono ?_); rintro e w2 ⟨rfl, rfl⟩))
      go_ret
      refine ⟨retB (by rw [beq_iff_eq] at hcr; unfold foldB; rw [decide_eq_true hcr]; simp), HBW.out.trans (Below.mono (B := W.heap.size) ?_ HBW.out.size)⟩
      repeat (first | exact Below.refl _ _ | apply Below.drew | refine Below.alloc ?_ (by simp <;> omega) _)

end Go.Proofs.Ytclhohfkacgooaa
