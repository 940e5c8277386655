/- The reference's parts of a fraction. -/
import Derived.Test.YtpdbebjlghihmaaGreatDoorMgN
import Derived.Deep.RegionWith
set_option linter.unusedVariables false
set_option linter.unusedSimpArgs false
namespace Go.Proofs.YtpdbebjlghihmaaGreatDoor
open Go.RowKit

theorem BlkH.far {w : World} {g : Nat} {t : TypeId} {cs : Array Value} (h : BlkH w g t cs) {p : Addr} (hp : g ≠ p.block) (u : Value) : BlkH (w.setCell p u) g t cs := (Below.heap_setCell w p u g hp).trans h
theorem BlkH.set {w : World} {g : Nat} {t : TypeId} {cs : Array Value} (h : BlkH w g t cs) (i : Nat) (u : Value) : BlkH (w.setCell ⟨g, i, none⟩ u) g t (cs.setIfInBounds i u) := by
  unfold BlkH at *
  simp [World.setCell, Array.getElem?_modify, h]
/-- Both results' blocks, and what is kept below them. -/
def TwoH (w0 : World) (W : World) (X Y : Array Value) : Prop := BlkH W w0.heap.size 177 X ∧ BlkH W (w0.heap.size + 1) 177 Y ∧ Below w0.heap.size w0 W ∧ w0.heap.size + 1 < W.heap.size
theorem TwoH.below {w0 W W' : World} {X Y : Array Value} (h : TwoH w0 W X Y) (hb : Below W.heap.size W W') : TwoH w0 W' X Y :=
  ⟨h.1.below hb (by have := h.2.2.2; omega), h.2.1.below hb h.2.2.2, h.2.2.1.trans (hb.mono h.2.2.1.size), by have := h.2.2.2; have := hb.size; omega⟩
theorem TwoH.drew {w0 W : World} {X Y : Array Value} (h : TwoH w0 W X Y) : TwoH w0 W.drew X Y := ⟨h.1, h.2.1, h.2.2.1.drew, h.2.2.2⟩
theorem TwoH.setX {w0 W : World} {Y : Array Value} {a b : Value} (h : TwoH w0 W #[a, b] Y) (x y : Value) : TwoH w0 ((W.setCell ⟨w0.heap.size, 0, none⟩ x).setCell ⟨w0.heap.size, 1, none⟩ y) #[x, y] Y :=
  ⟨(h.1.set 0 x).set 1 y, (h.2.1.far (by simp) x).far (by simp) y, (h.2.2.1.setCell (Nat.le_refl _) _).setCell (Nat.le_refl _) _, by simpa [World.setCell] using h.2.2.2⟩
theorem TwoH.setY {w0 W : World} {X : Array Value} {a b : Value} (h : TwoH w0 W X #[a, b]) (x y : Value) : TwoH w0 ((W.setCell ⟨w0.heap.size + 1, 0, none⟩ x).setCell ⟨w0.heap.size + 1, 1, none⟩ y) X #[x, y] :=
  ⟨(h.1.far (by simp) x).far (by simp) y, (h.2.1.set 0 x).set 1 y, (h.2.2.1.setCell (by simp) _).setCell (by simp) _, by simpa [World.setCell] using h.2.2.2⟩
theorem TwoH.cells {w0 W : World} {x y u v : Value} (h : TwoH w0 W #[x, y] #[u, v]) : W.cell? ⟨w0.heap.size, 0, none⟩ = some x ∧ W.cell? ⟨w0.heap.size, 1, none⟩ = some y ∧ W.cell? ⟨w0.heap.size + 1, 0, none⟩ = some u ∧ W.cell? ⟨w0.heap.size + 1, 1, none⟩ = some v ∧ W.frozen? ⟨w0.heap.size, 0, none⟩ = false ∧ W.frozen? ⟨w0.heap.size, 1, none⟩ = false ∧ W.frozen? ⟨w0.heap.size + 1, 0, none⟩ = false ∧ W.frozen? ⟨w0.heap.size + 1, 1, none⟩ = false :=
  ⟨h.1.cell 0, h.1.cell 1, h.2.1.cell 0, h.2.1.cell 1, h.1.frozen 0, h.1.frozen 1, h.2.1.frozen 0, h.2.1.frozen 1⟩
/-- A cell with a number lies in neither of both blocks, whose cells are no numbers. -/
theorem TwoH.apart {w0 W : World} {b1 b2 : Bool} {y v : Value} {g : Nat} {m : Int} (h : TwoH w0 W #[.bool b1, y] #[.bool b2, v]) (hc : W.cell? ⟨g, 0, none⟩ = some (.int .i64 m)) : g ≠ w0.heap.size ∧ g ≠ w0.heap.size + 1 := by
  obtain ⟨c0, _, d0, _⟩ := h.cells
  constructor
  · rintro rfl; rw [c0] at hc; simp at hc
  · rintro rfl; rw [d0] at hc; simp at hc
theorem cell_far2 {w : World} {g b : Nat} {x y v : Value} (hg : g ≠ b) (h : w.cell? ⟨g, 0, none⟩ = some v) : ((w.setCell ⟨b, 0, none⟩ x).setCell ⟨b, 1, none⟩ y).cell? ⟨g, 0, none⟩ = some v := by
  rw [World.cell?_setCell_other, World.cell?_setCell_other]
  · exact h
  · intro e; have := congrArg Addr.block e; simp at this; omega
  · intro e; have := congrArg Addr.block e; simp at this; omega

set_option maxRecDepth 100000 in
set_option maxHeartbeats 4000000 in
theorem parts_frac (S A D : ByteArray) (ka : Nat) (nb : Bool) (m d : Int) (w : World) (hs : S.size ≤ 20) (hka : ka < S.size)
    (kS : ∀ W, Calls Tryz.prog 166 #[.string S] W fun e w' => e = .returned (.int .i64 (ka : Int)) ∧ W = w')
    (eA : S.extract 0 ka = A) (eD : S.extract (ka + 1) S.size = D)
    (kA : ∀ W, Calls Tryz.prog 134 #[.string A] W fun e w' => ∃ g c, e = .returned (.agg #[.bool nb, .slice (some ⟨g, 0, none⟩) (oneL m) c]) ∧ w'.cell? ⟨g, 0, none⟩ = some (.int .i64 m) ∧ Below W.heap.size W w')
    (kD : ∀ W, Calls Tryz.prog 134 #[.string D] W fun e w' => ∃ g c, e = .returned (.agg #[.bool false, .slice (some ⟨g, 0, none⟩) 1 c]) ∧ w'.cell? ⟨g, 0, none⟩ = some (.int .i64 d) ∧ Below W.heap.size W w') :
    Calls Tryz.prog 135 #[.string S] w fun e w' => ∃ ga ca gb cb, e = .returned (.tuple #[.agg #[.bool nb, .slice (some ⟨ga, 0, none⟩) (oneL m) ca], .agg #[.bool false, .slice (some ⟨gb, 0, none⟩) 1 cb]]) ∧ w'.cell? ⟨ga, 0, none⟩ = some (.int .i64 m) ∧ w'.cell? ⟨gb, 0, none⟩ = some (.int .i64 d) ∧ Below w.heap.size w w' := by
  have KS := Lib.hid kS
  have KA := Lib.hid kA
  have KD := Lib.hid kD
  have hk0 : (0 : Int) ≤ (ka : Int) := Int.natCast_nonneg _
  have hk1 : (ka : Int) < (S.size : Int) := by omega
  have hk2 : (ka : Int) ≤ 20 := by omega
  have hk3 : ka ≤ S.size := by omega
  have hk4 : ka + 1 ≤ S.size := by omega
  have hk5 : (ka : Int) + 1 ≤ (S.size : Int) := by omega
  have hk6 : (0 : Int) ≤ (ka : Int) + 1 := by omega
  have hw1 : IntKind.i64.wrap ((ka : Int) + 1) = (ka : Int) + 1 := IntWalk.i64_in _ (by omega)
  have hk8 : (1 : Int) ≤ (ka : Int) + 1 := by omega
  have hk7 : ((ka : Int) + 1).toNat = ka + 1 := by omega
  have hne : ((ka : Int) == (S.size : Int)) = false := by rw [beq_eq_false_iff_ne]; omega
  clear kS kA kD
  generalize oneL m = lm at *
  obtain ⟨W, hW⟩ : ∃ W, (w.alloc (.cells #[.bool false, .slice none 0 0] 177)).alloc (.cells #[.bool false, .slice none 0 0] 177) = W := ⟨_, rfl⟩
  have hsz : W.heap.size = w.heap.size + 1 + 1 := by rw [← hW]; simp
  have h2 : TwoH w W #[.bool false, .slice none 0 0] #[.bool false, .slice none 0 0] := by
    rw [← hW]
    have h := BlkH.new (w.alloc (.cells #[.bool false, .slice none 0 0] 177)) 177 #[.bool false, .slice none 0 0]
    rw [World.size_alloc] at h
    exact ⟨(Below.heap_alloc _ _ w.heap.size (by simp)).trans (BlkH.new w _ _), h, ((Below.refl _ _).alloc (Nat.le_refl _) _).alloc (by simp) _, by simp⟩
  have H2 := Lib.hid h2
  clear h2
  go_enter Tryz.func135, Tryz.ntmps135
  go_wp2_with fail
  refine (KS.out _).mono ?_; rintro e w1 ⟨rfl, rfl⟩
  go_wp2_with fail
  go_region_with (first
    | (go_at_call_of 134 A
       refine (KA.out _).mono ?_
       rintro e wa ⟨ga, ca, rfl, hca, hba⟩
       have HA2 := Lib.hid (H2.out.drew.below hba)
       have HCA := Lib.hid hca
       obtain ⟨k0, k1, k2, k3, k4, k5, k6, k7⟩ := HA2.out.cells
       clear hca hba)
    | (go_at_call_of 134 D
       refine (KD.out _).mono ?_
       rintro e wb ⟨gb, cb, rfl, hcb, hbb⟩
       have HCB := Lib.hid hcb
       first
       | (have HD2 := Lib.hid (HA2.out.below hbb); have HCA2 := Lib.hid ((hbb.cell (World.block_lt_of_cell? _ _ HCA.out)).trans HCA.out))
       | (have HD2 := Lib.hid ((HA2.out.setX _ _).below hbb); have HCA1 := cell_far2 (x := .bool nb) (y := .slice (some ⟨ga, 0, none⟩) lm ca) (HA2.out.apart HCA.out).1 HCA.out; have HCA2 := Lib.hid ((hbb.cell (World.block_lt_of_cell? _ _ HCA1)).trans HCA1); clear HCA1)
       obtain ⟨j0, j1, j2, j3, j4, j5, j6, j7⟩ := HD2.out.cells
       clear hcb hbb))
  have HE := Lib.hid ((HD2.out.setX (.bool nb) (.slice (some ⟨ga, 0, none⟩) lm ca)).setY (.bool false) (.slice (some ⟨gb, 0, none⟩) 1 cb))
  have HCA3 := Lib.hid (cell_far2 (x := .bool false) (y := .slice (some ⟨gb, 0, none⟩) 1 cb) (HD2.out.apart HCA2.out).2 (cell_far2 (x := .bool nb) (y := .slice (some ⟨ga, 0, none⟩) lm ca) (HD2.out.apart HCA2.out).1 HCA2.out))
  have HCB3 := Lib.hid (cell_far2 (x := .bool false) (y := .slice (some ⟨gb, 0, none⟩) 1 cb) (HD2.out.apart HCB.out).2 (cell_far2 (x := .bool nb) (y := .slice (some ⟨ga, 0, none⟩) lm ca) (HD2.out.apart HCB.out).1 HCB.out))
  obtain ⟨k0, k1, k2, k3, k4, k5, k6, k7⟩ := HE.out.cells
  obtain ⟨WE, hWE⟩ : ∃ W, (((wb.setCell ⟨w.heap.size, 0, none⟩ (.bool nb)).setCell ⟨w.heap.size, 1, none⟩ (.slice (some ⟨ga, 0, none⟩) lm ca)).setCell ⟨w.heap.size + 1, 0, none⟩ (.bool false)).setCell ⟨w.heap.size + 1, 1, none⟩ (.slice (some ⟨gb, 0, none⟩) 1 cb) = W := ⟨_, rfl⟩
  rw [hWE] at HE HCA3 HCB3 k0 k1 k2 k3 k4 k5 k6 k7 ⊢
  clear hWE
  go_wp2
  refine bodyPost_ret (v := .tuple #[.agg #[.bool nb, .slice (some ⟨ga, 0, none⟩) lm ca], .agg #[.bool false, .slice (some ⟨gb, 0, none⟩) 1 cb]]) (by simp [results, Tryz.results135, go_sem, k0, k1, k2, k3]) rfl ⟨ga, ca, gb, cb, rfl, HCA3.out, HCB3.out, HE.out.2.2.1⟩
end Go.Proofs.YtpdbebjlghihmaaGreatDoor
