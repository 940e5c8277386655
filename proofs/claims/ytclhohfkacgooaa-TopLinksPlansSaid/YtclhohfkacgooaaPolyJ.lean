/- Contains: where a place lies, for a polygon without fault. -/
import Derived.Test.YtclhohfkacgooaaPolyI
namespace Go.Proofs.Ytclhohfkacgooaa
open Go.RowKit Go.Shelf

theorem places_one (W : World) (p : Pl) (T : TypeId) : PlacesR (W.alloc (.cells #[.int .i64 p.1, .int .i64 p.2] T)) (W.heap.size + 1) (some ⟨W.heap.size, 0, none⟩) [p] := fun j hj => by
  obtain rfl : j = 0 := by simpa using hj
  have h := plCell (g := W.heap.size) (heap_alloc_new W (.cells #[.int .i64 p.1, .int .i64 p.2] T))
  exact ⟨_, rfl, Nat.lt_succ_self _, h.1, h.2⟩

theorem onePlace_ok (A : Option Addr) (c B : Nat) (p : Pl) (w : World) (hin : In 1000000 p) (hB : B ≤ w.heap.size) (hr : PlacesR w B A [p]) :
    Calls Try.prog 25 #[.slice A 1 c] w fun e w' => e = .returned (.int .i64 0) ∧ Below w.heap.size w w' := by
  have h := checkPlaces_any A c B [p] w (by simp) hB hr
  rwa [placesI_zero (fun q hq => by simp at hq; subst hq; exact hin)] at h

theorem first00 (A : Option Addr) (c : Nat) (w : World) (h : Ints w A [0, 0]) :
    Calls Try.prog 24 #[.slice A 2 c] w fun e w' => e = .returned (.int .i64 0) ∧ w = w' := first_any A c [0, 0] w (by simp) h

set_option maxRecDepth 100000 in
set_option maxHeartbeats 4000000 in
theorem contains_ok (A : Option Addr) (c : Nat) (ps : List Pl) (p : Pl) (w : World) (hg : GoodP ps) (hin : In 1000000 p) (hp : PlacesR w w.heap.size A ps) :
    Calls Try.prog 12 #[.slice A ps.length c, .agg #[.int .i64 p.1, .int .i64 p.2]] w fun e w' => e = .returned (.tuple #[.int .i64 (positionI ps p), .int .i64 0]) ∧ Below w.heap.size w w' := by
  obtain ⟨X, hX⟩ : ∃ X, w.alloc (.cells #[.int .i64 p.1, .int .i64 p.2] 40) = X := ⟨_, rfl⟩
  have hBX : Below w.heap.size w X := by rw [← hX]; exact (Below.refl _ _).alloc (Nat.le_refl _) _
  have hs : w.heap.size < X.heap.size := by rw [← hX]; simp
  have hcell := plCell (g := w.heap.size) (heap_alloc_new w (.cells #[.int .i64 p.1, .int .i64 p.2] 40))
  rw [hX] at hcell
  obtain ⟨c0, c1⟩ := hcell
  have HX := Lib.hid hX
  have MK : Hid (∀ W', Below X.heap.size X W' → PlacesR W' W'.heap.size A ps ∧ W'.cell? ⟨w.heap.size, 0, none⟩ = some (.int .i64 p.1) ∧ W'.cell? ⟨w.heap.size, 1, none⟩ = some (.int .i64 p.2) ∧ Below w.heap.size w W') :=
    Lib.hid fun W' h => ⟨((hp.below hBX).below (h.mono hBX.size)).mono (Nat.le_trans hBX.size h.size), (h.cell (p := ⟨w.heap.size, 0, none⟩) hs).trans c0, (h.cell (p := ⟨w.heap.size, 1, none⟩) hs).trans c1, hBX.trans (h.mono hBX.size)⟩
  have HG := Lib.hid hg
  have HI := Lib.hid hin
  clear hp hX hg hin hs hBX
  go_enter Try.func12, Try.ntmps12
  go_wp2
  rw [HX.out]
  have sz1 : ∀ (o : Obj), X.heap.size + 1 ≤ ((X.alloc o).drew).heap.size := fun o => by show _ ≤ (X.alloc o).heap.size; simp
  have t0 : Below X.heap.size X X.drew := (Below.refl _ _).drew
  have t1 : ∀ (o : Obj), Below X.heap.size X (X.alloc o).drew := fun o => ((Below.refl _ _).alloc (Nat.le_refl _) o).drew
  have T1 := Lib.hid t1
  have T0 := Lib.hid t0
  have SZ := Lib.hid sz1
  clear t0 t1 sz1
  go_region_with (first
    | (go_at_call 21; (with_reducible refine (checkPolygon_ok A c ps X.drew HG.out (MK.out _ T0.out).1).mono ?_); rintro e w1 ⟨rfl, hb1⟩; have hX1 := T0.out.trans hb1; have q := MK.out w1 hX1; have q0 := q.2.1; have q1 := q.2.2.1)
    | (go_at_call 21; (with_reducible refine (checkPolygon_ok A c ps _ HG.out (MK.out _ (T1.out _)).1).mono ?_); rintro e w1 ⟨rfl, hb1⟩; have hX1 := (T1.out _).trans (hb1.mono (T1.out _).size); have q := MK.out w1 hX1; have q0 := q.2.1; have q1 := q.2.2.1; have HPO : PlacesR w1 (X.heap.size + 1) (some ⟨X.heap.size, 0, none⟩) [p] := (show PlacesR (X.alloc (.cells #[.int .i64 p.1, .int .i64 p.2] 40)).drew _ _ _ from places_one X p _).below (hb1.mono (SZ.out _)); have HBO : X.heap.size + 1 ≤ w1.heap.size := Nat.le_trans (SZ.out _) hb1.size)
    | (go_at_call 25; (with_reducible refine (onePlace_ok _ _ (w1.heap.size + 1) p _ HI.out (by simp) (places_one w1 p _)).mono ?_); rintro e w2 ⟨rfl, hb2⟩)
    | (go_at_call 25; (with_reducible refine (onePlace_ok _ _ (X.heap.size + 1) p _ HI.out HBO HPO).mono ?_); rintro e w2 ⟨rfl, hb2⟩)
    | (go_at_call 24; (with_reducible refine (first00 _ _ _ (Ints.two _ _ _ _ _ rfl)).mono ?_); rintro e w3 ⟨rfl, rfl⟩))
  all_goals
    have hX2 : Below X.heap.size X w2 := by first | exact (hX1.alloc hX1.size _).trans (hb2.mono (by simp; exact Nat.le_succ_of_le hX1.size)) | exact hX1.trans (hb2.mono hX1.size)
    obtain ⟨W3, hW3⟩ : ∃ W3, w2.alloc (.cells #[.int .i64 0, .int .i64 0] 30) = W3 := ⟨_, rfl⟩
    have hX3 : Below X.heap.size X W3 := by rw [← hW3]; exact hX2.alloc hX2.size _
    rw [hW3]
    obtain ⟨r0, r1, r2, r3⟩ := MK.out W3 hX3
    have HR3 := Lib.hid r3
    have HPos : ∀ W, PlacesR W W.heap.size A ps → Calls Try.prog 26 #[.slice A ps.length c, .agg #[.int .i64 p.1, .int .i64 p.2]] W fun e w' => e = .returned (.int .i64 (positionI ps p)) ∧ Below W.heap.size W w' := fun W h => position_ok A c ps p W HG.out HI.out h
    clear hW3 hX3 hX2 hX1 hb1 hb2 q q0 q1 r3 c0 c1
    go_wp2_with (go_at_call 26; (with_reducible refine (HPos _ r0).mono ?_); rintro e w4 ⟨rfl, hb4⟩)
    go_ret2
    exact ⟨rfl, HR3.out.trans (hb4.mono HR3.out.size)⟩

end Go.Proofs.Ytclhohfkacgooaa
