/- CheckPolygon finds no fault with a polygon that has none. -/
import Derived.Test.YtclhohfkacgooaaPolyB
import Derived.Test.YtclhohfkacgooaaPolyF
namespace Go.Proofs.Ytclhohfkacgooaa
open Go.RowKit Go.Shelf

theorem isSimple_any (A : Option Addr) (c : Nat) (ps : List Pl) (w : World) (h64 : ps.length ≤ 64) (hin : ∀ p ∈ ps, In 1000000 p) (hp : PlacesR w w.heap.size A ps) :
    Calls Try.prog 34 #[.slice A ps.length c] w fun e w' => e = .returned (.bool (simpleB ps)) ∧ Below w.heap.size w w' := isSimple_of sidesLaw A c ps w h64 hin hp

theorem placesI_zero {l : List Pl} (h : ∀ p ∈ l, In 1000000 p) : placesI l = 0 := by
  induction l with
  | nil => rfl
  | cons q l ih => simp only [placesI]; rw [if_pos (farI_in.2 (h q (by simp)))]; exact ih fun p hp => h p (List.mem_cons_of_mem _ hp)

/-- A polygon without fault. -/
structure GoodP (ps : List Pl) : Prop where
  few : 3 ≤ ps.length
  many : ps.length ≤ 64
  near : ∀ p ∈ ps, In 1000000 p
  simple : simpleB ps = true

set_option maxRecDepth 100000 in
set_option maxHeartbeats 2000000 in
theorem checkPolygon_ok (A : Option Addr) (c : Nat) (ps : List Pl) (w : World) (hg : GoodP ps) (hp : PlacesR w w.heap.size A ps) :
    Calls Try.prog 21 #[.slice A ps.length c] w fun e w' => e = .returned (.int .i64 0) ∧ Below w.heap.size w w' := by
  have HP := Lib.hid hp
  have g1 : (3 : Int) ≤ (ps.length : Int) := by have := hg.few; omega
  have g2 : (ps.length : Int) ≤ 64 := by have := hg.many; omega
  have HG := Lib.hid hg
  clear hp hg
  go_enter Try.func21, Try.ntmps21
  go_wp2_with fail
  refine (unless_any _ _ _).mono ?_; rintro e w1 ⟨rfl, rfl⟩
  go_wp2_with fail
  refine (unless_any _ _ _).mono ?_; rintro e w1 ⟨rfl, rfl⟩
  go_wp2_with fail
  refine (first_any _ _ [_, _] _ (by simp) (Ints.two _ _ _ _ _ rfl)).mono ?_; rintro e w1 ⟨rfl, rfl⟩
  rw [show firstI [unlessI true 2, unlessI true 5] = 0 from rfl, show unlessI true 2 = 0 from rfl, show unlessI true 5 = 0 from rfl]
  obtain ⟨W1, hW1⟩ : ∃ W1, w.alloc (.cells #[.int .i64 0, .int .i64 0] 30) = W1 := ⟨_, rfl⟩
  have hB1 : Below w.heap.size w W1 := by rw [← hW1]; exact (Below.refl _ _).alloc (Nat.le_refl _) _
  rw [hW1]
  clear hW1
  have HB1 := Lib.hid hB1
  have hs1 := hB1.size
  clear hB1
  go_wp2_with fail
  refine (checkPlaces_any A c w.heap.size ps _ (by omega) hs1 (HP.out.below HB1.out)).mono ?_; rintro e w2 ⟨rfl, hb2⟩
  rw [placesI_zero HG.out.near]
  have HB2 := Lib.hid (HB1.out.trans (hb2.mono hs1))
  have hs2 := HB2.out.size
  clear hb2
  go_wp2_with fail
  refine (isSimple_any A c ps _ HG.out.many HG.out.near ((HP.out.below HB2.out).mono hs2)).mono ?_; rintro e w3 ⟨rfl, hb3⟩
  rw [HG.out.simple]
  have HB3 := Lib.hid (HB2.out.trans (hb3.mono hs2))
  clear hb3
  go_wp2_with fail
  refine (unless_any _ _ _).mono ?_; rintro e w4 ⟨rfl, rfl⟩
  go_wp2
  go_ret
  exact ⟨rfl, HB3.out⟩

end Go.Proofs.Ytclhohfkacgooaa
