/- given, netOf. -/
import Derived.Test.YtmnmdeehcdfkfaaDoorFrmB
import Derived.Outline
namespace Go.Proofs.YtmnmdeehcdfkfaaDoor
open Go.RowKit

/-- A result slice over a new block with just these numbers. -/
def IntsOut (xs : List Int) (w : World) (e : Ending) (w' : World) : Prop :=
  ∃ g, e = .returned (.slice (some ⟨g, 0, none⟩) xs.length xs.length) ∧ RowI w' g xs ∧ w.heap.size ≤ g ∧ Below w.heap.size w w'

theorem div_small (h : Int) (n : Nat) (h1 : -99 ≤ h) (h2 : h ≤ 99) (hn : 0 < n) : -1000 ≤ h / (n : Int) ∧ h / (n : Int) ≤ 1000 := by
  have a := Int.ediv_mul_le h (show (n : Int) ≠ 0 by omega)
  have b := Int.lt_ediv_add_one_mul_self h (show (0 : Int) < n by omega)
  constructor
  · rcases Int.lt_or_le (h / (n : Int)) (-1000) with g | g
    · have := Int.mul_le_mul_of_nonneg_right (show h / (n : Int) + 1 ≤ -100 by omega) (show (0 : Int) ≤ n by omega)
      omega
    · exact g
  · rcases Int.lt_or_le 1000 (h / (n : Int)) with g | g
    · have := Int.mul_le_mul_of_nonneg_right (show 100 ≤ h / (n : Int) by omega) (show (0 : Int) ≤ n by omega)
      omega
    · exact g

set_option maxRecDepth 100000 in
set_option maxHeartbeats 2000000 in
theorem given_any (A : Option Addr) (c : Nat) (hs : List (Int × Int)) (h : Int) (w : World) (hr : HolesR w A hs) (hbl : ∀ a, A = some a → a.block < w.heap.size) (hl0 : 0 < hs.length) (hl : hs.length ≤ 1000)
    (h1 : -99 ≤ h) (h2 : h ≤ 99) :
    Calls Tryd.prog 29 #[.slice A hs.length c, .int .i64 h] w (IntsOut (givenL (h / (hs.length : Int)) (h % (hs.length : Int)) hs) w) := by
  have hq := div_small h hs.length h1 h2 hl0
  have HR := Lib.hid hr
  have HBL := Lib.hid hbl
  clear hr hbl
  go_enter Tryd.func29, Tryd.ntmps29
  go_wp2_with fail
  refine (divided_any _ _ _ (by omega) (by omega) (by omega) (by omega)).mono ?_
  rintro e w1 ⟨rfl, hb1⟩
  have HB1 := Lib.hid hb1
  clear hb1
  generalize hQ : h / (hs.length : Int) = q at hq
  generalize hR : h % (hs.length : Int) = r
  have HQ := Lib.hid hQ
  have HRR := Lib.hid hR
  clear hQ hR
  go_wp2_with fail
  have HS := Lib.hid HB1.out.size
  refine (eachHole_any A c hs q r _ _ _ (HR.out.keep HBL.out ((HB1.out.alloc HB1.out.size _).alloc (by have := HB1.out.size; simp; omega) _)) (fun a ha => by have := HBL.out a ha; have := HB1.out.size; simp; omega) hl (by simp) (by simp; omega) (by go_simp) (by go_simp) hq).mono ?_
  rintro e w2 ⟨rfl, hrow, hb2⟩
  have HROW : Hid (RowI w2 (w1.heap.size + 1 + 1) (givenL q r hs)) := Lib.hid (by simpa using hrow)
  have HB2 := Lib.hid hb2
  clear hrow hb2
  go_wp2
  go_ret
  rw [HQ.out, HRR.out]
  refine ⟨w1.heap.size + 1 + 1, by rw [givenL_len]; rfl, HROW.out, ?_, ((HB1.out.alloc HB1.out.size _).alloc (by have := HB1.out.size; simp; omega) _).trans (HB2.out.mono (by have := HB1.out.size; simp; omega))⟩
  have := HB1.out.size
  omega

end Go.Proofs.YtmnmdeehcdfkfaaDoor
