/- The strokes given: given's closure, eachOf over holes, given. -/
import Derived.Test.YtmnmdeehcdfkfaaDoorFrmA
import Derived.Test.YtmnmdeehcdfkfaaDoorFmtA
import Derived.Test.YtmnmdeehcdfkfaaDoorFmtM
import Derived.Outline
namespace Go.Proofs.YtmnmdeehcdfkfaaDoor
open Go.RowKit

/-- One more where the index is at most r. -/
def addI (q r x : Int) : Int := q + if x ≤ r then 1 else 0
theorem addI_given (n : Nat) (h x : Int) : addI (h / n) (h % n) x = ForMath.givenAt n h x := rfl

set_option maxHeartbeats 400000 in
theorem given1_any (p x q r : Int) (b6 b5 : Nat) (W : World) (h6 : b6 < W.heap.size) (h5 : b5 < W.heap.size)
    (c6 : W.cell? ⟨b6, 0, none⟩ = some (.int .i64 r)) (c5 : W.cell? ⟨b5, 0, none⟩ = some (.int .i64 q)) (hq : -1000 ≤ q ∧ q ≤ 1000) :
    Calls Tryd.prog 50 #[.agg #[.int .i64 p, .int .i64 x], .pointer (some ⟨b6, 0, none⟩), .pointer (some ⟨b5, 0, none⟩)] W fun e w' => e = .returned (.int .i64 (addI q r x)) ∧ Below W.heap.size W w' := by
  by_cases g1 : x ≤ r
  · go_enter Tryd.func50, Tryd.ntmps50
    go_wp2
    go_ret
    exact ⟨by rw [addI, if_pos g1]; rfl, (Below.refl _ _).alloc (Nat.le_refl _) _⟩
  · go_enter Tryd.func50, Tryd.ntmps50
    go_wp2
    go_ret
    exact ⟨by rw [addI, if_neg (by omega), Int.add_zero]; rfl, (Below.refl _ _).alloc (Nat.le_refl _) _⟩

/-- The first k numbers, then zeros. -/
def partI (xs : List Int) (k : Nat) : List Int := xs.take k ++ nils (xs.length - k)
theorem partI_zero (xs : List Int) : partI xs 0 = nils xs.length := by simp [partI]
theorem partI_all (xs : List Int) (k : Nat) (h : xs.length ≤ k) : partI xs k = xs := by
  rw [partI, List.take_of_length_le h, Nat.sub_eq_zero_of_le h]; simp [nils]
theorem partI_len (xs : List Int) (k : Nat) : (partI xs k).length = xs.length := by
  simp [partI, nils]; omega
theorem partI_set (xs : List Int) (k : Nat) (h : k < xs.length) : (partI xs k).set k (xs.getD k 0) = partI xs (k + 1) := by
  unfold partI nils
  apply List.ext_getElem
  · simp; omega
  · intro i h1 h2
    simp only [List.getElem_set, List.getElem_append, List.getElem_take, List.getElem_replicate, List.length_take]
    split
    · subst_vars
      rw [dif_pos (by omega)]
      simp [List.getD, List.getElem?_eq_getElem h]
    · split <;> split <;> first | rfl | (exfalso; omega)

def givenL (q r : Int) (hs : List (Int × Int)) : List Int := hs.map fun h => addI q r h.2
theorem givenL_len (q r : Int) (hs : List (Int × Int)) : (givenL q r hs).length = hs.length := by simp [givenL]
theorem givenL_at (q r : Int) (hs : List (Int × Int)) (k : Nat) (h : k < hs.length) : (givenL q r hs).getD k 0 = addI q r (hs.getD k (0, 0)).2 := by
  simp [givenL, List.getD, List.getElem?_eq_getElem h]

set_option maxRecDepth 100000 in
set_option maxHeartbeats 2000000 in
theorem eachHole_any (A : Option Addr) (c : Nat) (hs : List (Int × Int)) (q r : Int) (b6 b5 : Nat) (w : World) (hr : HolesR w A hs) (hbl : ∀ a, A = some a → a.block < w.heap.size) (hl : hs.length ≤ 1000)
    (h6 : b6 < w.heap.size) (h5 : b5 < w.heap.size) (c6 : w.cell? ⟨b6, 0, none⟩ = some (.int .i64 r)) (c5 : w.cell? ⟨b5, 0, none⟩ = some (.int .i64 q)) (hq : -1000 ≤ q ∧ q ≤ 1000) :
    Calls Tryd.prog 49 #[.slice A hs.length c, .func (.func 50) #[] #[.pointer (some ⟨b6, 0, none⟩), .pointer (some ⟨b5, 0, none⟩)]] w fun e w' =>
      e = .returned (.slice (some ⟨w.heap.size, 0, none⟩) hs.length hs.length) ∧ RowI w' w.heap.size (givenL q r hs) ∧ Below w.heap.size w w' := by
  have hmk := make_ints hs.length (by omega)
  have HR := Lib.hid hr
  have HBL := Lib.hid hbl
  have HG := Lib.hid (fun (p x : Int) (W : World) (hb : Below w.heap.size w W) => given1_any p x q r b6 b5 W (by have := hb.size; omega) (by have := hb.size; omega) ((hb.cell (p := ⟨b6, 0, none⟩) h6).trans c6) ((hb.cell (p := ⟨b5, 0, none⟩) h5).trans c5) hq)
  clear hr hbl c6 c5
  have HNL := Lib.hid (givenL_len q r hs)
  go_enter Tryd.func49, Tryd.ntmps49
  go_wp2
  go_loopw [13] (fun i w' => ∃ k : Nat, k ≤ hs.length ∧ i = .int .i64 k ∧ RowI w' w.heap.size (partI (givenL q r hs) k) ∧ Below w.heap.size w w') (fun i _ => hs.length - (intOf i).toNat)
  case atStart => exact ⟨0, Nat.zero_le _, rfl, by rw [partI_zero, givenL_len]; exact RowI.new _ _, (Below.refl _ _).alloc (Nat.le_refl _) _⟩
  case round =>
    obtain ⟨k, hk, rfl, hrow, hb⟩ := hrel
    have HROW := Lib.hid hrow
    have HB := Lib.hid hb
    have hlt0 := hrow.lt
    clear hrow hb
    by_cases hlt : k < hs.length
    · obtain ⟨a, rfl, d0, d1⟩ := (HR.out.keep HBL.out HB.out) k hlt
      have HS := Lib.hid (givenL_at q r hs k hlt)
      generalize hs.getD k (0, 0) = px at d0 d1 HS
      obtain ⟨p, x⟩ := px
      simp only at d0 d1 HS
      go_wp2_with fail
      refine (HG.out p x _ (HB.out.alloc HB.out.size _)).mono ?_
      rintro e w2 ⟨rfl, hb2⟩
      have HB2 := Lib.hid (HB.out.trans ((((Below.refl wr.heap.size wr).alloc (Nat.le_refl _) (.cells #[.int .i64 p, .int .i64 x] 32)).trans (hb2.mono (by simp))).mono HB.out.size))
      have hrow2 := HROW.out.below (((Below.refl wr.heap.size wr).alloc (Nat.le_refl _) (.cells #[.int .i64 p, .int .i64 x] 32)).trans (hb2.mono (by simp))) HROW.out.lt
      have hcell := hrow2.cell (j := k) (by rw [partI_len, HNL.out]; exact hlt)
      have hfr := hrow2.frozen k
      have HROW2 := Lib.hid hrow2
      clear hrow2 hb2
      go_wp2
      go_roundw
      case rel =>
        refine ⟨k + 1, by omega, by go_num, ?_, HB2.out.setCell (Nat.le_refl _) _⟩
        have := HROW2.out.set k (addI q r x)
        rw [← HS.out, partI_set _ _ (by rw [HNL.out]; exact hlt)] at this
        rw [← HS.out]; exact this
      case measure => simp [intOf]; omega
    · go_wp2
      go_ret
      exact ⟨rfl, by have := HROW.out; rwa [partI_all _ _ (by rw [HNL.out]; omega)] at this, HB.out⟩

end Go.Proofs.YtmnmdeehcdfkfaaDoor
