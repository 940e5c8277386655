/- checkPlaces of places: whether all coordinates are at most a million. -/
import Derived.Test.YtclhohfkacgooaaCourC
import Derived.Test.YtclhohfkacgooaaPolyA
namespace Go.Proofs.Ytclhohfkacgooaa
open Go.RowKit

/-- A slice's address under which places lie, in blocks below B. -/
def PlacesR (w : World) (B : Nat) (A : Option Addr) (ps : List Pl) : Prop :=
  ∀ j, j < ps.length → ∃ a, A = some a ∧ a.block < B ∧ w.cell? (a.add (j * 2)) = some (.int .i64 (ps.getD j (0, 0)).1) ∧
    w.cell? ⟨(a.add (j * 2)).block, (a.add (j * 2)).off + 1, none⟩ = some (.int .i64 (ps.getD j (0, 0)).2)
theorem PlacesR.below {w w' : World} {B : Nat} {A : Option Addr} {ps : List Pl} (h : PlacesR w B A ps) (hb : Below B w w') : PlacesR w' B A ps := fun j hj => by
  obtain ⟨a, h1, h2, h3, h4⟩ := h j hj
  have hbl : (a.add (j * 2)).block < B := by rw [block_of_add]; exact h2
  exact ⟨a, h1, h2, (hb.cell hbl).trans h3, (hb.cell (p := ⟨_, _, none⟩) hbl).trans h4⟩
theorem PlacesR.mono {w : World} {B B' : Nat} {A : Option Addr} {ps : List Pl} (h : PlacesR w B A ps) (hb : B ≤ B') : PlacesR w B' A ps := fun j hj => by
  obtain ⟨a, h1, h2, h3⟩ := h j hj
  exact ⟨a, h1, by omega, h3⟩

def farI (p : Pl) : Int := firstI [withinI p.1 (-1000000) 1000000, withinI p.2 (-1000000) 1000000]
def placesI : List Pl → Int
  | [] => 0
  | p :: l => if farI p = 0 then placesI l else farI p
theorem placesI_drop (l : List Pl) (k : Nat) (h : k < l.length) (p : Pl) (hp : l.getD k (0, 0) = p) : placesI (l.drop k) = if farI p = 0 then placesI (l.drop (k + 1)) else farI p := by
  rw [List.drop_eq_getElem_cons h]
  have e : l[k] = p := by rw [← hp]; simp [List.getD, List.getElem?_eq_getElem h]
  rw [e]; rfl
theorem farI_in {p : Pl} : farI p = 0 ↔ In 1000000 p := by
  unfold farI In firstI withinI
  by_cases h1 : -1000000 ≤ p.1 ∧ p.1 ≤ 1000000
  · by_cases h2 : -1000000 ≤ p.2 ∧ p.2 ≤ 1000000
    · simp [h1, h2, firstI]
    · simp [h1, h2, firstI]
  · simp [h1, firstI]
theorem placesI_in {l : List Pl} (h : placesI l = 0) : ∀ p ∈ l, In 1000000 p := by
  induction l with
  | nil => intro p hp; simp at hp
  | cons q l ih =>
    simp only [placesI] at h
    by_cases hq : farI q = 0
    · rw [if_pos hq] at h
      intro p hp
      rcases List.mem_cons.1 hp with rfl | hp
      · exact farI_in.1 hq
      · exact ih h p hp
    · rw [if_neg hq] at h; exact absurd h hq

set_option maxRecDepth 100000 in
set_option maxHeartbeats 2000000 in
theorem checkPlaces_any (A : Option Addr) (c B : Nat) (ps : List Pl) (w : World) (hl : ps.length ≤ 4611686018427387904) (hB : B ≤ w.heap.size) (hr : PlacesR w B A ps) :
    Calls Try.prog 25 #[.slice A ps.length c] w fun e w' => e = .returned (.int .i64 (placesI ps)) ∧ Below w.heap.size w w' := by
  have HR := Lib.hid hr
  clear hr
  go_enter Try.func25, Try.ntmps25
  go_wp2
  go_loopw [8] (fun i w' => ∃ k : Nat, k ≤ ps.length ∧ Below w.heap.size w w' ∧ i = .int .i64 k ∧ placesI (ps.drop k) = placesI ps) (fun i _ => ps.length - (intOf i).toNat)
  case atStart => exact ⟨0, Nat.zero_le _, Below.refl _ _, rfl, rfl⟩
  case round =>
    obtain ⟨k, hk, hb, rfl, hd⟩ := hrel
    have HD := Lib.hid hd
    clear hd
    by_cases hlt : k < ps.length
    · obtain ⟨a, rfl, hbl, c0, c1⟩ := HR.out.below (hb.mono hB) k hlt
      have HS := Lib.hid (fun p => placesI_drop ps k hlt p)
      generalize hpx : ps.getD k (0, 0) = px at c0 c1
      obtain ⟨x, y⟩ := px
      have HS2 := Lib.hid (HS.out (x, y) hpx)
      have hsz := hb.size
      clear hpx HS hbl
      have HFI : Hid (farI (x, y) = firstI [withinI x (-1000000) 1000000, withinI y (-1000000) 1000000]) := rfl
      by_cases he : farI (x, y) = 0
      · have hne : (firstI [withinI x (-1000000) 1000000, withinI y (-1000000) 1000000] != 0) = false := by rw [← HFI.out, he]; rfl
        have HE := Lib.hid he
        clear he
        go_wp2
        refine region_still_tail 6 (by kernel_rfl) (by kernel_rfl) ?_
        simp only [List.take_succ_cons, List.take_zero, List.drop_succ_cons, List.drop_zero]
        iterate 2 still_step
        still_call (still_of (within_any _ _ _ _))
        iterate 2 still_step
        still_call (still_of (within_any _ _ _ _))
        refine wpStill_nil ?_
        go_wp2_with fail
        refine (first_any _ _ [_, _] _ (by simp) (Ints.two _ _ _ _ _ (by simp)).drew).mono ?_; rintro e w2 ⟨rfl, rfl⟩
        go_wp2
        go_roundw
        case rel => exact ⟨k + 1, by omega, ((hb.alloc hsz _).alloc (by simp; omega) _).drew, by go_num, by rw [← HD.out, HS2.out, if_pos HE.out]⟩
        case measure => simp [intOf]; omega
      · have hne : (firstI [withinI x (-1000000) 1000000, withinI y (-1000000) 1000000] != 0) = true := by rw [← HFI.out, bne_iff_ne]; exact he
        have HE : Hid (firstI [withinI x (-1000000) 1000000, withinI y (-1000000) 1000000] = placesI ps) := by
          show _ = _
          rw [← HD.out, HS2.out, if_neg he, HFI.out]
        clear he
        go_wp2
        refine region_still_tail 6 (by kernel_rfl) (by kernel_rfl) ?_
        simp only [List.take_succ_cons, List.take_zero, List.drop_succ_cons, List.drop_zero]
        iterate 2 still_step
        still_call (still_of (within_any _ _ _ _))
        iterate 2 still_step
        still_call (still_of (within_any _ _ _ _))
        refine wpStill_nil ?_
        go_wp2_with fail
        refine (first_any _ _ [_, _] _ (by simp) (Ints.two _ _ _ _ _ (by simp)).drew).mono ?_; rintro e w2 ⟨rfl, rfl⟩
        go_wp2
        go_ret
        exact ⟨by rw [← HE.out]; rfl, ((hb.alloc hsz _).alloc (by simp; omega) _).drew⟩
    · have hks := Lib.hid (show k = ps.length by omega)
      go_wp2
      go_ret
      have hd := HD.out
      rw [List.drop_eq_nil_of_le (by have := hks.out; omega)] at hd
      exact ⟨by rw [← hd]; rfl, hb⟩

end Go.Proofs.Ytclhohfkacgooaa
