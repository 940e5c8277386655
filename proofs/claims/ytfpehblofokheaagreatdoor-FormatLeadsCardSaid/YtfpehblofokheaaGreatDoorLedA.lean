/- CheckField; eachOf over net strokes and over leaders. -/
import Derived.Test.YtfpehblofokheaaGreatDoorLedR
import Derived.Test.YtfpehblofokheaaGreatDoorMgF
import Derived.Test.YtfpehblofokheaaGreatDoorMgG
import Derived.Test.YtfpehblofokheaaGreatDoorMgD
import Derived.Deep.RegionHeld3
import Derived.Outline
set_option linter.unusedVariables false
set_option linter.unusedSimpArgs false
namespace Go.Proofs.YtfpehblofokheaaGreatDoor
open Go.RowKit

theorem keepF {w W w1 : World} {B : Nat} {p1 p2 : Addr} {u v : Value} (hb : Below W.heap.size W w1) (h : W.cell? p1 = some u ∧ W.cell? p2 = some v ∧ Hid (Below B w W)) (hB : B ≤ w.heap.size) : w1.cell? p1 = some u ∧ w1.cell? p2 = some v ∧ Hid (Below B w w1) :=
  ⟨(hb.cell (World.block_lt_of_cell? _ _ h.1)).trans h.1, (hb.cell (World.block_lt_of_cell? _ _ h.2.1)).trans h.2.1, h.2.2.out.trans (hb.mono (Nat.le_trans hB h.2.2.out.size))⟩
theorem heldF {C D : Prop} {B : Nat} {w W : World} (h : C ∧ D ∧ Hid (Below B w W)) : Below B w W := h.2.2.out

/-- The error of a field. -/
def fieldE (hs : List (Int × Int)) (ps : List Pl) : Int := firstI [holesI hs, unlessI (decide ((ps.length : Int) ≤ 200)) 5, playersGo hs [] ps]

set_option maxRecDepth 100000 in
set_option maxHeartbeats 4000000 in
theorem fmField_any (A H : Option Addr) (c ch : Nat) (hs : List (Int × Int)) (ps : List Pl) (w : World) (hch : ∀ W, Below w.heap.size w W → Calls Tryz.prog 43 #[.slice H hs.length ch] W fun e w' => e = .returned (.int .i64 (holesI hs)) ∧ Below W.heap.size W w')
    (hcp : ∀ W, Below w.heap.size w W → Calls Tryz.prog 45 #[.slice H hs.length ch, .slice A ps.length c] W fun e w' => e = .returned (.int .i64 (playersGo hs [] ps)) ∧ Below W.heap.size W w') :
    Calls Tryz.prog 11 #[.agg #[.slice H hs.length ch, .slice A ps.length c]] w fun e w' => e = .returned (.int .i64 (fieldE hs ps)) ∧ Below w.heap.size w w' := by
  have HCH := Lib.hid hch
  have HCP := Lib.hid hcp
  have HF : Hid (firstI [holesI hs, unlessI (decide ((ps.length : Int) ≤ 200)) 5, playersGo hs [] ps] = fieldE hs ps) := Lib.hid rfl
  clear hch hcp
  generalize fieldE hs ps = z at HF ⊢
  go_enter Tryz.func11, Tryz.ntmps11
  go_wp2
  generalize hW0 : w.alloc (.cells #[.slice H hs.length ch, .slice A ps.length c] 25) = W0
  obtain ⟨a1, a2, a3⟩ := one_alloc w _ _ hW0
  have HB0 := Lib.hid a2
  have HS0 := Lib.hid (show W0.drew.cell? ⟨w.heap.size, 0, none⟩ = some (.slice H hs.length ch) ∧ W0.drew.cell? ⟨w.heap.size, 1, none⟩ = some (.slice A ps.length c) ∧ Hid (Below W0.heap.size W0 W0.drew) from ⟨a1.cell 0, a1.cell 1, Lib.hid ((Below.refl _ _).drew)⟩)
  clear hW0 a1 a2 a3
  go_region_held3 (fun W => W.cell? ⟨w.heap.size, 0, none⟩ = some (.slice H hs.length ch) ∧ W.cell? ⟨w.heap.size, 1, none⟩ = some (.slice A ps.length c) ∧ Hid (Below W0.heap.size W0 W))
    ((first | assumption | exact keepF hb1 (by assumption) (Nat.le_refl _) | exact keepF ((Below.refl _ _).alloc (Nat.le_refl _) _) (by assumption) (Nat.le_refl _) | exact HS0.out))
    (first
      | (go_at_call 43; refine (HCH.out _ (HB0.out.trans ((heldF (by assumption)).mono HB0.out.size))).mono ?_; rintro e w1 ⟨rfl, hb1⟩)
      | (go_at_call 44; refine (fmUnless_any _ _ _).mono ?_; rintro e w1 ⟨rfl, rfl⟩)
      | (go_at_call 45; refine (HCP.out _ (HB0.out.trans ((heldF (by assumption)).mono HB0.out.size))).mono ?_; rintro e w1 ⟨rfl, hb1⟩)
      | (go_at_call 42; refine (fmFirst_any _ _ [_, _, _] _ (by simp) (Ints.three _ _ _ _ _ _ rfl)).mono ?_; rintro e w1 ⟨rfl, rfl⟩))
  all_goals
    have hLAST := heldF (by assumption)
    have HLAST := Lib.hid (HB0.out.trans (hLAST.mono HB0.out.size))
    rw [HF.out]
    go_wp2
    go_ret
    exact ⟨rfl, HLAST.out⟩

set_option maxRecDepth 100000 in
set_option maxHeartbeats 2000000 in
theorem eachNets_any (A : Option Addr) (c : Nat) (l : List (Int × ByteArray)) (w : World) (he : EntriesR w A l) (hl : l.length ≤ 1000) :
    Calls Tryz.prog 84 #[.slice A l.length c, .func (.func 85) #[] #[]] w fun e w' =>
      e = .returned (.slice (some ⟨w.heap.size, 0, none⟩) l.length l.length) ∧ RowI w' w.heap.size (firsts l) ∧ Below w.heap.size w w' := by
  have hmk := make_ints l.length (by omega)
  have HE := Lib.hid he
  have HNL := Lib.hid (firsts_len l)
  clear he
  go_enter Tryz.func84, Tryz.ntmps84
  go_wp2
  go_loopw [13] (fun i w' => ∃ k : Nat, k ≤ l.length ∧ i = .int .i64 k ∧ RowI w' w.heap.size (partI (firsts l) k) ∧ Below w.heap.size w w') (fun i _ => l.length - (intOf i).toNat)
  case atStart => exact ⟨0, Nat.zero_le _, rfl, by rw [partI_zero, firsts_len]; exact RowI.new _ _, (Below.refl _ _).alloc (Nat.le_refl _) _⟩
  case round =>
    obtain ⟨k, hk, rfl, hrow, hbel⟩ := hrel
    have HROW := Lib.hid hrow
    have HBEL := Lib.hid hbel
    clear hrow hbel
    by_cases hlt : k < l.length
    · obtain ⟨a, rfl, d0, d1, _⟩ := (HE.out.keep HBEL.out) k hlt
      have HS := Lib.hid (firsts_at l k hlt)
      generalize l.getD k (0, ByteArray.empty) = en at d0 d1 HS
      obtain ⟨s, m⟩ := en
      simp only at d0 d1 HS
      go_wp2_with fail
      refine (netStrokes_any _ _ _).mono ?_; rintro e w2 ⟨rfl, hb2⟩
      have hbA := (Below.refl wr.heap.size wr).alloc (Nat.le_refl _) (.cells #[.int .i64 s, .string m] 86)
      have hb3 : Below wr.heap.size wr w2 := hbA.trans (hb2.mono (by simp))
      have hrow2 := HROW.out.below hb3 HROW.out.lt
      have HB2 := Lib.hid (HBEL.out.trans (hb3.mono HBEL.out.size))
      have hcell := hrow2.cell (j := k) (by rw [partI_len, HNL.out]; exact hlt)
      have hfr := hrow2.frozen k
      have HROW2 := Lib.hid hrow2
      clear hrow2 hb2 hbA hb3
      go_wp2
      go_roundw
      case rel =>
        refine ⟨k + 1, by omega, by go_num, ?_, HB2.out.setCell (Nat.le_refl _) _⟩
        exact (HROW2.out.set k s).eq_ (by rw [← partI_set _ _ (by rw [HNL.out]; exact hlt), HS.out])
      case measure => simp [intOf]; omega
    · go_wp2
      go_ret
      exact ⟨rfl, by have := HROW.out; rwa [partI_all _ _ (by rw [HNL.out]; omega)] at this, HBEL.out⟩

/-- A slice's address under which pairs of integers lie. -/
def LdAt (w : World) (A : Option Addr) (l : List (Int × Int)) : Prop := ∀ j, j < l.length → ∃ a, A = some a ∧ w.cell? (a.add (j * 2)) = some (.int .i64 (l.getD j (0, 0)).1) ∧ w.cell? ⟨(a.add (j * 2)).block, (a.add (j * 2)).off + 1, none⟩ = some (.int .i64 (l.getD j (0, 0)).2)
theorem LdAt.keep {w w' : World} {A : Option Addr} {l : List (Int × Int)} (h : LdAt w A l) (hb : Below w.heap.size w w') : LdAt w' A l := fun j hj => by
  obtain ⟨a, e, h1, h2⟩ := h j hj
  exact ⟨a, e, (hb.cell (World.block_lt_of_cell? _ _ h1)).trans h1, (hb.cell (World.block_lt_of_cell? _ _ h2)).trans h2⟩
theorem LdR.ldAt {w : World} {g : Nat} {l : List (Int × Int)} {rest : List Value} (h : LdR w g l rest) : LdAt w (some ⟨g, 0, none⟩) l := fun j hj => by
  obtain ⟨h1, h2⟩ := h.cells hj
  refine ⟨_, rfl, ?_, ?_⟩
  · rw [add_zero_at]; exact h1
  · rw [add_zero_at]; exact h2

set_option maxRecDepth 100000 in
set_option maxHeartbeats 2000000 in
theorem eachLed1_any (A : Option Addr) (c : Nat) (l : List (Int × Int)) (w : World) (he : LdAt w A l) (hl : l.length ≤ 1000) :
    Calls Tryz.prog 39 #[.slice A l.length c, .func (.func 40) #[] #[]] w fun e w' =>
      e = .returned (.slice (some ⟨w.heap.size, 0, none⟩) l.length l.length) ∧ RowI w' w.heap.size (l.map (·.1)) ∧ Below w.heap.size w w' := by
  have hmk := make_ints l.length (by omega)
  have HE := Lib.hid he
  have HNL : Hid ((l.map (·.1)).length = l.length) := Lib.hid (by simp)
  have HAT : Hid (∀ k, k < l.length → (l.map (·.1)).getD k 0 = (l.getD k (0, 0)).1) := Lib.hid (fun k hk => by simp [List.getD, List.getElem?_eq_getElem hk])
  clear he
  generalize l.map (·.1) = xs at HNL HAT ⊢
  go_enter Tryz.func39, Tryz.ntmps39
  go_wp2
  go_loopw [13] (fun i w' => ∃ k : Nat, k ≤ l.length ∧ i = .int .i64 k ∧ RowI w' w.heap.size (partI xs k) ∧ Below w.heap.size w w') (fun i _ => l.length - (intOf i).toNat)
  case atStart => exact ⟨0, Nat.zero_le _, rfl, by rw [partI_zero, HNL.out]; exact RowI.new _ _, (Below.refl _ _).alloc (Nat.le_refl _) _⟩
  case round =>
    obtain ⟨k, hk, rfl, hrow, hbel⟩ := hrel
    have HROW := Lib.hid hrow
    have HBEL := Lib.hid hbel
    clear hrow hbel
    by_cases hlt : k < l.length
    · obtain ⟨a, rfl, d0, d1⟩ := (HE.out.keep HBEL.out) k hlt
      have HS := Lib.hid (HAT.out k hlt)
      generalize l.getD k (0, 0) = en at d0 d1 HS
      obtain ⟨s, m⟩ := en
      simp only at d0 d1 HS
      have HC : Hid (∀ W, Calls Tryz.prog 40 #[.agg #[.int .i64 s, .int .i64 m]] W fun e w' => e = .returned (.int .i64 s) ∧ Below W.heap.size W w') := Lib.hid (fun W => by
        go_enter Tryz.func40, Tryz.ntmps40
        go_wp2
        go_ret
        exact ⟨rfl, (Below.refl _ _).alloc (Nat.le_refl _) _⟩)
      go_wp2_with fail
      refine (HC.out _).mono ?_; rintro e w2 ⟨rfl, hb2⟩
      have hbA := (Below.refl wr.heap.size wr).alloc (Nat.le_refl _) (.cells #[.int .i64 s, .int .i64 m] 93)
      have hb3 : Below wr.heap.size wr w2 := hbA.trans (hb2.mono (by simp))
      have hrow2 := HROW.out.below hb3 HROW.out.lt
      have HB2 := Lib.hid (HBEL.out.trans (hb3.mono HBEL.out.size))
      have hcell := hrow2.cell (j := k) (by rw [partI_len, HNL.out]; exact hlt)
      have hfr := hrow2.frozen k
      have HROW2 := Lib.hid hrow2
      clear hrow2 hb2 hbA hb3
      go_wp2
      go_roundw
      case rel =>
        refine ⟨k + 1, by omega, by go_num, ?_, HB2.out.setCell (Nat.le_refl _) _⟩
        exact (HROW2.out.set k s).eq_ (by rw [← partI_set _ _ (by rw [HNL.out]; exact hlt), HS.out])
      case measure => simp [intOf]; omega
    · go_wp2
      go_ret
      exact ⟨rfl, by have := HROW.out; rwa [partI_all _ _ (by rw [HNL.out]; omega)] at this, HBEL.out⟩

set_option maxRecDepth 100000 in
set_option maxHeartbeats 2000000 in
theorem eachLed2_any (A : Option Addr) (c : Nat) (l : List (Int × Int)) (w : World) (he : LdAt w A l) (hl : l.length ≤ 1000) :
    Calls Tryz.prog 39 #[.slice A l.length c, .func (.func 41) #[] #[]] w fun e w' =>
      e = .returned (.slice (some ⟨w.heap.size, 0, none⟩) l.length l.length) ∧ RowI w' w.heap.size (l.map (·.2)) ∧ Below w.heap.size w w' := by
  have hmk := make_ints l.length (by omega)
  have HE := Lib.hid he
  have HNL : Hid ((l.map (·.2)).length = l.length) := Lib.hid (by simp)
  have HAT : Hid (∀ k, k < l.length → (l.map (·.2)).getD k 0 = (l.getD k (0, 0)).2) := Lib.hid (fun k hk => by simp [List.getD, List.getElem?_eq_getElem hk])
  clear he
  generalize l.map (·.2) = xs at HNL HAT ⊢
  go_enter Tryz.func39, Tryz.ntmps39
  go_wp2
  go_loopw [13] (fun i w' => ∃ k : Nat, k ≤ l.length ∧ i = .int .i64 k ∧ RowI w' w.heap.size (partI xs k) ∧ Below w.heap.size w w') (fun i _ => l.length - (intOf i).toNat)
  case atStart => exact ⟨0, Nat.zero_le _, rfl, by rw [partI_zero, HNL.out]; exact RowI.new _ _, (Below.refl _ _).alloc (Nat.le_refl _) _⟩
  case round =>
    obtain ⟨k, hk, rfl, hrow, hbel⟩ := hrel
    have HROW := Lib.hid hrow
    have HBEL := Lib.hid hbel
    clear hrow hbel
    by_cases hlt : k < l.length
    · obtain ⟨a, rfl, d0, d1⟩ := (HE.out.keep HBEL.out) k hlt
      have HS := Lib.hid (HAT.out k hlt)
      generalize l.getD k (0, 0) = en at d0 d1 HS
      obtain ⟨s, m⟩ := en
      simp only at d0 d1 HS
      have HC : Hid (∀ W, Calls Tryz.prog 41 #[.agg #[.int .i64 s, .int .i64 m]] W fun e w' => e = .returned (.int .i64 m) ∧ Below W.heap.size W w') := Lib.hid (fun W => by
        go_enter Tryz.func41, Tryz.ntmps41
        go_wp2
        go_ret
        exact ⟨rfl, (Below.refl _ _).alloc (Nat.le_refl _) _⟩)
      go_wp2_with fail
      refine (HC.out _).mono ?_; rintro e w2 ⟨rfl, hb2⟩
      have hbA := (Below.refl wr.heap.size wr).alloc (Nat.le_refl _) (.cells #[.int .i64 s, .int .i64 m] 93)
      have hb3 : Below wr.heap.size wr w2 := hbA.trans (hb2.mono (by simp))
      have hrow2 := HROW.out.below hb3 HROW.out.lt
      have HB2 := Lib.hid (HBEL.out.trans (hb3.mono HBEL.out.size))
      have hcell := hrow2.cell (j := k) (by rw [partI_len, HNL.out]; exact hlt)
      have hfr := hrow2.frozen k
      have HROW2 := Lib.hid hrow2
      clear hrow2 hb2 hbA hb3
      go_wp2
      go_roundw
      case rel =>
        refine ⟨k + 1, by omega, by go_num, ?_, HB2.out.setCell (Nat.le_refl _) _⟩
        exact (HROW2.out.set k m).eq_ (by rw [← partI_set _ _ (by rw [HNL.out]; exact hlt), HS.out])
      case measure => simp [intOf]; omega
    · go_wp2
      go_ret
      exact ⟨rfl, by have := HROW.out; rwa [partI_all _ _ (by rw [HNL.out]; omega)] at this, HBEL.out⟩

end Go.Proofs.YtfpehblofokheaaGreatDoor
