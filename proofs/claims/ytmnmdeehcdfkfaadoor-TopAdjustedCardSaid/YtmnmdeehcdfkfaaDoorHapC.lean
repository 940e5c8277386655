/- Adjusted of package handicap, for a card without an error. -/
import Derived.Test.YtmnmdeehcdfkfaaDoorHapB
import Derived.Outline
namespace Go.Proofs.YtmnmdeehcdfkfaaDoor
open Go.RowKit

theorem adjN_adjV (np : Int) (e : Int × ByteArray) : adjN np e = adjV (np + 2) e := by
  unfold adjN adjV
  split
  · rfl
  · split <;> omega
theorem adjL_len (q r : Int) (hs : List (Int × Int)) (l : List (Int × ByteArray)) (h : l.length = hs.length) : (adjL q r hs l).length = hs.length := by simp [adjL, h]
theorem adjL_at (q r : Int) (hs : List (Int × Int)) (l : List (Int × ByteArray)) (k : Nat) (h1 : k < hs.length) (h2 : k < l.length) :
    (adjL q r hs l).getD k 0 = adjN ((netParL q r hs).getD k 0) (l.getD k (0, ByteArray.empty)) := by
  have h3 : k < (hs.zip l).length := by simp; omega
  rw [netParL_at q r hs k h1, adjN_adjV]
  simp [adjL, limV, List.getD, List.getElem?_eq_getElem h1, List.getElem?_eq_getElem h2, List.getElem?_eq_getElem h3]
  congr 1
  omega
theorem adjN_bound {np : Int} {e : Int × ByteArray} (hp : -2000 ≤ np ∧ np ≤ 2000) (he : 0 ≤ e.1 ∧ e.1 ≤ 99) : -10000 ≤ adjN np e ∧ adjN np e ≤ 10000 := by
  unfold adjN
  split
  · omega
  · split <;> omega
theorem adjL_bound {hs : List (Int × Int)} {l : List (Int × ByteArray)} {q r : Int} (hp : ∀ x ∈ hs, 3 ≤ x.1 ∧ x.1 ≤ 6) (he : ∀ e ∈ l, 0 ≤ e.1 ∧ e.1 ≤ 99) (hq : -1000 ≤ q ∧ q ≤ 1000) :
    ∀ y ∈ adjL q r hs l, -10000 ≤ y ∧ y ≤ 10000 := fun y hy => by
  unfold adjL at hy
  obtain ⟨⟨x, e⟩, hz, rfl⟩ := List.mem_map.1 hy
  have h1 := List.of_mem_zip hz
  have h2 := hp x h1.1
  have h3 := he e h1.2
  have := adjN_bound (np := x.1 + addI q r x.2) (e := e) (by unfold addI; split <;> omega) h3
  rw [adjN_adjV] at this
  have e2 : limV q r x = x.1 + addI q r x.2 + 2 := by unfold limV; omega
  simpa [e2] using this

theorem keepM {w W w1 : World} {B : Nat} {p1 p2 p3 : Addr} {u v x : Value} (hb : Below W.heap.size W w1) (h : W.cell? p1 = some u ∧ W.cell? p2 = some v ∧ W.cell? p3 = some x ∧ Hid (Below B w W)) (hB : B ≤ w.heap.size) :
    w1.cell? p1 = some u ∧ w1.cell? p2 = some v ∧ w1.cell? p3 = some x ∧ Hid (Below B w w1) :=
  ⟨(hb.cell (World.block_lt_of_cell? _ _ h.1)).trans h.1, (hb.cell (World.block_lt_of_cell? _ _ h.2.1)).trans h.2.1, (hb.cell (World.block_lt_of_cell? _ _ h.2.2.1)).trans h.2.2.1, h.2.2.2.out.trans (hb.mono (Nat.le_trans hB h.2.2.2.out.size))⟩
theorem heldM {C D E : Prop} {B : Nat} {w W : World} (h : C ∧ D ∧ E ∧ Hid (Below B w W)) : Below B w W := h.2.2.2.out

set_option maxRecDepth 100000 in
set_option maxHeartbeats 4000000 in
theorem hcAdjusted_yes (A B : Option Addr) (c d : Nat) (hs : List (Int × Int)) (nm : ByteArray) (l : List (Int × ByteArray)) (h : Int) (w : World) (hr : HolesR w A hs) (hbl : ∀ a, A = some a → a.block < w.heap.size)
    (he : EntriesR w B l) (hn : playerI hs nm l h = 0) :
    Calls Tryd.prog 7 #[.slice A hs.length c, .agg #[.string nm, .slice B l.length d], .int .i64 h] w fun e w' =>
      e = .returned (.tuple #[.int .i64 (adjS hs h l), .int .i64 0]) ∧ Below w.heap.size w w' := by
  have F := Lib.hid (fit_of hn)
  have h1 := firstI_zero _ hn (holesI hs) (by simp)
  have h2 := firstI_zero _ hn (cardI hs nm l) (by simp)
  have h3 := firstI_zero _ hn (withinI h (-99) 99) (by simp)
  have hgv : givenE hs h = 0 := by unfold givenE; simp [firstI, h1, h3]
  have HP := Lib.hid (holesI_zero h1).2.2.1
  have HQ := Lib.hid (div_small h hs.length F.out.lo F.out.hi F.out.pos)
  have HC := Lib.hid (fun W (hb : Below w.heap.size w W) => netPars_yes A c hs h W (hr.keep hbl hb) (fun a ha => Nat.lt_of_lt_of_le (hbl a ha) hb.size) hgv)
  have HK := Lib.hid (fun W (hb : Below w.heap.size w W) => checkCard_any A B c d hs nm l W (hr.keep hbl hb) (fun a ha => Nat.lt_of_lt_of_le (hbl a ha) hb.size) (by have := F.out.most; omega) (he.keep hb) (by have := F.out.most; have := F.out.len; omega))
  rw [h2] at HK
  have HE := Lib.hid he
  have HA : Hid (adjS hs h l = ForMath.sumI (adjL (h / (hs.length : Int)) (h % (hs.length : Int)) hs l)) := Lib.hid rfl
  clear hr hbl hn he h1 h2 h3 hgv
  generalize h / (hs.length : Int) = q at HC HQ HA
  generalize h % (hs.length : Int) = r at HC HA
  generalize adjS hs h l = res at HA ⊢
  have HNL := Lib.hid (netParL_len q r hs)
  have HAL := Lib.hid (adjL_len q r hs l F.out.len)
  have HAB := Lib.hid (adjL_bound (q := q) (r := r) (hs := hs) (l := l) (fun x hx => by have := HP.out x hx; omega) (fun e he => F.out.strokes e he) HQ.out)
  have hll : l.length ≤ 1000 := by have := F.out.most; have := F.out.len; omega
  go_enter Tryd.func7, Tryd.ntmps7
  go_wp2_with fail
  generalize hW0 : w.alloc (.cells #[.string nm, .slice B l.length d] 25) = W0
  have hblk : BlkV W0 w.heap.size 25 #[.string nm, .slice B l.length d] := by subst hW0; exact BlkV.new _ _ _
  have hB0 : Below w.heap.size w W0 := by subst hW0; exact (Below.refl _ _).alloc (Nat.le_refl _) _
  have hsz0 : W0.heap.size = w.heap.size + 1 := by subst hW0; simp
  have HBLK := Lib.hid hblk
  have HB0 := Lib.hid hB0
  have HSZ0 := Lib.hid hsz0
  clear hW0 hblk hB0 hsz0
  refine (HC.out W0 HB0.out).mono ?_
  rintro e w1 ⟨g, rfl, hrow, hg, hb1⟩
  have HROW := Lib.hid hrow
  have HBLK1 := Lib.hid (HBLK.out.below hb1 HBLK.out.lt)
  have HB1 := Lib.hid (HB0.out.trans (hb1.mono HB0.out.size))
  clear hrow hg hb1 HC HBLK HB0 HSZ0
  have k0 := HBLK1.out.cell 0
  have k1 := HBLK1.out.cell 1
  simp only [List.getElem?_toArray, List.getElem?_cons_zero, List.getElem?_cons_succ] at k0 k1
  rw [HNL.out]
  go_wp2_with fail
  refine (HK.out _ HB1.out).mono ?_
  rintro e w2 ⟨rfl, hb2⟩
  have HROW2 := Lib.hid (HROW.out.below hb2 HROW.out.lt)
  have HBLK2 := Lib.hid (HBLK1.out.below hb2 HBLK1.out.lt)
  have HB2 := Lib.hid (HB1.out.trans (hb2.mono HB1.out.size))
  clear hb2 k0 k1 HROW HBLK1
  go_wp2_with fail
  refine (hcFirst_any _ _ [_, _] _ (by simp) (Ints.two _ _ _ _ _ rfl)).mono ?_
  rintro e w3 ⟨rfl, rfl⟩
  rw [show firstI [0, 0] = 0 from rfl]
  generalize hW3 : w2.alloc (.cells #[.int .i64 0, .int .i64 0] 35) = W3
  have hrow3 : RowI W3 g (netParL q r hs) := by subst hW3; exact HROW2.out.alloc _
  have hblk3 := HBLK2.out.alloc (.cells #[.int .i64 0, .int .i64 0] 35)
  rw [hW3] at hblk3
  have hB3 : Below w.heap.size w W3 := by subst hW3; exact HB2.out.alloc HB2.out.size _
  have HROW3 := Lib.hid hrow3
  have HB3 := Lib.hid hB3
  have k1 := hblk3.cell 1
  simp only [List.getElem?_toArray, List.getElem?_cons_zero, List.getElem?_cons_succ] at k1
  clear hW3 hrow3 hblk3 hB3 HROW2 HBLK2 HB2
  go_wp2
  go_loopw [11, 32] (fun t i w' => ∃ k : Nat, k ≤ l.length ∧ i = .int .i64 k ∧ t = .int .i64 (ForMath.sumI ((adjL q r hs l).take k)) ∧ RowI w' g (netParL q r hs) ∧ Below w.heap.size w w') (fun _ i _ => l.length - (intOf i).toNat)
  case atStart => exact ⟨0, Nat.zero_le _, rfl, by simp [ForMath.sumI], HROW3.out, HB3.out⟩
  case round =>
    obtain ⟨k, hk, rfl, rfl, hrow, hb⟩ := hrel
    have HROW4 := Lib.hid hrow
    have HB4 := Lib.hid hb
    clear hrow hb
    by_cases hlt : k < l.length
    · obtain ⟨a, rfl, d0, d1, _⟩ := (HE.out.keep HB4.out) k hlt
      have hkh : k < hs.length := by have := F.out.len; omega
      have HAT := Lib.hid (adjL_at q r hs l k hkh hlt)
      have HT := Lib.hid (sumI_take (adjL q r hs l) k (by rw [HAL.out]; exact hkh))
      have hsb := sumI_take_bound (adjL q r hs l) k (by rw [HAL.out]; have := F.out.most; omega) HAB.out
      have hnp : -2000 ≤ (netParL q r hs).getD k 0 ∧ (netParL q r hs).getD k 0 ≤ 2000 := by
        rw [netParL_at q r hs k hkh]
        have h1 := HP.out _ (List.getElem_mem hkh)
        have h2 := HQ.out
        simp only [List.getD, List.getElem?_eq_getElem hkh, Option.getD_some]
        unfold addI
        split <;> omega
      have hst : 0 ≤ (l.getD k (0, ByteArray.empty)).1 ∧ (l.getD k (0, ByteArray.empty)).1 ≤ 99 := by
        have := F.out.strokes _ (List.getElem_mem hlt)
        simpa only [List.getD, List.getElem?_eq_getElem hlt, Option.getD_some] using this
      have hyb := adjN_bound hnp hst
      have r0 := HROW4.out.cell (j := k) (by rw [HNL.out]; exact hkh)
      generalize (netParL q r hs).getD k 0 = np at HAT hnp hyb r0
      generalize l.getD k (0, ByteArray.empty) = en at d0 d1 HAT hst hyb
      obtain ⟨s, m⟩ := en
      simp only at d0 d1 HAT hst hyb
      generalize hy : adjN np (s, m) = y at HAT hyb
      have HY := Lib.hid hy
      rw [HAT.out] at HT
      generalize ForMath.sumI ((adjL q r hs l).take k) = t at hsb HT
      have hk0 : (0 : Int) ≤ (k : Int) := Int.natCast_nonneg _
      have hk1 : (k : Int) < (hs.length : Int) := by omega
      have hwr : IntKind.i64.wrap (t + y) = t + y := IntWalk.i64_in _ (by omega)
      clear hy
      go_wp2_with fail
      generalize hW2 : wr.alloc (.cells #[.int .i64 s, .string m] 30) = W2
      have hblk2 : BlkV W2 wr.heap.size 30 #[.int .i64 s, .string m] := by subst hW2; exact BlkV.new _ _ _
      have hB2 : Below w.heap.size w W2 := by subst hW2; exact HB4.out.alloc HB4.out.size _
      have hrow2 : RowI W2 g (netParL q r hs) := by subst hW2; exact HROW4.out.alloc _
      have r2 : W2.cell? ⟨g, k, none⟩ = some (.int .i64 np) := by subst hW2; exact ((Below.refl wr.heap.size wr).alloc (Nat.le_refl _) _).cell (p := ⟨g, k, none⟩) HROW4.out.lt |>.trans r0
      have b0 := hblk2.cell 0
      have b1 := hblk2.cell 1
      simp only [List.getElem?_toArray, List.getElem?_cons_zero, List.getElem?_cons_succ] at b0 b1
      have HB5 := Lib.hid hB2
      have HROW5 := Lib.hid hrow2
      have HS5 := Lib.hid (show W2.drew.cell? ⟨wr.heap.size, 0, none⟩ = some (.int .i64 s) ∧ W2.drew.cell? ⟨wr.heap.size, 1, none⟩ = some (.string m) ∧ W2.drew.cell? ⟨g, k, none⟩ = some (.int .i64 np) ∧ Hid (Below W2.heap.size W2 W2.drew) from ⟨b0, b1, r2, Lib.hid ((Below.refl _ _).drew)⟩)
      have HCALL := Lib.hid (fun W => adjusted_any s np m W (by omega))
      rw [show adjN np (s, m) = y from HY.out] at HCALL
      clear hW2 hB2 hrow2 hblk2 r0 r2 d0 d1 b0 b1
      go_region_held3 (fun w' => w'.cell? ⟨wr.heap.size, 0, none⟩ = some (.int .i64 s) ∧ w'.cell? ⟨wr.heap.size, 1, none⟩ = some (.string m) ∧ w'.cell? ⟨g, k, none⟩ = some (.int .i64 np) ∧ Hid (Below W2.heap.size W2 w'))
        ((first | assumption | exact keepM hb1 (by assumption) (Nat.le_refl _) | exact HS5.out))
        (first
          | (go_at_call 19; refine (HCALL.out _).mono ?_; rintro e w1 ⟨rfl, hb1⟩))
      all_goals
        go_wp2
        go_roundw
        case rel =>
          have hbb := heldM (B := W2.heap.size) (w := W2) (by assumption)
          exact ⟨k + 1, by omega, by go_num, by rw [HT.out], HROW5.out.below hbb HROW5.out.lt, HB5.out.trans (hbb.mono HB5.out.size)⟩
        case measure => simp [intOf]; omega
    · have hk2 : (adjL q r hs l).take k = adjL q r hs l := List.take_of_length_le (by rw [HAL.out]; have := F.out.len; omega)
      have HK2 : Hid (ForMath.sumI ((adjL q r hs l).take k) = res) := Lib.hid (by rw [hk2, HA.out])
      clear hk2
      go_wp2
      go_ret2
      exact ⟨by rw [← HK2.out]; rfl, HB4.out⟩
end Go.Proofs.YtmnmdeehcdfkfaaDoor
