/- The law's closure fits: whether days are from 0 to 100000 and fulfil all conditions. -/
import Derived.Test.YtclhohfkacgooaaPlanA
namespace Go.Proofs.Ytclhohfkacgooaa
open Go.RowKit PlanMath

def inD (x : Int) : Bool := decide (0 ≤ x ∧ x ≤ 100000)
def okR (d : List Int) (r : Cond) : Bool := decide (d.getD r.1 0 + r.2.2 ≤ d.getD r.2.1 0)
def fitsB (R : List Cond) (d : List Int) : Bool := d.all inD && R.all (okR d)

theorem all_take {α : Type} (p : α → Bool) (l : List α) (k : Nat) (h : k < l.length) (z : α) (hz : l[k] = z) : (l.take (k + 1)).all p = ((l.take k).all p && p z) := by
  rw [List.take_succ_eq_append_getElem h, List.all_append, hz]; simp
theorem all_not {α : Type} (p : α → Bool) (l : List α) (k : Nat) (h : k < l.length) (z : α) (hz : l[k] = z) (hp : p z = false) : l.all p = false := by
  rw [List.all_eq_false]
  exact ⟨z, by rw [← hz]; exact List.getElem_mem h, by simp [hp]⟩

set_option maxRecDepth 100000 in
set_option maxHeartbeats 1000000 in
theorem fits_any (D : Option Addr) (c : Nat) (d : List Int) (Bx B : Nat) (A : Option Addr) (cA : Nat) (R : List Cond) (w : World) (hd : IntsAt w B D d) (hB : B ≤ w.heap.size) (hx : Bx < B)
    (hbox : w.cell? ⟨Bx, 0, none⟩ = some (.slice A R.length cA)) (hr : CondsR w B A R) (hv : Valid d.length R) (hl : d.length ≤ 1000) (hl2 : R.length ≤ 1000) :
    Calls Try.prog 7 #[.slice D d.length c, .pointer (some ⟨Bx, 0, none⟩)] w fun e w' => e = .returned (.bool (fitsB R d)) ∧ Below w.heap.size w w' := by
  have HD := Lib.hid hd
  have HR := Lib.hid hr
  have HV := Lib.hid hv
  clear hd hr hv
  go_enter Try.func7, Try.ntmps7
  go_wp2
  go_loop [10] (fun i => ∃ k : Nat, k ≤ d.length ∧ i = .int .i64 k ∧ (d.take k).all inD = true) (fun i => d.length - (intOf i).toNat)
  case atStart => exact ⟨0, Nat.zero_le _, rfl, rfl⟩
  case round =>
    obtain ⟨k, hk, rfl, hall⟩ := hrel
    have HALL := Lib.hid hall
    clear hall
    by_cases hlt : k < d.length
    · obtain ⟨a, rfl, _, hc⟩ := HD.out k hlt
      have HE : Hid (d[k] = d.getD k 0) := by
        show _ = _
        simp [List.getD, List.getElem?_eq_getElem hlt]
      generalize d.getD k 0 = x at hc HE
      by_cases g1 : x < 0
      · go_wp2
        go_ret
        exact ⟨by rw [fitsB, all_not inD d k hlt x HE.out (by unfold inD; exact decide_eq_false (by omega))]; rfl, Below.refl _ _⟩
      · by_cases g2 : 100000 < x
        · go_wp2
          go_ret
          exact ⟨by rw [fitsB, all_not inD d k hlt x HE.out (by unfold inD; exact decide_eq_false (by omega))]; rfl, Below.refl _ _⟩
        · go_wp2
          go_round
          case rel => exact ⟨k + 1, by omega, by go_num, by rw [all_take inD d k hlt x HE.out, HALL.out]; unfold inD; exact decide_eq_true (by omega)⟩
          case measure => simp [intOf]; omega
    · have HALLD : Hid (d.all inD = true) := by
        have := HALL.out
        rwa [List.take_of_length_le (by omega)] at this
      clear HALL
      go_wp2
      go_loopw [23] (fun i w' => ∃ k : Nat, k ≤ R.length ∧ i = .int .i64 k ∧ (R.take k).all (okR d) = true ∧ Below w.heap.size w w') (fun i _ => R.length - (intOf i).toNat)
      case atStart => exact ⟨0, Nat.zero_le _, rfl, rfl, Below.refl _ _⟩
      case round =>
        obtain ⟨j, hj, rfl, hall, hbel⟩ := hrel
        have HALL := Lib.hid hall
        clear hall
        by_cases hjt : j < R.length
        · obtain ⟨a, rfl, hbl, c0, c1, c2⟩ := HR.out.below (hbel.mono hB) j hjt
          have HE : Hid (R[j] = R.getD j (0, 0, 0)) := by
            show _ = _
            simp [List.getD, List.getElem?_eq_getElem hjt]
          have HMEM := Lib.hid (HV.out _ (List.getElem_mem hjt))
          rw [HE.out] at HMEM
          generalize R.getD j (0, 0, 0) = px at c0 c1 c2 HE HMEM
          obtain ⟨f, t, l⟩ := px
          obtain ⟨v1, v2, v3, v4⟩ := HMEM.out
          simp only at v1 v2 v3 v4
          have HDA := HD.out.below (hbel.mono hB)
          obtain ⟨ad, rfl, hab, cf⟩ := HDA f v1
          obtain ⟨ad', he, _, ct⟩ := HDA t v2
          obtain rfl : ad = ad' := by injection he
          have HIN := Lib.hid (List.all_eq_true.1 HALLD.out)
          have bf : 0 ≤ d.getD f 0 ∧ d.getD f 0 ≤ 100000 := by
            have := HIN.out d[f] (List.getElem_mem v1)
            unfold inD at this
            rw [decide_eq_true_eq] at this
            simpa [List.getD, List.getElem?_eq_getElem v1] using this
          have HOK : Hid (okR d (f, t, l) = decide (d.getD f 0 + l ≤ d.getD t 0)) := rfl
          generalize d.getD f 0 = x at cf bf HOK
          generalize d.getD t 0 = y at ct HOK
          have hs1 : ad.block < wr.heap.size := Nat.lt_of_lt_of_le hab (Nat.le_trans hB hbel.size)
          have rf := fun (O : Obj) => (World.cell?_alloc_lt wr O (ad.add f) (by rw [block_of_add]; exact hs1)).trans cf
          have rt := fun (O : Obj) => (World.cell?_alloc_lt wr O (ad.add t) (by rw [block_of_add]; exact hs1)).trans ct
          have e1 : IntKind.i64.wrap (x + l) = x + l := IntWalk.i64_in _ (by omega)
          have fi : (f : Int) < (d.length : Int) := by omega
          have ti : (t : Int) < (d.length : Int) := by omega
          clear HDA hab he HIN
          by_cases hc : y < x + l
          · go_wp2
            go_quiet (fail)
            go_wp2
            go_ret
            exact ⟨by rw [fitsB, all_not (okR d) R j hjt _ HE.out (by rw [HOK.out]; exact decide_eq_false (by omega)), Bool.and_false]; rfl, (hbel.alloc hbel.size _).trans ⟨rfl, rfl, rfl, Nat.le_refl _, fun _ _ => rfl⟩⟩
          · go_wp2
            go_quiet (fail)
            go_wp2
            go_roundw
            case rel => exact ⟨j + 1, by omega, by go_num, by rw [all_take (okR d) R j hjt _ HE.out, HALL.out, HOK.out]; exact decide_eq_true (by omega), (hbel.alloc hbel.size _).trans ⟨rfl, rfl, rfl, Nat.le_refl _, fun _ _ => rfl⟩⟩
            case measure => simp [intOf]; omega
        · have HALLR : Hid (R.all (okR d) = true) := by
            have := HALL.out
            rwa [List.take_of_length_le (by omega)] at this
          go_wp2
          go_ret
          exact ⟨by rw [fitsB, HALLD.out, HALLR.out]; rfl, hbel⟩

end Go.Proofs.Ytclhohfkacgooaa
