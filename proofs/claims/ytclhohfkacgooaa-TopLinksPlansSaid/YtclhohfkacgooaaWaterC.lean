/- watered, by recursion on the flows. -/
import Derived.Test.YtclhohfkacgooaaWaterB
import Derived.OwnWalk
namespace Go.Proofs.Ytclhohfkacgooaa
open Go.RowKit WaterMath

theorem IntsAt.tail {w : World} {B : Nat} {a : Addr} {f : Int} {fs : List Int} (h : IntsAt w B (some a) (f :: fs)) : IntsAt w B (some (a.add 1)) fs := fun j hj => by
  obtain ⟨a', e, h2, h3⟩ := h (j + 1) (by simp; omega)
  obtain rfl : a = a' := by injection e
  refine ⟨_, rfl, by rw [block_of_add]; exact h2, ?_⟩
  have : (a.add 1).add j = a.add (j + 1) := by
    unfold Addr.add
    by_cases hj0 : j = 0 <;> simp [hj0] <;> omega
  rw [this, h3]; simp

theorem IntsAt.set_other {w : World} {B : Nat} {A : Option Addr} {xs : List Int} (h : IntsAt w B A xs) {p : Addr} (hp : B ≤ p.block) (v : Value) : IntsAt (w.setCell p v) B A xs := fun j hj => by
  obtain ⟨a, h1, h2, h3⟩ := h j hj
  refine ⟨a, h1, h2, (World.cell?_setCell_other _ _ _ _ (fun e => ?_)).trans h3⟩
  have : p.block = a.block := by rw [e, block_of_add]
  omega

theorem wat_length (fs : List Int) : ∀ left ss, wat fs left = some ss → ss.length = fs.length := by
  induction fs with
  | nil => intro left ss e; simp only [wat, Option.some.injEq] at e; subst e; rfl
  | cons f fs ih =>
    intro left ss e
    rw [wat_cons] at e
    obtain ⟨r, hr, e2⟩ := List.exists_of_findSome?_eq_some e
    unfold watF at e2
    split at e2
    · cases e2
    · rw [Option.map_eq_some_iff] at e2
      obtain ⟨tt, e3, rfl⟩ := e2
      simp [ih _ _ e3]
theorem ownsRow_slice {w : World} {base : Nat} {e : TypeId} {size n : Nat} {v : Value} {xs : List Value} (h : w.ownsRow base e size v n xs) : ∃ A m c, v = .slice A m c := by
  rcases h.2 with ⟨rfl, _⟩ | ⟨g, cap, _, rfl, _⟩
  · exact ⟨_, _, _, rfl⟩
  · exact ⟨_, _, _, rfl⟩
theorem ownsRow_base {w : World} {base base' : Nat} {e : TypeId} {size n : Nat} {v : Value} {xs : List Value} (h : w.ownsRow base e size v n xs) (hb : base' ≤ base) : w.ownsRow base' e size v n xs := by
  obtain ⟨h1, h2 | ⟨g, cap, cur, e1, e2, e3⟩⟩ := h
  · exact ⟨h1, .inl h2⟩
  · exact ⟨h1, .inr ⟨g, cap, cur, e1, by omega, e3⟩⟩

set_option maxRecDepth 100000 in
set_option maxHeartbeats 2000000 in
theorem watered_any (fs : List Int) : ∀ (A : Option Addr) (c : Nat) (left : List Int) (g : Nat) (w : World), fs.length ≤ 8 → fs.length ≤ c → (∀ f ∈ fs, 1 ≤ f ∧ f ≤ 999999999) → left.length ≤ 8 → (∀ r, 0 ≤ left.getD r 0 ∧ left.getD r 0 ≤ 999999999) →
    IntsAt w g A fs → RowI w g left →
    Calls Try.prog 17 #[.slice A fs.length c, .slice (some ⟨g, 0, none⟩) left.length left.length] w (WatOut fs left w) := by
  induction fs with
  | nil =>
    intro A c left g w hl hc hf hll hlb hi hr
    go_enter Try.func17, Try.ntmps17
    go_wp2
    go_ret2
    exact ⟨.inr ⟨[], _, rfl, rfl, World.ownsRow_nil _ _ _ _⟩, Below.refl _ _⟩
  | cons f fs ih =>
    intro A c left g w hl hc hf hll hlb hi hr
    have HF := Lib.hid (fun x (hx : x ∈ fs) => hf x (by simp [hx]))
    obtain ⟨f1, f2⟩ := hf f (by simp)
    have HIH := Lib.hid ih
    have HI := Lib.hid hi
    have HR := Lib.hid hr
    have HLB := Lib.hid hlb
    have HLL := Lib.hid hll
    have hlen : (f :: fs).length = fs.length + 1 := rfl
    rw [hlen] at hl hc ⊢
    obtain ⟨a, rfl, hab, hcf⟩ := hi 0 (by simp)
    have hcf' : w.cell? a = some (.int .i64 f) := by simpa [Addr.add] using hcf
    have HCF := Lib.hid hcf'
    have hgl := hr.lt
    have hn0 : ((fs.length : Int) + 1 == 0) = false := by rw [beq_eq_false_iff_ne]; omega
    clear ih hf hi hr hlb hcf hcf' hlen
    go_enter Try.func17, Try.ntmps17
    go_wp2
    go_loopw [14] (fun i wr => ∃ r : Nat, r ≤ left.length ∧ i = .int .i64 r ∧ (∀ q, q < r → watF f fs left q = none) ∧ RowI wr g left ∧ Below w.heap.size w wr) (fun i _ => left.length - (intOf i).toNat)
    case atStart => exact ⟨0, Nat.zero_le _, rfl, fun q hq => absurd hq (by omega), HR.out, Below.refl _ _⟩
    case round =>
      obtain ⟨r, hr, rfl, hq, hrow, hbel⟩ := hrel
      have HQ := Lib.hid hq
      have HROW := Lib.hid hrow
      have HBEL := Lib.hid hbel
      clear hq
      by_cases hlt : r < left.length
      · have hcf := (hbel.cell (p := a) (by omega)).trans HCF.out
        have hcl := hrow.cell hlt
        have hfz := hrow.frozen r
        obtain ⟨x1, x2⟩ := HLB.out r
        have HX : Hid (left.getD r 0 = left.getD r 0) := rfl
        generalize hx : left.getD r 0 = x at hcl x1 x2 HX
        have HXE := Lib.hid hx
        clear hx HX hrow hbel
        by_cases hgt : x < f
        · go_wp2
          go_quiet (fail)
          go_wp2
          go_roundw
          case rel => exact ⟨r + 1, by omega, by go_num, fun q hq => by
            by_cases e : q = r
            · subst e; unfold watF; rw [HXE.out, if_pos hgt]
            · exact HQ.out q (by omega), HROW.out, HBEL.out.trans ⟨rfl, rfl, rfl, Nat.le_refl _, fun _ _ => rfl⟩⟩
          case measure => simp [intOf]; omega
        · have HLS : Hid (∀ q, 0 ≤ (left.set r (x - f)).getD q 0 ∧ (left.set r (x - f)).getD q 0 ≤ 999999999) := fun q => by
            rw [WaterMath.getD_set _ _ _ _ hlt]
            have := HLB.out q
            split <;> omega
          have HCALL := Lib.hid (fun (W1 : World) (A' : Option Addr) (c' : Nat) (h1 : IntsAt W1 g A' fs) (h2 : RowI W1 g (left.set r (x - f))) (h3 : fs.length ≤ c') => by
            have := HIH.out A' c' (left.set r (x - f)) g W1 (by omega) h3 HF.out (by simpa using HLL.out) HLS.out h1 h2
            rwa [List.length_set] at this)
          have ex : x - f + f = x := by omega
          have EX := Lib.hid ex
          clear ex HLS
          have HC0 := Lib.hid hc
          have HL0 := Lib.hid hl
          have HG0 := Lib.hid hgl
          by_cases hc1 : c = 1
          case' pos =>
            subst hc1
            have HFL0 := Lib.hid (show fs.length = 0 by omega)
            have HCP := Lib.hid (fun (W1 : World) (A' : Option Addr) (h2 : RowI W1 g (left.set r (x - f))) => by
              have := HCALL.out W1 A' 0 (fun j hj => absurd hj (by have := HFL0.out; omega)) h2 (by have := HFL0.out; omega)
              exact this)
            clear hc hl HC0
            go_wp2
            go_quiet (fail)
            go_wp2
            go_region
            have HR0 := Lib.hid (show RowI (wr.drewN (nq + 1)) g left from HROW.out)
            have HC1 := Lib.hid (show (wr.drewN (nq + 1)).cell? a = some (.int .i64 f) from hcf)
            have HBX := Lib.hid (show Below w.heap.size w (wr.drewN (nq + 1)) from HBEL.out.trans ⟨rfl, rfl, rfl, Nat.le_refl _, fun _ _ => rfl⟩)
            obtain ⟨W0, hW0⟩ : ∃ W0, wr.drewN (nq + 1) = W0 := ⟨_, rfl⟩
            rw [hW0] at HR0 HBX HC1
            have HW0 := Lib.hid hW0
            clear hW0
            go_wp2_with fail
            rw [HW0.out]
            refine (HCP.out _ _ (HR0.out.set r (x - f))).mono ?_
          case' neg =>
            go_wp2
            go_quiet (fail)
            go_wp2
            go_region
            have HR0 := Lib.hid (show RowI (wr.drewN (nq + 1)) g left from HROW.out)
            have HC1 := Lib.hid (show (wr.drewN (nq + 1)).cell? a = some (.int .i64 f) from hcf)
            have HBX := Lib.hid (show Below w.heap.size w (wr.drewN (nq + 1)) from HBEL.out.trans ⟨rfl, rfl, rfl, Nat.le_refl _, fun _ _ => rfl⟩)
            obtain ⟨W0, hW0⟩ : ∃ W0, wr.drewN (nq + 1) = W0 := ⟨_, rfl⟩
            rw [hW0] at HR0 HBX HC1
            have HW0 := Lib.hid hW0
            clear hW0
            go_wp2_with fail
            rw [HW0.out]
            refine (HCALL.out _ _ _ ((HI.out.tail.below (HBX.out.mono (Nat.le_of_lt hgl))).set_other (by simp) _) (HR0.out.set r (x - f)) (by omega)).mono ?_
          all_goals
            rintro e w2 ⟨hres, hb2⟩
            obtain ⟨hr1, hr2⟩ := restore (x - f) HR0.out hlt (hb2.mono (by simp [World.setCell]))
            rw [HXE.out] at hr1 hr2
            have hrw := (HR0.out.set r (x - f)).below hb2 (by have := HR0.out.lt; simpa [World.setCell] using this)
            have hcl2 := hrw.cell (j := r) (by simpa using hlt)
            rw [WaterMath.getD_set _ _ _ _ hlt, if_pos rfl] at hcl2
            have hfz2 := hrw.frozen r
            have hsz0 := HR0.out.lt
            have hcf2 : w2.cell? a = some (.int .i64 f) := (hb2.cell (p := a) (by simp [World.setCell]; omega)).trans ((World.cell?_setCell_other _ _ _ _ (fun e => by rw [← e] at hab; simp at hab)).trans HC1.out)
            have HRS1 := Lib.hid hr1
            have HRS2 := Lib.hid hr2
            have HB2 := Lib.hid hb2
            clear hr1 hr2 hrw hb2 hcl hfz hcf
            rcases hres with ⟨hn, rfl⟩ | ⟨ss, v, hs, rfl, hown⟩
            · have HNN := Lib.hid hn
              clear hn
              go_wp2
              go_region
              go_wp2
              go_roundw
              case rel =>
                refine ⟨r + 1, by omega, by go_num, fun q hq => ?_, ?_, ?_⟩
                · by_cases e : q = r
                  · subst e; unfold watF; rw [HXE.out, if_neg (by omega), HNN.out]; rfl
                  · exact HQ.out q (by omega)
                · exact HRS2.out.drew
                · exact HBX.out.trans (HRS1.out.drew.mono HBX.out.size)
              case measure => simp [intOf]; omega
            · have HSOME : Hid (wat (f :: fs) left = some (r :: ss)) := by
                show _ = _
                rw [wat_cons]
                exact find_first _ _ r _ hlt (fun q hq' => HQ.out q hq') (by unfold watF; rw [HXE.out, if_neg (by omega), hs]; rfl)
              have hown2 := ownsRow_setCell_below (ownsRow_base hown (show w.heap.size ≤ _ by have := HBX.out.size; simpa [World.setCell] using this)) (a := ⟨g, r, none⟩) HG0.out (.int .i64 x)
              have hsl : ss.length ≤ 1000 := by have := wat_length _ _ _ hs; have := HL0.out; omega
              obtain ⟨A2, n2, c2, rfl⟩ := ownsRow_slice hown
              obtain ⟨v', w4, happ, HOWN, HB4⟩ := append_round ((w2.setCell ⟨g, r, none⟩ (.int .i64 x)).drew) w.heap.size r _ ss (by have := HBX.out.size; have := HB2.out.size; simp [World.setCell] at this ⊢; omega) hsl hown2.drew
              have happ' : (Builtin.append_ #[23, 23] 23 #[.slice (some ⟨w2.heap.size, 0, none⟩) 1 1, .slice A2 n2 c2]).run Try.prog (((w2.setCell ⟨g, r, none⟩ (.int .i64 x)).alloc (.cells #[.int .i64 (r : Int)] 3)).drew) = .ok v' w4 := by
                have h := happ
                rw [show ((w2.setCell ⟨g, r, none⟩ (.int .i64 x)).drew).heap.size = w2.heap.size from by simp [World.setCell]] at h
                exact h
              have HEND : Hid (Below w.heap.size w w4) := Lib.hid ((HBX.out.trans (HRS1.out.drew.mono HBX.out.size)).trans (HB4.out.mono (by have := HBX.out.size; have := HB2.out.size; simp [World.setCell] at this ⊢; omega)))
              have HAPP := Lib.hid happ'
              clear hown hown2 hs happ happ'
              go_wp2
              go_region
              go_wp2_with (at_builtin; refine wpList_append_run rfl _ _ 23 rfl _ _ v' w4 rfl rfl HAPP.out ?_)
              go_ret2
              exact ⟨.inr ⟨_, _, HSOME.out, rfl, HOWN.out⟩, HEND.out⟩
      · have HN : Hid (wat (f :: fs) left = none) := by
          show _ = _
          rw [wat_cons]
          exact find_none _ _ fun q hq' => HQ.out q (by omega)
        clear hrow hbel
        go_wp2
        go_ret2
        exact ⟨.inl ⟨HN.out, rfl⟩, HBEL.out⟩

end Go.Proofs.Ytclhohfkacgooaa
