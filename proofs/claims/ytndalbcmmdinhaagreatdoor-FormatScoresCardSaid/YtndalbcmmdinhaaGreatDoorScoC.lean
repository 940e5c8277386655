/- The reference's Points and Against. -/
import Derived.Test.YtndalbcmmdinhaaGreatDoorScoB
import Derived.Test.YtndalbcmmdinhaaGreatDoorMgE
import Derived.Test.YtndalbcmmdinhaaGreatDoorMgH
import Derived.Outline
set_option linter.unusedVariables false
set_option linter.unusedSimpArgs false
namespace Go.Proofs.YtndalbcmmdinhaaGreatDoor
open Go.RowKit

theorem append_num (base : Nat) (y : Int) (w : World) (v : Value) (tk : List Int) (hb : base ≤ w.heap.size) (hl : tk.length ≤ 1000) (hown : NumOwn w base v tk) :
    ∃ v' w', (Builtin.append_ #[25, 25] 25 #[v, .slice (some ⟨w.heap.size, 0, none⟩) 1 1]).run Tryz.prog (w.alloc (.cells #[.int .i64 y] 3)) = .ok v' w' ∧
      NumOwn w' base v' (tk ++ [y]) ∧ Below base w w' := by
  obtain ⟨v', w', h1, h2, h3⟩ := append_gen base 25 3 (.int .i64 0) 1 8 Tryz.underlying25 info_int rfl (by decide) [.int .i64 y] rfl (by simp [Value.oneCell']) w v tk.length _ hb (by omega) (by omega) hown
  refine ⟨v', w', h1, ?_, h3⟩
  unfold NumOwn
  rw [List.length_append, List.map_append]
  exact h2
theorem parL_take (F : Int → Int) (o : Int) (hs : List (Int × Int)) (nl : List (Int × ByteArray)) (k : Nat) (h1 : k < hs.length) (h2 : k < nl.length) :
    (parL F o hs nl).take (k + 1) = (parL F o hs nl).take k ++ [parV F o (hs.getD k (0, 0)).1 (nl.getD k (0, ByteArray.empty))] := by
  have h3 : k < (parL F o hs nl).length := by simp [parL]; omega
  rw [List.take_succ_eq_append_getElem h3]
  have := parL_at F o hs nl k h1 h2
  rw [← this]
  simp [List.getD, List.getElem?_eq_getElem h3]

set_option maxRecDepth 100000 in
set_option maxHeartbeats 8000000 in
theorem refPoints_any (A B : Option Addr) (c d : Nat) (hs : List (Int × Int)) (nm : ByteArray) (l : List (Int × ByteArray)) (h : Int) (w : World) (hr : HolesR w A hs) (hbl : ∀ a, A = some a → a.block < w.heap.size) (he : EntriesR w B l) (hn : playerI hs nm l h = 0)
    (HZ : ∀ x ∈ hs, 3 ≤ x.1 ∧ x.1 ≤ 6 ∧ 1 ≤ x.2 ∧ x.2 ≤ hs.length) (hsm : Small (netsOf hs h l)) (hll : (netsOf hs h l).length = hs.length) (hl1 : hs.length ≤ 1000) :
    Calls Tryz.prog 27 #[.slice A hs.length c, .agg #[.string nm, .slice B l.length d, .int .i64 h]] w fun e w' => ∃ v, e = .returned v ∧ NumOwn w' w.heap.size v (parL pointsF 0 hs (netsOf hs h l)) ∧ Below w.heap.size w w' := by
  have HN := Lib.hid (fun W (hb : Below w.heap.size w W) => refNets_any A B c d hs nm l h W (hr.keep hbl hb) (fun a ha => Nat.lt_of_lt_of_le (hbl a ha) hb.size) (he.keep hb) hn (fun x hx => (HZ x hx).2.2))
  have HR := Lib.hid hr
  have HBL := Lib.hid hbl
  have HP := Lib.hid HZ
  clear hr hbl he hn HZ
  have HS := Lib.hid hsm
  have HLL := Lib.hid hll
  generalize netsOf hs h l = nl at HN HS HLL ⊢
  clear hsm hll
  have HPL : Hid ((parL pointsF 0 hs nl).length = hs.length) := Lib.hid (by rw [parL_len _ _ _ _ HLL.out, HLL.out])
  go_enter Tryz.func27, Tryz.ntmps27
  go_wp2_with fail
  obtain ⟨w1, hW1⟩ : ∃ w1, w.alloc (.cells #[.string nm, .slice B l.length d, .int .i64 h] 38) = w1 := ⟨_, rfl⟩
  rw [hW1]
  have HB1 : Hid (Below w.heap.size w w1) := Lib.hid (by subst hW1; exact (Below.refl _ _).alloc (Nat.le_refl _) _)
  clear hW1
  refine (HN.out w1 HB1.out).mono ?_
  rintro e w2 ⟨v, rfl, hown, hb2⟩
  have HB2 := Lib.hid (HB1.out.trans (hb2.mono HB1.out.size))
  obtain ⟨A2, c2, rfl, hent⟩ := hown.entries
  have HE := Lib.hid hent
  clear hown hb2 hent HN HB1
  rw [HLL.out]
  go_wp2
  go_loopw [6, 7] (fun v kv w' => ∃ k : Nat, k ≤ hs.length ∧ kv = .int .i64 k ∧ NumOwn w' w2.heap.size v ((parL pointsF 0 hs nl).take k) ∧ Below w2.heap.size w2 w') (fun _ kv _ => hs.length - (intOf kv).toNat)
  case atStart => exact ⟨0, Nat.zero_le _, rfl, World.ownsRow_nil _ _ _ _, Below.refl _ _⟩
  case round =>
    obtain ⟨k, hk, rfl, hown, hb⟩ := hrel
    have HOWN := Lib.hid hown
    have HB := Lib.hid hb
    clear hown hb
    have hk0 : (0 : Int) ≤ (k : Int) := Int.natCast_nonneg _
    by_cases hlt : k < hs.length
    · have hk1 : (k : Int) < (hs.length : Int) := by omega
      have hkn : k < nl.length := by rw [HLL.out]; exact hlt
      obtain ⟨ea, rfl, d0, d1, _⟩ := (HE.out.keep HB.out) k hkn
      obtain ⟨a, rfl, g0, _⟩ := (HR.out.keep HBL.out (HB2.out.trans (HB.out.mono HB2.out.size))) k hlt
      have hsb := HS.out.at k hkn
      have hpb := HP.out _ (hole_at hlt)
      have HTK := Lib.hid (parL_take pointsF 0 hs nl k hlt hkn)
      have HLEN : Hid (((parL pointsF 0 hs nl).take k).length ≤ 1000) := Lib.hid (by have := List.length_take_le k (parL pointsF 0 hs nl); omega)
      have HAP := Lib.hid (fun y => append_num w2.heap.size y wr u6 _ HB.out.size HLEN.out HOWN.out)
      have HAD := Lib.hid (fun y W (hW : Below wr.heap.size wr W) => append_num w2.heap.size y W u6 _ (Nat.le_trans HB.out.size hW.size) HLEN.out (HOWN.out.below hW))
      generalize (parL pointsF 0 hs nl).take k = tk at HTK HAP HAD
      generalize nl.getD k (0, ByteArray.empty) = en at d0 d1 hsb HTK
      generalize hs.getD k (0, 0) = ho at g0 hpb HTK
      obtain ⟨s, m⟩ := en
      obtain ⟨p, x⟩ := ho
      simp only at d0 d1 hsb HTK g0 hpb
      clear hkn HLEN HOWN
      have hw1 : IntKind.i64.wrap (2 + p) = 2 + p := IntWalk.i64_in _ (by omega)
      have hw2 : IntKind.i64.wrap (2 + p - s) = 2 + p - s := IntWalk.i64_in _ (by omega)
      cases hm : m.toList.isEmpty
      · have HV : Hid (parV pointsF 0 p (s, m) = 0) := Lib.hid (by unfold parV; rw [show countsB (s, m).2 = false from hm]; rfl)
        obtain ⟨v', w4, hrun, ho, hb4⟩ := HAP.out 0
        have HRUN := Lib.hid hrun
        have HO := Lib.hid ho
        have HB4 := Lib.hid (HB.out.trans hb4)
        clear hrun ho hb4 HAP HAD
        go_wp2_with (at_builtin; refine wpList_append_go rfl _ _ 25 rfl _ _ v' w4 rfl rfl HRUN.out ?_)
        go_roundw
        case rel => exact ⟨k + 1, by omega, by go_num, by rw [HTK.out, HV.out]; exact HO.out, HB4.out⟩
        case measure => simp [intOf]; omega
      · have HV : Hid (parV pointsF 0 p (s, m) = max 0 (2 + p - s)) := Lib.hid (by
          unfold parV pointsF
          rw [show countsB (s, m).2 = true from hm, if_pos rfl]
          show max 0 (2 + (p - s)) = _
          rw [show 2 + (p - s) = 2 + p - s by omega])
        go_wp2
        go_quiet (fail)
        obtain ⟨W1, hW1⟩ : ∃ W1, wr.drewN nq = W1 := ⟨_, rfl⟩
        rw [hW1]
        have HW1 : Hid (Below wr.heap.size wr W1) := Lib.hid (by subst hW1; exact below_drewN (Below.refl _ _) nq)
        clear hW1
        obtain ⟨v', w4, hrun, ho, hb4⟩ := HAD.out (max 0 (2 + p - s)) W1 HW1.out
        have HRUN := Lib.hid hrun
        have HO := Lib.hid ho
        have HB4 : Hid (Below w2.heap.size w2 w4) := Lib.hid ((HB.out.trans (HW1.out.mono HB.out.size)).trans hb4)
        clear hrun ho hb4
        go_wp2_with (at_builtin; refine wpList_append_go rfl _ _ 25 rfl _ _ v' w4 rfl rfl HRUN.out ?_)
        go_roundw
        case rel => exact ⟨k + 1, by omega, by go_num, by rw [HTK.out, HV.out]; exact HO.out, HB4.out⟩
        case measure => simp [intOf]; omega
    · have HF : Hid ((parL pointsF 0 hs nl).take k = parL pointsF 0 hs nl) := Lib.hid (List.take_of_length_le (by rw [HPL.out]; omega))
      go_wp2
      go_ret
      exact ⟨_, rfl, by have := HOWN.out; rw [HF.out] at this; exact ownsRow_base this HB2.out.size, HB2.out.trans (HB.out.mono HB2.out.size)⟩

set_option maxRecDepth 100000 in
set_option maxHeartbeats 8000000 in
theorem refAgainst_any (A B : Option Addr) (c d : Nat) (hs : List (Int × Int)) (nm : ByteArray) (l : List (Int × ByteArray)) (h : Int) (w : World) (hr : HolesR w A hs) (hbl : ∀ a, A = some a → a.block < w.heap.size) (he : EntriesR w B l) (hn : playerI hs nm l h = 0)
    (HZ : ∀ x ∈ hs, 3 ≤ x.1 ∧ x.1 ≤ 6 ∧ 1 ≤ x.2 ∧ x.2 ≤ hs.length) (hsm : Small (netsOf hs h l)) (hll : (netsOf hs h l).length = hs.length) (hl1 : hs.length ≤ 1000) :
    Calls Tryz.prog 28 #[.slice A hs.length c, .agg #[.string nm, .slice B l.length d, .int .i64 h]] w fun e w' => ∃ v, e = .returned v ∧ NumOwn w' w.heap.size v (parL againstF (-1) hs (netsOf hs h l)) ∧ Below w.heap.size w w' := by
  have HN := Lib.hid (fun W (hb : Below w.heap.size w W) => refNets_any A B c d hs nm l h W (hr.keep hbl hb) (fun a ha => Nat.lt_of_lt_of_le (hbl a ha) hb.size) (he.keep hb) hn (fun x hx => (HZ x hx).2.2))
  have HR := Lib.hid hr
  have HBL := Lib.hid hbl
  have HP := Lib.hid HZ
  clear hr hbl he hn HZ
  have HS := Lib.hid hsm
  have HLL := Lib.hid hll
  generalize netsOf hs h l = nl at HN HS HLL ⊢
  clear hsm hll
  have HPL : Hid ((parL againstF (-1) hs nl).length = hs.length) := Lib.hid (by rw [parL_len _ _ _ _ HLL.out, HLL.out])
  go_enter Tryz.func28, Tryz.ntmps28
  go_wp2_with fail
  obtain ⟨w1, hW1⟩ : ∃ w1, w.alloc (.cells #[.string nm, .slice B l.length d, .int .i64 h] 38) = w1 := ⟨_, rfl⟩
  rw [hW1]
  have HB1 : Hid (Below w.heap.size w w1) := Lib.hid (by subst hW1; exact (Below.refl _ _).alloc (Nat.le_refl _) _)
  clear hW1
  refine (HN.out w1 HB1.out).mono ?_
  rintro e w2 ⟨v, rfl, hown, hb2⟩
  have HB2 := Lib.hid (HB1.out.trans (hb2.mono HB1.out.size))
  obtain ⟨A2, c2, rfl, hent⟩ := hown.entries
  have HE := Lib.hid hent
  clear hown hb2 hent HN HB1
  rw [HLL.out]
  go_wp2
  go_loopw [6, 7] (fun v kv w' => ∃ k : Nat, k ≤ hs.length ∧ kv = .int .i64 k ∧ NumOwn w' w2.heap.size v ((parL againstF (-1) hs nl).take k) ∧ Below w2.heap.size w2 w') (fun _ kv _ => hs.length - (intOf kv).toNat)
  case atStart => exact ⟨0, Nat.zero_le _, rfl, World.ownsRow_nil _ _ _ _, Below.refl _ _⟩
  case round =>
    obtain ⟨k, hk, rfl, hown, hb⟩ := hrel
    have HOWN := Lib.hid hown
    have HB := Lib.hid hb
    clear hown hb
    have hk0 : (0 : Int) ≤ (k : Int) := Int.natCast_nonneg _
    by_cases hlt : k < hs.length
    · have hk1 : (k : Int) < (hs.length : Int) := by omega
      have hkn : k < nl.length := by rw [HLL.out]; exact hlt
      obtain ⟨ea, rfl, d0, d1, _⟩ := (HE.out.keep HB.out) k hkn
      obtain ⟨a, rfl, g0, _⟩ := (HR.out.keep HBL.out (HB2.out.trans (HB.out.mono HB2.out.size))) k hlt
      have hsb := HS.out.at k hkn
      have hpb := HP.out _ (hole_at hlt)
      have HTK := Lib.hid (parL_take againstF (-1) hs nl k hlt hkn)
      have HLEN : Hid (((parL againstF (-1) hs nl).take k).length ≤ 1000) := Lib.hid (by have := List.length_take_le k (parL againstF (-1) hs nl); omega)
      have HAD := Lib.hid (fun y W (hW : Below wr.heap.size wr W) => append_num w2.heap.size y W u6 _ (Nat.le_trans HB.out.size hW.size) HLEN.out (HOWN.out.below hW))
      generalize (parL againstF (-1) hs nl).take k = tk at HTK HAD
      generalize nl.getD k (0, ByteArray.empty) = en at d0 d1 hsb HTK
      generalize hs.getD k (0, 0) = ho at g0 hpb HTK
      obtain ⟨s, m⟩ := en
      obtain ⟨p, x⟩ := ho
      simp only at d0 d1 hsb HTK g0 hpb
      clear hkn HLEN HOWN
      have HV : Hid (parV againstF (-1) p (s, m) = if m.toList.isEmpty = true then (if s < p then 1 else if p < s then -1 else 0) else -1) := Lib.hid (by
        unfold parV againstF cmpI countsB
        show (if m.toList.isEmpty = true then _ else _) = _
        cases m.toList.isEmpty
        · rfl
        · simp only [if_true]
          by_cases g1 : s < p
          · rw [if_pos g1]
            split
            · omega
            · split <;> omega
          · rw [if_neg g1]
            by_cases g2 : p < s
            · rw [if_pos g2]
              split
              · rfl
              · split <;> omega
            · rw [if_neg g2]
              split
              · omega
              · split <;> omega)
      cases hm : m.toList.isEmpty
      · rw [hm] at HV
        go_wp2
        go_quiet (fail)
        obtain ⟨W1, hW1⟩ : ∃ W1, wr.drewN nq = W1 := ⟨_, rfl⟩
        rw [hW1]
        have HW1 : Hid (Below wr.heap.size wr W1) := Lib.hid (by subst hW1; exact below_drewN (Below.refl _ _) nq)
        clear hW1
        obtain ⟨v', w4, hrun, ho, hb4⟩ := HAD.out (-1) W1 HW1.out
        have HRUN := Lib.hid hrun
        have HO := Lib.hid ho
        have HB4 : Hid (Below w2.heap.size w2 w4) := Lib.hid ((HB.out.trans (HW1.out.mono HB.out.size)).trans hb4)
        clear hrun ho hb4
        go_wp2_with (at_builtin; refine wpList_append_go rfl _ _ 25 rfl _ _ v' w4 rfl rfl HRUN.out ?_)
        go_roundw
        case rel => exact ⟨k + 1, by omega, by go_num, by rw [HTK.out, HV.out]; exact HO.out, HB4.out⟩
        case measure => simp [intOf]; omega
      · rw [hm] at HV
        by_cases g2 : p < s
        · have hd1 : decide (p < s) = true := decide_eq_true g2
          have HV2 : Hid (parV againstF (-1) p (s, m) = -1) := Lib.hid (by rw [HV.out, if_pos rfl, if_neg (by omega), if_pos g2])
          go_wp2
          go_quiet (fail)
          obtain ⟨W1, hW1⟩ : ∃ W1, wr.drewN nq = W1 := ⟨_, rfl⟩
          rw [hW1]
          have HW1 : Hid (Below wr.heap.size wr W1) := Lib.hid (by subst hW1; exact below_drewN (Below.refl _ _) nq)
          clear hW1
          obtain ⟨v', w4, hrun, ho, hb4⟩ := HAD.out (-1) W1 HW1.out
          have HRUN := Lib.hid hrun
          have HO := Lib.hid ho
          have HB4 : Hid (Below w2.heap.size w2 w4) := Lib.hid ((HB.out.trans (HW1.out.mono HB.out.size)).trans hb4)
          clear hrun ho hb4
          go_wp2_with (at_builtin; refine wpList_append_go rfl _ _ 25 rfl _ _ v' w4 rfl rfl HRUN.out ?_)
          go_roundw
          case rel => exact ⟨k + 1, by omega, by go_num, by rw [HTK.out, HV2.out]; exact HO.out, HB4.out⟩
          case measure => simp [intOf]; omega
        · have hd1 : decide (p < s) = false := decide_eq_false g2
          cases hd2 : decide (s < p)
          · have HV2 : Hid (parV againstF (-1) p (s, m) = 0) := Lib.hid (by rw [HV.out, if_pos rfl, if_neg (of_decide_eq_false hd2), if_neg g2])
            go_wp2
            go_quiet (fail)
            obtain ⟨W1, hW1⟩ : ∃ W1, wr.drewN nq = W1 := ⟨_, rfl⟩
            rw [hW1]
            have HW1 : Hid (Below wr.heap.size wr W1) := Lib.hid (by subst hW1; exact below_drewN (Below.refl _ _) nq)
            have d0W : W1.cell? (ea.add (k * 2)) = some (.int .i64 s) := by subst hW1; exact d0
            have g0W : W1.cell? (a.add (k * 2)) = some (.int .i64 p) := by subst hW1; exact g0
            clear hW1
            go_wp2
            go_quiet (fail)
            obtain ⟨W2, hW2⟩ : ∃ W2, W1.drewN nq = W2 := ⟨_, rfl⟩
            rw [hW2]
            have HW2 : Hid (Below wr.heap.size wr W2) := Lib.hid (by subst hW2; exact below_drewN HW1.out nq)
            clear hW2
            obtain ⟨v', w4, hrun, ho, hb4⟩ := HAD.out 0 W2 HW2.out
            have HRUN := Lib.hid hrun
            have HO := Lib.hid ho
            have HB4 : Hid (Below w2.heap.size w2 w4) := Lib.hid ((HB.out.trans (HW2.out.mono HB.out.size)).trans hb4)
            clear hrun ho hb4
            go_wp2_with (at_builtin; refine wpList_append_go rfl _ _ 25 rfl _ _ v' w4 rfl rfl HRUN.out ?_)
            go_roundw
            case rel => exact ⟨k + 1, by omega, by go_num, by rw [HTK.out, HV2.out]; exact HO.out, HB4.out⟩
            case measure => simp [intOf]; omega
          · have HV2 : Hid (parV againstF (-1) p (s, m) = 1) := Lib.hid (by rw [HV.out, if_pos rfl, if_pos (of_decide_eq_true hd2)])
            go_wp2
            go_quiet (fail)
            obtain ⟨W1, hW1⟩ : ∃ W1, wr.drewN nq = W1 := ⟨_, rfl⟩
            rw [hW1]
            have HW1 : Hid (Below wr.heap.size wr W1) := Lib.hid (by subst hW1; exact below_drewN (Below.refl _ _) nq)
            have d0W : W1.cell? (ea.add (k * 2)) = some (.int .i64 s) := by subst hW1; exact d0
            have g0W : W1.cell? (a.add (k * 2)) = some (.int .i64 p) := by subst hW1; exact g0
            clear hW1
            go_wp2
            go_quiet (fail)
            obtain ⟨W2, hW2⟩ : ∃ W2, W1.drewN nq = W2 := ⟨_, rfl⟩
            rw [hW2]
            have HW2 : Hid (Below wr.heap.size wr W2) := Lib.hid (by subst hW2; exact below_drewN HW1.out nq)
            clear hW2
            obtain ⟨v', w4, hrun, ho, hb4⟩ := HAD.out 1 W2 HW2.out
            have HRUN := Lib.hid hrun
            have HO := Lib.hid ho
            have HB4 : Hid (Below w2.heap.size w2 w4) := Lib.hid ((HB.out.trans (HW2.out.mono HB.out.size)).trans hb4)
            clear hrun ho hb4
            go_wp2_with (at_builtin; refine wpList_append_go rfl _ _ 25 rfl _ _ v' w4 rfl rfl HRUN.out ?_)
            go_roundw
            case rel => exact ⟨k + 1, by omega, by go_num, by rw [HTK.out, HV2.out]; exact HO.out, HB4.out⟩
            case measure => simp [intOf]; omega
    · have HF : Hid ((parL againstF (-1) hs nl).take k = parL againstF (-1) hs nl) := Lib.hid (List.take_of_length_le (by rw [HPL.out]; omega))
      go_wp2
      go_ret
      exact ⟨_, rfl, by have := HOWN.out; rw [HF.out] at this; exact ownsRow_base this HB2.out.size, HB2.out.trans (HB.out.mono HB2.out.size)⟩
end Go.Proofs.YtndalbcmmdinhaaGreatDoor
