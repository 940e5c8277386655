/- The reference's IsOver, Hole, Sides, SameStates of a list and itself; the law's states. -/
import Derived.Test.YtkhhkicfeaeddaaGreatDoorMatM
import Derived.Test.YtkhhkicfeaeddaaGreatDoorScoA
import Derived.Laws.StructEq
import Derived.Outline
set_option linter.unusedVariables false
set_option linter.unusedSimpArgs false
namespace Go.Proofs.YtkhhkicfeaeddaaGreatDoor
open Go.RowKit

set_option maxRecDepth 100000 in
set_option maxHeartbeats 1000000 in
theorem refIsOver_any (u t : Int) (w : World) (hu : -1000000 ≤ u ∧ u ≤ 1000000) :
    Calls Tryz.prog 29 #[.int .i64 u, .int .i64 t] w fun e w' => e = .returned (.bool (overI u t)) ∧ w = w' := by
  have hw0 : IntKind.i64.wrap (0 - u) = -u := by rw [IntWalk.i64_in _ (by omega)]; omega
  have hw1 : IntKind.i64.wrap (-u) = -u := IntWalk.i64_in _ (by omega)
  cases hd1 : decide (t < u) <;> cases hd2 : decide (t < -u) <;> cases hd3 : (t == 0)
  all_goals
    have HV : Hid (overI u t = (decide (t < u) || decide (t < -u) || (t == 0))) := Lib.hid rfl
    rw [hd1, hd2, hd3] at HV
    have H1 := Lib.hid hd1
    have H2 := Lib.hid hd2
    by_cases m1 : u < -u
    all_goals
      have M1 := Lib.hid m1
      go_enter Tryz.func29, Tryz.ntmps29
      go_wp2
      all_goals
        first
          | (go_ret
             exact ⟨by rw [HV.out]; rfl, rfl⟩)
          | (exfalso
             have x1 := H1.out
             have x2 := H2.out
             have x3 := M1.out
             simp only [decide_eq_true_eq, decide_eq_false_iff_not] at x1 x2
             omega)

set_option maxRecDepth 100000 in
set_option maxHeartbeats 2000000 in
theorem refHole_any (s t : Int) (m n : ByteArray) (w : World) :
    Calls Tryz.prog 52 #[.agg #[.int .i64 s, .string m], .agg #[.int .i64 t, .string n]] w fun e w' => e = .returned (.int .i64 (holeI (s, m) (t, n))) ∧ Below w.heap.size w w' := by
  have hb : ∀ o1 o2, Below w.heap.size w ((w.alloc o1).alloc o2) := fun o1 o2 => ((Below.refl _ _).alloc (Nat.le_refl _) _).alloc (by simp) _
  have HB := Lib.hid hb
  clear hb
  have HV : Hid (holeI (s, m) (t, n) = if m.toList.isEmpty = true ∧ (n.toList.isEmpty = false ∨ s < t) then 1 else if n.toList.isEmpty = true ∧ (m.toList.isEmpty = false ∨ t < s) then -1 else 0) := Lib.hid rfl
  cases hm : m.toList.isEmpty <;> cases hn : n.toList.isEmpty <;> cases h1 : decide (s < t) <;> cases h2 : decide (t < s)
  all_goals
    have HM := Lib.hid hm
    have HN := Lib.hid hn
    have H1 := Lib.hid h1
    have H2 := Lib.hid h2
    go_enter Tryz.func52, Tryz.ntmps52
    go_wp2
    go_ret
    refine ⟨?_, HB.out _ _⟩
    rw [HV.out, HM.out, HN.out]
    have e1 := H1.out
    have e2 := H2.out
    simp only [decide_eq_true_eq, decide_eq_false_iff_not] at e1 e2
    first
      | (exfalso; omega)
      | (simp [e1, e2])
theorem info_rstate : (Tryz.prog.info? 43).map (fun i => (i.zero, i.size, i.bytes)) = some (some (.agg #[.int .i64 0, .int .i64 0, .bool false]), 3, 24) := by kernel_rfl
/-- The slice value v of the reference's states owns the list l. -/
def RsOwn (w : World) (base : Nat) (v : Value) (l : List St) : Prop := w.ownsRow base 43 3 v l.length (stCells l)
section
variable {w w' : World} {base : Nat} {v : Value} {l : List St}
theorem RsOwn.nil (w : World) (base : Nat) : RsOwn w base (.slice none 0 0) [] := World.ownsRow_nil w base 43 3
theorem RsOwn.below (h : RsOwn w base v l) (hb : Below w.heap.size w w') : RsOwn w' base v l := by
  refine ⟨h.1, ?_⟩
  rcases h.2 with hn | ⟨g, cap, cur, e1, e2, e3, rest⟩
  · exact .inl hn
  · exact .inr ⟨g, cap, cur, e1, e2, (hb.block g (Array.getElem?_eq_some_iff.1 e3).1).trans e3, rest⟩
theorem RsOwn.states (h : RsOwn w base v l) : ∃ A c, v = .slice A l.length c ∧ StatesR w A l := by
  rcases h.2 with ⟨rfl, h0⟩ | ⟨g, cap, cur, rfl, hg, hgb, hnc, hcm, hcs, htk⟩
  · exact ⟨none, 0, by rw [h0], (fun j hj => by omega)⟩
  · refine ⟨_, _, rfl, fun j hj => ?_⟩
    obtain ⟨p0, p1, p2⟩ := stCells_at l j hj
    rw [← htk, List.getElem?_take_of_lt (by omega)] at p0 p1 p2
    refine ⟨⟨g, 0, none⟩, rfl, ?_, ?_, ?_, ?_⟩
    · rw [add_zero_at, cell_of_row w g _ _ _ _ hgb]; simpa using p0
    · rw [add_zero_at, cell_of_row w g _ _ _ _ hgb]; simpa using p1
    · rw [add_zero_at, cell_of_row w g _ _ _ _ hgb]; simpa using p2
    · rw [add_zero_at]; exact (Array.getElem?_eq_some_iff.1 hgb).1
end
theorem append_rst (base : Nat) (y : St) (w : World) (v : Value) (tk : List St) (hb : base ≤ w.heap.size) (hl : tk.length ≤ 1000) (hown : RsOwn w base v tk) :
    ∃ v' w', (Builtin.append_ #[38, 38] 38 #[v, .slice (some ⟨w.heap.size, 0, none⟩) 1 1]).run Tryz.prog (w.alloc (.cells #[.int .i64 y.1, .int .i64 y.2.1, .bool y.2.2] 43)) = .ok v' w' ∧
      RsOwn w' base v' (tk ++ [y]) ∧ Below base w w' := by
  obtain ⟨v', w', h1, h2, h3⟩ := append_gen base 38 43 (.agg #[.int .i64 0, .int .i64 0, .bool false]) 3 24 Tryz.underlying38 info_rstate rfl (by decide) [.int .i64 y.1, .int .i64 y.2.1, .bool y.2.2] rfl (by simp [Value.oneCell']) w v tk.length _ hb (by omega) (by omega) hown
  refine ⟨v', w', h1, ?_, h3⟩
  unfold RsOwn
  rw [stCells_snoc, List.length_append]
  exact h2

set_option maxRecDepth 100000 in
set_option maxHeartbeats 8000000 in
theorem refSides_any (A B : Option Addr) (c d : Nat) (xa xb : List (Int × ByteArray)) (w : World) (ha : EntriesR w A xa) (hb : EntriesR w B xb) (hl : xa.length ≤ 1000) (hab : xa.length = xb.length) (fa : ∀ e ∈ xa, fineN e) (fb : ∀ e ∈ xb, fineN e) :
    Calls Tryz.prog 14 #[.slice A xa.length c, .slice B xb.length d] w fun e w' => ∃ v, e = .returned v ∧ RsOwn w' w.heap.size v (statesL xa xb) ∧ Below w.heap.size w w' := by
  have HA := Lib.hid ha
  have HB := Lib.hid hb
  have HAB := Lib.hid hab
  have HFA := Lib.hid fa
  have HFB := Lib.hid fb
  have HSL : Hid (statesL xa xb = statesGo 0 false (duels xa xb xa.length)) := Lib.hid rfl
  have HPRE := Lib.hid (fun k (hk : k ≤ xa.length) => duels_prefix xa xb hk)
  clear ha hb hab fa fb
  go_enter Tryz.func14, Tryz.ntmps14
  go_wp2
  go_loopw [5, 6, 7] (fun v uv kv w' => ∃ (k : Nat) (u : Int) (out : List St), k ≤ xa.length ∧ kv = .int .i64 k ∧ uv = .int .i64 u ∧ (-(k : Int) ≤ u ∧ u ≤ k) ∧ out.length = k ∧ RsOwn w' w.heap.size v out ∧ (∀ rest, statesGo 0 false (duels xa xb k ++ rest) = out ++ statesGo u false rest) ∧ Below w.heap.size w w') (fun _ _ kv _ => xa.length - (intOf kv).toNat)
  case atStart => exact ⟨0, 0, [], Nat.zero_le _, rfl, rfl, by simp, rfl, RsOwn.nil _ _, fun rest => rfl, Below.refl _ _⟩
  case round =>
    obtain ⟨k, u, out, hk, rfl, rfl, hub, hol, hown, hgo, hb⟩ := hrel
    have HOL := Lib.hid hol
    have HOWN := Lib.hid hown
    have HGO := Lib.hid hgo
    have HBB := Lib.hid hb
    clear hol hown hgo hb
    have hk0 : (0 : Int) ≤ (k : Int) := Int.natCast_nonneg _
    by_cases hlt : k < xa.length
    · have hk1 : (k : Int) < (xa.length : Int) := by omega
      have hkb : k < xb.length := by have := HAB.out; omega
      have hk2 : (k : Int) < (xb.length : Int) := by omega
      obtain ⟨a, rfl, d0, d1, _⟩ := (HA.out.keep HBB.out) k hlt
      obtain ⟨b, rfl, e0, e1, _⟩ := (HB.out.keep HBB.out) k hkb
      have fa := HFA.out (xa.getD k (0, ByteArray.empty)) (by simp [List.getD, List.getElem?_eq_getElem hlt])
      have fb := HFB.out (xb.getD k (0, ByteArray.empty)) (by simp [List.getD, List.getElem?_eq_getElem hkb])
      have HDS := Lib.hid (duels_succ xa xb k)
      have HPR : Hid (∃ rest, duels xa xb xa.length = duels xa xb (k + 1) ++ rest) := Lib.hid (by
        obtain ⟨r, hr⟩ := HPRE.out (k + 1) (by omega)
        exact ⟨r, hr.symm⟩)
      obtain ⟨to, hto⟩ : ∃ to, xa.length - 1 - k = to := ⟨_, rfl⟩
      rw [hto] at HDS
      have hwt1 : IntKind.i64.wrap ((xa.length : Int) - (k : Int)) = (xa.length : Int) - (k : Int) := IntWalk.i64_in _ (by omega)
      have hwt2 : IntKind.i64.wrap ((xa.length : Int) - (k : Int) - 1) = (to : Int) := by rw [IntWalk.i64_in _ (by omega)]; omega
      clear hto hkb
      generalize xa.getD k (0, ByteArray.empty) = ea at d0 d1 fa HDS
      generalize xb.getD k (0, ByteArray.empty) = eb at e0 e1 fb HDS
      obtain ⟨s, m⟩ := ea
      obtain ⟨t, n⟩ := eb
      simp only at d0 d1 e0 e1
      cases hm : (m.toList == [45])
      · cases hn : (n.toList == [45])
        · have hres := hole_res fa fb hm hn
          have hrb := resI_bound (s, m) (t, n)
          have HPL : Hid (playedB m n = true) := Lib.hid (by unfold playedB unplayedB; rw [hm, hn]; rfl)
          have HH := Lib.hid (refHole_any s t m n wr.drew)
          rw [hres] at HH
          have HNX := Lib.hid (fun o (ho : overI (u + resI (s, m) (t, n)) (to : Int) = o) => go_next (x := (to, (s, m), (t, n))) HGO.out HPL.out rfl ho)
          clear hres fa fb
          generalize resI (s, m) (t, n) = r at hrb HH HNX
          have hwu : IntKind.i64.wrap (u + r) = u + r := IntWalk.i64_in _ (by omega)
          have HOV := Lib.hid (fun W => refIsOver_any (u + r) (to : Int) W (by omega))
          go_wp2
          go_region_with (go_at_call 52; refine HH.out.mono ?_; rintro e w3 ⟨rfl, hb3⟩)
          all_goals
            have hb4 : Below wr.heap.size wr w3 := (Below.refl _ _).drew.trans hb3
            have HB3 := Lib.hid (HBB.out.trans (hb4.mono HBB.out.size))
            have HOWN3 := Lib.hid (HOWN.out.below hb4)
            clear hb3 hb4
            cases hov : overI (u + r) (to : Int)
            · have HNO := Lib.hid (HNX.out false hov)
              have HOF := Lib.hid hov
              obtain ⟨v', w4, hrun, ho, hb4⟩ := append_rst w.heap.size (u + r, (to : Int), false) w3 u5 out HB3.out.size (by have := HOL.out; omega) HOWN3.out
              have HRUN := Lib.hid hrun
              have HO := Lib.hid ho
              have HB4 := Lib.hid (HB3.out.trans hb4)
              clear hrun ho hb4 hov
              go_wp2_with fail
              refine (HOV.out _).mono ?_
              rintro e w9 ⟨rfl, rfl⟩
              rw [HOF.out]
              go_wp2_with (at_builtin; refine wpList_append_go rfl _ _ 38 rfl _ _ v' w4 rfl rfl HRUN.out ?_)
              refine (HOV.out _).mono ?_
              rintro e w9 ⟨rfl, rfl⟩
              rw [HOF.out]
              go_wp2
              go_roundw
              case rel => exact ⟨k + 1, u + r, out ++ [(u + r, (to : Int), false)], by omega, by go_num, rfl, by omega, by rw [List.length_append, HOL.out]; rfl, HO.out, fun rest => by rw [HDS.out]; exact HNO.out rest, HB4.out⟩
              case measure => simp [intOf]; omega
            · have HNO := Lib.hid (HNX.out true hov)
              have HOF := Lib.hid hov
              obtain ⟨v', w4, hrun, ho, hb4⟩ := append_rst w.heap.size (u + r, (to : Int), true) w3 u5 out HB3.out.size (by have := HOL.out; omega) HOWN3.out
              have HRUN := Lib.hid hrun
              have HO := Lib.hid ho
              have HB4 := Lib.hid (HB3.out.trans hb4)
              clear hrun ho hb4 hov
              go_wp2_with fail
              refine (HOV.out _).mono ?_
              rintro e w9 ⟨rfl, rfl⟩
              rw [HOF.out]
              go_wp2_with (at_builtin; refine wpList_append_go rfl _ _ 38 rfl _ _ v' w4 rfl rfl HRUN.out ?_)
              refine (HOV.out _).mono ?_
              rintro e w9 ⟨rfl, rfl⟩
              rw [HOF.out]
              go_wp2
              go_ret
              refine ⟨_, rfl, ?_, HB4.out⟩
              obtain ⟨rest, hr⟩ := HPR.out
              have hz : statesL xa xb = out ++ [(u + r, (to : Int), true)] := by
                rw [HSL.out, hr, HDS.out, HNO.out rest]
                cases rest <;> simp [statesGo]
              rw [hz]
              exact HO.out
        · have HST := Lib.hid (go_stop (x := (to, (s, m), (t, n))) HGO.out (.inr (by simp [playedB, unplayedB, hn])))
          have HZ : Hid (statesL xa xb = out) := Lib.hid (by
            obtain ⟨rest, hr⟩ := HPR.out
            rw [HSL.out, hr, HDS.out]
            exact HST.out rest)
          go_wp2
          go_ret
          exact ⟨_, rfl, by rw [HZ.out]; exact HOWN.out, HBB.out⟩
      · have HST := Lib.hid (go_stop (x := (to, (s, m), (t, n))) HGO.out (.inr (by simp [playedB, unplayedB, hm])))
        have HZ : Hid (statesL xa xb = out) := Lib.hid (by
          obtain ⟨rest, hr⟩ := HPR.out
          rw [HSL.out, hr, HDS.out]
          exact HST.out rest)
        go_wp2
        go_ret
        exact ⟨_, rfl, by rw [HZ.out]; exact HOWN.out, HBB.out⟩
    · have hke : k = xa.length := by omega
      have HZ : Hid (statesL xa xb = out) := Lib.hid (by
        have := HGO.out []
        rw [List.append_nil, hke] at this
        rw [HSL.out, this]
        simp [statesGo])
      clear hke
      go_wp2
      go_ret
      exact ⟨_, rfl, by rw [HZ.out]; exact HOWN.out, HBB.out⟩

set_option maxRecDepth 100000 in
set_option maxHeartbeats 4000000 in
theorem sameStates_any (A B : Option Addr) (c d : Nat) (l : List St) (w : World) (ha : StatesR w A l) (hb : StatesR w B l) (hl : l.length ≤ 1000) :
    Calls Tryz.prog 15 #[.slice A l.length c, .slice B l.length d] w fun e w' => e = .returned (.bool true) ∧ Below w.heap.size w w' := by
  have HA := Lib.hid ha
  have HB := Lib.hid hb
  have hbn := bne_self_eq_false' (l.length : Int)
  clear ha hb
  go_enter Tryz.func15, Tryz.ntmps15
  go_wp2
  go_loopw [5] (fun kv w' => ∃ k n : Nat, k ≤ l.length ∧ w' = w.drewN n ∧ kv = .int .i64 k) (fun kv _ => l.length - (intOf kv).toNat)
  case atStart => exact ⟨0, 0, Nat.zero_le _, rfl, rfl⟩
  case round =>
    obtain ⟨k, n, hk, rfl, rfl⟩ := hrel
    have hk0 : (0 : Int) ≤ (k : Int) := Int.natCast_nonneg _
    by_cases hlt : k < l.length
    · have hk1 : (k : Int) < (l.length : Int) := by omega
      obtain ⟨a, rfl, d0, d1, d2, _⟩ := HA.out k hlt
      obtain ⟨b, rfl, e0, e1, e2, _⟩ := HB.out k hlt
      generalize l.getD k (0, 0, false) = st at d0 d1 d2 e0 e1 e2
      obtain ⟨u, t, o⟩ := st
      simp only at d0 d1 d2 e0 e1 e2
      have hu : (u == u) = true := beq_self_eq_true u
      have ht : (t == t) = true := beq_self_eq_true t
      have ho : (o == o) = true := by cases o <;> rfl
      cases o
      all_goals
        go_wp2
        go_quiet (fail)
        go_wp2
        go_roundw
        case rel => exact ⟨k + 1, _, by omega, rfl, by go_num⟩
        case measure => simp [intOf]; omega
    · go_wp2
      go_ret
      exact ⟨rfl, below_drewN (Below.refl _ _) n⟩

set_option maxRecDepth 100000 in
set_option maxHeartbeats 4000000 in
theorem lawStates_any (A : Option Addr) (c : Nat) (l : List St) (w : World) (he : StatesR w A l) (hl : l.length ≤ 1000) :
    Calls Tryz.prog 16 #[.slice A l.length c] w fun e w' => ∃ v, e = .returned v ∧ RsOwn w' w.heap.size v l ∧ Below w.heap.size w w' := by
  have HE := Lib.hid he
  clear he
  go_enter Tryz.func16, Tryz.ntmps16
  go_wp2
  go_loopw [3, 8] (fun v kv w' => ∃ k : Nat, k ≤ l.length ∧ kv = .int .i64 k ∧ RsOwn w' w.heap.size v (l.take k) ∧ Below w.heap.size w w') (fun _ kv _ => l.length - (intOf kv).toNat)
  case atStart => exact ⟨0, Nat.zero_le _, rfl, RsOwn.nil _ _, Below.refl _ _⟩
  case round =>
    obtain ⟨k, hk, rfl, hown, hb⟩ := hrel
    have HOWN := Lib.hid hown
    have HB := Lib.hid hb
    clear hown hb
    have hk0 : (0 : Int) ≤ (k : Int) := Int.natCast_nonneg _
    by_cases hlt : k < l.length
    · have hk1 : (k : Int) < (l.length : Int) := by omega
      obtain ⟨a, rfl, d0, d1, d2, _⟩ := (HE.out.keep HB.out) k hlt
      have HTK : Hid (l.take (k + 1) = l.take k ++ [l.getD k (0, 0, false)]) := Lib.hid (by
        rw [List.take_succ_eq_append_getElem hlt]; simp [List.getD, List.getElem?_eq_getElem hlt])
      have HLEN : Hid ((l.take k).length ≤ 1000) := Lib.hid (by have := List.length_take_le k l; omega)
      generalize hst : l.getD k (0, 0, false) = st at d0 d1 d2 HTK
      clear hst
      obtain ⟨u, t, o⟩ := st
      simp only at d0 d1 d2
      have ha := (Below.refl wr.heap.size wr).alloc (Nat.le_refl _) (.cells #[.int .i64 u, .int .i64 t, .bool o] 24)
      have hen := BlkV.new wr 24 #[.int .i64 u, .int .i64 t, .bool o]
      have HAPP := Lib.hid (append_rst w.heap.size (u, t, o) _ u3 _ (by have := HB.out.size; have := ha.size; omega) HLEN.out (HOWN.out.below ha))
      have HBA := Lib.hid (HB.out.trans (ha.mono HB.out.size))
      rw [show (wr.alloc (.cells #[.int .i64 u, .int .i64 t, .bool o] 24)).heap.size = wr.heap.size + 1 by simp] at HAPP
      clear ha
      generalize l.take k = tk at HTK HAPP HOWN
      have e0 := hen.cell 0
      have e1 := hen.cell 1
      have e2 := hen.cell 2
      simp only [List.getElem?_toArray, List.getElem?_cons_zero, List.getElem?_cons_succ] at e0 e1 e2
      clear hen
      obtain ⟨v', w4, hrun, ho, hb4⟩ := HAPP.out
      have HRUN := Lib.hid hrun
      have HO := Lib.hid ho
      have HB4 := Lib.hid (HBA.out.trans hb4)
      clear hrun ho hb4 HAPP HOWN HBA
      go_wp2_with (at_builtin; refine wpList_append_go rfl _ _ 38 rfl _ _ v' w4 rfl rfl HRUN.out ?_)
      go_roundw
      case rel => exact ⟨k + 1, by omega, by go_num, by rw [HTK.out]; exact HO.out, HB4.out⟩
      case measure => simp [intOf]; omega
    · have HF : Hid (l.take k = l) := Lib.hid (List.take_of_length_le (by omega))
      go_wp2
      go_ret
      exact ⟨_, rfl, by have := HOWN.out; rwa [HF.out] at this, HB.out⟩
end Go.Proofs.YtkhhkicfeaeddaaGreatDoor
