/- The law's walk. -/
import Derived.Test.YtclhohfkacgooaaLawR
namespace Go.Proofs.Ytclhohfkacgooaa
open Go.RowKit PlanMath

set_option maxRecDepth 100000 in
set_option maxHeartbeats 8000000 in
theorem law_any (A : Option Addr) (cA : Nat) (R : List (Int × Int × Int)) (E : Option Addr) (cE : Nat) (d1 : List Int) (L : Option Addr) (cL : Nat) (d2 : List Int) (w : World)
    (hR : RulesR w w.heap.size A R) (h1 : IntsAt w w.heap.size E d1) (h2 : IntsAt w w.heap.size L d2) (hl : (R.length + 1) * 24 ≤ 140737488355328) (hl1 : d1.length ≤ 4611686018427387904) (hl2 : d2.length ≤ 4611686018427387904) :
    Calls Try.prog 3 #[.slice A R.length cA, .slice E d1.length cE, .slice L d2.length cL] w fun e w' => e = .returned (.bool true) ∧ Below w.heap.size w w' := by
  obtain ⟨W, hW⟩ : ∃ W, w.alloc (.cells #[.slice A R.length cA] 22) = W := ⟨_, rfl⟩
  have hBW : Below w.heap.size w W := by rw [← hW]; exact (Below.refl _ _).alloc (Nat.le_refl _) _
  have hsW : W.heap.size = w.heap.size + 1 := by rw [← hW]; simp
  have hbx : Boxed W w.heap.size 22 (.slice A R.length cA) := by rw [← hW]; exact Boxed.new w _ _
  have HR := Lib.hid (hR.below hBW)
  have H1 := Lib.hid (h1.below hBW)
  have H2 := Lib.hid (h2.below hBW)
  have HBX := Lib.hid hbx
  have hBW' := Lib.hid hBW
  have HW := Lib.hid hW
  have cbx := hbx.cell
  clear hR h1 h2 hW hBW hbx
  go_enter Try.func3, Try.ntmps3
  go_wp2
  rw [HW.out]
  go_wp2
  go_loopw [7, 32] (fun v i w' => ∃ k : Nat, k ≤ R.length ∧ i = .int .i64 k ∧ w'.ownsRow (w.heap.size + 1) 27 3 v k (rulesV (R.take k)) ∧ Below (w.heap.size + 1) W w') (fun _ i _ => R.length - (intOf i).toNat)
  case atStart => exact ⟨0, Nat.zero_le _, rfl, ⟨rfl, .inl ⟨rfl, rfl⟩⟩, Below.refl _ _⟩
  case round =>
    obtain ⟨k, hk, rfl, hown, hb⟩ := hrel
    by_cases hlt : k < R.length
    · obtain ⟨a, rfl, hab, c0, c1, c2⟩ := HR.out.below (hb.mono (Nat.le_succ _)) k hlt
      obtain ⟨r, hr⟩ : ∃ r, R.getD k (0, 0, 0) = r := ⟨_, rfl⟩
      rw [hr] at c0 c1 c2
      have htk : (R.take k).length = k := by simp; omega
      have hbs : w.heap.size + 1 ≤ wr.heap.size := by rw [← hsW]; exact hb.size
      obtain ⟨v', w4, happ, hown4, hb4⟩ := append_rule (wr.alloc (.cells #[.int .i64 r.1, .int .i64 r.2.1, .int .i64 r.2.2] 26)) (w.heap.size + 1) r u7 (R.take k) (by simp; omega) (by rw [htk]; omega) (by rw [htk]; exact owns_alloc hown _)
      rw [World.size_alloc] at happ
      have HAPP := Lib.hid happ
      have HREL : Hid (w4.ownsRow (w.heap.size + 1) 27 3 v' (k + 1) (rulesV (R.take (k + 1))) ∧ Below (w.heap.size + 1) W w4) := Lib.hid ⟨by
        rw [htk] at hown4
        rw [List.take_succ_eq_append_getElem hlt, show R[k] = r by rw [← hr]; simp [List.getD, List.getElem?_eq_getElem hlt]]
        exact hown4, hb.trans (((Below.refl _ _).alloc hbs _).trans hb4)⟩
      clear happ hown4 hb4 hown hr htk
      go_wp2_with (at_builtin; refine wpList_append_run rfl _ _ 24 rfl _ _ v' w4 rfl rfl HAPP.out ?_)
      go_roundw
      case rel => exact ⟨k + 1, by omega, by go_num, HREL.out.1, HREL.out.2⟩
      case measure => simp [intOf]; omega
    · obtain rfl : k = R.length := by omega
      rw [List.take_length] at hown
      obtain ⟨A', c', rfl, hrr⟩ := rules_of_row hown
      have HB := Lib.hid (hBW'.out.trans (hb.mono (Nat.le_succ _)))
      have cb2 := (hb.cell (p := ⟨w.heap.size, 0, none⟩) (Nat.lt_succ_self _)).trans cbx
      have HCK := fun n => refCheckRules_any n A' c' wr.heap.size R wr (by omega) hrr
      have HG := linksGreen_any
      have HBR := Lib.hid hb
      clear hrr hown hb
      have FIN : Hid (∀ w', Below wr.heap.size wr w' → Below w.heap.size w w') := Lib.hid fun w' h => HB.out.trans (h.mono HB.out.size)
      by_cases q1 : d1.length = d2.length
      case neg =>
        have g1 : ((d1.length : Int) != (d2.length : Int)) = true := by rw [bne_iff_ne]; omega
        go_wp2_with (go_at_call 5; (with_reducible refine (HG _).mono ?_); rintro e w5 ⟨rfl, hb5⟩)
        go_ret
        exact ⟨rfl, FIN.out _ hb5⟩
      have g1 : ((d1.length : Int) != (d2.length : Int)) = false := by rw [q1]; simp
      by_cases q2 : d1.length ≤ 6
      case neg =>
        have g2 : (6 : Int) < (d1.length : Int) := by omega
        clear q1 q2
        go_wp2_with (go_at_call 5; (with_reducible refine (HG _).mono ?_); rintro e w5 ⟨rfl, hb5⟩)
        go_ret
        exact ⟨rfl, FIN.out _ hb5⟩
      have g2 : decide ((6 : Int) < (d1.length : Int)) = false := by rw [decide_eq_false_iff_not]; omega
      by_cases q3 : R.length ≤ 30
      case neg =>
        have g3 : (30 : Int) < (R.length : Int) := by omega
        clear q1 q2 q3
        go_wp2_with (go_at_call 5; (with_reducible refine (HG _).mono ?_); rintro e w5 ⟨rfl, hb5⟩)
        go_ret
        exact ⟨rfl, FIN.out _ hb5⟩
      have g3 : decide ((30 : Int) < (R.length : Int)) = false := by rw [decide_eq_false_iff_not]; omega
      obtain ⟨z, hz⟩ : ∃ z, rulesI (d1.length : Int) R = z := ⟨_, rfl⟩
      have HC1 : Calls Try.prog 4 #[.int .i64 (d1.length : Int), .slice A' R.length c'] wr fun e w' => e = .returned (.int .i64 z) ∧ wr = w' := by have h := HCK (d1.length : Int); rw [hz] at h; exact h
      have HZ := Lib.hid hz
      have Q1 := Lib.hid q1
      have Q2 := Lib.hid q2
      have Q3 := Lib.hid q3
      clear HCK hz q1 q2 q3
      by_cases q4 : z = 0
      case neg =>
        have g4 : (z != 0) = true := by rw [bne_iff_ne]; exact q4
        clear q4
        go_wp2_with (first | (go_at_call 4; (with_reducible refine HC1.mono ?_); rintro e w5 ⟨rfl, rfl⟩) | (go_at_call 5; (with_reducible refine (HG _).mono ?_); rintro e w5 ⟨rfl, hb5⟩))
        go_ret
        exact ⟨rfl, FIN.out _ hb5⟩
      subst q4
      go_wp2_with (go_at_call 4; (with_reducible refine HC1.mono ?_); rintro e w5 ⟨rfl, rfl⟩)
      obtain ⟨n1, n24, hup, hval⟩ := rulesI_zero d1.length R HZ.out
      obtain ⟨C, hC⟩ : ∃ C, R.map downR = C := ⟨_, rfl⟩
      rw [hC] at hup hval
      have hCl : C.length = R.length := by rw [← hC]; simp
      have HV := Lib.hid hval
      have HN1 := Lib.hid n1
      have hs1 : w.heap.size + 1 ≤ wr.heap.size := by rw [← hsW]; exact HBR.out.size
      have HCR : Hid (CondsR wr (w.heap.size + 1) A C) := Lib.hid (conds_of_rules (by rw [hup]; exact (HR.out.below (HBR.out.mono (Nat.le_succ _))).mono (Nat.le_succ _)))
      have HI1 : Hid (IntsAt wr (w.heap.size + 1) E d1) := Lib.hid fun j hj => by
        obtain ⟨a, e1, e2, e3⟩ := H1.out j hj
        have e4 : (Addr.add a j).block < w.heap.size + 1 := by rw [block_of_add]; omega
        exact ⟨a, e1, by omega, (HBR.out.cell e4).trans e3⟩
      have HI2 : Hid (IntsAt wr (w.heap.size + 1) L d2) := Lib.hid fun j hj => by
        obtain ⟨a, e1, e2, e3⟩ := H2.out j hj
        have e4 : (Addr.add a j).block < w.heap.size + 1 := by rw [block_of_add]; omega
        exact ⟨a, e1, by omega, (HBR.out.cell e4).trans e3⟩
      have HFA : Hid (∀ (W' : World) (D : Option Addr) (c : Nat) (d : List Int), Below wr.heap.size wr W' → IntsAt W' W'.heap.size D d → d.length = d1.length → Calls Try.prog 7 #[.slice D d.length c, .pointer (some ⟨w.heap.size, 0, none⟩)] W' fun e w' => e = .returned (.bool (fitsB C d)) ∧ Below W'.heap.size W' w') := Lib.hid fun W' D c d hb hd hdl => by
        have hb' : Below (w.heap.size + 1) wr W' := hb.mono hs1
        exact fits_any D c d w.heap.size W'.heap.size A cA C W' hd (Nat.le_refl _) (by have := hb.size; omega) (by rw [hCl]; exact (hb'.cell (p := ⟨w.heap.size, 0, none⟩) (Nat.lt_succ_self _)).trans cb2) ((HCR.out.below hb').mono (Nat.le_trans hs1 hb.size)) (by rw [hdl]; exact HV.out) (by rw [hdl]; have := Q2.out; omega) (by rw [hCl]; have := Q3.out; omega)
      have HF1 : Hid (∀ (W' : World), Below wr.heap.size wr W' → Calls Try.prog 7 #[.slice E d1.length cE, .pointer (some ⟨w.heap.size, 0, none⟩)] W' fun e w' => e = .returned (.bool (fitsB C d1)) ∧ Below W'.heap.size W' w') := Lib.hid fun W' hb => HFA.out W' E cE d1 hb ((HI1.out.below (hb.mono hs1)).mono (Nat.le_trans hs1 hb.size)) rfl
      have HF2 : Hid (∀ (W' : World), Below wr.heap.size wr W' → Calls Try.prog 7 #[.slice L d2.length cL, .pointer (some ⟨w.heap.size, 0, none⟩)] W' fun e w' => e = .returned (.bool (fitsB C d2)) ∧ Below W'.heap.size W' w') := Lib.hid fun W' hb => HFA.out W' L cL d2 hb ((HI2.out.below (hb.mono hs1)).mono (Nat.le_trans hs1 hb.size)) Q1.out.symm
      cases hq : chg C (iter C (zeros d1.length) (d1.length - 1))
      case true =>
        have HE := earliest_no d1.length A cA wr.heap.size C wr n1 n24 (by rw [hCl]; have := Q3.out; omega) hval (Nat.le_refl _) (HCR.out.mono hs1) hq
        rw [hCl] at HE
        have nf1 : fitsB C d1 = false := no_fit (by omega) hval hq
        have nf2 : fitsB C d2 = false := no_fit (by have := Q1.out; omega) (by rw [← Q1.out]; exact hval) (by rw [← Q1.out]; exact hq)
        (with_reducible refine HE.mono ?_); rintro e w2 ⟨rfl, hb2⟩
        have HX1 := HF1.out w2 hb2
        rw [nf1] at HX1
        clear hval hq hC hup nf1 n1 n24 HE
        go_wp2_with (first | (go_at_call 7; (with_reducible refine HX1.mono ?_); clear HX1; rintro e w5 ⟨rfl, hb5⟩; have hb25 := hb2.trans (hb5.mono hb2.size); have HX2 := HF2.out w5 hb25; rw [nf2] at HX2) | (go_at_call 7; (with_reducible refine HX2.mono ?_); rintro e w6 ⟨rfl, hb6⟩) | (go_at_call 5; (with_reducible refine (HG _).mono ?_); rintro e w7 ⟨rfl, hb7⟩))
        go_ret
        have k1 := hb25.trans (hb6.mono hb25.size)
        exact ⟨rfl, FIN.out _ (k1.trans (hb7.mono k1.size))⟩
      have HE := earliest_yes d1.length A cA wr.heap.size C wr n1 n24 (by rw [hCl]; have := Q3.out; omega) hval (Nat.le_refl _) (HCR.out.mono hs1) hq
      rw [hCl] at HE
      (with_reducible refine HE.mono ?_); rintro e w2 ⟨g, rfl, hrow, hg, hb2⟩
      have hdl := daysL_length d1.length C
      have hrow : RowI w2 g (daysL d1.length C) := hrow
      have HX3 := HFA.out w2 (some ⟨g, 0, none⟩) d1.length (daysL d1.length C) hb2 (hrow.ints hrow.lt) hdl
      rw [daysL_fits (by omega) Q2.out hval hq, hdl] at HX3
      have Q0 := Lib.hid n1
      have HS1 := Lib.hid hs1
      have HQ := Lib.hid hq
      have HROW := Lib.hid hrow
      have HGL := Lib.hid hg
      have HB2 := Lib.hid hb2
      clear hval hq hC hup n24 HE hrow hg hb2 hs1 n1
      have l0 : (((d1.length : Nat) : Int) != (d1.length : Int)) = false := by simp
      go_wp2_with (go_at_call 7; (with_reducible refine HX3.mono ?_); rintro e w3 ⟨rfl, hb3⟩)
      have HB3 := Lib.hid (HB2.out.trans (hb3.mono HB2.out.size))
      have HROW3 : Hid (RowI w3 g (daysL d1.length C)) := Lib.hid (HROW.out.below hb3 HROW.out.lt)
      go_loopw [13, 14, 15, 106] (fun v1 v2 v3 i w' => ∃ k : Nat, k ≤ d1.length ∧ i = .int .i64 k ∧ w'.ownsRow w3.heap.size 3 1 v1 k (((minL d1 d2).take k).map (Value.int .i64)) ∧ w'.ownsRow w3.heap.size 3 1 v2 k (((maxL d1 d2).take k).map (Value.int .i64)) ∧
        w'.ownsRow w3.heap.size 3 1 v3 k (((laterL (daysL d1.length C)).take k).map (Value.int .i64)) ∧ (v1.ownBlock = none ∨ v1.ownBlock ≠ v2.ownBlock) ∧ (v1.ownBlock = none ∨ v1.ownBlock ≠ v3.ownBlock) ∧ (v2.ownBlock = none ∨ v2.ownBlock ≠ v3.ownBlock) ∧ Below w3.heap.size w3 w') (fun _ _ _ i _ => d1.length - (intOf i).toNat)
      case atStart => exact ⟨0, Nat.zero_le _, rfl, ⟨rfl, .inl ⟨rfl, rfl⟩⟩, ⟨rfl, .inl ⟨rfl, rfl⟩⟩, ⟨rfl, .inl ⟨rfl, rfl⟩⟩, .inl rfl, .inl rfl, .inl rfl, Below.refl _ _⟩
      case round =>
        obtain ⟨k, hk, rfl, o1, o2, o3, x1, x2, x3, hb⟩ := hrel
        by_cases hlt : k < d1.length
        · obtain ⟨a1, rfl, ha1, ca⟩ := (HI1.out.below ((HB3.out.mono HS1.out).trans (hb.mono (Nat.le_trans HS1.out HB3.out.size)))) k hlt
          obtain ⟨a2, rfl, ha2, cb⟩ := (HI2.out.below ((HB3.out.mono HS1.out).trans (hb.mono (Nat.le_trans HS1.out HB3.out.size)))) k (by have := Q1.out; omega)
          have cg := (HROW3.out.below hb HROW3.out.lt).cell (j := k) (by rw [daysL_length]; exact hlt)
          have hk2 : k < d2.length := by have := Q1.out; omega
          obtain ⟨x, hx⟩ : ∃ x, d1.getD k 0 = x := ⟨_, rfl⟩
          obtain ⟨y, hy⟩ : ∃ y, d2.getD k 0 = y := ⟨_, rfl⟩
          obtain ⟨z, hz⟩ : ∃ z, (daysL d1.length C).getD k 0 = z := ⟨_, rfl⟩
          rw [hx] at ca
          rw [hy] at cb
          rw [hz] at cg
          have hzi := daysL_in Q0.out Q2.out HV.out HQ.out k hlt
          rw [hz] at hzi
          have hw7 : IntKind.i64.wrap (z + 7) = z + 7 := IntWalk.i64_in _ (by omega)
          rename World => wq
          have hm : Try.prog.follows .mixedOrders = true := by kernel_rfl
          have hk9 : k ≤ 1000 := by have := Q2.out; omega
          have sz0 := hb.size
          have T1 : Hid ((minL d1 d2).take (k + 1) = (minL d1 d2).take k ++ [min x y]) := Lib.hid (by rw [take_snoc _ _ (by simp [minL]; exact hlt), minL_getD _ _ _ hlt, hx, hy])
          have T2 : Hid ((maxL d1 d2).take (k + 1) = (maxL d1 d2).take k ++ [max x y]) := Lib.hid (by rw [take_snoc _ _ (by simp [maxL]; exact hlt), maxL_getD _ _ _ hlt, hx, hy])
          have T3 : Hid ((laterL (daysL d1.length C)).take (k + 1) = (laterL (daysL d1.length C)).take k ++ [z + 7]) := Lib.hid (by rw [take_snoc _ _ (by simp [laterL, daysL_length]; exact hlt), laterL_getD _ _ (by rw [daysL_length]; exact hlt), hz])
          have MKW : Hid (∀ w', Below w3.heap.size w3 w' → w'.cell? (a1.add k) = some (.int .i64 x) ∧ w'.cell? (a2.add k) = some (.int .i64 y) ∧ w'.cell? ((⟨g, 0, none⟩ : Addr).add k) = some (.int .i64 z)) := Lib.hid fun w' h => by
            have b1 : (a1.add k).block < w3.heap.size := by rw [block_of_add]; have := HS1.out; have := HB3.out.size; omega
            have b2 : (a2.add k).block < w3.heap.size := by rw [block_of_add]; have := HS1.out; have := HB3.out.size; omega
            refine ⟨(h.cell b1).trans ((hb.cell b1).symm.trans ca), (h.cell b2).trans ((hb.cell b2).symm.trans cb), ?_⟩
            rw [show (⟨g, 0, none⟩ : Addr).add k = ⟨g, k, none⟩ from by unfold Addr.add; split <;> simp_all]
            exact (h.cell (p := ⟨g, k, none⟩) HROW3.out.lt).trans ((hb.cell (p := ⟨g, k, none⟩) HROW3.out.lt).symm.trans cg)
          have MKR : Hid (∀ w', Below w3.heap.size wq w' → w'.cell? (a1.add k) = some (.int .i64 x) ∧ w'.cell? (a2.add k) = some (.int .i64 y) ∧ w'.cell? ((⟨g, 0, none⟩ : Addr).add k) = some (.int .i64 z)) := Lib.hid fun w' h => MKW.out w' (hb.trans h)
          have G1 : Hid (fitsB C d1 = true → decide (x < z) = false) := Lib.hid fun f => by
            have h := daysL_least (C := C) (d := d1) Q0.out HV.out HQ.out f k hlt
            rw [hx, hz] at h
            exact decide_eq_false (by omega)
          have G2 : Hid (fitsB C d2 = true → decide (y < z) = false) := Lib.hid fun f => by
            have h := daysL_least (C := C) (d := d2) (by rw [← Q1.out]; exact Q0.out) (by rw [← Q1.out]; exact HV.out) (by rw [← Q1.out]; exact HQ.out) f k hk2
            rw [← Q1.out, hy, hz] at h
            exact decide_eq_false (by omega)
          have BQ := Lib.hid hb
          have O1 := Lib.hid o1
          have O2 := Lib.hid o2
          have O3 := Lib.hid o3
          have X1 := Lib.hid x1
          have X2 := Lib.hid x2
          have X3 := Lib.hid x3
          clear o1 o2 o3 x1 x2 x3 hb hx hy hz
          go_upto_region 21 with fail
          go_cut [13, 14, 15, 106] from 106 to 171 (fun v1 v2 v3 i w' => i = .int .i64 k ∧ w'.ownsRow w3.heap.size 3 1 v1 (k + 1) (((minL d1 d2).take (k + 1)).map (Value.int .i64)) ∧ w'.ownsRow w3.heap.size 3 1 v2 (k + 1) (((maxL d1 d2).take (k + 1)).map (Value.int .i64)) ∧ w'.ownsRow w3.heap.size 3 1 v3 (k + 1) (((laterL (daysL d1.length C)).take (k + 1)).map (Value.int .i64)) ∧ (v1.ownBlock = none ∨ v1.ownBlock ≠ v2.ownBlock) ∧ (v1.ownBlock = none ∨ v1.ownBlock ≠ v3.ownBlock) ∧ (v2.ownBlock = none ∨ v2.ownBlock ≠ v3.ownBlock) ∧ Below w3.heap.size w3 w')
          case first =>
            refine region21 (a1 := a1) (a2 := a2) (a3 := ⟨g, 0, none⟩) (n1 := d1.length) (c1 := cE) (n2 := d2.length) (c2 := cL) (n3 := d1.length) (c3 := d1.length) (k := k) (x := x) (y := y) (z := z) (base := w3.heap.size) (by kernel_rfl) hm (by simp) rfl rfl rfl rfl rfl rfl rfl hlt hk2 hlt hw7 MKR.out hk9 sz0 O1.out O2.out O3.out X1.out X2.out X3.out ?_
            intro s1 s2 s3 g1 q1 g2 q2 g3 q3 w4 hb4 r1 r2 r3 e12 e13 e23
            clear MKR MKW HF1 HF2 HFA HI1 HI2 HX3
            simp only [act21, before21, CA, pu, Act.put, List.setIfInBounds_toArray, List.set_cons_zero, List.set_cons_succ]
            go_wp2_with fail
            go_meet
            rw [T1.out, T2.out, T3.out]
            exact ⟨rfl, r1, r2, r3, .inr e12, .inr e13, .inr e23, BQ.out.trans hb4⟩
          case rest =>
            obtain ⟨rfl, r1, r2, r3, m1, m2, m3, hbc⟩ := hcut
            have FN : Hid (∀ w', Below wc.heap.size wc w' → w'.ownsRow w3.heap.size 3 1 u13 (k + 1) (((minL d1 d2).take (k + 1)).map (Value.int .i64)) ∧ w'.ownsRow w3.heap.size 3 1 u14 (k + 1) (((maxL d1 d2).take (k + 1)).map (Value.int .i64)) ∧ w'.ownsRow w3.heap.size 3 1 u15 (k + 1) (((laterL (daysL d1.length C)).take (k + 1)).map (Value.int .i64)) ∧ (u13.ownBlock = none ∨ u13.ownBlock ≠ u14.ownBlock) ∧ (u13.ownBlock = none ∨ u13.ownBlock ≠ u15.ownBlock) ∧ (u14.ownBlock = none ∨ u14.ownBlock ≠ u15.ownBlock) ∧ Below w3.heap.size w3 w') := Lib.hid fun w' h => ⟨own_below r1 h, own_below r2 h, own_below r3 h, m1, m2, m3, hbc.trans (h.mono hbc.size)⟩
            have HBC := Lib.hid hbc
            clear r1 r2 r3 m1 m2 m3 hbc T1 T2 T3 BQ MKR O1 O2 O3 X1 X2 X3 ca cb cg
            go_wp2_with fail
            refine region22 (a1 := a1) (a2 := a2) (a3 := ⟨g, 0, none⟩) (n1 := d1.length) (c1 := cE) (n2 := d2.length) (c2 := cL) (n3 := d1.length) (c3 := d1.length) (k := k) (x := x) (y := y) (z := z) (B := w.heap.size) (b1 := fitsB C d1) (b2 := fitsB C d2) (by kernel_rfl) hm (by simp) rfl rfl rfl rfl rfl hlt hk2 hlt (fun w' h => MKW.out w' (HBC.out.trans (h.mono HBC.out.size))) G1.out G2.out (fun w' h => HF1.out w' (HB3.out.trans ((HBC.out.trans (h.mono HBC.out.size)).mono HB3.out.size))) (fun w' h => HF2.out w' (HB3.out.trans ((HBC.out.trans (h.mono HBC.out.size)).mono HB3.out.size))) ?_
            intro f w6 hb6
            have HF := FN.out _ hb6
            clear FN hb6 MKW HBC G1 G2 HF1 HF2 HFA HI1 HI2 HX3
            simp only [act22, Act.put, List.setIfInBounds_toArray, List.set_cons_zero, List.set_cons_succ]
            go_wp2_with fail
            go_roundw
            case rel => first | exact ⟨k + 1, by omega, by go_num, HF⟩ | ((repeat apply Exists.intro); exact ⟨⟨k + 1, by omega, by go_num, HF⟩, rfl⟩)
            case measure => simp [intOf]; omega
        · obtain rfl : k = d1.length := by omega
          rename World => wq
          rw [List.take_of_length_le (by simp [minL])] at o1
          rw [List.take_of_length_le (by simp [maxL])] at o2
          rw [List.take_of_length_le (by simp [laterL, daysL_length])] at o3
          have m1 : (minL d1 d2).length = d1.length := by simp [minL]
          have m2 : (maxL d1 d2).length = d1.length := by simp [maxL]
          have m3 : (laterL (daysL d1.length C)).length = d1.length := by simp [laterL, daysL_length]
          obtain ⟨A1, c1, rfl, -, i1⟩ := rows_ints (by rw [m1]; exact o1)
          obtain ⟨A2, c2, rfl, -, i2⟩ := rows_ints (by rw [m2]; exact o2)
          obtain ⟨A3, c3, rfl, -, i3⟩ := rows_ints (by rw [m3]; exact o3)
          rw [m1, m2, m3]
          have HBQ := Lib.hid (HB3.out.trans (hb.mono HB3.out.size))
          have HROWQ : Hid (RowI wq g (daysL d1.length C)) := Lib.hid (HROW3.out.below hb HROW3.out.lt)
          have HM1 : Hid (∀ W', Below wq.heap.size wq W' → fitsB C d1 = true → fitsB C d2 = true → Calls Try.prog 7 #[.slice A1 d1.length c1, .pointer (some ⟨w.heap.size, 0, none⟩)] W' fun e w' => e = .returned (.bool true) ∧ Below W'.heap.size W' w') := Lib.hid fun W' h f1 f2 => by
            have := HFA.out W' A1 c1 _ (HBQ.out.trans (h.mono HBQ.out.size)) ((i1.below h).mono h.size) m1
            rwa [m1, minL_fits Q1.out HV.out f1 f2] at this
          have HM2 : Hid (∀ W', Below wq.heap.size wq W' → fitsB C d1 = true → fitsB C d2 = true → Calls Try.prog 7 #[.slice A2 d1.length c2, .pointer (some ⟨w.heap.size, 0, none⟩)] W' fun e w' => e = .returned (.bool true) ∧ Below W'.heap.size W' w') := Lib.hid fun W' h f1 f2 => by
            have := HFA.out W' A2 c2 _ (HBQ.out.trans (h.mono HBQ.out.size)) ((i2.below h).mono h.size) m2
            rwa [m2, maxL_fits Q1.out HV.out f1 f2] at this
          have HM3 : Hid (∀ W', Below wq.heap.size wq W' → Calls Try.prog 7 #[.slice A3 d1.length c3, .pointer (some ⟨w.heap.size, 0, none⟩)] W' fun e w' => e = .returned (.bool true) ∧ Below W'.heap.size W' w') := Lib.hid fun W' h => by
            have := HFA.out W' A3 c3 _ (HBQ.out.trans (h.mono HBQ.out.size)) ((i3.below h).mono h.size) m3
            rwa [m3, later_fits Q0.out Q2.out HV.out HQ.out] at this
          have HE1 : Hid (∀ W', Below wq.heap.size wq W' → Calls Try.prog 7 #[.slice E d1.length cE, .pointer (some ⟨w.heap.size, 0, none⟩)] W' fun e w' => e = .returned (.bool (fitsB C d1)) ∧ Below W'.heap.size W' w') := Lib.hid fun W' h => HF1.out W' (HBQ.out.trans (h.mono HBQ.out.size))
          have HE2 : Hid (∀ W', Below wq.heap.size wq W' → Calls Try.prog 7 #[.slice L d2.length cL, .pointer (some ⟨w.heap.size, 0, none⟩)] W' fun e w' => e = .returned (.bool (fitsB C d2)) ∧ Below W'.heap.size W' w') := Lib.hid fun W' h => HF2.out W' (HBQ.out.trans (h.mono HBQ.out.size))
          clear i1 i2 i3 o1 o2 o3 x1 x2 x3 m1 m2 m3 hb HX3
          go_upto_region 25 with fail
          go_cut [13, 197] from 172 (fun v b w' => v = .slice A1 d1.length c1 ∧ b = .bool false ∧ Below wq.heap.size wq w')
          case first =>
            have HE1' := HE1.out wq (Below.refl _ _)
            cases f1 : fitsB C d1
            case' false =>
              rw [f1] at HE1'
              go_wp2_with fail
              (with_reducible refine HE1'.mono ?_); clear HE1'; rintro e w4 ⟨rfl, hb4⟩
              have HB4 : Hid (Below wq.heap.size wq w4) := Lib.hid hb4
              clear hb4
              have HB7 := HB4
            case' true =>
              rw [f1] at HE1'
              go_wp2_with fail
              (with_reducible refine HE1'.mono ?_); clear HE1'; rintro e w4 ⟨rfl, hb4⟩
              have HB4 : Hid (Below wq.heap.size wq w4) := Lib.hid hb4
              clear hb4
              have HE2' := HE2.out w4 HB4.out
              cases f2 : fitsB C d2
              case' false =>
                rw [f2] at HE2'
                go_wp2_with fail
                (with_reducible refine HE2'.mono ?_); clear HE2'; rintro e w5 ⟨rfl, hb5⟩
                have HB5 : Hid (Below wq.heap.size wq w5) := Lib.hid (HB4.out.trans (hb5.mono HB4.out.size))
                clear hb5
                have HB7 := HB5
              case' true =>
                rw [f2] at HE2'
                go_wp2_with fail
                (with_reducible refine HE2'.mono ?_); clear HE2'; rintro e w5 ⟨rfl, hb5⟩
                have HB5 : Hid (Below wq.heap.size wq w5) := Lib.hid (HB4.out.trans (hb5.mono HB4.out.size))
                clear hb5
                go_wp2_with fail
                (with_reducible refine (HM1.out w5 HB5.out f1 f2).mono ?_); rintro e w6 ⟨rfl, hb6⟩
                have HB6 : Hid (Below wq.heap.size wq w6) := Lib.hid (HB5.out.trans (hb6.mono HB5.out.size))
                clear hb6
                go_wp2_with fail
                (with_reducible refine (HM2.out w6 HB6.out f1 f2).mono ?_); rintro e w7 ⟨rfl, hb7⟩
                have HB7 : Hid (Below wq.heap.size wq w7) := Lib.hid (HB6.out.trans (hb7.mono HB6.out.size))
                clear hb7
            all_goals
              go_wp2_with fail
              (with_reducible refine (HM3.out _ HB7.out).mono ?_); rintro e w8 ⟨rfl, hb8⟩
              have HB8 := Lib.hid (HB7.out.trans (hb8.mono HB7.out.size))
              clear hb8
              go_wp2_with fail
            all_goals go_meet
            all_goals exact ⟨rfl, rfl, HB8.out⟩
          case rest =>
            obtain ⟨rfl, rfl, hb8⟩ := hcut
            have HB8 := Lib.hid hb8
            clear hb8 HE1 HE2 HM1 HM2 HM3
            go_wp2_with fail
            have hrowq := HROWQ.out.below HB8.out HROWQ.out.lt
            have HROW8 := Lib.hid hrowq
            clear hrowq
            obtain ⟨F, hF⟩ : ∃ F, flowsL (daysL d1.length C) = F := ⟨_, rfl⟩
            have hFl : F.length = d1.length := by rw [← hF, flowsL_length, daysL_length]
            have hFin := flowsL_in (daysL d1.length C)
            rw [hF] at hFin
            have HFI := Lib.hid hFin
            have HFF := Lib.hid hF
            clear hF hFin
            go_loopw [17, 18, 19, 200] (fun v s m i w' => ∃ k : Nat, k ≤ d1.length ∧ i = .int .i64 k ∧ w'.ownsRow wc.heap.size 3 1 v k ((F.take k).map (Value.int .i64)) ∧ s = .int .i64 (WaterMath.sumL (F.take k)) ∧ m = .int .i64 (limL (F.take k)) ∧ Below wc.heap.size wc w') (fun _ _ _ i _ => d1.length - (intOf i).toNat)
            case atStart => exact ⟨0, Nat.zero_le _, rfl, ⟨rfl, .inl ⟨rfl, rfl⟩⟩, rfl, rfl, Below.refl _ _⟩
            case round =>
              obtain ⟨k, hk, rfl, o1, rfl, rfl, hb⟩ := hrel
              rename World => wf
              by_cases hlt : k < d1.length
              · have cg := (HROW8.out.below hb HROW8.out.lt).cell (j := k) (by rw [daysL_length]; exact hlt)
                obtain ⟨z, hz⟩ : ∃ z, (daysL d1.length C).getD k 0 = z := ⟨_, rfl⟩
                rw [hz] at cg
                have hzi := daysL_in Q0.out Q2.out HV.out HQ.out k hlt
                rw [hz] at hzi
                have hfk : F.getD k 0 = 1 + z % 9 := by rw [← HFF.out, flowsL_getD _ _ (by rw [daysL_length]; exact hlt), hz]
                obtain ⟨q, hq'⟩ : ∃ q, z % 9 = q := ⟨_, rfl⟩
                have hq2 : z.tmod 9 = q := by rw [Int.tmod_eq_emod_of_nonneg hzi.1]; exact hq'
                have hqi : 0 ≤ q ∧ q ≤ 8 := by omega
                have htk : (F.take k).length = k := by simp; omega
                obtain ⟨s, hs⟩ : ∃ s, WaterMath.sumL (F.take k) = s := ⟨_, rfl⟩
                obtain ⟨m, hm⟩ : ∃ m, limL (F.take k) = m := ⟨_, rfl⟩
                have hsi := sumL_in (F.take k) (fun f hf => HFI.out f (List.mem_of_mem_take hf))
                have hmi := (limL_in (F.take k) (fun f hf => HFI.out f (List.mem_of_mem_take hf))).1
                rw [htk] at hsi
                rw [hs] at hsi
                rw [hm] at hmi
                have hk6 : k < 6 := by have := Q2.out; omega
                have hw1 : IntKind.i64.wrap (1 + q) = 1 + q := IntWalk.i64_in _ (by omega)
                have hw2 : IntKind.i64.wrap (s + (1 + q)) = s + (1 + q) := IntWalk.i64_in _ (by omega)
                obtain ⟨v', w9, happ, hown9, hgr9, hbl9⟩ := append_int wf wc.heap.size (1 + q) _ (F.take k) hb.size (by rw [htk]; omega) (by rw [htk]; exact o1)
                have HAPP := Lib.hid happ
                have HREL : Hid (w9.ownsRow wc.heap.size 3 1 v' (k + 1) ((F.take (k + 1)).map (Value.int .i64)) ∧ WaterMath.sumL (F.take (k + 1)) = s + (1 + q) ∧ limL (F.take (k + 1)) = max m (1 + q) ∧ Below wc.heap.size wc w9) := Lib.hid ⟨by
                  rw [htk] at hown9
                  rw [take_snoc F k (by omega), hfk, hq']; exact hown9, by rw [take_snoc F k (by omega), sumL_snoc, hs, hfk, hq'], by rw [take_snoc F k (by omega), limL_snoc, hm, hfk, hq'], by
                  refine (hb.alloc hb.size _).grown hgr9 (by simp; exact Nat.le_succ_of_le hb.size) (fun j e => ?_)
                  rcases o1.2 with ⟨rfl, _⟩ | ⟨g', cap, cur, rfl, hg', _⟩
                  · simp [Value.ownBlock] at e
                  · simp [Value.ownBlock] at e; omega⟩
                clear happ hown9 hgr9 hbl9 o1 htk hfk hq' hz
                rw [hs, hm]
                go_wp2_with (at_builtin; refine wpList_append_run rfl _ _ 23 rfl _ _ v' w9 rfl rfl HAPP.out ?_)
                exact ⟨⟨k + 1, by omega, by go_num, HREL.out.1, by rw [HREL.out.2.1], by rw [HREL.out.2.2.1], HREL.out.2.2.2⟩, by simp [intOf]; omega⟩
              · obtain rfl : k = d1.length := by omega
                rw [List.take_of_length_le (by omega)] at o1 ⊢
                obtain ⟨A4, c4, rfl, hc4, i4⟩ := rows_ints (by rw [hFl]; exact o1)
                obtain ⟨⟨hl1', hl2'⟩, hl3'⟩ := limL_in F HFI.out
                have hRO := rounds_any A4 c4 wf.heap.size F (limL F) wf (by have := Q2.out; omega) (by have := Q0.out; omega) (by omega) ⟨hl1', by omega⟩ (Nat.le_refl _) i4 (fun f hf => ⟨(HFI.out f hf).1, hl3' f hf⟩)
                have HB9 := Lib.hid (HB8.out.trans (hb.mono HB8.out.size))
                have HS := Lib.hid (sumL_in F HFI.out)
                obtain ⟨sm, hsm⟩ : ∃ sm, WaterMath.sumL F = sm := ⟨_, rfl⟩
                obtain ⟨lm, hlm⟩ : ∃ lm, limL F = lm := ⟨_, rfl⟩
                rw [hlm] at hRO hl1' hl2' hl3'
                rw [hsm, hlm]
                have I4 := Lib.hid i4
                rw [hFl] at hRO ⊢
                clear o1 i4 hb
                go_wp2_with fail
                (with_reducible refine hRO.mono ?_); rintro e w10 ⟨n, ss, v, hn1, hn2, hss, hmin, rfl, hown, hb10⟩
                have HW10 := Lib.hid hb10.size
                have HB10 := Lib.hid (HB9.out.trans (hb10.mono HB9.out.size))
                have hsl : ss.length = F.length := (WaterMath.wat_sound F (fun f hf => by have := HFI.out f hf; omega) (WaterMath.full n lm) ss (fun r hr => by rw [WaterMath.full_length] at hr; rw [WaterMath.full_getD _ _ _ hr]; omega) hss).1
                have HFT := Lib.hid (WaterMath.wat_sound F (fun f hf => by have := HFI.out f hf; omega) (WaterMath.full n lm) ss (fun r hr => by rw [WaterMath.full_length] at hr; rw [WaterMath.full_getD _ _ _ hr]; omega) hss)
                have HMIN := Lib.hid hmin
                have HI4 := Lib.hid (I4.out.below hb10)
                have hown' : w10.ownsRow wf.heap.size 3 1 v (ss.map (fun (s : Nat) => (s : Int))).length ((ss.map (fun (s : Nat) => (s : Int))).map (Value.int .i64)) := by
                  rw [List.length_map, List.map_map]; exact hown
                obtain ⟨A5, c5, rfl, -, i5⟩ := rows_ints hown'
                rw [List.length_map, hsl, hFl]
                have I5 := Lib.hid i5
                have hmk := make_ints d1.length (by have := Q2.out; omega)
                clear hown hown' i5 hmin hss hb10 hRO
                go_wp2
                obtain ⟨Y, hY⟩ : ∃ Y, w10.alloc (.cells (rowI (nils d1.length)) 3) = Y := ⟨_, rfl⟩
                have hrY : RowI Y w10.heap.size (nils d1.length) := by rw [← hY]; exact RowI.new w10 _
                have hbY : Below w10.heap.size w10 Y := by rw [← hY]; exact (Below.refl _ _).alloc (Nat.le_refl _) _
                rw [hY]
                have HRY := Lib.hid hrY
                have HBY := Lib.hid hbY
                have HS6 := Lib.hid HFT.out.2.1
                clear hY hrY hbY
                go_loopw [25, 241] (fun c i w' => ∃ (k : Nat) (us : List Int), k ≤ d1.length ∧ i = .int .i64 k ∧ c = .int .i64 (cntL (ss.take k) : Nat) ∧ RowI w' w10.heap.size us ∧ us.length = d1.length ∧ (∀ r, r < d1.length → us.getD r 0 = WaterMath.load (F.take k) (ss.take k) r ∧ 0 ≤ us.getD r 0 ∧ us.getD r 0 ≤ 9 * k) ∧ Below w10.heap.size w10 w') (fun _ i _ => d1.length - (intOf i).toNat)
                case atStart => exact ⟨0, nils d1.length, Nat.zero_le _, rfl, rfl, HRY.out, by simp [nils], fun r hr => by simp [nils, List.getD, hr, WaterMath.load], HBY.out⟩
                case round =>
                  obtain ⟨k, us, hk, rfl, rfl, hru, hul, hus, hb⟩ := hrel
                  rename World => wu
                  by_cases hlt : k < d1.length
                  · obtain ⟨a5, rfl, -, c5'⟩ := (I5.out.below hb) k (by rw [List.length_map]; omega)
                    obtain ⟨a4, rfl, -, c4'⟩ := (HI4.out.below (hb.mono HW10.out)) k (by omega)
                    obtain ⟨s, hs⟩ : ∃ s, ss.getD k 0 = s := ⟨_, rfl⟩
                    obtain ⟨f, hf⟩ : ∃ f, F.getD k 0 = f := ⟨_, rfl⟩
                    have hs5 : (ss.map (fun (s : Nat) => (s : Int))).getD k 0 = (s : Int) := by rw [← hs]; simp [List.getD, List.getElem?_eq_getElem (show k < ss.length by omega)]
                    rw [hs5] at c5'
                    rw [hf] at c4'
                    have hsm : s ∈ ss := by rw [← hs]; simp [List.getD, List.getElem?_eq_getElem (show k < ss.length by omega)]
                    have hsn : s < d1.length := by have := HS6.out s hsm; rw [WaterMath.full_length] at this; omega
                    have hfm : f ∈ F := by rw [← hf]; simp [List.getD, List.getElem?_eq_getElem (show k < F.length by omega)]
                    have hfi := HFI.out f hfm
                    have huc := hru.cell (j := s) (by omega)
                    have huf := hru.frozen s
                    obtain ⟨u, hu⟩ : ∃ u, us.getD s 0 = u := ⟨_, rfl⟩
                    have hui := (hus s hsn).2
                    rw [hu] at huc hui
                    have hk6 : k < 6 := by have := Q2.out; omega
                    have hw1 : IntKind.i64.wrap (u + f) = u + f := IntWalk.i64_in _ (by omega)
                    have hw2 : IntKind.i64.wrap ((s : Int) + 1) = (s : Int) + 1 := IntWalk.i64_in _ (by omega)
                    obtain ⟨m, hm⟩ : ∃ m, cntL (ss.take k) = m := ⟨_, rfl⟩
                    have g1 : decide ((s : Int) < 0) = false := by rw [decide_eq_false_iff_not]; omega
                    have g2 : decide ((d1.length : Int) ≤ (s : Int)) = false := by rw [decide_eq_false_iff_not]; omega
                    rw [hm]
                    go_wp2
                    go_region
                    have HREL : Hid ((cntL (ss.take (k + 1)) : Int) = max (m : Int) ((s : Int) + 1) ∧ RowI ((wu.setCell ⟨w10.heap.size, s, none⟩ (.int .i64 (u + f))).drew) w10.heap.size (us.set s (u + f)) ∧ (us.set s (u + f)).length = d1.length ∧ (∀ r, r < d1.length → (us.set s (u + f)).getD r 0 = WaterMath.load (F.take (k + 1)) (ss.take (k + 1)) r ∧ 0 ≤ (us.set s (u + f)).getD r 0 ∧ (us.set s (u + f)).getD r 0 ≤ 9 * ((k + 1 : Nat) : Int)) ∧ Below w10.heap.size w10 ((wu.setCell ⟨w10.heap.size, s, none⟩ (.int .i64 (u + f))).drew)) := Lib.hid ⟨by
                      rw [take_snoc' ss k (by omega), cntL_snoc, hm, hs]; omega, (hru.set s (u + f)).drew, by simp [hul], fun r hr => by
                      have h0 := hus r hr
                      rw [WaterMath.getD_set _ _ _ _ (by omega), take_snoc F k (by omega), take_snoc' ss k (by omega), load_snoc _ _ _ _ _ (by simp; omega), hf, hs]
                      by_cases e : r = s
                      · subst e; rw [if_pos rfl, if_pos rfl, ← h0.1, hu]; omega
                      · rw [if_neg e, if_neg (fun h => e h.symm), ← h0.1]; omega, (hb.setCell (p := ⟨w10.heap.size, s, none⟩) (Nat.le_refl _) _).drew⟩
                    clear hru hul hus hb hs hf hu hm hsm hfm hs5 c4' c5' huc huf
                    go_wp2
                    exact ⟨⟨k + 1, us.set s (u + f), by omega, by go_num, by rw [HREL.out.1], HREL.out.2.1, HREL.out.2.2.1, HREL.out.2.2.2.1, HREL.out.2.2.2.2⟩, by simp [intOf]; omega⟩
                  · obtain rfl : k = d1.length := by omega
                    have tF : F.take d1.length = F := List.take_of_length_le (by omega)
                    have tS : ss.take d1.length = ss := List.take_of_length_le (by omega)
                    rw [tF, tS] at hus
                    rw [tS]
                    obtain ⟨⟨e1, e2⟩, e3, e4, e5⟩ := rounds_end F HFI.out lm ss n HFT.out HMIN.out (by have := Q0.out; omega)
                    rw [hsm] at e5
                    obtain ⟨m, hm⟩ : ∃ m, cntL ss = m := ⟨_, rfl⟩
                    rw [hm] at e1 e2 e3 e4 e5
                    rw [hm]
                    have E1 := Lib.hid e1
                    have hm6 : m ≤ 6 := by have := Q2.out; omega
                    have hmn : m ≤ d1.length := by omega
                    have HRU := Lib.hid hru
                    have HE3 : Hid (∀ a b, b < a → a < m → lm < us.getD a 0 + us.getD b 0) := Lib.hid fun a b h1 h2 => by rw [(hus a (by omega)).1, (hus b (by omega)).1]; exact e3 a b h1 h2
                    have HE4 : Hid (∀ a, a < m → us.getD a 0 ≤ lm) := Lib.hid fun a h1 => by rw [(hus a (by omega)).1]; exact e4 a h1
                    have HUB : Hid (∀ a, a < m → 0 ≤ us.getD a 0) := Lib.hid fun a h1 => (hus a (by omega)).2.1
                    have HUL := Lib.hid hul
                    have HBU := Lib.hid (HB10.out.trans (hb.mono HB10.out.size))
                    have E5 := Lib.hid e5
                    clear hru hus hul hb e1 e2 e3 e4 e5 tF tS hm
                    go_wp2
                    go_loopw [270] (fun i w' => ∃ a : Nat, a ≤ m ∧ i = .int .i64 a ∧ Below wu.heap.size wu w') (fun i _ => m - (intOf i).toNat)
                    case atStart => exact ⟨0, Nat.zero_le _, rfl, Below.refl _ _⟩
                    case round =>
                      obtain ⟨a, ha, rfl, hb⟩ := hrel
                      rename World => wv
                      by_cases hlt : a < m
                      · have hrv := HRU.out.below hb HRU.out.lt
                        have ca := hrv.cell (j := a) (by have := HUL.out; omega)
                        have HRV := Lib.hid hrv
                        obtain ⟨x, hx⟩ : ∃ x, us.getD a 0 = x := ⟨_, rfl⟩
                        have hx0 := HUB.out a hlt
                        have hx1 := HE4.out a hlt
                        rw [hx] at ca hx0 hx1
                        have HX := Lib.hid hx
                        clear hrv hx
                        have g1 : decide (lm < x) = false := by rw [decide_eq_false_iff_not]; omega
                        have HBV := Lib.hid hb
                        clear hb
                        go_wp2
                        go_loopw [274] (fun j w' => ∃ b : Nat, b ≤ a ∧ j = .int .i64 b ∧ Below wv.heap.size wv w') (fun j _ => a - (intOf j).toNat)
                        case atStart => exact ⟨0, Nat.zero_le _, rfl, Below.refl _ _⟩
                        case round =>
                          obtain ⟨b, hb', rfl, hbb⟩ := hrel
                          rename World => wy
                          have hry := HRV.out.below hbb HRV.out.lt
                          have cx := hry.cell (j := a) (by have := HUL.out; omega)
                          rw [HX.out] at cx
                          have HBY2 := Lib.hid hbb
                          by_cases hlt2 : b < a
                          · have cy := hry.cell (j := b) (by have := HUL.out; omega)
                            obtain ⟨y, hy⟩ : ∃ y, us.getD b 0 = y := ⟨_, rfl⟩
                            have hy0 := HUB.out b (by omega)
                            have hy1 := HE4.out b (by omega)
                            have hxy := HE3.out a b hlt2 hlt
                            rw [hy] at cy hy0 hy1 hxy
                            rw [HX.out] at hxy
                            have hw1 : IntKind.i64.wrap (x + y) = x + y := IntWalk.i64_in _ (by omega)
                            have g2 : decide (x + y ≤ lm) = false := by rw [decide_eq_false_iff_not]; omega
                            clear hry hbb hy
                            go_wp2
                            go_region
                            go_wp2
                            exact ⟨⟨b + 1, by omega, by go_num, HBY2.out.drew⟩, by simp [intOf]; omega⟩
                          · obtain rfl : b = a := by omega
                            clear hry hbb
                            go_wp2
                            exact ⟨⟨b + 1, by omega, by go_num, HBV.out.trans (HBY2.out.mono HBV.out.size)⟩, by simp [intOf]; omega⟩
                      · obtain rfl : a = m := by omega
                        have HBE := Lib.hid (HBU.out.trans (hb.mono HBU.out.size))
                        clear hb
                        have hm1 := E1.out
                        have hml : 0 ≤ (a : Int) * lm ∧ (a : Int) * lm ≤ 54 := ⟨Int.mul_nonneg (by omega) (by omega), by have := Int.mul_le_mul (show (a : Int) ≤ 6 by omega) hl2' (by omega) (by omega); omega⟩
                        have hw1 : IntKind.i64.wrap ((a : Int) * lm) = (a : Int) * lm := IntWalk.i64_in _ (by omega)
                        have g1 : decide (sm ≤ (a : Int) * lm) = true := by rw [decide_eq_true_eq]; exact E5.out
                        have HFI1 := fun W => fromInt_one a hm1 (by omega) W
                        have HSG := fun W => sign_one a hm1 (by omega) W
                        go_wp2_with (first | (go_at_call 10; (with_reducible refine (HFI1 _).mono ?_); rintro e wA ⟨rfl, hbA⟩) | (go_at_call 9; (with_reducible refine (HSG _).mono ?_); rintro e wB ⟨rfl, rfl⟩) | (go_at_call 5; (with_reducible refine (HG _).mono ?_); rintro e wC ⟨rfl, hbC⟩))
                        go_ret
                        have T1 := hbA.trans (hbC.mono hbA.size)
                        have T2 := HBE.out.trans (T1.mono HBE.out.size)
                        exact ⟨rfl, FIN.out _ (HBQ.out.trans (T2.mono HBQ.out.size))⟩

end Go.Proofs.Ytclhohfkacgooaa
