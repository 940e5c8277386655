/- FormatAlone: the law's walk, its ways. -/
import Derived.Test.YthcohhphdcmkcaaGreatDoorAloA
import Derived.Test.YthcohhphdcmkcaaGreatDoorMatB
import Derived.Test.YthcohhphdcmkcaaGreatDoorScoD
import Derived.Test.YthcohhphdcmkcaaGreatDoorMgE
import Derived.Test.YthcohhphdcmkcaaGreatDoorAwkD
import Derived.Outline
set_option linter.unusedVariables false
set_option linter.unusedSimpArgs false
namespace Go.Proofs.YthcohhphdcmkcaaGreatDoor
open Go.RowKit


set_option maxRecDepth 100000 in
set_option maxHeartbeats 16000000 in
theorem alone_many (H A B : Option Addr) (ch c d : Nat) (hs : List (Int × Int)) (a b : Pl) (w : World) (ha : EntriesR w A a.l) (hb : EntriesR w B b.l) (hf : fewB hs.length [a, b] = false) :
    Calls Tryz.prog 4 #[.slice H hs.length ch, .agg #[.string a.nm, .slice A a.l.length c, .int .i64 a.h], .agg #[.string b.nm, .slice B b.l.length d, .int .i64 b.h]] w fun e w' => e = .returned (.bool true) ∧ Below w.heap.size w w' := by
  have HA := Lib.hid ha
  have HB := Lib.hid hb
  have HF := Lib.hid hf
  clear ha hb hf
  go_enter Tryz.func4, Tryz.ntmps4
  go_wp2_with fail
  generalize hW1 : ((w.alloc (.cells #[.string a.nm, .slice A a.l.length c, .int .i64 a.h] 27)).alloc (.cells #[.string b.nm, .slice B b.l.length d, .int .i64 b.h] 27)).alloc (.cells #[.string a.nm, .slice A a.l.length c, .int .i64 a.h, .string b.nm, .slice B b.l.length d, .int .i64 b.h] 27) = w1
  obtain ⟨a1, a2, a3, a4, a5⟩ := three_allocs w _ _ _ _ _ _ hW1
  have HAB1 : Hid (HeldAB w.heap.size a b A B c d w w1) := Lib.hid ⟨a1, a2, a4⟩
  refine (few_any _ _ 2 ch hs.length [a, b] w1 (PlayersR.two a3 (HA.out.keep a4) (HB.out.keep a4)) (by simp)).mono ?_
  rintro e w2 ⟨rfl, hb2⟩
  rw [HF.out]
  have HAB2 := Lib.hid (HAB1.out.below hb2)
  clear hW1 a1 a2 a3 a4 a5 hb2 HAB1
  go_wp2_with fail
  refine (awake_any _).mono ?_
  rintro e wz ⟨rfl, hbz⟩
  have HBZ := Lib.hid (HAB2.out.2.2.trans (hbz.mono HAB2.out.2.2.size))
  clear hbz
  go_wp2
  go_ret
  exact ⟨rfl, HBZ.out⟩


set_option maxRecDepth 100000 in
set_option maxHeartbeats 16000000 in
theorem alone_first (H A B : Option Addr) (ch c d : Nat) (hs : List (Int × Int)) (a b : Pl) (w : World) (ha : EntriesR w A a.l) (hb : EntriesR w B b.l) (hf : fewB hs.length [a, b] = true) (pa : Int) (hp : pa ≠ 0)
    (kA : ∀ W, Below w.heap.size w W → Calls Tryz.prog 9 #[.slice H hs.length ch, .agg #[.string a.nm, .slice A a.l.length c, .int .i64 a.h]] W fun e w' => e = .returned (.int .i64 pa) ∧ Below W.heap.size W w') :
    Calls Tryz.prog 4 #[.slice H hs.length ch, .agg #[.string a.nm, .slice A a.l.length c, .int .i64 a.h], .agg #[.string b.nm, .slice B b.l.length d, .int .i64 b.h]] w fun e w' => e = .returned (.bool true) ∧ Below w.heap.size w w' := by
  have HA := Lib.hid ha
  have HB := Lib.hid hb
  have HF := Lib.hid hf
  have HCA := Lib.hid kA
  have hpn : (pa != 0) = true := bne_iff_ne.2 hp
  clear ha hb hf kA hp
  go_enter Tryz.func4, Tryz.ntmps4
  go_wp2_with fail
  generalize hW1 : ((w.alloc (.cells #[.string a.nm, .slice A a.l.length c, .int .i64 a.h] 27)).alloc (.cells #[.string b.nm, .slice B b.l.length d, .int .i64 b.h] 27)).alloc (.cells #[.string a.nm, .slice A a.l.length c, .int .i64 a.h, .string b.nm, .slice B b.l.length d, .int .i64 b.h] 27) = w1
  obtain ⟨a1, a2, a3, a4, a5⟩ := three_allocs w _ _ _ _ _ _ hW1
  have HAB1 : Hid (HeldAB w.heap.size a b A B c d w w1) := Lib.hid ⟨a1, a2, a4⟩
  refine (few_any _ _ 2 ch hs.length [a, b] w1 (PlayersR.two a3 (HA.out.keep a4) (HB.out.keep a4)) (by simp)).mono ?_
  rintro e w2 ⟨rfl, hb2⟩
  rw [HF.out]
  have HAB2 := Lib.hid (HAB1.out.below hb2)
  clear hW1 a1 a2 a3 a4 a5 hb2 HAB1
  obtain ⟨k0, k1, k2, k3, k4, k5, _⟩ := HAB2.out.s6
  go_wp2_with fail
  refine (HCA.out _ HAB2.out.2.2).mono ?_
  rintro e w3 ⟨rfl, hb3⟩
  have HAB3 := Lib.hid (HAB2.out.below hb3)
  clear hb3 HAB2 HCA k0 k1 k2 k3 k4 k5
  go_wp2_with fail
  refine (awake_any _).mono ?_
  rintro e wz ⟨rfl, hbz⟩
  have HBZ := Lib.hid (HAB3.out.2.2.trans (hbz.mono HAB3.out.2.2.size))
  clear hbz
  go_wp2
  go_ret
  exact ⟨rfl, HBZ.out⟩


set_option maxRecDepth 100000 in
set_option maxHeartbeats 16000000 in
theorem alone_second (H A B : Option Addr) (ch c d : Nat) (hs : List (Int × Int)) (a b : Pl) (w : World) (ha : EntriesR w A a.l) (hb : EntriesR w B b.l) (hf : fewB hs.length [a, b] = true) (pb : Int) (hp : pb ≠ 0)
    (kA : ∀ W, Below w.heap.size w W → Calls Tryz.prog 9 #[.slice H hs.length ch, .agg #[.string a.nm, .slice A a.l.length c, .int .i64 a.h]] W fun e w' => e = .returned (.int .i64 0) ∧ Below W.heap.size W w')
    (kB : ∀ W, Below w.heap.size w W → Calls Tryz.prog 9 #[.slice H hs.length ch, .agg #[.string b.nm, .slice B b.l.length d, .int .i64 b.h]] W fun e w' => e = .returned (.int .i64 pb) ∧ Below W.heap.size W w') :
    Calls Tryz.prog 4 #[.slice H hs.length ch, .agg #[.string a.nm, .slice A a.l.length c, .int .i64 a.h], .agg #[.string b.nm, .slice B b.l.length d, .int .i64 b.h]] w fun e w' => e = .returned (.bool true) ∧ Below w.heap.size w w' := by
  have HA := Lib.hid ha
  have HB := Lib.hid hb
  have HF := Lib.hid hf
  have HCA := Lib.hid kA
  have HCB := Lib.hid kB
  have hpn : (pb != 0) = true := bne_iff_ne.2 hp
  clear ha hb hf kA kB hp
  go_enter Tryz.func4, Tryz.ntmps4
  go_wp2_with fail
  generalize hW1 : ((w.alloc (.cells #[.string a.nm, .slice A a.l.length c, .int .i64 a.h] 27)).alloc (.cells #[.string b.nm, .slice B b.l.length d, .int .i64 b.h] 27)).alloc (.cells #[.string a.nm, .slice A a.l.length c, .int .i64 a.h, .string b.nm, .slice B b.l.length d, .int .i64 b.h] 27) = w1
  obtain ⟨a1, a2, a3, a4, a5⟩ := three_allocs w _ _ _ _ _ _ hW1
  have HAB1 : Hid (HeldAB w.heap.size a b A B c d w w1) := Lib.hid ⟨a1, a2, a4⟩
  refine (few_any _ _ 2 ch hs.length [a, b] w1 (PlayersR.two a3 (HA.out.keep a4) (HB.out.keep a4)) (by simp)).mono ?_
  rintro e w2 ⟨rfl, hb2⟩
  rw [HF.out]
  have HAB2 := Lib.hid (HAB1.out.below hb2)
  clear hW1 a1 a2 a3 a4 a5 hb2 HAB1
  obtain ⟨k0, k1, k2, k3, k4, k5, _⟩ := HAB2.out.s6
  go_wp2_with fail
  refine (HCA.out _ HAB2.out.2.2).mono ?_
  rintro e w3 ⟨rfl, hb3⟩
  have HAB3 := Lib.hid (HAB2.out.below hb3)
  clear hb3 HAB2 HCA k0 k1 k2 k3 k4 k5
  obtain ⟨k0, k1, k2, k3, k4, k5, _⟩ := HAB3.out.s6
  go_wp2_with fail
  refine (HCB.out _ HAB3.out.2.2).mono ?_
  rintro e w4 ⟨rfl, hb4⟩
  have HAB4 := Lib.hid (HAB3.out.below hb4)
  clear hb4 HAB3 HCB k0 k1 k2 k3 k4 k5
  go_wp2_with fail
  refine (awake_any _).mono ?_
  rintro e wz ⟨rfl, hbz⟩
  have HBZ := Lib.hid (HAB4.out.2.2.trans (hbz.mono HAB4.out.2.2.size))
  clear hbz
  go_wp2
  go_ret
  exact ⟨rfl, HBZ.out⟩


set_option maxRecDepth 100000 in
set_option maxHeartbeats 16000000 in
theorem alone_names (H A B : Option Addr) (ch c d : Nat) (hs : List (Int × Int)) (a b : Pl) (w : World) (ha : EntriesR w A a.l) (hb : EntriesR w B b.l) (hf : fewB hs.length [a, b] = true) (hx : (decide (a.nm = b.nm) || decide (a.nm = twinN) || decide (b.nm = twinN)) = true)
    (kA : ∀ W, Below w.heap.size w W → Calls Tryz.prog 9 #[.slice H hs.length ch, .agg #[.string a.nm, .slice A a.l.length c, .int .i64 a.h]] W fun e w' => e = .returned (.int .i64 0) ∧ Below W.heap.size W w')
    (kB : ∀ W, Below w.heap.size w W → Calls Tryz.prog 9 #[.slice H hs.length ch, .agg #[.string b.nm, .slice B b.l.length d, .int .i64 b.h]] W fun e w' => e = .returned (.int .i64 0) ∧ Below W.heap.size W w') :
    Calls Tryz.prog 4 #[.slice H hs.length ch, .agg #[.string a.nm, .slice A a.l.length c, .int .i64 a.h], .agg #[.string b.nm, .slice B b.l.length d, .int .i64 b.h]] w fun e w' => e = .returned (.bool true) ∧ Below w.heap.size w w' := by
  have HA := Lib.hid ha
  have HB := Lib.hid hb
  have HF := Lib.hid hf
  have HCA := Lib.hid kA
  have HCB := Lib.hid kB
  clear ha hb hf kA kB
  have he1 := name_eq a.nm b.nm
  have he2 := name_eq a.nm twinN
  have he3 := name_eq b.nm twinN
  rw [show twinN.toList = [116, 119, 105, 110] by rw [Lib.toList_data]; rfl] at he2 he3
  generalize decide (a.nm = b.nm) = e1 at he1 hx
  generalize decide (a.nm = twinN) = e2 at he2 hx
  generalize decide (b.nm = twinN) = e3 at he3 hx
  go_enter Tryz.func4, Tryz.ntmps4
  go_wp2_with fail
  generalize hW1 : ((w.alloc (.cells #[.string a.nm, .slice A a.l.length c, .int .i64 a.h] 27)).alloc (.cells #[.string b.nm, .slice B b.l.length d, .int .i64 b.h] 27)).alloc (.cells #[.string a.nm, .slice A a.l.length c, .int .i64 a.h, .string b.nm, .slice B b.l.length d, .int .i64 b.h] 27) = w1
  obtain ⟨a1, a2, a3, a4, a5⟩ := three_allocs w _ _ _ _ _ _ hW1
  have HAB1 : Hid (HeldAB w.heap.size a b A B c d w w1) := Lib.hid ⟨a1, a2, a4⟩
  refine (few_any _ _ 2 ch hs.length [a, b] w1 (PlayersR.two a3 (HA.out.keep a4) (HB.out.keep a4)) (by simp)).mono ?_
  rintro e w2 ⟨rfl, hb2⟩
  rw [HF.out]
  have HAB2 := Lib.hid (HAB1.out.below hb2)
  clear hW1 a1 a2 a3 a4 a5 hb2 HAB1
  obtain ⟨k0, k1, k2, k3, k4, k5, _⟩ := HAB2.out.s6
  go_wp2_with fail
  refine (HCA.out _ HAB2.out.2.2).mono ?_
  rintro e w3 ⟨rfl, hb3⟩
  have HAB3 := Lib.hid (HAB2.out.below hb3)
  clear hb3 HAB2 HCA k0 k1 k2 k3 k4 k5
  obtain ⟨k0, k1, k2, k3, k4, k5, _⟩ := HAB3.out.s6
  go_wp2_with fail
  refine (HCB.out _ HAB3.out.2.2).mono ?_
  rintro e w4 ⟨rfl, hb4⟩
  have HAB4 := Lib.hid (HAB3.out.below hb4)
  clear hb4 HAB3 HCB k0 k1 k2 k3 k4 k5
  obtain ⟨k0, k1, k2, k3, k4, k5, _⟩ := HAB4.out.s6
  cases e1 <;> cases e2 <;> cases e3
  · cases hx
  all_goals
    clear hx
    go_wp2_with fail
    refine (awake_any _).mono ?_
    rintro e wz ⟨rfl, hbz⟩
    have HBZ := Lib.hid (HAB4.out.2.2.trans (hbz.mono HAB4.out.2.2.size))
    clear hbz
    go_wp2
    go_ret
    exact ⟨rfl, HBZ.out⟩


set_option maxRecDepth 100000 in
set_option maxHeartbeats 16000000 in
theorem alone_main (H A B : Option Addr) (ch c d : Nat) (hs : List (Int × Int)) (a b : Pl) (w : World) (hr : HolesR w H hs) (hbl : ∀ x, H = some x → x.block < w.heap.size) (ha : EntriesR w A a.l) (hb : EntriesR w B b.l) (hf : fewB hs.length [a, b] = true) (hpa : plI hs a = 0) (hpb : plI hs b = 0) (n1 : a.nm ≠ b.nm) (n2 : a.nm ≠ twinN) (n3 : b.nm ≠ twinN)
    (kA : ∀ W, Below w.heap.size w W → Calls Tryz.prog 9 #[.slice H hs.length ch, .agg #[.string a.nm, .slice A a.l.length c, .int .i64 a.h]] W fun e w' => e = .returned (.int .i64 0) ∧ Below W.heap.size W w')
    (kB : ∀ W, Below w.heap.size w W → Calls Tryz.prog 9 #[.slice H hs.length ch, .agg #[.string b.nm, .slice B b.l.length d, .int .i64 b.h]] W fun e w' => e = .returned (.int .i64 0) ∧ Below W.heap.size W w') :
    Calls Tryz.prog 4 #[.slice H hs.length ch, .agg #[.string a.nm, .slice A a.l.length c, .int .i64 a.h], .agg #[.string b.nm, .slice B b.l.length d, .int .i64 b.h]] w fun e w' => e = .returned (.bool true) ∧ Below w.heap.size w w' := by
  have FA := fit_of (show playerI hs a.nm a.l a.h = 0 from hpa)
  have FB := fit_of (show playerI hs b.nm b.l b.h = 0 from hpb)
  have hz := player_holes (show playerI hs a.nm a.l a.h = 0 from hpa)
  have hmost : hs.length ≤ 36 := FA.most
  have la : (netsOf hs a.h a.l).length = hs.length := FA.netsLen
  have lb : (netsOf hs b.h b.l).length = hs.length := FB.netsLen
  have hpt := twin_player hpa
  have j1 : joinedE 4 hs [a, twinOf a] = 0 := joinedE_of hz rfl (go_two hpa hpt n2)
  have j2 : joinedE 2 hs [a, twinOf a] = 0 := joinedE_of hz rfl (go_two hpa hpt n2)
  have j3 : joinedE 4 hs [a, b] = 0 := joinedE_of hz rfl (go_two hpa hpb n1)
  have j4 : joinedE 4 hs [b, twinOf a, a] = 0 := joinedE_of hz rfl (go_three hpb hpt hpa n3 n1.symm n2.symm)
  have HA := Lib.hid ha
  have HB := Lib.hid hb
  have HF := Lib.hid hf
  have HCA := Lib.hid kA
  have HCB := Lib.hid kB
  have he1 := name_eq a.nm b.nm
  have he2 := name_eq a.nm twinN
  have he3 := name_eq b.nm twinN
  rw [show twinN.toList = [116, 119, 105, 110] by rw [Lib.toList_data]; rfl] at he2 he3
  rw [decide_eq_false n1] at he1
  rw [decide_eq_false n2] at he2
  rw [decide_eq_false n3] at he3
  have HNT := Lib.hid (fun W (hw : Below w.heap.size w W) => fmNets_yes H A ch c hs a.nm a.l a.h W (hr.keep hbl hw) (fun x hx => Nat.lt_of_lt_of_le (hbl x hx) hw.size) (ha.keep hw) hpa)
  have HF1 := Lib.hid (fun W (hw : Below w.heap.size w W) X cx (hp : PlayersR W X [a, twinOf a]) => fmFourball_yes X H cx ch hs [a, twinOf a] W (hr.keep hbl hw) (fun x hx => Nat.lt_of_lt_of_le (hbl x hx) hw.size) hp j1)
  have HG1 := Lib.hid (fun W (hw : Below w.heap.size w W) => fmAggregate_yes H A A ch c c hs a (twinOf a) W (hr.keep hbl hw) (fun x hx => Nat.lt_of_lt_of_le (hbl x hx) hw.size) (ha.keep hw) (ha.keep hw) j2)
  have HF2 := Lib.hid (fun W (hw : Below w.heap.size w W) X cx (hp : PlayersR W X [a, b]) => fmFourball_yes X H cx ch hs [a, b] W (hr.keep hbl hw) (fun x hx => Nat.lt_of_lt_of_le (hbl x hx) hw.size) hp j3)
  have HF3 := Lib.hid (fun W (hw : Below w.heap.size w W) X cx (hp : PlayersR W X [b, twinOf a, a]) => fmFourball_yes X H cx ch hs [b, twinOf a, a] W (hr.keep hbl hw) (fun x hx => Nat.lt_of_lt_of_le (hbl x hx) hw.size) hp j4)
  rw [alone_own la] at HF1
  rw [alone_three la lb] at HF3
  have HTOT := Lib.hid (fun j (hj : j < hs.length) => alone_total la j hj)
  have HSM := Lib.hid FA.netsSmall
  have HLST := Lib.hid (fun j (hj : j < hs.length) => alone_least la lb j hj)
  have GL := joinedL_len totalM hs [a, twinOf a]
  have TL := joinedL_len minM hs [a, b]
  clear hr hbl ha hb hf kA kB hpa hpb n1 n2 n3 FA FB hz hpt j1 j2 j3 j4 lb
  generalize joinedL totalM hs [a, twinOf a] = G at HG1 HTOT GL
  generalize joinedL minM hs [a, b] = T at HF2 HF3 HLST TL
  generalize netsOf hs a.h a.l = N at HNT HF1 HTOT HLST HSM la
  have HNL := Lib.hid la
  have HGL := Lib.hid GL
  have HTL := Lib.hid TL
  have x1 : ((N.length : Int) != (hs.length : Int)) = false := by rw [la]; exact bne_self_eq_false' _
  have x2 : ((G.length : Int) != (hs.length : Int)) = false := by rw [GL]; exact bne_self_eq_false' _
  have x3 : ((T.length : Int) != (hs.length : Int)) = false := by rw [TL]; exact bne_self_eq_false' _
  clear la GL TL
  go_enter Tryz.func4, Tryz.ntmps4
  go_wp2_with fail
  generalize hW1 : ((w.alloc (.cells #[.string a.nm, .slice A a.l.length c, .int .i64 a.h] 27)).alloc (.cells #[.string b.nm, .slice B b.l.length d, .int .i64 b.h] 27)).alloc (.cells #[.string a.nm, .slice A a.l.length c, .int .i64 a.h, .string b.nm, .slice B b.l.length d, .int .i64 b.h] 27) = w1
  obtain ⟨a1, a2, a3, a4, a5⟩ := three_allocs w _ _ _ _ _ _ hW1
  have HAB1 : Hid (HeldAB w.heap.size a b A B c d w w1) := Lib.hid ⟨a1, a2, a4⟩
  refine (few_any _ _ 2 ch hs.length [a, b] w1 (PlayersR.two a3 (HA.out.keep a4) (HB.out.keep a4)) (by simp)).mono ?_
  rintro e w2 ⟨rfl, hb2⟩
  rw [HF.out]
  have HAB2 := Lib.hid (HAB1.out.below hb2)
  clear hW1 a1 a2 a3 a4 a5 hb2 HAB1
  obtain ⟨k0, k1, k2, k3, k4, k5, _⟩ := HAB2.out.s6
  go_wp2_with fail
  refine (HCA.out _ HAB2.out.2.2).mono ?_
  rintro e w3 ⟨rfl, hb3⟩
  have HAB3 := Lib.hid (HAB2.out.below hb3)
  clear hb3 HAB2 HCA k0 k1 k2 k3 k4 k5
  obtain ⟨k0, k1, k2, k3, k4, k5, _⟩ := HAB3.out.s6
  go_wp2_with fail
  refine (HCB.out _ HAB3.out.2.2).mono ?_
  rintro e w4 ⟨rfl, hb4⟩
  have HAB4 := Lib.hid (HAB3.out.below hb4)
  clear hb4 HAB3 HCB k0 k1 k2 k3 k4 k5
  obtain ⟨k0, k1, k2, k3, k4, k5, _⟩ := HAB4.out.s6
  go_upto_region 4 with fail
  obtain ⟨w5, hW5⟩ : ∃ w5, w4.alloc (.cells #[.string ⟨#[116, 119, 105, 110]⟩, .slice A a.l.length c, .int .i64 a.h] 27) = w5 := ⟨_, rfl⟩
  rw [hW5]
  obtain ⟨b7, hb7⟩ : ∃ b7, w4.heap.size = b7 := ⟨_, rfl⟩
  rw [hb7]
  obtain ⟨c1, c2, c3⟩ := one_alloc w4 _ _ hW5
  have HAB5 := Lib.hid (HAB4.out.below c2)
  have HT5 : Hid (BlkV w5 b7 27 #[.string twinN, .slice A a.l.length c, .int .i64 a.h]) := Lib.hid (hb7 ▸ c1)
  clear hW5 hb7 c1 c2 c3 HAB4 k0 k1 k2 k3 k4 k5
  obtain ⟨k0, k1, k2, k3, k4, k5, _⟩ := HAB5.out.s6
  have t0 := HT5.out.cell 0
  have t1 := HT5.out.cell 1
  have t2 := HT5.out.cell 2
  simp only [List.getElem?_toArray, List.getElem?_cons_zero, List.getElem?_cons_succ] at t0 t1 t2
  go_wp2_with fail
  refine (HNT.out w5 HAB5.out.2.2).mono ?_
  rintro e w6 ⟨An, cn, rfl, hent, hge, hb6⟩
  have HAB6 := Lib.hid (HAB5.out.below hb6)
  have HT6 := Lib.hid (HT5.out.below hb6 HT5.out.lt)
  have HEN := Lib.hid hent
  clear hent hge
  clear hb6 HAB5 HT5 k0 k1 k2 k3 k4 k5 t0 t1 t2 HNT
  obtain ⟨k0, k1, k2, k3, k4, k5, _⟩ := HAB6.out.s6
  have t0 := HT6.out.cell 0
  have t1 := HT6.out.cell 1
  have t2 := HT6.out.cell 2
  simp only [List.getElem?_toArray, List.getElem?_cons_zero, List.getElem?_cons_succ] at t0 t1 t2
  go_wp2_with fail
  obtain ⟨w7, hW7⟩ : ∃ w7, w6.alloc (.cells #[.string a.nm, .slice A a.l.length c, .int .i64 a.h, .string twinN, .slice A a.l.length c, .int .i64 a.h] 27) = w7 := ⟨_, rfl⟩
  rw [hW7]
  obtain ⟨c1, c2, c3⟩ := one_alloc w6 _ _ hW7
  have HAB7 := Lib.hid (HAB6.out.below c2)
  have HT7 := Lib.hid (HT6.out.below c2 HT6.out.lt)
  have HBK := Lib.hid c1
  replace HEN := Lib.hid (HEN.out.keep c2)
  clear hW7 c1 c2 c3 HAB6 HT6 k0 k1 k2 k3 k4 k5 t0 t1 t2
  refine (HF1.out w7 HAB7.out.2.2 _ 2 (PlayersR.two (a := a) (b := twinOf a) HBK.out (HA.out.keep HAB7.out.2.2) (HA.out.keep HAB7.out.2.2))).mono ?_
  rintro e w8 ⟨gF, rfl, hblk, _, hb8⟩
  have HAB8 := Lib.hid (HAB7.out.below hb8)
  have HT8 := Lib.hid (HT7.out.below hb8 HT7.out.lt)
  replace HEN := Lib.hid (HEN.out.keep hb8)
  have HGF := Lib.hid hblk
  clear hblk
  clear hb8 HAB7 HT7 HBK HF1
  obtain ⟨k0, k1, k2, k3, k4, k5, _⟩ := HAB8.out.s6
  have t0 := HT8.out.cell 0
  have t1 := HT8.out.cell 1
  have t2 := HT8.out.cell 2
  simp only [List.getElem?_toArray, List.getElem?_cons_zero, List.getElem?_cons_succ] at t0 t1 t2
  go_wp2_with fail
  refine (HG1.out w8 HAB8.out.2.2).mono ?_
  rintro e w9 ⟨gG, rfl, hblk, _, hb9⟩
  have HAB9 := Lib.hid (HAB8.out.below hb9)
  have HT9 := Lib.hid (HT8.out.below hb9 HT8.out.lt)
  replace HEN := Lib.hid (HEN.out.keep hb9)
  replace HGF := Lib.hid (BlkV.below HGF.out hb9 (BlkV.lt HGF.out))
  have HGG := Lib.hid hblk
  clear hblk
  clear hb9 HAB8 HT8 k0 k1 k2 k3 k4 k5 t0 t1 t2 HG1
  obtain ⟨k0, k1, k2, k3, k4, k5, _⟩ := HAB9.out.s6
  have t0 := HT9.out.cell 0
  have t1 := HT9.out.cell 1
  have t2 := HT9.out.cell 2
  simp only [List.getElem?_toArray, List.getElem?_cons_zero, List.getElem?_cons_succ] at t0 t1 t2
  go_wp2_with fail
  obtain ⟨w10, hW10⟩ : ∃ w10, w9.alloc (.cells #[.string a.nm, .slice A a.l.length c, .int .i64 a.h, .string b.nm, .slice B b.l.length d, .int .i64 b.h] 27) = w10 := ⟨_, rfl⟩
  rw [hW10]
  obtain ⟨c1, c2, c3⟩ := one_alloc w9 _ _ hW10
  have HAB10 := Lib.hid (HAB9.out.below c2)
  have HT10 := Lib.hid (HT9.out.below c2 HT9.out.lt)
  have HBK := Lib.hid c1
  replace HEN := Lib.hid (HEN.out.keep c2)
  replace HGF := Lib.hid (BlkV.below HGF.out c2 (BlkV.lt HGF.out))
  replace HGG := Lib.hid (BlkV.below HGG.out c2 (BlkV.lt HGG.out))
  clear hW10 c1 c2 c3 HAB9 HT9 k0 k1 k2 k3 k4 k5 t0 t1 t2
  refine (HF2.out w10 HAB10.out.2.2 _ 2 (PlayersR.two HBK.out (HA.out.keep HAB10.out.2.2) (HB.out.keep HAB10.out.2.2))).mono ?_
  rintro e w11 ⟨gT, rfl, hblk, _, hb11⟩
  have HAB11 := Lib.hid (HAB10.out.below hb11)
  have HT11 := Lib.hid (HT10.out.below hb11 HT10.out.lt)
  replace HEN := Lib.hid (HEN.out.keep hb11)
  replace HGF := Lib.hid (BlkV.below HGF.out hb11 (BlkV.lt HGF.out))
  replace HGG := Lib.hid (BlkV.below HGG.out hb11 (BlkV.lt HGG.out))
  have HGT := Lib.hid hblk
  clear hblk
  clear hb11 HAB10 HT10 HBK HF2
  obtain ⟨k0, k1, k2, k3, k4, k5, _⟩ := HAB11.out.s6
  have t0 := HT11.out.cell 0
  have t1 := HT11.out.cell 1
  have t2 := HT11.out.cell 2
  simp only [List.getElem?_toArray, List.getElem?_cons_zero, List.getElem?_cons_succ] at t0 t1 t2
  go_wp2_with fail
  obtain ⟨w12, hW12⟩ : ∃ w12, w11.alloc (.cells #[.string b.nm, .slice B b.l.length d, .int .i64 b.h, .string twinN, .slice A a.l.length c, .int .i64 a.h, .string a.nm, .slice A a.l.length c, .int .i64 a.h] 27) = w12 := ⟨_, rfl⟩
  rw [hW12]
  obtain ⟨c1, c2, c3⟩ := one_alloc w11 _ _ hW12
  have HAB12 := Lib.hid (HAB11.out.below c2)
  have HT12 := Lib.hid (HT11.out.below c2 HT11.out.lt)
  have HBK := Lib.hid c1
  replace HEN := Lib.hid (HEN.out.keep c2)
  replace HGF := Lib.hid (BlkV.below HGF.out c2 (BlkV.lt HGF.out))
  replace HGG := Lib.hid (BlkV.below HGG.out c2 (BlkV.lt HGG.out))
  replace HGT := Lib.hid (BlkV.below HGT.out c2 (BlkV.lt HGT.out))
  clear hW12 c1 c2 c3 HAB11 HT11 k0 k1 k2 k3 k4 k5 t0 t1 t2
  refine (HF3.out w12 HAB12.out.2.2 _ 3 (PlayersR.three (p := b) (q := twinOf a) (r := a) HBK.out (HB.out.keep HAB12.out.2.2) (HA.out.keep HAB12.out.2.2) (HA.out.keep HAB12.out.2.2))).mono ?_
  rintro e w13 ⟨gH, rfl, hblk, _, hb13⟩
  have HAB13 := Lib.hid (HAB12.out.below hb13)
  have HT13 := Lib.hid (HT12.out.below hb13 HT12.out.lt)
  replace HEN := Lib.hid (HEN.out.keep hb13)
  replace HGF := Lib.hid (BlkV.below HGF.out hb13 (BlkV.lt HGF.out))
  replace HGG := Lib.hid (BlkV.below HGG.out hb13 (BlkV.lt HGG.out))
  replace HGT := Lib.hid (BlkV.below HGT.out hb13 (BlkV.lt HGT.out))
  have HGH := Lib.hid hblk
  clear hblk
  clear hb13 HAB12 HT12 HBK HF3
  go_wp2_with fail
  refine (lawNets_any (some ⟨gF, 0, none⟩) N.length N w13 (NetBlk.entries HGF.out) (by have := HNL.out; have := HTL.out; omega)).mono ?_
  rintro e w14 ⟨vP, rfl, ho, hb14⟩
  have HAB14 := Lib.hid (HAB13.out.below hb14)
  have HT14 := Lib.hid (HT13.out.below hb14 HT13.out.lt)
  replace HEN := Lib.hid (HEN.out.keep hb14)
  replace HGF := Lib.hid (BlkV.below HGF.out hb14 (BlkV.lt HGF.out))
  replace HGG := Lib.hid (BlkV.below HGG.out hb14 (BlkV.lt HGG.out))
  replace HGT := Lib.hid (BlkV.below HGT.out hb14 (BlkV.lt HGT.out))
  replace HGH := Lib.hid (BlkV.below HGH.out hb14 (BlkV.lt HGH.out))
  obtain ⟨AP, cP, rfl, he⟩ := ho.entries
  have HEP := Lib.hid he
  clear ho he
  clear hb14 HAB13 HT13
  go_wp2_with fail
  refine (lawNets_any An cn N w14 HEN.out (by have := HNL.out; have := HTL.out; omega)).mono ?_
  rintro e w15 ⟨vQ, rfl, ho, hb15⟩
  have HAB15 := Lib.hid (HAB14.out.below hb15)
  have HT15 := Lib.hid (HT14.out.below hb15 HT14.out.lt)
  replace HEN := Lib.hid (HEN.out.keep hb15)
  replace HGF := Lib.hid (BlkV.below HGF.out hb15 (BlkV.lt HGF.out))
  replace HGG := Lib.hid (BlkV.below HGG.out hb15 (BlkV.lt HGG.out))
  replace HGT := Lib.hid (BlkV.below HGT.out hb15 (BlkV.lt HGT.out))
  replace HGH := Lib.hid (BlkV.below HGH.out hb15 (BlkV.lt HGH.out))
  replace HEP := Lib.hid (HEP.out.keep hb15)
  obtain ⟨AQ, cQ, rfl, he⟩ := ho.entries
  have HEQ := Lib.hid he
  clear ho he
  clear hb15 HAB14 HT14
  go_wp2_with fail
  refine ((sameNets_any AP AQ cP cQ N w15 HEP.out HEQ.out (by have := HNL.out; omega)).mono (fun e w' (h : _ ∧ ∃ n, w' = w15.drewN n) => show e = _ ∧ Below w15.heap.size w15 w' from ⟨h.1, by obtain ⟨n, hn⟩ := h.2; subst hn; exact below_drewN (Below.refl _ _) n⟩)).mono ?_
  rintro e w16 ⟨rfl, hb16⟩
  have HAB16 := Lib.hid (HAB15.out.below hb16)
  have HT16 := Lib.hid (HT15.out.below hb16 HT15.out.lt)
  replace HEN := Lib.hid (HEN.out.keep hb16)
  replace HGF := Lib.hid (BlkV.below HGF.out hb16 (BlkV.lt HGF.out))
  replace HGG := Lib.hid (BlkV.below HGG.out hb16 (BlkV.lt HGG.out))
  replace HGT := Lib.hid (BlkV.below HGT.out hb16 (BlkV.lt HGT.out))
  replace HGH := Lib.hid (BlkV.below HGH.out hb16 (BlkV.lt HGH.out))
  replace HEP := Lib.hid (HEP.out.keep hb16)
  replace HEQ := Lib.hid (HEQ.out.keep hb16)
  clear hb16 HAB15 HT15
  go_wp2_with fail
  refine (lawNets_any (some ⟨gH, 0, none⟩) T.length T w16 (NetBlk.entries HGH.out) (by have := HNL.out; have := HTL.out; omega)).mono ?_
  rintro e w17 ⟨vR, rfl, ho, hb17⟩
  have HAB17 := Lib.hid (HAB16.out.below hb17)
  have HT17 := Lib.hid (HT16.out.below hb17 HT16.out.lt)
  replace HEN := Lib.hid (HEN.out.keep hb17)
  replace HGF := Lib.hid (BlkV.below HGF.out hb17 (BlkV.lt HGF.out))
  replace HGG := Lib.hid (BlkV.below HGG.out hb17 (BlkV.lt HGG.out))
  replace HGT := Lib.hid (BlkV.below HGT.out hb17 (BlkV.lt HGT.out))
  replace HGH := Lib.hid (BlkV.below HGH.out hb17 (BlkV.lt HGH.out))
  replace HEP := Lib.hid (HEP.out.keep hb17)
  replace HEQ := Lib.hid (HEQ.out.keep hb17)
  obtain ⟨AR, cR, rfl, he⟩ := ho.entries
  have HER := Lib.hid he
  clear ho he
  clear hb17 HAB16 HT16
  go_wp2_with fail
  refine (lawNets_any (some ⟨gT, 0, none⟩) T.length T w17 (NetBlk.entries HGT.out) (by have := HNL.out; have := HTL.out; omega)).mono ?_
  rintro e w18 ⟨vU, rfl, ho, hb18⟩
  have HAB18 := Lib.hid (HAB17.out.below hb18)
  have HT18 := Lib.hid (HT17.out.below hb18 HT17.out.lt)
  replace HEN := Lib.hid (HEN.out.keep hb18)
  replace HGF := Lib.hid (BlkV.below HGF.out hb18 (BlkV.lt HGF.out))
  replace HGG := Lib.hid (BlkV.below HGG.out hb18 (BlkV.lt HGG.out))
  replace HGT := Lib.hid (BlkV.below HGT.out hb18 (BlkV.lt HGT.out))
  replace HGH := Lib.hid (BlkV.below HGH.out hb18 (BlkV.lt HGH.out))
  replace HEP := Lib.hid (HEP.out.keep hb18)
  replace HEQ := Lib.hid (HEQ.out.keep hb18)
  replace HER := Lib.hid (HER.out.keep hb18)
  obtain ⟨AU, cU, rfl, he⟩ := ho.entries
  have HEU := Lib.hid he
  clear ho he
  clear hb18 HAB17 HT17
  go_wp2_with fail
  refine (sameNets_any AR AU cR cU T w18 HER.out HEU.out (by have := HTL.out; omega)).mono ?_
  rintro e wx ⟨rfl, nx, rfl⟩
  obtain ⟨wq, hWq⟩ : ∃ wq, w18.drewN nx = wq := ⟨_, rfl⟩
  rw [hWq]
  have hq : Below w18.heap.size w18 wq := by subst hWq; exact below_drewN (Below.refl _ _) nx
  have HBQ := Lib.hid (HAB18.out.2.2.trans (hq.mono HAB18.out.2.2.size))
  have EN := Lib.hid (HEN.out.keep hq)
  have EG : Hid (NetBlk wq gG G) := Lib.hid (BlkV.below HGG.out hq (BlkV.lt HGG.out))
  have ET : Hid (NetBlk wq gT T) := Lib.hid (BlkV.below HGT.out hq (BlkV.lt HGT.out))
  clear hWq hq HAB18 HT18 HEN HGG HGT HGF HGH HEP HEQ HER HEU
  go_wp2
  go_loopw [161] (fun iv w' => ∃ i n : Nat, i ≤ hs.length ∧ w' = wq.drewN n ∧ iv = .int .i64 i) (fun iv _ => hs.length - (intOf iv).toNat)
  case atStart => exact ⟨0, 0, Nat.zero_le _, rfl, rfl⟩
  case round =>
    obtain ⟨i, n, hi, rfl, rfl⟩ := hrel
    have hi0 : (0 : Int) ≤ (i : Int) := Int.natCast_nonneg _
    by_cases hil : i < hs.length
    · have hi1 : (i : Int) < (hs.length : Int) := by omega
      have iN : i < N.length := by have := HNL.out; omega
      have iG : i < G.length := by have := HGL.out; omega
      have iT : i < T.length := by have := HTL.out; omega
      have yN : (i : Int) < (N.length : Int) := by omega
      have yG : (i : Int) < (G.length : Int) := by omega
      have yT : (i : Int) < (T.length : Int) := by omega
      obtain ⟨an, rfl, d0, d1, _⟩ := EN.out i iN
      obtain ⟨g0, g1⟩ := NetBlk.cells EG.out iG
      obtain ⟨t0, t1⟩ := NetBlk.cells ET.out iT
      have htot := HTOT.out i hil
      have hlst := HLST.out i hil
      have hsb := HSM.out.at i iN
      generalize G.getD i (0, ByteArray.empty) = eg at g0 g1 htot
      generalize T.getD i (0, ByteArray.empty) = et at t0 t1 hlst
      generalize N.getD i (0, ByteArray.empty) = en at d0 d1 htot hlst hsb
      obtain ⟨s, mk⟩ := en
      obtain ⟨u, mg⟩ := eg
      obtain ⟨t, mt⟩ := et
      simp only at d0 d1 g0 g1 t0 t1 htot hlst hsb
      obtain ⟨hu, hm⟩ := htot
      have hw2 : IntKind.i64.wrap (2 * s) = 2 * s := IntWalk.i64_in _ (by omega)
      have hun : (u != 2 * s) = false := by rw [hu]; exact bne_self_eq_false' _
      clear iN iG iT hu hsb
      cases hmk : mk.toList.isEmpty
      · clear hlst
        go_wp2
        go_quiet (fail)
        go_wp2
        go_quiet (fail)
        go_wp2
        go_roundw
        case rel => exact ⟨i + 1, _, by omega, rfl, by go_num⟩
        case measure => simp [intOf]; omega
      · obtain ⟨h1, h2⟩ := hlst hmk
        have hd : decide (s < t) = false := decide_eq_false (by omega)
        clear hlst h2
        go_wp2
        go_quiet (fail)
        go_wp2
        go_quiet (fail)
        go_wp2
        go_roundw
        case rel => exact ⟨i + 1, _, by omega, rfl, by go_num⟩
        case measure => simp [intOf]; omega
    · have HB6 := Lib.hid (below_drewN HBQ.out n)
      go_wp2_with fail
      refine (awake_any _).mono ?_
      rintro e wz ⟨rfl, hbz⟩
      have HBZ := Lib.hid (HB6.out.trans (hbz.mono HB6.out.size))
      clear hbz
      go_wp2
      go_ret
      exact ⟨rfl, HBZ.out⟩


theorem alone_any (H A B : Option Addr) (ch c d : Nat) (hs : List (Int × Int)) (a b : Pl) (w : World) (hr : HolesR w H hs) (hbl : hs = [] ∨ ∀ x, H = some x → x.block < w.heap.size) (ha : EntriesR w A a.l) (hb : EntriesR w B b.l) :
    Calls Tryz.prog 4 #[.slice H hs.length ch, .agg #[.string a.nm, .slice A a.l.length c, .int .i64 a.h], .agg #[.string b.nm, .slice B b.l.length d, .int .i64 b.h]] w fun e w' => e = .returned (.bool true) ∧ Below w.heap.size w w' := by
  cases hf : fewB hs.length [a, b]
  · exact alone_many H A B ch c d hs a b w ha hb hf
  · have hb2 : hs.length ≤ 39 ∧ a.l.length ≤ 39 ∧ b.l.length ≤ 39 := by
      unfold fewB shortB at hf
      simp only [List.all_cons, List.all_nil, Bool.and_true, Bool.and_eq_true, decide_eq_true_eq] at hf
      exact ⟨hf.2, hf.1.1.1.2, hf.1.2.1.2⟩
    have o1 : hs.length ≤ 4611686018427387904 := by omega
    have o2 : a.l.length ≤ 4611686018427387904 := by omega
    have o3 : b.l.length ≤ 4611686018427387904 := by omega
    rcases hbl with hz | hbl
    · refine alone_first H A B ch c d hs a b w ha hb hf 12 (by decide) (fun W hw => ?_)
      subst hz
      exact refPlayer_nil H A ch c a.nm a.l a.h W
    · have kA := fun W (hw : Below w.heap.size w W) => refPlayer_any H A ch c hs a.nm a.l a.h W (hr.keep hbl hw) (fun x hx => Nat.lt_of_lt_of_le (hbl x hx) hw.size) o1 (ha.keep hw) o2
      have kB := fun W (hw : Below w.heap.size w W) => refPlayer_any H B ch d hs b.nm b.l b.h W (hr.keep hbl hw) (fun x hx => Nat.lt_of_lt_of_le (hbl x hx) hw.size) o1 (hb.keep hw) o3
      by_cases hpa : playerI hs a.nm a.l a.h = 0
      · rw [hpa] at kA
        by_cases hpb : playerI hs b.nm b.l b.h = 0
        · rw [hpb] at kB
          cases hx : (decide (a.nm = b.nm) || decide (a.nm = twinN) || decide (b.nm = twinN))
          · simp only [Bool.or_eq_false_iff, decide_eq_false_iff_not] at hx
            exact alone_main H A B ch c d hs a b w hr hbl ha hb hf hpa hpb hx.1.1 hx.1.2 hx.2 kA kB
          · exact alone_names H A B ch c d hs a b w ha hb hf hx kA kB
        · exact alone_second H A B ch c d hs a b w ha hb hf _ hpb kA kB
      · exact alone_first H A B ch c d hs a b w ha hb hf _ hpa kA

end Go.Proofs.YthcohhphdcmkcaaGreatDoor
