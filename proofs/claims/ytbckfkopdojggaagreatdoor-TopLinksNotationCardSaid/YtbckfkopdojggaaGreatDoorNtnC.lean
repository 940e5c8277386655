/- TopLinksNotation: the rounds over the players. -/
import Derived.Test.YtbckfkopdojggaaGreatDoorNtnR
import Derived.Test.YtbckfkopdojggaaGreatDoorNtnA
import Derived.Test.YtbckfkopdojggaaGreatDoorMgE
import Derived.Test.YtbckfkopdojggaaGreatDoorMgZ
import Derived.Test.YtbckfkopdojggaaGreatDoorNotP
import Derived.Test.YtbckfkopdojggaaGreatDoorMgF
import Derived.Test.YtbckfkopdojggaaGreatDoorMgD
import Derived.Deep.RegionHeld3
import Derived.Deep.DeepCutAuto
import Derived.Deep.CutBlock
import Derived.BigQuiet
import Derived.Deep.QuietTactic
import Derived.Outline
import Derived.Maps.RangeWalk
import Derived.Maps.OwnOps
import Derived.Maps.OwnSet
set_option linter.unusedVariables false
set_option linter.unusedSimpArgs false
namespace Go.Proofs.YtbckfkopdojggaaGreatDoor
open Go Go.RowKit Go.Maps

/-- The cards' slices have room for what they hold. -/
def CapsR (w : World) (A : Option Addr) (ps : List Pl) : Prop := ∀ j, j < ps.length → ∀ a B d, A = some a → w.cell? ⟨(a.add (j * 3)).block, (a.add (j * 3)).off + 1, none⟩ = some (.slice B (ps.getD j plD).l.length d) → (ps.getD j plD).l.length ≤ d
/-- The points' sum of the first holes, and whether they are all above nought. -/
def allP (b : Bool) (l : List Int) : Bool := b && l.all fun x => decide (0 < x)
theorem allP_take (b : Bool) (l : List Int) (j : Nat) (h : j < l.length) : allP b (l.take (j + 1)) = (allP b (l.take j) && decide (0 < l.getD j 0)) := by
  have e : l.getD j 0 = l[j] := by simp [List.getD, List.getElem?_eq_getElem h]
  unfold allP
  rw [List.take_succ_eq_append_getElem h, e, List.all_append]
  simp only [List.all_cons, List.all_nil, Bool.and_true, Bool.and_assoc]
theorem nt_sumc (y : Int) (l : List Int) : ForMath.sumI (y :: l) = y + ForMath.sumI l := rfl
theorem nt_sum (l : List Int) (j : Nat) (h : j < l.length) : ForMath.sumI (l.take (j + 1)) = ForMath.sumI (l.take j) + l.getD j 0 := by
  have e : l.getD j 0 = l[j] := by simp [List.getD, List.getElem?_eq_getElem h]
  have go : ∀ (l : List Int) (x : Int), ForMath.sumI (l ++ [x]) = ForMath.sumI l + x := by
    intro l x
    induction l with
    | nil => simp [ForMath.sumI]
    | cons y l ih => rw [List.cons_append, nt_sumc, nt_sumc, ih]; omega
  rw [List.take_succ_eq_append_getElem h, e, go]
theorem nt_sumB : ∀ (l : List Int), (∀ x ∈ l, -2000 ≤ x ∧ x ≤ 2000) → -2000 * (l.length : Int) ≤ ForMath.sumI l ∧ ForMath.sumI l ≤ 2000 * (l.length : Int)
  | [], _ => by simp [ForMath.sumI]
  | y :: l, h => by
    have h1 := h y (by simp)
    have h2 := nt_sumB l (fun x hx => h x (by simp [hx]))
    rw [nt_sumc]
    simp only [List.length_cons]
    omega
theorem nt_takeB (l : List Int) (j : Nat) (h : ∀ x ∈ l, -2000 ≤ x ∧ x ≤ 2000) (h36 : l.length ≤ 36) : -72000 ≤ ForMath.sumI (l.take j) ∧ ForMath.sumI (l.take j) ≤ 72000 := by
  have := nt_sumB (l.take j) (fun x hx => h x (List.mem_of_mem_take hx))
  have h2 : (l.take j).length ≤ 36 := by rw [List.length_take]; omega
  omega
theorem nt_wf {x : Int} (h : -9000000000000000000 ≤ x ∧ x ≤ 9000000000000000000) : (Lit.int .i64 x).wf = true := by
  simp only [Lit.wf, Bool.and_eq_true, decide_eq_true_eq]
  exact ⟨show (-9223372036854775808 : Int) ≤ x by omega, show x ≤ (9223372036854775807 : Int) by omega⟩

set_option maxRecDepth 100000 in
set_option maxHeartbeats 16000000 in
theorem ntT4 (X A0 : Option Addr) (nh ch np c0 g3 g4 : Nat) (ps : List Pl) (T : Int) (tx : Nat → ByteArray) (sc : Nat → Int × Int) (pt : Nat → List Int) (w W : World) {u2 u5 u6 u7 u8 u9 u10 u11 u12 u13 u14 u15 u16 u17 u18 u19 u20 u21 u22 u23 u24 u25 u26 u27 u28 u29 u30 u31 u32 u33 u34 u35 u36 u37 u38 u39 u40 u41 u42 u43 u44 u45 u46 u47 u48 u49 u50 u51 u52 u53 u54 u55 u56 u57 u58 u59 u60 u61 u62 u63 u64 u65 u66 u67 u68 u69 u70 u71 u72 u73 u74 u75 u76 u77 u78 u79 u80 u81 u82 u83 u84 u85 u86 u87 u88 u89 u90 u91 u92 u93 u94 u95 u96 u97 u98 u99 u100 u101 u102 u103 u104 u105 u106 u107 u108 u109 u110 u111 u112 u113 u114 u115 u116 u117 u118 u119 u120 u121 u122 u123 u124 u125 u126 u127 u128 u129 u130 u131 u132 u133 u134 u135 u136 u137 u138 u139 u140 u141 u142 u143 u144 u145 u146 u147 u148 u149 u150 u151 u152 u153 u154 u155 u156 u157 u158 u159 u160 u161 u162 u163 u164 u165 u166 u167 u168 u169 u170 u171 u172 u173 u174 u175 u176 u177 u178 u179 u180 u181 u182 u183 : Value} (lps : ps.length = np) (hnp : np ≤ 1000) (hT : -100000 ≤ T ∧ T ≤ 100000)
    (hX : BlkV W w.heap.size 25 #[.slice X nh ch, .slice A0 np c0]) (hB : Below w.heap.size w W) (h3 : W.ownsMap Tryz.prog 3 (plainElem Tryz.prog 3) g3 0 (.map [] : DataW Unit)) (h4 : W.ownsMap Tryz.prog 3 (plainElem Tryz.prog 3) g4 0 (.map [] : DataW Unit)) (g3b : w.heap.size < g3) (g4b : w.heap.size < g4) (g34 : g3 ≠ g4)
    (hps : PlayersR w A0 ps) (hcap : CapsR w A0 ps)
    (hpl : ∀ k, k < np → (ps.getD k plD).l.length ≤ 1000 ∧ (pt k).length ≤ 36 ∧ (∀ x ∈ pt k, -2000 ≤ x ∧ x ≤ 2000) ∧ ((sc k).2 = 0 ∨ (sc k).2 = 7) ∧ -90000 ≤ (sc k).1 ∧ (sc k).1 ≤ 90000 ∧ (allP (decide ((sc k).2 = 0)) (pt k) = true → (sc k).1 = T - ForMath.sumI (pt k)))
    (kPR : ∀ W k B d, Below w.heap.size w W → k < np → EntriesR W B (ps.getD k plD).l → (ps.getD k plD).l.length ≤ d → Calls Tryz.prog 21 #[.slice B (ps.getD k plD).l.length d] W fun e w' => e = .returned (.tuple #[.string (tx k), .int .i64 0]) ∧ Below W.heap.size W w')
    (kPA : ∀ W k, Below w.heap.size w W → k < np → Calls Tryz.prog 22 #[.string (tx k)] W (ParseOut (ps.getD k plD).l W))
    (kSC : ∀ W k nm B d, Below w.heap.size w W → k < np → (nm = (ps.getD k plD).nm ∨ nm = ⟨#[97, 103, 97, 105, 110]⟩) → EntriesR W B (ps.getD k plD).l → Calls Tryz.prog 24 #[.slice X nh ch, .agg #[.string nm, .slice B (ps.getD k plD).l.length d, .int .i64 (ps.getD k plD).h]] W fun e w' => e = .returned (.tuple #[.int .i64 (sc k).1, .int .i64 (sc k).2]) ∧ Below W.heap.size W w')
    (kPO : ∀ W k nm B d, Below w.heap.size w W → k < np → (nm = (ps.getD k plD).nm ∨ nm = ⟨#[97, 103, 97, 105, 110]⟩) → EntriesR W B (ps.getD k plD).l → Calls Tryz.prog 25 #[.slice X nh ch, .agg #[.string nm, .slice B (ps.getD k plD).l.length d, .int .i64 (ps.getD k plD).h]] W (RowOut (pt k) W))
    (kL : ∀ W, Below w.heap.size w W → Calls Tryz.prog 20 #[] W fun e w' => e = .returned (.bool true) ∧ Below W.heap.size W w') :
    Code.wp Tryz.prog (ntT 4) (bodyPost Tryz.prog Tryz.f4 (fun e w' => e = .returned (.bool true) ∧ Below w.heap.size w w')) { tmps := #[.agg #[.slice X nh ch, .slice A0 np c0], .pointer (some ⟨w.heap.size, 0, none⟩), u2, .map (some g3), .map (some g4), u5, u6, u7, u8, u9, u10, u11, u12, u13, u14, u15, u16, u17, u18, u19, u20, u21, u22, u23, u24, u25, u26, u27, u28, u29, u30, u31, u32, u33, u34, u35, u36, u37, u38, u39, u40, u41, u42, u43, u44, u45, u46, u47, u48, u49, u50, u51, u52, u53, u54, u55, u56, u57, u58, u59, u60, u61, u62, u63, u64, u65, u66, u67, u68, u69, u70, u71, u72, u73, u74, u75, u76, u77, u78, u79, u80, u81, u82, u83, u84, u85, u86, u87, u88, u89, u90, u91, u92, u93, u94, u95, u96, u97, u98, u99, u100, u101, u102, u103, u104, u105, u106, u107, u108, u109, u110, u111, u112, u113, u114, u115, u116, u117, u118, u119, u120, u121, u122, u123, u124, u125, u126, u127, u128, u129, u130, u131, u132, u133, u134, u135, u136, u137, u138, u139, u140, u141, u142, u143, u144, u145, u146, u147, u148, u149, u150, u151, u152, u153, u154, u155, u156, u157, u158, u159, u160, u161, u162, u163, u164, u165, u166, u167, u168, u169, u170, u171, u172, u173, u174, u175, u176, u177, u178, u179, u180, u181, u182, u183], defers := [] } W := by
  have HX := Lib.hid hX
  have HB := Lib.hid hB
  have H3 := Lib.hid h3
  have H4 := Lib.hid h4
  have HPS := Lib.hid hps
  have HCAP := Lib.hid hcap
  have HPL := Lib.hid hpl
  have HPR := Lib.hid kPR
  have HPA := Lib.hid kPA
  have HSC := Lib.hid kSC
  have HPO := Lib.hid kPO
  have HKL := Lib.hid kL
  subst lps
  clear hX hB h3 h4 hps hcap hpl kPR kPA kSC kPO kL
  have x1 := HX.out.cell 1
  simp only [List.getElem?_toArray, List.getElem?_cons_zero, List.getElem?_cons_succ] at x1
  conv => arg 2; whnf
  go_upto_block 0 with fail
  go_cut [3, 4] (fun v3 v4 wx => v3 = .map (some g3) ∧ v4 = .map (some g4) ∧ ∃ (n : Nat) (D E : DataW Unit), PairD T D E ∧ wx.ownsMap Tryz.prog 3 (plainElem Tryz.prog 3) g3 n D ∧ wx.ownsMap Tryz.prog 3 (plainElem Tryz.prog 3) g4 n E ∧ Below w.heap.size w wx)
  case first =>
    go_wp2_with fail
    go_loopw [36] (fun iv wr => ∃ (k : Nat) (D E : DataW Unit), k ≤ ps.length ∧ iv = .int .i64 k ∧ PairD T D E ∧ wr.ownsMap Tryz.prog 3 (plainElem Tryz.prog 3) g3 k D ∧ wr.ownsMap Tryz.prog 3 (plainElem Tryz.prog 3) g4 k E ∧ BlkV wr w.heap.size 25 #[.slice X nh ch, .slice A0 ps.length c0] ∧ Below w.heap.size w wr) (fun iv _ => ps.length - (intOf iv).toNat)
    case atStart => exact ⟨0, .map [], .map [], Nat.zero_le _, rfl, PairD.start T, H3.out, H4.out, HX.out, HB.out⟩
    case round =>
      clear x1 HX HB H3 H4
      obtain ⟨k, D, E, hk, rfl, hP, h3, h4, hX, hB⟩ := hrel
      have HP := Lib.hid hP
      have H3 := Lib.hid h3
      have H4 := Lib.hid h4
      have HX := Lib.hid hX
      have HB := Lib.hid hB
      clear hP h3 h4 hX hB
      have hk0 : (0 : Int) ≤ (k : Int) := Int.natCast_nonneg _
      by_cases hlt : k < ps.length
      · have hk1 : (k : Int) < (ps.length : Int) := by omega
        obtain ⟨a0, B, d, ea, z0w, z1w, z2w, z9, hew⟩ := HPS.out k hlt
        have hcp := HCAP.out k hlt a0 B d ea z1w
        subst ea
        have z0 := (HB.out.cell z9).trans z0w
        have z1 := (HB.out.cell (p := ⟨_, _, none⟩) z9).trans z1w
        have z2 := (HB.out.cell (p := ⟨_, _, none⟩) z9).trans z2w
        have HE : Hid (∀ V, Below w.heap.size w V → EntriesR V B (ps.getD k plD).l) := Lib.hid (fun V hV => hew.keep hV)
        have HPRk := Lib.hid (fun V (hV : Below w.heap.size w V) => HPR.out V k B d hV hlt (HE.out V hV) hcp)
        have HPAk := Lib.hid (fun V (hV : Below w.heap.size w V) => HPA.out V k hV hlt)
        have HSC1 := Lib.hid (fun V (hV : Below w.heap.size w V) => HSC.out V k (ps.getD k plD).nm B d hV hlt (.inl rfl) (HE.out V hV))
        have HSC2 := Lib.hid (fun V B' d' (hV : Below w.heap.size w V) he => HSC.out V k ⟨#[97, 103, 97, 105, 110]⟩ B' d' hV hlt (.inr rfl) he)
        have HPO1 := Lib.hid (fun V (hV : Below w.heap.size w V) => HPO.out V k (ps.getD k plD).nm B d hV hlt (.inl rfl) (HE.out V hV))
        have HPO2 := Lib.hid (fun V B' d' (hV : Below w.heap.size w V) he => HPO.out V k ⟨#[97, 103, 97, 105, 110]⟩ B' d' hV hlt (.inr rfl) he)
        obtain ⟨f1, f2, f3, f4, f5, f6, f7⟩ := HPL.out k hlt
        clear z0w z1w z2w z9 hew hcp
        obtain ⟨pn, hpn⟩ : ∃ pn, ps.getD k plD = pn := ⟨_, rfl⟩
        rw [hpn] at z0 z1 z2 HE HPRk HPAk HSC1 HSC2 HPO1 HPO2 f1
        clear hpn
        obtain ⟨nm, ln, hh⟩ := pn
        obtain ⟨tk, htk⟩ : ∃ tk, tx k = tk := ⟨_, rfl⟩
        rw [htk] at HPRk HPAk
        clear htk
        obtain ⟨sk, hsk⟩ : ∃ sk, sc k = sk := ⟨_, rfl⟩
        rw [hsk] at HSC1 HSC2 f4 f5 f6 f7
        clear hsk
        obtain ⟨s, e⟩ := sk
        obtain ⟨xs, hxs⟩ : ∃ xs, pt k = xs := ⟨_, rfl⟩
        rw [hxs] at HPO1 HPO2 f2 f3 f7
        clear hxs
        simp only at z0 z1 z2 HE HPRk HPAk HSC1 HSC2 HPO1 HPO2 f1 f4 f5 f6 f7
        have HF := Lib.hid (And.intro f3 f7)
        have hss := bne_self_eq_false' s
        have hee := bne_self_eq_false' e
        clear f3 f7
        go_wp2_with fail
        obtain ⟨W1, hW1⟩ : ∃ W1, wr.alloc (.cells #[.string nm, .slice B ln.length d, .int .i64 hh] 55) = W1 := ⟨_, rfl⟩
        rw [hW1]
        obtain ⟨a1, a2, a3⟩ := one_alloc wr _ _ hW1
        have HB1 := Lib.hid a2
        have HBX1 := Lib.hid a1
        clear hW1 a1 a2 a3 z0 z1 z2
        refine (HPRk.out W1 (HB.out.trans (HB1.out.mono HB.out.size))).mono ?_
        rintro ee w2 ⟨rfl, hb2⟩
        dsimp only
        have HB2 := Lib.hid (HB1.out.trans (hb2.mono HB1.out.size))
        have HBX2 := Lib.hid (HBX1.out.below hb2 HBX1.out.lt)
        clear hb2 HB1 HBX1
        go_wp2_with fail
        refine (HPAk.out w2 (HB.out.trans (HB2.out.mono HB.out.size))).mono ?_
        rintro ee w3 ⟨A9, c9, rfl, ho9, hb3⟩
        dsimp only
        have HB3 := Lib.hid (HB2.out.trans (hb3.mono HB2.out.size))
        have HBX3 := Lib.hid (HBX2.out.below hb3 HBX2.out.lt)
        obtain ⟨A9', c9', e9, he9⟩ := ho9.entries
        injection e9 with q1 q2 q3
        subst q1
        have HE9 := Lib.hid he9
        clear hb3 HB2 HBX2 ho9 he9 q3
        have b1 := HBX3.out.cell 1
        simp only [List.getElem?_toArray, List.getElem?_cons_zero, List.getElem?_cons_succ] at b1
        go_wp2_with fail
        refine (sameEntries_any A9 B c9 d ln w3 HE9.out (HE.out w3 (HB.out.trans (HB3.out.mono HB.out.size))) f1).mono ?_
        rintro ee w4 ⟨rfl, n4, rfl⟩
        dsimp only
        obtain ⟨W4, hW4⟩ : ∃ W4, w3.drewN n4 = W4 := ⟨_, rfl⟩
        have hb4 : Below w3.heap.size w3 W4 := by rw [← hW4]; exact below_drewN (Below.refl _ _) n4
        rw [hW4]
        have HB4 := Lib.hid (HB3.out.trans (hb4.mono HB3.out.size))
        have HBX4 := Lib.hid (HBX3.out.below hb4 HBX3.out.lt)
        have HE94 := Lib.hid (HE9.out.keep hb4)
        clear hb4 hW4 HB3 HBX3 HE9 b1
        have b2 := HBX4.out.cell 2
        simp only [List.getElem?_toArray, List.getElem?_cons_zero, List.getElem?_cons_succ] at b2
        go_upto_region 12 with fail
        obtain ⟨W5, hW5⟩ : ∃ W5, W4.alloc (.cells #[.string ⟨#[97, 103, 97, 105, 110]⟩, .slice A9 ln.length c9, .int .i64 hh] 55) = W5 := ⟨_, rfl⟩
        rw [hW5]
        obtain ⟨r1, r2, r3⟩ := one_alloc W4 _ _ hW5
        have HB5 := Lib.hid (HB4.out.trans (r2.mono HB4.out.size))
        have HBX5 := Lib.hid (HBX4.out.below r2 HBX4.out.lt)
        have HBR5 := Lib.hid r1
        have HE95 := Lib.hid (HE94.out.keep r2)
        clear hW5 r1 r2 r3 HB4 HBX4 HE94 b2
        have hx0 := HX.out.below HB5.out HX.out.lt
        have x0 := hx0.cell 0
        have b0 := HBX5.out.cell 0
        have b1 := HBX5.out.cell 1
        have b2 := HBX5.out.cell 2
        have r0 := HBR5.out.cell 0
        have r1 := HBR5.out.cell 1
        have r2 := HBR5.out.cell 2
        simp only [List.getElem?_toArray, List.getElem?_cons_zero, List.getElem?_cons_succ] at x0 b0 b1 b2 r0 r1 r2
        clear hx0
        go_wp2_with fail
        refine (HSC1.out W5 (HB.out.trans (HB5.out.mono HB.out.size))).mono ?_
        rintro ee w6 ⟨rfl, hb6⟩
        dsimp only
        have HB6 := Lib.hid (HB5.out.trans (hb6.mono HB5.out.size))
        have HBX6 := Lib.hid (HBX5.out.below hb6 HBX5.out.lt)
        have HBR6 := Lib.hid (HBR5.out.below hb6 HBR5.out.lt)
        have HE96 := Lib.hid (HE95.out.keep hb6)
        clear hb6 HB5 HBX5 HBR5 HE95 x0 b0 b1 b2 r0 r1 r2
        have hx0 := HX.out.below HB6.out HX.out.lt
        have x0 := hx0.cell 0
        have b0 := HBX6.out.cell 0
        have b1 := HBX6.out.cell 1
        have b2 := HBX6.out.cell 2
        have r0 := HBR6.out.cell 0
        have r1 := HBR6.out.cell 1
        have r2 := HBR6.out.cell 2
        simp only [List.getElem?_toArray, List.getElem?_cons_zero, List.getElem?_cons_succ] at x0 b0 b1 b2 r0 r1 r2
        clear hx0
        go_wp2_with fail
        refine (HSC2.out w6 A9 c9 (HB.out.trans (HB6.out.mono HB.out.size)) HE96.out).mono ?_
        rintro ee w7 ⟨rfl, hb7⟩
        dsimp only
        have HB7 := Lib.hid (HB6.out.trans (hb7.mono HB6.out.size))
        have HBX7 := Lib.hid (HBX6.out.below hb7 HBX6.out.lt)
        have HBR7 := Lib.hid (HBR6.out.below hb7 HBR6.out.lt)
        have HE97 := Lib.hid (HE96.out.keep hb7)
        clear hb7 HB6 HBX6 HBR6 HE96 x0 b0 b1 b2 r0 r1 r2
        have hx0 := HX.out.below HB7.out HX.out.lt
        have x0 := hx0.cell 0
        have b0 := HBX7.out.cell 0
        have b1 := HBX7.out.cell 1
        have b2 := HBX7.out.cell 2
        have r0 := HBR7.out.cell 0
        have r1 := HBR7.out.cell 1
        have r2 := HBR7.out.cell 2
        simp only [List.getElem?_toArray, List.getElem?_cons_zero, List.getElem?_cons_succ] at x0 b0 b1 b2 r0 r1 r2
        clear hx0
        go_wp2_with fail
        refine (HPO1.out w7 (HB.out.trans (HB7.out.mono HB.out.size))).mono ?_
        rintro ee w8 ⟨g8, rfl, hr8, _, hb8⟩
        dsimp only
        have HR8 := Lib.hid hr8
        clear hr8
        have HB8 := Lib.hid (HB7.out.trans (hb8.mono HB7.out.size))
        have HBX8 := Lib.hid (HBX7.out.below hb8 HBX7.out.lt)
        have HBR8 := Lib.hid (HBR7.out.below hb8 HBR7.out.lt)
        have HE98 := Lib.hid (HE97.out.keep hb8)
        clear hb8 HB7 HBX7 HBR7 HE97 x0 b0 b1 b2 r0 r1 r2
        have hx0 := HX.out.below HB8.out HX.out.lt
        have x0 := hx0.cell 0
        have b0 := HBX8.out.cell 0
        have b1 := HBX8.out.cell 1
        have b2 := HBX8.out.cell 2
        have r0 := HBR8.out.cell 0
        have r1 := HBR8.out.cell 1
        have r2 := HBR8.out.cell 2
        simp only [List.getElem?_toArray, List.getElem?_cons_zero, List.getElem?_cons_succ] at x0 b0 b1 b2 r0 r1 r2
        clear hx0
        go_wp2_with fail
        refine (HPO2.out w8 A9 c9 (HB.out.trans (HB8.out.mono HB.out.size)) HE98.out).mono ?_
        rintro ee w9 ⟨g9, rfl, hr9, _, hb9⟩
        dsimp only

        go_upto_region 16 with fail
        have HP9 := Lib.hid (HR8.out.below hb9 (RowI.lt HR8.out))
        have HR9 := Lib.hid hr9
        have HB9 := Lib.hid (HB8.out.trans (hb9.mono HB8.out.size))
        clear hb9 hr9 HR8 HB8 HBX8 HBR8 HE98 x0 b0 b1 b2 r0 r1 r2
        rcases f4 with rfl | rfl
        · have hF7 : allP true xs = true → s = T - ForMath.sumI xs := fun h => HF.out.2 (by simpa using h)
          have HF7 := Lib.hid hF7
          have HF3 := Lib.hid HF.out.1
          clear hF7 HF
          go_wp2_with fail
          refine (sameInts_any (some ⟨g8, 0, none⟩) (some ⟨g9, 0, none⟩) xs.length xs.length xs xs w9 (HP9.out.ints (RowI.lt HP9.out)).ints (HR9.out.ints (RowI.lt HR9.out)).ints (by omega)).mono ?_
          rintro ee wa ⟨rfl, na, rfl⟩
          rw [show decide (xs = xs) = true from decide_eq_true rfl]
          dsimp only
          obtain ⟨w10, hW10⟩ : ∃ w10, w9.drewN na = w10 := ⟨_, rfl⟩
          have hb10 : Below w9.heap.size w9 w10 := by rw [← hW10]; exact below_drewN (Below.refl _ _) na
          rw [hW10]
          have HB10 := Lib.hid (HB9.out.trans (hb10.mono HB9.out.size))
          have HR10 := Lib.hid (HP9.out.below hb10 (RowI.lt HP9.out))
          have M3 := Lib.hid (nt_owns H3.out HB10.out)
          have M4 := Lib.hid (nt_owns H4.out HB10.out)
          have HX10 := Lib.hid (HX.out.below HB10.out HX.out.lt)
          have HBW := Lib.hid (HB.out.trans (HB10.out.mono HB.out.size))
          clear hb10 hW10 HB9 HP9 HR9 HB10 H3 H4 HX HB
          go_wp2_with fail
          go_loopw [21, 22, 135] (fun sv av kv wx => ∃ j : Nat, j ≤ xs.length ∧ sv = .int .i64 (ForMath.sumI (xs.take j)) ∧ av = .bool (allP true (xs.take j)) ∧ kv = .int .i64 j ∧ wx = w10) (fun _ _ kv _ => xs.length - (intOf kv).toNat)
          case atStart => exact ⟨0, Nat.zero_le _, rfl, rfl, rfl, rfl⟩
          case round =>
            obtain ⟨j, hj, rfl, rfl, rfl, rfl⟩ := hrel
            have hj0 : (0 : Int) ≤ (j : Int) := Int.natCast_nonneg _
            by_cases hjl : j < xs.length
            · have hj1 : (j : Int) < (xs.length : Int) := by omega
              have rx := HR10.out.cell hjl
              have hsum := nt_sum xs j hjl
              have hall := allP_take true xs j hjl
              have hxb : -2000 ≤ xs.getD j 0 ∧ xs.getD j 0 ≤ 2000 := HF3.out _ (by simp [List.getD, List.getElem?_eq_getElem hjl])
              have hSb := nt_takeB xs j HF3.out f2
              obtain ⟨x, hx⟩ : ∃ x, xs.getD j 0 = x := ⟨_, rfl⟩
              obtain ⟨S, hS⟩ : ∃ S, ForMath.sumI (xs.take j) = S := ⟨_, rfl⟩
              rw [hx] at rx hsum hall hxb
              rw [hS] at hsum hSb
              rw [hS]
              have HSUM := Lib.hid hsum
              have hws : IntKind.i64.wrap (S + x) = S + x := IntWalk.i64_in _ (by omega)
              cases hA : allP true (xs.take j)
              · rw [hA] at hall
                have HALL := Lib.hid hall
                clear hx hS hsum hall hA
                go_wp2_with fail
                go_roundw
                case rel => exact ⟨j + 1, by omega, by rw [HSUM.out], by rw [HALL.out]; rfl, by go_num, trivial⟩
                case measure => simp [intOf]; omega
              · rw [hA] at hall
                have HALL := Lib.hid hall
                clear hx hS hsum hall hA
                go_wp2_with fail
                go_roundw
                case rel => exact ⟨j + 1, by omega, by rw [HSUM.out], by rw [HALL.out]; simp, by go_num, trivial⟩
                case measure => simp [intOf]; omega
            · have hj1 : ¬ (j : Int) < (xs.length : Int) := by omega
              have hjt : xs.take j = xs := List.take_of_length_le (by omega)
              rw [hjt]
              have hSb := nt_takeB xs j HF3.out f2
              rw [hjt] at hSb
              clear hjt
              cases hA : allP true xs
              · clear hA
                go_wp2_with fail
                go_roundw
                case rel => exact ⟨k + 1, D, E, by omega, by go_num, HP.out, M3.out.mono (Nat.le_succ _), M4.out.mono (Nat.le_succ _), HX10.out, HBW.out⟩
                case measure => simp [intOf]; omega
              · have HSV := Lib.hid (HF7.out hA)
                obtain ⟨S, hS⟩ : ∃ S, ForMath.sumI xs = S := ⟨_, rfl⟩
                rw [hS] at hSb HSV
                rw [hS]
                clear hS hA
                have hw1 : (Lit.int .i64 (k : Int)).wf = true := nt_wf (by omega)
                have hw2 : (Lit.int .i64 S).wf = true := nt_wf (by omega)
                have hw3 : (Lit.int .i64 s).wf = true := nt_wf (by omega)
                have hkm : k < maxLen := by unfold maxLen; omega
                go_wp2_with (first
                  | (at_mapUpdate; refine wpList_mapUpdate_own _ rfl (.tmp 149) (.tmp 150) (.tmp 153) 50 rfl 3 3 nt_law Tryz.underlying50 _ g3 k _ rfl M3.out hkm _ _ _ rfl rfl (keyOf_int_mk Tryz.underlying3 hw1) _ [] (plainElem_int Tryz.underlying3 hw2) ?_; intro w11 h311 hg11; go_frame)
                  | (at_mapUpdate; refine wpList_mapUpdate_own _ rfl (.tmp 151) (.tmp 152) (.tmp 154) 50 rfl 3 3 nt_law Tryz.underlying50 _ g4 k _ rfl (M4.out.kept hg11 (fun e => g34 (Option.some.inj e).symm)) hkm _ _ _ rfl rfl (keyOf_int_mk Tryz.underlying3 hw1) _ [] (plainElem_int Tryz.underlying3 hw3) ?_; intro w12 h412 hg12; go_frame)
                  | fail)
                have h312 := h311.kept hg12 (fun e => g34 (Option.some.inj e))
                have hX12 := (HX10.out.grown hg11 (fun e => by have := Option.some.inj e; omega)).grown hg12 (fun e => by have := Option.some.inj e; omega)
                have hB11 := HBW.out.grown hg11 HBW.out.size (fun j hj => by cases hj; omega)
                have hB12 := hB11.grown hg12 hB11.size (fun j hj => by cases hj; omega)
                go_roundw
                case rel => exact ⟨k + 1, _, _, by omega, by go_num, PairD.step HP.out M3.out.isMap M4.out.isMap HSV.out (by omega) (by omega), h312, h412, hX12, hB12⟩
                case measure => simp [intOf]; omega

        · have hF7 : allP false xs = true → s = T - ForMath.sumI xs := fun h => by simp [allP] at h
          have HF7 := Lib.hid hF7
          have HF3 := Lib.hid HF.out.1
          clear hF7 HF
          go_wp2_with fail
          refine (sameInts_any (some ⟨g8, 0, none⟩) (some ⟨g9, 0, none⟩) xs.length xs.length xs xs w9 (HP9.out.ints (RowI.lt HP9.out)).ints (HR9.out.ints (RowI.lt HR9.out)).ints (by omega)).mono ?_
          rintro ee wa ⟨rfl, na, rfl⟩
          rw [show decide (xs = xs) = true from decide_eq_true rfl]
          dsimp only
          obtain ⟨w10, hW10⟩ : ∃ w10, w9.drewN na = w10 := ⟨_, rfl⟩
          have hb10 : Below w9.heap.size w9 w10 := by rw [← hW10]; exact below_drewN (Below.refl _ _) na
          rw [hW10]
          have HB10 := Lib.hid (HB9.out.trans (hb10.mono HB9.out.size))
          have HR10 := Lib.hid (HP9.out.below hb10 (RowI.lt HP9.out))
          have M3 := Lib.hid (nt_owns H3.out HB10.out)
          have M4 := Lib.hid (nt_owns H4.out HB10.out)
          have HX10 := Lib.hid (HX.out.below HB10.out HX.out.lt)
          have HBW := Lib.hid (HB.out.trans (HB10.out.mono HB.out.size))
          clear hb10 hW10 HB9 HP9 HR9 HB10 H3 H4 HX HB
          go_wp2_with fail
          go_loopw [21, 22, 135] (fun sv av kv wx => ∃ j : Nat, j ≤ xs.length ∧ sv = .int .i64 (ForMath.sumI (xs.take j)) ∧ av = .bool (allP false (xs.take j)) ∧ kv = .int .i64 j ∧ wx = w10) (fun _ _ kv _ => xs.length - (intOf kv).toNat)
          case atStart => exact ⟨0, Nat.zero_le _, rfl, rfl, rfl, rfl⟩
          case round =>
            obtain ⟨j, hj, rfl, rfl, rfl, rfl⟩ := hrel
            have hj0 : (0 : Int) ≤ (j : Int) := Int.natCast_nonneg _
            by_cases hjl : j < xs.length
            · have hj1 : (j : Int) < (xs.length : Int) := by omega
              have rx := HR10.out.cell hjl
              have hsum := nt_sum xs j hjl
              have hall := allP_take false xs j hjl
              have hxb : -2000 ≤ xs.getD j 0 ∧ xs.getD j 0 ≤ 2000 := HF3.out _ (by simp [List.getD, List.getElem?_eq_getElem hjl])
              have hSb := nt_takeB xs j HF3.out f2
              obtain ⟨x, hx⟩ : ∃ x, xs.getD j 0 = x := ⟨_, rfl⟩
              obtain ⟨S, hS⟩ : ∃ S, ForMath.sumI (xs.take j) = S := ⟨_, rfl⟩
              rw [hx] at rx hsum hall hxb
              rw [hS] at hsum hSb
              rw [hS]
              have HSUM := Lib.hid hsum
              have hws : IntKind.i64.wrap (S + x) = S + x := IntWalk.i64_in _ (by omega)
              cases hA : allP false (xs.take j)
              · rw [hA] at hall
                have HALL := Lib.hid hall
                clear hx hS hsum hall hA
                go_wp2_with fail
                go_roundw
                case rel => exact ⟨j + 1, by omega, by rw [HSUM.out], by rw [HALL.out]; rfl, by go_num, trivial⟩
                case measure => simp [intOf]; omega
              · rw [hA] at hall
                have HALL := Lib.hid hall
                clear hx hS hsum hall hA
                go_wp2_with fail
                go_roundw
                case rel => exact ⟨j + 1, by omega, by rw [HSUM.out], by rw [HALL.out]; simp, by go_num, trivial⟩
                case measure => simp [intOf]; omega
            · have hj1 : ¬ (j : Int) < (xs.length : Int) := by omega
              have hjt : xs.take j = xs := List.take_of_length_le (by omega)
              rw [hjt]
              have hSb := nt_takeB xs j HF3.out f2
              rw [hjt] at hSb
              clear hjt
              cases hA : allP false xs
              · clear hA
                go_wp2_with fail
                go_roundw
                case rel => exact ⟨k + 1, D, E, by omega, by go_num, HP.out, M3.out.mono (Nat.le_succ _), M4.out.mono (Nat.le_succ _), HX10.out, HBW.out⟩
                case measure => simp [intOf]; omega
              · have HSV := Lib.hid (HF7.out hA)
                obtain ⟨S, hS⟩ : ∃ S, ForMath.sumI xs = S := ⟨_, rfl⟩
                rw [hS] at hSb HSV
                rw [hS]
                clear hS hA
                have hw1 : (Lit.int .i64 (k : Int)).wf = true := nt_wf (by omega)
                have hw2 : (Lit.int .i64 S).wf = true := nt_wf (by omega)
                have hw3 : (Lit.int .i64 s).wf = true := nt_wf (by omega)
                have hkm : k < maxLen := by unfold maxLen; omega
                go_wp2_with (first
                  | (at_mapUpdate; refine wpList_mapUpdate_own _ rfl (.tmp 149) (.tmp 150) (.tmp 153) 50 rfl 3 3 nt_law Tryz.underlying50 _ g3 k _ rfl M3.out hkm _ _ _ rfl rfl (keyOf_int_mk Tryz.underlying3 hw1) _ [] (plainElem_int Tryz.underlying3 hw2) ?_; intro w11 h311 hg11; go_frame)
                  | (at_mapUpdate; refine wpList_mapUpdate_own _ rfl (.tmp 151) (.tmp 152) (.tmp 154) 50 rfl 3 3 nt_law Tryz.underlying50 _ g4 k _ rfl (M4.out.kept hg11 (fun e => g34 (Option.some.inj e).symm)) hkm _ _ _ rfl rfl (keyOf_int_mk Tryz.underlying3 hw1) _ [] (plainElem_int Tryz.underlying3 hw3) ?_; intro w12 h412 hg12; go_frame)
                  | fail)
                have h312 := h311.kept hg12 (fun e => g34 (Option.some.inj e))
                have hX12 := (HX10.out.grown hg11 (fun e => by have := Option.some.inj e; omega)).grown hg12 (fun e => by have := Option.some.inj e; omega)
                have hB11 := HBW.out.grown hg11 HBW.out.size (fun j hj => by cases hj; omega)
                have hB12 := hB11.grown hg12 hB11.size (fun j hj => by cases hj; omega)
                go_roundw
                case rel => exact ⟨k + 1, _, _, by omega, by go_num, PairD.step HP.out M3.out.isMap M4.out.isMap HSV.out (by omega) (by omega), h312, h412, hX12, hB12⟩
                case measure => simp [intOf]; omega

      · have hk1 : ¬ (k : Int) < (ps.length : Int) := by omega
        go_wp2_with fail
        go_meet
        exact ⟨rfl, rfl, k, D, E, HP.out, H3.out, H4.out, HB.out⟩
  case rest =>
    obtain ⟨rfl, rfl, n, D, E, hP, h3, h4, hB9⟩ := hcut
    apply_assumption
    exact ntT28 X A0 nh ch ps.length c0 g3 g4 n n T D E w _ hT hP h3 h4 hB9 HKL.out

end Go.Proofs.YtbckfkopdojggaaGreatDoor
