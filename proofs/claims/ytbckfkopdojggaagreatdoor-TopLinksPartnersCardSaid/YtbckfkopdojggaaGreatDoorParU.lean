/- TopLinksPartners: the order of the leaders, the last loop. -/
import Derived.Test.YtbckfkopdojggaaGreatDoorParA
import Derived.Test.YtbckfkopdojggaaGreatDoorMgLx
import Derived.Test.YtbckfkopdojggaaGreatDoorMgF
import Derived.Test.YtbckfkopdojggaaGreatDoorMgD
import Derived.Deep.RegionHeld3
import Derived.Deep.DeepCutAuto
import Derived.Deep.CutBlock
import Derived.BigQuiet
import Derived.Deep.QuietTactic
import Derived.Outline
set_option linter.unusedVariables false
set_option linter.unusedSimpArgs false
namespace Go.Proofs.YtbckfkopdojggaaGreatDoor
open Go.RowKit

set_option maxRecDepth 100000 in
set_option maxHeartbeats 16000000 in
theorem part26 (x y z : Nat) (X : Option Addr) (a0 : Addr) (ch c0 nh np : Nat) (pa pb pc : Pl) (A B C : Option Addr) (c d e : Nat) (w W : World) (ps : List Pl) (P : List (Int × Int)) (sc : Nat → Int) (good : Nat → Prop) {u2 u3 u4 u5 u6 u7 u8 u9 u10 u11 u12 u13 u14 u15 u16 u17 u18 u19 u20 u21 u22 u23 u24 u25 u26 u27 u28 u29 u30 u31 u32 u33 u34 u35 u36 u37 u38 u39 u40 u41 u42 u43 u44 u45 u46 u47 u48 u49 u50 u51 u52 u53 u54 u55 u56 u57 u58 u59 u60 u61 u62 u63 u64 u65 u66 u67 u68 u69 u70 u71 u72 u73 u74 u75 u76 u77 u78 u79 u80 u81 u82 u83 u84 u85 u86 u87 u88 u89 u90 u91 u92 u93 u94 u95 u96 u97 u98 u99 u100 u101 u102 u103 u104 u105 u106 u107 u108 u109 u110 u111 u112 u113 u114 u115 u116 u117 u118 u119 u120 u121 u122 u123 u124 u125 u126 u127 u128 u129 u130 u131 u132 u133 u134 u135 u136 u137 u138 u139 u140 u141 u142 u143 u144 u145 u146 u147 u148 u149 u150 u151 u152 u153 u154 u155 u156 u157 u158 u159 u160 u161 u162 u163 u164 u165 u166 u167 u168 u169 u170 u171 u172 u173 u174 u175 u176 u177 u178 u179 u180 u181 u182 u183 u184 u185 u186 u187 u188 u189 u190 u191 u192 u193 u194 u195 u196 u197 u198 u199 u200 u201 u202 u203 u204 u205 u206 u207 u208 u209 u210 u211 u212 u213 u214 u215 u216 u217 u218 u219 u220 u221 u222 u223 u224 u225 u226 u227 u228 u229 u230 u231 u232 u233 u234 u235 u236 u237 u238 u239 u240 u241 u242 u243 u244 u245 u246 u247 u248 u249 u250 u251 u252 u253 u254 u255 u256 u257 u258 u259 u260 u261 u262 u263 u264 u265 u266 u267 : Value} (lps : ps.length = np) (lP : P.length ≤ 200) (hX : HeldPl x y z X (some a0) ch c0 nh np pa pb pc A B C c d e w W) (hps : PlayersR w (some a0) ps)
    (hord : ∀ i, i < P.length → ∃ k : Nat, (P.getD i (0, 0)).1 = (k : Int) ∧ k < np ∧ good k)
    (hrk : ∀ i, i + 1 < P.length → (P.getD i (0, 0)).2 ≤ (P.getD (i + 1) (0, 0)).2)
    (hsc : ∀ i (k l : Nat), i + 1 < P.length → (P.getD i (0, 0)).1 = (k : Int) → (P.getD (i + 1) (0, 0)).1 = (l : Int) → sc k ≤ sc l)
    (kLD : ∀ W, Below w.heap.size w W → Calls Tryz.prog 12 #[.agg #[.slice X nh ch, .slice (some a0) np c0]] W (LeadsOut (P.map (·.1)) (P.map (·.2)) W))
    (kSC : ∀ W (k : Nat) B d, Below w.heap.size w W → k < np → good k → EntriesR W B (ps.getD k plD).l → Calls Tryz.prog 24 #[.slice X nh ch, .agg #[.string (ps.getD k plD).nm, .slice B (ps.getD k plD).l.length d, .int .i64 (ps.getD k plD).h]] W fun e w' => e = .returned (.tuple #[.int .i64 (sc k), .int .i64 0]) ∧ Below W.heap.size W w')
    (kL : ∀ W, Below w.heap.size w W → Calls Tryz.prog 20 #[] W fun e w' => e = .returned (.bool true) ∧ Below W.heap.size W w') :
    Code.wp Tryz.prog (partT 26) (bodyPost Tryz.prog Tryz.f6 (fun e w' => e = .returned (.bool true) ∧ Below w.heap.size w w')) { tmps := #[.agg #[.slice X nh ch, .slice (some a0) np c0], .pointer (some ⟨w.heap.size, 0, none⟩), u2, u3, u4, u5, u6, u7, u8, u9, u10, u11, u12, u13, u14, u15, u16, u17, u18, u19, u20, u21, u22, u23, u24, u25, u26, u27, u28, u29, u30, u31, u32, u33, u34, u35, u36, u37, u38, u39, u40, u41, u42, u43, u44, u45, u46, u47, u48, u49, u50, u51, u52, u53, u54, u55, u56, u57, u58, u59, u60, u61, u62, u63, u64, u65, u66, u67, u68, u69, u70, u71, u72, u73, u74, u75, u76, u77, u78, u79, u80, u81, u82, u83, u84, u85, u86, u87, u88, u89, u90, u91, u92, u93, u94, u95, u96, u97, u98, u99, u100, u101, u102, u103, u104, u105, u106, u107, u108, u109, u110, u111, u112, u113, u114, u115, u116, u117, u118, u119, u120, u121, u122, u123, u124, u125, u126, u127, u128, u129, u130, u131, u132, u133, u134, u135, u136, u137, u138, u139, u140, u141, u142, u143, u144, u145, u146, u147, u148, u149, u150, u151, u152, u153, u154, u155, u156, u157, u158, u159, u160, u161, u162, u163, u164, u165, u166, u167, u168, u169, u170, u171, u172, u173, u174, u175, u176, u177, u178, u179, u180, u181, u182, u183, u184, u185, u186, u187, u188, u189, u190, u191, u192, u193, u194, u195, u196, u197, u198, u199, u200, u201, u202, u203, u204, u205, u206, u207, u208, u209, u210, u211, u212, u213, u214, u215, u216, u217, u218, u219, u220, u221, u222, u223, u224, u225, u226, u227, u228, u229, u230, u231, u232, u233, u234, u235, u236, u237, u238, u239, u240, u241, u242, u243, u244, u245, u246, u247, u248, u249, u250, u251, u252, u253, u254, u255, u256, u257, u258, u259, u260, u261, u262, u263, u264, u265, u266, u267], defers := [] } W := by
  have HX0 := Lib.hid hX
  have HPS := Lib.hid hps
  have HORD := Lib.hid hord
  have HRK := Lib.hid hrk
  have HSO := Lib.hid hsc
  have HLD := Lib.hid kLD
  have HSC := Lib.hid kSC
  have HKL := Lib.hid kL
  subst lps
  clear hX hps hord hrk hsc kLD kSC kL
  obtain ⟨s0, s1, s2, s3, s4, s5, s6, s7, s8, s9, s10⟩ := HX0.out.s11
  conv => arg 2; whnf
  go_wp2_with fail
  refine (HLD.out _ HX0.out.low).mono ?_
  rintro ee w1 ⟨A20, c20, A21, c21, rfl, hi20, hi21, hb1⟩
  rw [List.length_map, List.length_map]
  have HX1 := Lib.hid (HX0.out.below hb1)
  have HI20 := Lib.hid hi20
  have HI21 := Lib.hid hi21
  have hnp := bne_self_eq_false' (P.length : Int)
  clear hi20 hi21 hb1 HX0 HLD s0 s1 s2 s3 s4 s5 s6 s7 s8 s9 s10
  dsimp only
  go_upto_block 4 with fail
  go_cut [] (fun wx => Below w1.heap.size w1 wx)
  case first =>
    go_wp2_with fail
    go_loopw [213, 23] (fun iv bv wr => ∃ (k : Nat) (bz : Int), k ≤ P.length ∧ iv = .int .i64 k ∧ bv = .int .i64 bz ∧ (∀ (i l : Nat), i + 1 = k → (P.getD i (0, 0)).1 = (l : Int) → bz = sc l) ∧ Below w1.heap.size w1 wr) (fun iv _ _ => P.length - (intOf iv).toNat)
    case atStart => exact ⟨0, 0, Nat.zero_le _, rfl, rfl, fun i l h => by omega, Below.refl _ _⟩
    case round =>
      obtain ⟨k, bz, hk, rfl, rfl, hbest, hb⟩ := hrel
      have HBEST := Lib.hid hbest
      have HB := Lib.hid hb
      have HXr := Lib.hid (HX1.out.below hb)
      have HI0 := Lib.hid (HI20.out.below hb)
      have HI1 := Lib.hid (HI21.out.below hb)
      clear hbest hb
      have hk0 : (0 : Int) ≤ (k : Int) := Int.natCast_nonneg _
      by_cases hlt : k < P.length
      · have hk1 : (k : Int) < (P.length : Int) := by omega
        have hkn : ¬ (k : Int) < 0 := by omega
        obtain ⟨n, hn1, hn2, hg⟩ := HORD.out k hlt
        obtain ⟨b20, rfl, _, y0⟩ := HI0.out k (by rw [List.length_map]; exact hlt)
        obtain ⟨b21, rfl, _, y1⟩ := HI1.out k (by rw [List.length_map]; exact hlt)
        have m1 : (P.map (·.1)).getD k 0 = (n : Int) := by rw [← hn1]; simp [List.getD, List.getElem?_eq_getElem hlt]
        obtain ⟨rk, hrk2⟩ : ∃ rk, (P.getD k (0, 0)).2 = rk := ⟨_, rfl⟩
        have m2 : (P.map (·.2)).getD k 0 = rk := by rw [← hrk2]; simp [List.getD, List.getElem?_eq_getElem hlt]
        rw [m1] at y0
        rw [m2] at y1
        have HG := Lib.hid hg
        have HN1 := Lib.hid hn1
        have HN2 := Lib.hid hn2
        have HRK2 := Lib.hid hrk2
        have hn0 : decide ((n : Int) < 0) = false := decide_eq_false (by omega)
        have hnp1 : decide ((ps.length : Int) ≤ (n : Int)) = false := decide_eq_false (by omega)
        have hnp3 : decide (ps.length ≤ n) = false := decide_eq_false (by omega)
        have hnp2 : (n : Int) < (ps.length : Int) := by omega
        have hnp4 : n < ps.length := hn2
        have hnn : (0 : Int) ≤ (n : Int) := Int.natCast_nonneg _
        obtain ⟨s0, s1, s2, s3, s4, s5, s6, s7, s8, s9, s10⟩ := HXr.out.s11
        clear hg hn1 hrk2 m1 m2
        obtain ⟨a2, B2, d2, ea, z0, z1, z2, _, he⟩ := (HPS.out.keep HXr.out.low) n hn2
        injection ea with ea
        subst ea
        have HSCn := Lib.hid (fun W (h : Below wr.heap.size wr W) => HSC.out W n B2 d2 (HXr.out.low.trans (h.mono HXr.out.low.size)) hn2 HG.out (he.keep h))
        clear he hn2
        obtain ⟨pn, hpn⟩ : ∃ pn, ps.getD n plD = pn := ⟨_, rfl⟩
        rw [hpn] at z0 z1 z2 HSCn
        clear hpn
        obtain ⟨nm, ln, hn⟩ := pn
        simp only at z0 z1 z2 HSCn
        rcases Nat.eq_zero_or_pos k with hkz | hkp
        · have hkd : decide ((0 : Int) < (k : Int)) = false := decide_eq_false (by omega)
          have hkd2 : decide (0 < k) = false := decide_eq_false (by omega)
          clear hkz
          go_wp2
          go_quiet (fail)
          go_upto_region 35 with fail
          obtain ⟨W1, hW1⟩ : ∃ W1, wr.drewN nq = W1 := ⟨_, rfl⟩
          have hbq : Below wr.heap.size wr W1 := by rw [← hW1]; exact below_drewN (Below.refl _ _) nq
          rw [hW1]
          have HX1r := Lib.hid (HXr.out.below hbq)
          have HBQ := Lib.hid hbq
          have z0 := (hbq.cell (World.block_lt_of_cell? _ _ z0)).trans z0
          have z1 := (hbq.cell (p := ⟨_, _, none⟩) (World.block_lt_of_cell? _ _ z1)).trans z1
          have z2 := (hbq.cell (p := ⟨_, _, none⟩) (World.block_lt_of_cell? _ _ z2)).trans z2
          clear s0 s1 s2 s3 s4 s5 s6 s7 s8 s9 s10 hbq hW1
          obtain ⟨s0, s1, s2, s3, s4, s5, s6, s7, s8, s9, s10⟩ := HX1r.out.s11
          go_cut [26, 27] (fun v26 v27 wx => v26 = .int .i64 (sc n) ∧ v27 = .int .i64 0 ∧ Below wr.heap.size wr wx)
          case first =>
            have HC := Lib.hid (HSCn.out W1.drew HBQ.out.drew)
            go_region_with (go_at_call 24; refine HC.out.mono ?_; rintro ee w5 ⟨rfl, hb5⟩)
            all_goals
              go_wp2_with fail
              go_meet
              exact ⟨rfl, rfl, HBQ.out.drew.trans (hb5.mono HBQ.out.size)⟩
          case rest =>
            obtain ⟨rfl, rfl, hb6⟩ := hcut
            have HB6 := Lib.hid (HB.out.trans (hb6.mono HB.out.size))
            clear hb6 s0 s1 s2 s3 s4 s5 s6 s7 s8 s9 s10 z0 z1 z2
            go_wp2
            go_roundw
            case rel =>
              refine ⟨k + 1, sc n, by omega, by go_num, rfl, fun i l hi hl => ?_, HB6.out⟩
              obtain rfl : i = k := by omega
              rw [HN1.out] at hl
              rw [Int.natCast_inj.1 hl]
            case measure => simp [intOf]; omega
        · have hkd : decide ((0 : Int) < (k : Int)) = true := decide_eq_true (by omega)
          have hkd2 : decide (0 < k) = true := decide_eq_true (by omega)
          obtain ⟨q, hq⟩ : ∃ q, k = q + 1 := ⟨k - 1, by omega⟩
          have HQ := Lib.hid hq
          have hwk : IntKind.i64.wrap ((k : Int) - 1) = (q : Int) := by rw [IntWalk.i64_in _ (by omega)]; omega
          have hq0 : (0 : Int) ≤ (q : Int) := Int.natCast_nonneg _
          have hq1 : (q : Int) < (P.length : Int) := by omega
          obtain ⟨b22, eb, _, y2⟩ := HI1.out q (by rw [List.length_map]; omega)
          injection eb with eb
          subst eb
          obtain ⟨rq, hrq2⟩ : ∃ rq, (P.getD q (0, 0)).2 = rq := ⟨_, rfl⟩
          have m3 : (P.map (·.2)).getD q 0 = rq := by rw [← hrq2]; simp [List.getD, List.getElem?_eq_getElem (show q < P.length by omega)]
          rw [m3] at y2
          have hle : rq ≤ rk := by
            have := HRK.out q (by omega)
            rw [hrq2, ← hq, HRK2.out] at this
            exact this
          have hrd : decide (rk < rq) = false := decide_eq_false (by omega)
          obtain ⟨l, hl1, _, _⟩ := HORD.out q (by omega)
          have hbl : bz = sc l := HBEST.out q l hq.symm hl1
          have hss : sc l ≤ sc n := HSO.out q l n (by omega) hl1 (by rw [← hq]; exact HN1.out)
          have hsd : decide (sc n < bz) = false := decide_eq_false (by omega)
          clear hq hkp m3 hrq2 hl1 hbl hss hle
          go_wp2
          go_quiet (fail)
          go_upto_region 35 with fail
          obtain ⟨W1, hW1⟩ : ∃ W1, wr.drewN nq = W1 := ⟨_, rfl⟩
          have hbq : Below wr.heap.size wr W1 := by rw [← hW1]; exact below_drewN (Below.refl _ _) nq
          rw [hW1]
          have HX1r := Lib.hid (HXr.out.below hbq)
          have HBQ := Lib.hid hbq
          have z0 := (hbq.cell (World.block_lt_of_cell? _ _ z0)).trans z0
          have z1 := (hbq.cell (p := ⟨_, _, none⟩) (World.block_lt_of_cell? _ _ z1)).trans z1
          have z2 := (hbq.cell (p := ⟨_, _, none⟩) (World.block_lt_of_cell? _ _ z2)).trans z2
          clear s0 s1 s2 s3 s4 s5 s6 s7 s8 s9 s10 hbq hW1
          obtain ⟨s0, s1, s2, s3, s4, s5, s6, s7, s8, s9, s10⟩ := HX1r.out.s11
          go_cut [26, 27] (fun v26 v27 wx => v26 = .int .i64 (sc n) ∧ v27 = .int .i64 0 ∧ Below wr.heap.size wr wx)
          case first =>
            have HC := Lib.hid (HSCn.out W1.drew HBQ.out.drew)
            go_region_with (go_at_call 24; refine HC.out.mono ?_; rintro ee w5 ⟨rfl, hb5⟩)
            all_goals
              go_wp2_with fail
              go_meet
              exact ⟨rfl, rfl, HBQ.out.drew.trans (hb5.mono HBQ.out.size)⟩
          case rest =>
            obtain ⟨rfl, rfl, hb6⟩ := hcut
            have HB6 := Lib.hid (HB.out.trans (hb6.mono HB.out.size))
            clear hb6 s0 s1 s2 s3 s4 s5 s6 s7 s8 s9 s10 z0 z1 z2
            go_wp2
            go_roundw
            case rel =>
              refine ⟨k + 1, sc n, by omega, by go_num, rfl, fun i l hi hl => ?_, HB6.out⟩
              obtain rfl : i = k := by omega
              rw [HN1.out] at hl
              rw [Int.natCast_inj.1 hl]
            case measure => simp [intOf]; omega
      · have hk1 : ¬ (k : Int) < (P.length : Int) := by omega
        go_wp2_with fail
        go_meet
        exact HB.out
  case rest =>
    have HB9 := Lib.hid (HX1.out.low.trans (hcut.mono HX1.out.low.size))
    go_wp2_with fail
    refine (HKL.out _ HB9.out).mono ?_
    rintro ee wz ⟨rfl, hbz⟩
    have HBZ := Lib.hid (HB9.out.trans (hbz.mono HB9.out.size))
    clear hbz
    go_wp2
    go_ret
    exact ⟨rfl, HBZ.out⟩

end Go.Proofs.YtbckfkopdojggaaGreatDoor
