/- TopLinksNotation: two maps that go together, and the two ranges over one of them. -/
import Derived.Test.YtbckfkopdojggaaGreatDoorMgF
import Derived.Test.YtbckfkopdojggaaGreatDoorMgD
import Derived.Deep.RegionHeld3
import Derived.Deep.DeepCutAuto
import Derived.Deep.CutBlock
import Derived.BigQuiet
import Derived.Deep.QuietTactic
import Derived.Outline
import Derived.Maps.RangeWalk
import Derived.Maps.OwnOps
import Derived.Maps.OwnSet
set_option linter.unusedVariables false
set_option linter.unusedSimpArgs false
namespace Go.Proofs.YtbckfkopdojggaaGreatDoor
open Go Go.RowKit Go.Maps

def ntHead (n : Nat) : Code → Bool
  | .region id _ _ => id == n
  | .seq a _ => ntHead n a
  | _ => false
/-- The code from a region on. -/
def ntTail (n : Nat) : Code → Option Code
  | .seq a b => if ntHead n a then some (.seq a b) else ntTail n b
  | c => if ntHead n c then some c else none
noncomputable def ntT (n : Nat) : Code := (Tryz.f4.body.bind fun c => ntTail n c).getD .skip

theorem nt_law : Keyed Tryz.prog 3 := int_keyed Tryz.underlying3
theorem nt_zero (w : World) : (zeroValue 3).run Tryz.prog w = .ok (.int .i64 0) w := by kernel_rfl
theorem nt_owns {R : Value → Option (DataW Unit × List MemPlace)} {k : TypeId} {b n : Nat} {D : DataW Unit} {W W' : World} (h : W.ownsMap Tryz.prog k R b n D) (hb : Below W.heap.size W W') : W'.ownsMap Tryz.prog k R b n D := by
  have hlt := h.lt
  obtain ⟨es, clock, h1, h2⟩ := h
  exact ⟨es, clock, (hb.block b hlt).trans h1, h2⟩

/-- Two maps: at each key of the first, the second holds what is left of a number. -/
def PairD (T : Int) (D E : DataW Unit) : Prop := ∀ kl, Maps.has D kl = true → ∃ c : Int, D.atKey kl (.lit (.int .i64 0)) = .lit (.int .i64 c) ∧ E.atKey kl (.lit (.int .i64 0)) = .lit (.int .i64 (T - c)) ∧ -100000 ≤ c ∧ c ≤ 100000
theorem PairD.start (T : Int) : PairD T (.map []) (.map []) := fun kl h => by simp [Maps.has] at h
theorem PairD.step {T c d : Int} {D E : DataW Unit} {k : Int} (h : PairD T D E) (hD : Maps.IsMap D) (hE : Maps.IsMap E) (hT : d = T - c) (h1 : -100000 ≤ c) (h2 : c ≤ 100000) : PairD T (D.put (.int .i64 k) (.lit (.int .i64 c))) (E.put (.int .i64 k) (.lit (.int .i64 d))) := fun kl hk => by
  by_cases e : kl = .int .i64 k
  · subst e
    have hk : WideAt.IsKeyLit (.int .i64 k) := trivial
    exact ⟨c, Maps.atKey_put_same hD hk _ _, by rw [Maps.atKey_put_same hE hk, hT], h1, h2⟩
  · rw [Maps.has_put_other e] at hk
    obtain ⟨c', e1, e2, e3, e4⟩ := h kl hk
    exact ⟨c', by rw [Maps.atKey_put_other e]; exact e1, by rw [Maps.atKey_put_other e]; exact e2, e3, e4⟩
/-- What both maps hold at a key that has come out of the first. -/
theorem PairD.looks {T : Int} {D E : DataW Unit} {g3 g4 n3 n4 : Nat} {W : World} {x c : Int} (h : PairD T D E) (h3 : W.ownsMap Tryz.prog 3 (plainElem Tryz.prog 3) g3 n3 D) (h4 : W.ownsMap Tryz.prog 3 (plainElem Tryz.prog 3) g4 n4 E) (hw : (Lit.int .i64 x).wf = true) (hat : ∀ zd, D.atKey (.int .i64 x) zd = .lit (.int .i64 c)) :
    -100000 ≤ c ∧ c ≤ 100000 ∧ (Instr.lookup 50 (.map (some g3)) (.int .i64 x) false).run Tryz.prog W = .ok (.int .i64 c) W ∧ (Instr.lookup 50 (.map (some g4)) (.int .i64 x) false).run Tryz.prog W = .ok (.int .i64 (T - c)) W := by
  obtain ⟨c', e1, e2, e3, e4⟩ := h _ (Maps.has_true_of_atKey hat)
  have ec : c' = c := by
    rw [hat] at e1
    simpa using e1.symm
  subst ec
  have hkey := keyOf_int_mk Tryz.underlying3 hw
  obtain ⟨p, r1, a1, _⟩ := h3.lookup_int nt_law Tryz.underlying50 Tryz.underlying3 (nt_zero W) hkey
  obtain ⟨q, r2, a2, _⟩ := h4.lookup_int nt_law Tryz.underlying50 Tryz.underlying3 (nt_zero W) hkey
  rw [e1] at a1
  rw [e2] at a2
  have ep : p = c' := by simpa using a1.symm
  have eq : q = T - c' := by simpa using a2.symm
  subst ep
  subst eq
  exact ⟨e3, e4, r1, r2⟩

set_option maxRecDepth 100000 in
set_option maxHeartbeats 16000000 in
theorem ntT28 (X A0 : Option Addr) (nh ch np c0 g3 g4 n3 n4 : Nat) (T : Int) (D E : DataW Unit) (w W : World) {u2 u5 u6 u7 u8 u9 u10 u11 u12 u13 u14 u15 u16 u17 u18 u19 u20 u21 u22 u23 u24 u25 u26 u27 u28 u29 u30 u31 u32 u33 u34 u35 u36 u37 u38 u39 u40 u41 u42 u43 u44 u45 u46 u47 u48 u49 u50 u51 u52 u53 u54 u55 u56 u57 u58 u59 u60 u61 u62 u63 u64 u65 u66 u67 u68 u69 u70 u71 u72 u73 u74 u75 u76 u77 u78 u79 u80 u81 u82 u83 u84 u85 u86 u87 u88 u89 u90 u91 u92 u93 u94 u95 u96 u97 u98 u99 u100 u101 u102 u103 u104 u105 u106 u107 u108 u109 u110 u111 u112 u113 u114 u115 u116 u117 u118 u119 u120 u121 u122 u123 u124 u125 u126 u127 u128 u129 u130 u131 u132 u133 u134 u135 u136 u137 u138 u139 u140 u141 u142 u143 u144 u145 u146 u147 u148 u149 u150 u151 u152 u153 u154 u155 u156 u157 u158 u159 u160 u161 u162 u163 u164 u165 u166 u167 u168 u169 u170 u171 u172 u173 u174 u175 u176 u177 u178 u179 u180 u181 u182 u183 : Value} (hT : -100000 ≤ T ∧ T ≤ 100000) (hP : PairD T D E)
    (h3 : W.ownsMap Tryz.prog 3 (plainElem Tryz.prog 3) g3 n3 D) (h4 : W.ownsMap Tryz.prog 3 (plainElem Tryz.prog 3) g4 n4 E) (hB : Below w.heap.size w W)
    (kL : ∀ W, Below w.heap.size w W → Calls Tryz.prog 20 #[] W fun e w' => e = .returned (.bool true) ∧ Below W.heap.size W w') :
    Code.wp Tryz.prog (ntT 28) (bodyPost Tryz.prog Tryz.f4 (fun e w' => e = .returned (.bool true) ∧ Below w.heap.size w w')) { tmps := #[.agg #[.slice X nh ch, .slice A0 np c0], .pointer (some ⟨w.heap.size, 0, none⟩), u2, .map (some g3), .map (some g4), u5, u6, u7, u8, u9, u10, u11, u12, u13, u14, u15, u16, u17, u18, u19, u20, u21, u22, u23, u24, u25, u26, u27, u28, u29, u30, u31, u32, u33, u34, u35, u36, u37, u38, u39, u40, u41, u42, u43, u44, u45, u46, u47, u48, u49, u50, u51, u52, u53, u54, u55, u56, u57, u58, u59, u60, u61, u62, u63, u64, u65, u66, u67, u68, u69, u70, u71, u72, u73, u74, u75, u76, u77, u78, u79, u80, u81, u82, u83, u84, u85, u86, u87, u88, u89, u90, u91, u92, u93, u94, u95, u96, u97, u98, u99, u100, u101, u102, u103, u104, u105, u106, u107, u108, u109, u110, u111, u112, u113, u114, u115, u116, u117, u118, u119, u120, u121, u122, u123, u124, u125, u126, u127, u128, u129, u130, u131, u132, u133, u134, u135, u136, u137, u138, u139, u140, u141, u142, u143, u144, u145, u146, u147, u148, u149, u150, u151, u152, u153, u154, u155, u156, u157, u158, u159, u160, u161, u162, u163, u164, u165, u166, u167, u168, u169, u170, u171, u172, u173, u174, u175, u176, u177, u178, u179, u180, u181, u182, u183], defers := [] } W := by
  have HP := Lib.hid hP
  have HB := Lib.hid hB
  have HKL := Lib.hid kL
  have g3lt := h3.lt
  have g4lt := h4.lt
  have H4 := Lib.hid h4
  clear hP hB kL h4
  conv => arg 2; whnf
  go_wp2_with (first
    | (at_range; refine wpList_range_own _ rfl _ 50 rfl 3 3 nt_law Tryz.underlying50 _ g3 n3 _ rfl h3 ?_; intro w0 hrg0 hg0 hs0)
    | fail)
  go_frame
  go_loopw [25] (fun _ wr => ∃ (left : Lit → Bool) (cnt : Nat), wr.ranges Tryz.prog 3 (plainElem Tryz.prog 3) g3 W.heap.size n3 D left cnt ∧ wr.ownsMap Tryz.prog 3 (plainElem Tryz.prog 3) g4 n4 E ∧ Below W.heap.size W wr) (fun _ wr => wr.rangeLeft g3 W.heap.size)
  case atStart => exact ⟨_, _, hrg0, H4.out.kept hg0 (by simp), (Below.refl _ _).grown hg0 (Nat.le_refl _) (fun j hj => by cases hj)⟩
  case round =>
    obtain ⟨left, cnt, hrg, h4r, hbr⟩ := hrel
    clear h3 hrg0 hg0 hs0
    have H4r := Lib.hid h4r
    have HBr := Lib.hid hbr
    clear h4r hbr
    go_wp2_with (first
      | (at_next; refine wpList_next_ranges_ii _ rfl _ rfl 3 3 .i64 .i64 nt_law Tryz.underlying3 Tryz.underlying3 g3 W.heap.size n3 _ _ _ rfl hrg ?_ ?_)
      | fail)
    · intro _ _
      have HB9 := Lib.hid (HB.out.trans (HBr.out.mono HB.out.size))
      clear hrg
      go_wp2_with fail
      refine (HKL.out _ HB9.out).mono ?_
      rintro ee wz ⟨rfl, hbz⟩
      have HBZ := Lib.hid (HB9.out.trans (hbz.mono HB9.out.size))
      clear hbz
      go_wp2
      go_ret
      exact ⟨rfl, HBZ.out⟩
    · intro x1 c1 w1 cnt1 hwx1 hwc1 hlx1 hat1 hrg1 hlt1 hg1 hs1 hen1
      have H41 := Lib.hid (H4r.out.kept hg1 (by simp; omega))
      have HB1 := Lib.hid (HBr.out.grown hg1 HBr.out.size (fun j hj => by cases hj; exact Nat.le_refl _))
      have HRG1 := Lib.hid hrg1
      have HRG := Lib.hid hrg
      clear hrg hrg1 hg1 hlx1 hs1
      go_wp2_with (first
        | (at_range; refine wpList_range_own _ rfl _ 50 rfl 3 3 nt_law Tryz.underlying50 _ g3 n3 _ rfl HRG1.out.owns ?_; intro w2 hrg2 hg2 hs2)
        | fail)
      go_frame
      have hr1 : W.heap.size < w1.heap.size := HRG1.out.lt
      go_loopw [26] (fun _ wr2 => ∃ (left2 : Lit → Bool) (cnt2 : Nat), wr2.ranges Tryz.prog 3 (plainElem Tryz.prog 3) g3 w1.heap.size n3 D left2 cnt2 ∧ wr2.ranges Tryz.prog 3 (plainElem Tryz.prog 3) g3 W.heap.size n3 D (fun z => left z && !z.sameKey (.int .i64 x1)) cnt1 ∧ wr2.ownsMap Tryz.prog 3 (plainElem Tryz.prog 3) g4 n4 E ∧ Below W.heap.size W wr2) (fun _ wr2 => wr2.rangeLeft g3 w1.heap.size)
      case atStart => exact ⟨_, _, hrg2, HRG1.out.kept hg2 (by simp) (by simp), H41.out.kept hg2 (by simp), HB1.out.grown hg2 HB1.out.size (fun j hj => by cases hj)⟩
      case round =>
        obtain ⟨left2, cnt2, hin, hout, h4i, hbi⟩ := hrel
        have H4i := Lib.hid h4i
        have HBi := Lib.hid hbi
        have HOUT := Lib.hid hout
        clear hrg2 hg2 hs2 h4i hbi hout
        go_wp2_with (first
          | (at_next; refine wpList_next_ranges_ii _ rfl _ rfl 3 3 .i64 .i64 nt_law Tryz.underlying3 Tryz.underlying3 g3 w1.heap.size n3 _ _ _ rfl hin ?_ ?_)
          | fail)
        · intro _ _
          clear hin
          go_wp2
          go_roundw
          case rel => exact ⟨_, _, HOUT.out, H4i.out, HBi.out⟩
          case measure => rw [HOUT.out.left_eq, HRG.out.left_eq]; exact hlt1
        · intro x2 c2 w3 cnt3 hwx2 hwc2 hlx2 hat2 hrg3 hlt3 hg3 hs3 hen3
          have HIN := Lib.hid hin
          have H43 := Lib.hid (H4i.out.kept hg3 (by simp; omega))
          have HB3 := Lib.hid (HBi.out.grown hg3 HBi.out.size (fun j hj => by cases hj; omega))
          have HO3 := Lib.hid (HOUT.out.kept hg3 (by simp; omega) (by simp; omega))
          have HI3 := Lib.hid hrg3
          obtain ⟨p1, p2, l1, l2⟩ := HP.out.looks HI3.out.owns H43.out hwx1 hat1
          obtain ⟨p3, p4, l3, l4⟩ := HP.out.looks HI3.out.owns H43.out hwx2 hat2
          have v1 : IntKind.i64.wrap (c1 - c2) = c1 - c2 := IntWalk.i64_in _ (by omega)
          have v2 : IntKind.i64.wrap (T - c2 - (T - c1)) = c1 - c2 := by rw [IntWalk.i64_in _ (by omega)]; omega
          have v3 := bne_self_eq_false' (c1 - c2)
          clear hin hrg3 hg3 hlx2 hs3
          go_wp2
          go_roundw
          case rel => exact ⟨_, _, HI3.out, HO3.out, H43.out, HB3.out⟩
          case measure => rw [HI3.out.left_eq, HIN.out.left_eq]; exact hlt3

end Go.Proofs.YtbckfkopdojggaaGreatDoor
