/- card.Parse of a text that is a notation. -/
import Derived.Test.YtbckfkopdojggaaGreatDoorNotO
import Derived.Test.YtbckfkopdojggaaGreatDoorMgF
import Derived.Test.YtbckfkopdojggaaGreatDoorMgH
set_option linter.unusedVariables false
set_option linter.unusedSimpArgs false
namespace Go.Proofs.YtbckfkopdojggaaGreatDoor
open Go Go.RowKit Go.Shelf

attribute [local go_sem] Oper.semAt_some

theorem PairsOwn.turn {w w' : World} {base : Nat} {TE : TypeId} {v : Value} {l : List (Int × ByteArray)} (h : PairsOwn w base TE v l) {row : Option Nat} (hg : w.grownBy w' row) (hr : ∀ r, row = some r → ∃ o : Obj, w.heap[r]? = some o ∧ o.isCells = false) : PairsOwn w' base TE v l := by
  refine World.ownsRow.kept h hg ?_
  rcases h.2 with ⟨rfl, _⟩ | ⟨g, cap, cur, rfl, _, hgb, _⟩
  · exact .inl rfl
  · refine .inr fun e => ?_
    obtain ⟨o, ho, hc⟩ := hr g e.symm
    rw [hgb] at ho; cases ho; cases hc
theorem ReaderR.turn {w w' : World} {b base : Nat} {v : Value} {l : List (Int × ByteArray)} {q : Bool} (h : ReaderR w b base v l q) {row : Option Nat} (hg : w.grownBy w' row) (hr : ∀ r, row = some r → ∃ o : Obj, w.heap[r]? = some o ∧ o.isCells = false) : ReaderR w' b base v l q :=
  ⟨h.blk.turn hg hr, h.own.turn hg hr, h.lo, Nat.le_trans h.hi hg.size⟩

/-- While the words are read: the results' cells, the reader's block, the last number's. -/
def ReadP (g : Nat) {s0 : ByteArray} (pre : List (Wd s0)) (W : World) : Prop := ∃ es q v z,
  NotMath.steps ([], false) (pre.map (·.1.2)) = some (es, q) ∧ es.length ≤ 36 ∧ ReaderR W (g + 1 + 1 + 1) (g + 6) v (es.map enV) q ∧ BlkV W g 51 #[.slice none 0 0] ∧ BlkV W (g + 1) 3 #[.int .i64 0] ∧ BlkV W (g + 1 + 1) 36 #[.int .i64 0] ∧
  BlkV W (g + 1 + 1 + 1 + 1) 3 #[.int .i64 z] ∧ ∃ s, BlkV W (g + 1 + 1 + 1 + 1 + 1) 9 #[.string s]
theorem readP_own (g : Nat) (s0 : ByteArray) : Own (ReadP g (s0 := s0)) := fun pre X Y row h hg hr => by
  obtain ⟨es, q, v, z, h1, h2, h3, h4, h5, h6, h7, s, h8⟩ := h
  exact ⟨es, q, v, z, h1, h2, h3.turn hg hr, h4.turn hg hr, h5.turn hg hr, h6.turn hg hr, h7.turn hg hr, s, h8.turn hg hr⟩

theorem cardWords_any (s : ByteArray) (w : World) :
    Calls Tryz.prog 68 #[.string s] w fun e w' => e = .returned (.func (.func 122) #[] #[.pointer (some ⟨w.heap.size, 0, none⟩)]) ∧ w' = w.alloc (.cells #[.string s] 9) := by
  go_enter Tryz.func68, Tryz.ntmps68
  go_wp2
  go_ret
  exact ⟨rfl, rfl⟩

theorem six_allocs (w : World) (t0 t1 t2 t3 t4 t5 : TypeId) (c0 c1 c2 c3 c4 c5 : Array Value) (W : World) (h : ((((((w.alloc (.cells c0 t0)).alloc (.cells c1 t1)).alloc (.cells c2 t2)).alloc (.cells c3 t3)).alloc (.cells c4 t4)).alloc (.cells c5 t5)) = W) :
    BlkV W w.heap.size t0 c0 ∧ BlkV W (w.heap.size + 1) t1 c1 ∧ BlkV W (w.heap.size + 1 + 1) t2 c2 ∧ BlkV W (w.heap.size + 1 + 1 + 1) t3 c3 ∧ BlkV W (w.heap.size + 1 + 1 + 1 + 1) t4 c4 ∧ BlkV W (w.heap.size + 1 + 1 + 1 + 1 + 1) t5 c5 ∧ Below w.heap.size w W ∧ W.heap.size = w.heap.size + 6 := by
  subst h
  have k0 := BlkV.new w t0 c0
  have k1 := BlkV.new (w.alloc (.cells c0 t0)) t1 c1
  have k2 := BlkV.new ((w.alloc (.cells c0 t0)).alloc (.cells c1 t1)) t2 c2
  have k3 := BlkV.new (((w.alloc (.cells c0 t0)).alloc (.cells c1 t1)).alloc (.cells c2 t2)) t3 c3
  have k4 := BlkV.new ((((w.alloc (.cells c0 t0)).alloc (.cells c1 t1)).alloc (.cells c2 t2)).alloc (.cells c3 t3)) t4 c4
  have k5 := BlkV.new (((((w.alloc (.cells c0 t0)).alloc (.cells c1 t1)).alloc (.cells c2 t2)).alloc (.cells c3 t3)).alloc (.cells c4 t4)) t5 c5
  simp only [World.size_alloc] at k1 k2 k3 k4 k5
  refine ⟨((((k0.alloc _).alloc _).alloc _).alloc _).alloc _, (((k1.alloc _).alloc _).alloc _).alloc _, ((k2.alloc _).alloc _).alloc _, (k3.alloc _).alloc _, k4.alloc _, k5, ?_, by simp⟩
  exact ((((((Below.refl _ _).alloc (Nat.le_refl _) _).alloc (by simp) _).alloc (by simp; omega) _).alloc (by simp; omega) _).alloc (by simp; omega) _).alloc (by simp; omega) _

/-- What Parse returns of a text that is a notation. -/
def ParseOut (l : List (Int × ByteArray)) (w : World) (e : Ending) (w' : World) : Prop :=
  ∃ A c, e = .returned (.tuple #[.slice A l.length c, .int .i64 0, .int .i64 0]) ∧ PairsOwn w' w.heap.size 73 (.slice A l.length c) l ∧ Below w.heap.size w w'

set_option maxRecDepth 100000 in
set_option maxHeartbeats 8000000 in
theorem parse_yes (s : ByteArray) (l : List NotMath.En) (mx : Int) (w : World) (h64 : s.size ≤ 4096) (hne : s.toList ≠ []) (hm : w.cell? ⟨0, 0, none⟩ = some (.int .i64 mx))
    (hst : NotMath.steps ([], false) (NotMath.splitB s.data.toList) = some (l, false)) :
    Calls Tryz.prog 22 #[.string s] w (ParseOut (l.map enV) w) := by
  refine (callsIn_wide (n := 9)).1 ?_
  refine callsIn_of_wp_marks Tryz.func22 rfl trivial ?_ rfl
  simp only [Tryz.ntmps22, List.size_toArray, List.length_cons, List.length_nil, Nat.reduceAdd, Nat.reduceSub, Array.replicate_succ, Array.replicate_zero, List.push_toArray, List.append_toArray, List.nil_append, List.cons_append]
  have HST := Lib.hid hst
  have HM := Lib.hid hm
  have h64i : (s.size : Int) ≤ 4096 := by omega
  have hb0 : (s.toList == []) = false := beq_false_of_ne hne
  clear hst hm hne
  gi_wp2_with (refine ⟨trivial, ?_⟩; gi_at_call 68; refine (callsIn_wide.2 (cardWords_any _ _)).mono ?_; rintro e w' ⟨rfl, rfl⟩)
  obtain ⟨W0, hW0⟩ : ∃ W0, (((((w.alloc (.cells #[.slice none 0 0] 51)).alloc (.cells #[.int .i64 0] 3)).alloc (.cells #[.int .i64 0] 36)).alloc (.cells #[.slice none 0 0, .bool false] 128)).alloc (.cells #[.int .i64 0] 3)).alloc (.cells #[.string s] 9) = W0 := ⟨_, rfl⟩
  rw [hW0]
  obtain ⟨a0, a1, a2, a3, a4, a5, hB0, hsz⟩ := six_allocs w _ _ _ _ _ _ _ _ _ _ _ _ _ hW0
  have HSZ := Lib.hid hsz
  clear hW0 hsz
  refine wpIn_rangeFunc_ownH rfl (by omega) (gf := 122) (lb := #[.pointer (some ⟨w.heap.size + 1 + 1 + 1 + 1 + 1, 0, none⟩)]) rfl trivial (enters_of Tryz.func122 (by kernel_rfl) rfl)
    (wordsLaw _ (by omega) (w.heap.size + 1 + 1 + 1 + 1 + 1) (w.heap.size) s mx W0 (by omega) (by have : 0 < w.heap.size := cell_lt HM.out; exact this) (by have := HSZ.out; omega) (a5.cell 0) ((hB0.cell (p := ⟨0, 0, none⟩) (cell_lt HM.out)).trans HM.out)) (fun h k => h.trans k) (belowK_b (by have := HSZ.out; omega)) (Below.refl _ _) (fun _ => rfl)
    (fun pre W => ReadP w.heap.size pre W ∧ Below w.heap.size w W)
    (fun cc pre W => NotMath.steps ([], false) (pre.map (·.1.2)) = none)
    (OwnFrom.and (Own.from (readP_own _ _) _) (ownFrom_below (Nat.le_refl _) (by have := HSZ.out; omega)))
    (fun cc _ _ _ _ h _ _ => h)
    ⟨⟨[], false, _, 0, rfl, by simp, ⟨a3, PairsOwn.nil _ _ _, by omega, by have := HSZ.out; omega⟩, a0, a1, a2, a4, s, a5⟩, hB0⟩
    (fun x a' W => a' = { tmps := #[.string s, undef, .pointer (some ⟨w.heap.size, 0, none⟩), .pointer (some ⟨w.heap.size + 1, 0, none⟩), .pointer (some ⟨w.heap.size + 1 + 1, 0, none⟩), .pointer (some ⟨w.heap.size + 1 + 1 + 1, 0, none⟩), .pointer (some ⟨w.heap.size + 1 + 1 + 1 + 1, 0, none⟩), .int .i64 x.1.1, .string ⟨x.1.2.toArray⟩, undef, undef, .string s, .int .i64 s.size, .bool (decide (4096 < (s.size : Int))), .string s, .bool false, .string s, .func (.func 122) #[] #[.pointer (some ⟨w.heap.size + 1 + 1 + 1 + 1 + 1, 0, none⟩)], .int .i64 x.1.1, .string ⟨x.1.2.toArray⟩, undef, undef, undef, undef, undef, undef, undef, undef, undef, undef, undef, undef, undef, undef, undef], defers := [] })
    (fun x a' _ X Y row hs hg hr => hs)
    ?assign ?body ?done ?stop
  case assign =>
    rintro lp pre x W K ⟨hI, hB1⟩ hK
    unfold encW
    gi_wp2
    exact hK _ _ ((KeepsOthers.refl _).from _) (Below.refl _ _) ⟨hI, hB1⟩ rfl
  case body =>
    rintro lp pre ⟨⟨k, t⟩, hx⟩ a' W hl ⟨r, hr⟩ ⟨⟨es, q, v, z, h1, h2, h3, h4, h5, h6, h7, s8, h8⟩, hB1⟩ rfl hlt
    have hx2 : t.length ≤ s.size := hx
    obtain ⟨F, hw, hF, hc⟩ := take_any (w.heap.size + 1 + 1 + 1) (w.heap.size + 6) v es q t mx W (by omega) ((hB1.cell (p := ⟨0, 0, none⟩) (cell_lt HM.out)).trans HM.out) h3 h2
    have HS1 := Lib.hid h1
    have HC := Lib.hid hc
    have HW := Lib.hid hw
    have HB1 := Lib.hid hB1
    have HR := Lib.hid h3
    have K4 := Lib.hid h4
    have K5 := Lib.hid h5
    have K6 := Lib.hid h6
    have K7 := Lib.hid h7
    have K8 := Lib.hid h8
    have hsW := hB1.size
    have hhi := h3.hi
    clear h1 h3 h4 h5 h6 h7 h8 hc hw hB1 hl hr
    generalize hQ2 : ownPostG _ _ _ _ _ _ = Q2
    have HQ := Lib.hid hQ2
    clear hQ2
    dsimp only
    gi_wp2_with fail
    refine ⟨trivial, ?_⟩
    refine (CallsIn.inRound lp (callsIn_wide.2 (way_any _ _ _))).mono ?_
    rintro e w3 ⟨rfl, rfl⟩
    rw [HW.out]
    rcases hF with rfl | rfl | rfl
    all_goals
      gi_wp2_with fail
      refine ⟨trivial, ?_⟩
      refine (CallsIn.inRound lp (callsIn_wide.2 HC.out)).mono ?_
      rintro e w4 hout
      rcases hout with ⟨es', q', v', g1, rfl, g2, g3, g4, g5, g6⟩ | ⟨g1, ⟨z', hz', rfl⟩, g2⟩
      · have HG1 := Lib.hid g1
        have HG2 := Lib.hid g2
        have HG4 := Lib.hid g4
        have HG6 := Lib.hid g6
        have b4 : BlkV w4 w.heap.size 51 #[.slice none 0 0] := (g5 _ (by omega) (by omega)).trans K4.out
        have b5 : BlkV w4 (w.heap.size + 1) 3 #[.int .i64 0] := (g5 _ (by omega) (by omega)).trans K5.out
        have b6 : BlkV w4 (w.heap.size + 1 + 1) 36 #[.int .i64 0] := (g5 _ (by omega) (by omega)).trans K6.out
        have b7 : BlkV w4 (w.heap.size + 1 + 1 + 1 + 1) 3 #[.int .i64 z] := (g5 _ (by omega) (by omega)).trans K7.out
        have b8 : BlkV w4 (w.heap.size + 1 + 1 + 1 + 1 + 1) 9 #[.string s8] := (g5 _ (by omega) (by omega)).trans K8.out
        have B4 := Lib.hid b4
        have B5 := Lib.hid b5
        have B6 := Lib.hid b6
        have B7 := Lib.hid b7
        have B8 := Lib.hid b8
        have l0 := b7.cell 0
        have l1 := b7.frozen 0
        clear g1 g2 g4 g5 g6 b4 b5 b6 b7 b8
        gi_wp2
        rw [← HQ.out]
        refine ⟨(HG6.out.trans (KeepsOthers.setCell _ _ _)).from _, (HG4.out.mono (by omega)).setCell (by dsimp only; omega) _, ⟨es', q', v', k, ?_, g3, ?_, B4.out.far (by dsimp only; omega) _, B5.out.far (by simp) _, B6.out.far (by simp) _, B7.out.set 0 _, s8, B8.out.far (by simp) _⟩, (HB1.out.trans (HG4.out.mono (by omega))).setCell (by dsimp only; omega) _⟩
        · rw [List.map_append, NotMath.steps_append, HS1.out]
          simp only [List.map_cons, List.map_nil, NotMath.steps, HG1.out]
        · exact ⟨HG2.out.blk.far (by simp) _, HG2.out.own.far (p := ⟨w.heap.size + 1 + 1 + 1 + 1, 0, none⟩) (by simp) _, by omega, by have := HG2.out.hi; simpa using this⟩
      · have hzb : (z' != 0) = true := by rw [bne_iff_ne]; exact hz'
        have b4 := K4.out.below g2 K4.out.lt
        have b5 := K5.out.below g2 K5.out.lt
        have b6 := K6.out.below g2 K6.out.lt
        have m0 := b4.cell 0
        have m1 := b5.cell 0
        have m2 := b6.cell 0
        have f0 := b4.frozen 0
        have f1 := b5.frozen 0
        have f2 := b6.frozen 0
        have HG1 := Lib.hid g1
        have HG2 := Lib.hid g2
        clear g1 g2 b4 b5 b6
        gi_wp2
        rw [← HQ.out]
        refine ⟨(((keepsOthers_below HG2.out).trans (KeepsOthers.setCell _ _ _)).trans (KeepsOthers.setCell _ _ _)).trans (KeepsOthers.setCell _ _ _) |>.from _, ?_⟩
        show NotMath.steps _ _ = none
        rw [List.map_append, NotMath.steps_append, HS1.out]
        simp only [List.map_cons, List.map_nil, NotMath.steps, HG1.out]
  case done =>
    rintro D ys W hD hS ⟨⟨es, q, v, z, h1, h2, h3, h4, h5, h6, h7, s8, h8⟩, hB1⟩ hK
    have e1 : ys.map (·.1.2) = NotMath.splitB s.data.toList := by
      have := congrArg (List.map (·.2)) hS
      rw [numbered_snd, List.map_map] at this
      exact this
    rw [e1, HST.out] at h1
    obtain ⟨e2, e3⟩ := Prod.mk.inj (Option.some.inj h1)
    subst e2; subst e3
    clear h1 e1 hS
    obtain ⟨A, c, rfl⟩ := h3.own.slice
    have l0 := h3.blk.cell 0
    have l1 := h3.blk.cell 1
    have m0 := h4.cell 0
    have m1 := h5.cell 0
    have m2 := h6.cell 0
    have f0 := h4.frozen 0
    have f1 := h5.frozen 0
    have f2 := h6.frozen 0
    have HR := Lib.hid h3
    have K4 := Lib.hid h4
    have K5 := Lib.hid h5
    have K6 := Lib.hid h6
    have HB1 := Lib.hid hB1
    have HDD := Lib.hid hD
    clear h2 h3 h4 h5 h6 h7 h8 hB1 hD
    have HK := Lib.hid hK
    clear hK
    gi_wp2
    have k4 := ((K4.out.set 0 (.slice A l.length c)).far (p := ⟨w.heap.size + 1, 0, none⟩) (by dsimp only; omega) (.int .i64 0)).far (p := ⟨w.heap.size + 1 + 1, 0, none⟩) (by dsimp only; omega) (.int .i64 0)
    have k5 := ((K5.out.far (p := ⟨w.heap.size, 0, none⟩) (by dsimp only; omega) (.slice A l.length c)).set 0 (.int .i64 0)).far (p := ⟨w.heap.size + 1 + 1, 0, none⟩) (by dsimp only; omega) (.int .i64 0)
    have k6 := ((K6.out.far (p := ⟨w.heap.size, 0, none⟩) (by dsimp only; omega) (.slice A l.length c)).far (p := ⟨w.heap.size + 1, 0, none⟩) (by dsimp only; omega) (.int .i64 0)).set 0 (.int .i64 0)
    have ko := ((HR.out.own.far (p := ⟨w.heap.size, 0, none⟩) (by dsimp only; omega) (.slice A l.length c)).far (p := ⟨w.heap.size + 1, 0, none⟩) (by dsimp only; omega) (.int .i64 0)).far (p := ⟨w.heap.size + 1 + 1, 0, none⟩) (by dsimp only; omega) (.int .i64 0)
    have kb := ((HB1.out.setCell (p := ⟨w.heap.size, 0, none⟩) (by dsimp only; omega) (.slice A l.length c)).setCell (p := ⟨w.heap.size + 1, 0, none⟩) (by dsimp only; omega) (.int .i64 0)).setCell (p := ⟨w.heap.size + 1 + 1, 0, none⟩) (by dsimp only; omega) (.int .i64 0)
    have kd : (((W.setCell ⟨w.heap.size, 0, none⟩ (.slice A l.length c)).setCell ⟨w.heap.size + 1, 0, none⟩ (.int .i64 0)).setCell ⟨w.heap.size + 1 + 1, 0, none⟩ (.int .i64 0)).heap[D]? = some (.deferred (some [])) := by
      have h1 := HDD.out
      have h2 := HSZ.out
      rw [Below.heap_setCell _ _ _ D (by dsimp only; omega), Below.heap_setCell _ _ _ D (by dsimp only; omega), Below.heap_setCell _ _ _ D (by dsimp only; omega)]
      exact HK.out
    generalize ((W.setCell ⟨w.heap.size, 0, none⟩ (.slice A l.length c)).setCell ⟨w.heap.size + 1, 0, none⟩ (.int .i64 0)).setCell ⟨w.heap.size + 1 + 1, 0, none⟩ (.int .i64 0) = W4 at k4 k5 k6 ko kb kd ⊢
    have hgp := grownBy_putObj' W4 D (.deferred none)
    have hrp : ∀ r, some D = some r → ∃ o : Obj, W4.heap[r]? = some o ∧ o.isCells = false := fun r e => by cases e; exact ⟨_, kd, rfl⟩
    have c0 := (k4.turn hgp hrp).cell 0
    have c1 := (k5.turn hgp hrp).cell 0
    have c2 := (k6.turn hgp hrp).cell 0
    have KO := Lib.hid (ko.turn hgp hrp)
    have KB := Lib.hid (kb.trans (belowK_b (w := w) (Nat.le_refl _) W4 D (.deferred (some [])) (.deferred none) (by have := HDD.out; have := HSZ.out; omega) kd rfl rfl))
    clear k4 k5 k6 ko kb
    refine ⟨by simp, .inl ⟨_, _, rfl, run_takeDeferred kd, ?_⟩⟩
    refine ⟨.tuple #[.slice A l.length c, .int .i64 0, .int .i64 0], ?_, A, c, by rw [List.length_map], ?_, KB.out⟩
    · have e0 : (#[Value.slice none 0 0].setIfInBounds 0 (Value.slice A l.length c))[0]? = some (Value.slice A l.length c) := rfl
      have e1 : (#[Value.int .i64 0].setIfInBounds 0 (Value.int .i64 0))[0]? = some (Value.int .i64 0) := rfl
      rw [e0] at c0
      rw [e1] at c1 c2
      simp [results, Tryz.f22, go_sem, c0, c1, c2]
    · exact ⟨KO.out.1, by
        rcases KO.out.2 with h | ⟨g, cap, cur, e1, e2, rest⟩
        · exact .inl h
        · exact .inr ⟨g, cap, cur, e1, by omega, rest⟩⟩
  case stop =>
    rintro D cc pre W hD hS h hK
    exfalso
    obtain ⟨rest, hrest⟩ := hS
    have e1 : pre.map (·.1.2) ++ rest.map (·.2) = NotMath.splitB s.data.toList := by
      have := congrArg (List.map (·.2)) hrest
      rw [numbered_snd, List.map_append, List.map_map] at this
      exact this
    have := HST.out
    rw [← e1, NotMath.steps_append, h] at this
    cases this
end Go.Proofs.YtbckfkopdojggaaGreatDoor
