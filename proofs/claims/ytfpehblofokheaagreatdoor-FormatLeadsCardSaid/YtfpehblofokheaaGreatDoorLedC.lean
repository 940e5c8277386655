/- The reference's Leaders. -/
import Derived.Test.YtfpehblofokheaaGreatDoorLedB
import Derived.Test.YtfpehblofokheaaGreatDoorScoS
import Derived.Test.YtfpehblofokheaaGreatDoorTieB
import Derived.Outline
set_option linter.unusedVariables false
set_option linter.unusedSimpArgs false
namespace Go.Proofs.YtfpehblofokheaaGreatDoor
open Go.RowKit

theorem append_num (base : Nat) (y : Int) (w : World) (v : Value) (tk : List Int) (hb : base ≤ w.heap.size) (hl : tk.length ≤ 1000) (hown : w.ownsRow base 3 1 v tk.length (tk.map (Value.int .i64))) :
    ∃ v' w', (Builtin.append_ #[35, 35] 35 #[v, .slice (some ⟨w.heap.size, 0, none⟩) 1 1]).run Tryz.prog (w.alloc (.cells #[.int .i64 y] 3)) = .ok v' w' ∧ w'.ownsRow base 3 1 v' (tk ++ [y]).length ((tk ++ [y]).map (Value.int .i64)) ∧ Below base w w' ∧
      w.grownBy w' v.ownBlock ∧ (v'.ownBlock = v.ownBlock ∨ v'.ownBlock = some (w.heap.size + 1)) := by
  obtain ⟨v', w', hr, ho, hbw, hgr, hb2⟩ := append_grown base 35 3 (.int .i64 0) 1 8 Tryz.underlying35 info_int rfl (by decide) [.int .i64 y] rfl (by simp [Value.oneCell']) w v tk.length _ hb (by omega) (by omega) hown
  exact ⟨v', w', hr, by rw [List.length_append, List.map_append]; exact ho, hbw, hgr, hb2⟩
/-- The numbers of the leaders, as integers. -/
def ldW (hs : List (Int × Int)) (ps : List Pl) (k : Nat) : List Int := (ldIx hs ps k).map fun i => ((i : Nat) : Int)
theorem ldW_len (hs : List (Int × Int)) (ps : List Pl) (k : Nat) : (ldW hs ps k).length = (ldIx hs ps k).length := by simp [ldW]
/-- The field's box: its holes and its players. -/
def LeadOut (xs ys : List Int) (w : World) (e : Ending) (w' : World) : Prop := ∃ A c B d, e = .returned (.tuple #[.slice A xs.length c, .slice B ys.length d]) ∧ IntsAt w' w'.heap.size A xs ∧ IntsAt w' w'.heap.size B ys ∧ Below w.heap.size w w'

/-- The first loop's state: who is a leader, and the lists. -/
def LedS1 (w0 w : World) (vw vl : Value) (hs : List (Int × Int)) (ps : List Pl) (k : Nat) : Prop :=
  w.ownsRow w0.heap.size 3 1 vw (ldW hs ps k).length ((ldW hs ps k).map (Value.int .i64)) ∧ LsOwn w w0.heap.size vl (ldLs hs ps k) vw.ownBlock ∧ Below w0.heap.size w0 w
theorem LedS1.below {w0 w w' : World} {vw vl : Value} {hs : List (Int × Int)} {ps : List Pl} {k : Nat} (h : LedS1 w0 w vw vl hs ps k) (hb : Below w.heap.size w w') : LedS1 w0 w' vw vl hs ps k :=
  ⟨own_keep h.1 hb, h.2.1.below hb, h.2.2.trans (hb.mono h.2.2.size)⟩
theorem LedS1.same {w0 w : World} {vw vl : Value} {hs : List (Int × Int)} {ps : List Pl} {k : Nat} (h : LedS1 w0 w vw vl hs ps k) (e : isLd hs (ps.getD k plD) = false) : LedS1 w0 w vw vl hs ps (k + 1) := by
  have h1 : ldIx hs ps (k + 1) = ldIx hs ps k := by rw [ldIx_succ, if_neg (by rw [e]; decide)]
  unfold LedS1 ldW ldLs at *
  rw [h1]
  exact h
/-- One more leader: two appends, one after the other. -/
theorem LedS1.more {w0 w : World} {vw vl : Value} {hs : List (Int × Int)} {ps : List Pl} {k g c : Nat} {rest : List Value} (h : LedS1 w0 w vw vl hs ps k) (e : isLd hs (ps.getD k plD) = true) (hk : k ≤ 1000) (hy : PreR w g (ldS hs (ps.getD k plD)) rest) (hc : (ldS hs (ps.getD k plD)).length ≤ c) (hg : vw.ownBlock ≠ some g) :
    ∃ v1 w1 v2 w2, (Builtin.append_ #[35, 35] 35 #[vw, .slice (some ⟨w.heap.size, 0, none⟩) 1 1]).run Tryz.prog (w.alloc (.cells #[.int .i64 (k : Int)] 3)) = .ok v1 w1 ∧
      (Builtin.append_ #[26, 26] 26 #[vl, .slice (some ⟨w1.heap.size, 0, none⟩) 1 1]).run Tryz.prog (w1.alloc (.cells #[.slice (some ⟨g, 0, none⟩) (ldS hs (ps.getD k plD)).length c] 35)) = .ok v2 w2 ∧ LedS1 w0 w2 v1 v2 hs ps (k + 1) := by
  obtain ⟨h1, h2, h3⟩ := h
  have hi : ldIx hs ps (k + 1) = ldIx hs ps k ++ [k] := by rw [ldIx_succ, if_pos e]
  have hll := ldIx_len hs ps k
  obtain ⟨v1, w1, r1, o1, b1, g1, f1⟩ := append_num w0.heap.size (k : Int) w vw (ldW hs ps k) h3.size (by rw [ldW_len]; omega) h1
  have hL1 : LsOwn w1 w0.heap.size vl (ldLs hs ps k) v1.ownBlock := by
    refine h2.kept g1 ?_ (fun b hb => .inl hb) ?_
    · obtain ⟨cs, q, _⟩ := h2
      exact own_types q h1 (by decide)
    · rcases f1 with f | f
      · exact .inl f
      · exact .inr ⟨_, f, by omega⟩
  have hy1 : PreR w1 g (ldS hs (ps.getD k plD)) rest := hy.grown g1 (fun e => hg e.symm)
  have hg1 : v1.ownBlock ≠ some g := by
    rcases f1 with f | f
    · rw [f]; exact hg
    · rw [f]; intro e; injection e with e; have := hy.lt; omega
  obtain ⟨v2, w2, r2, o2, b2, g2, _⟩ := append_ls w0.heap.size g c (ldS hs (ps.getD k plD)) rest v1.ownBlock w1 vl (ldLs hs ps k) (Nat.le_trans h3.size b1.size) (by rw [ldLs_len]; omega) hL1 hy1 hc hg1
  refine ⟨v1, w1, v2, w2, r1, r2, ?_, ?_, ?_⟩
  · have : ldW hs ps (k + 1) = ldW hs ps k ++ [(k : Int)] := by unfold ldW; rw [hi, List.map_append]; rfl
    rw [this]
    refine o1.kept g2 ?_
    obtain ⟨cs, q, _⟩ := hL1
    exact own_types o1 q (by decide)
  · have : ldLs hs ps (k + 1) = ldLs hs ps k ++ [ldS hs (ps.getD k plD)] := by unfold ldLs; rw [hi, List.map_append]; rfl
    rw [this]
    exact o2
  · exact h3.trans (b1.trans b2)

/-- The third loop's state: the classes up to n, and those of the first i with rank n + 1. -/
def clsK (n i : Nat) (P : List (Int × Int)) : List (Int × Int) := clsL n P ++ clsOf (P.take i) n
theorem clsK_zero (n : Nat) (P : List (Int × Int)) : clsK n 0 P = clsL n P := by unfold clsK clsOf; simp
theorem clsK_all (n i : Nat) (P : List (Int × Int)) (h : P.length ≤ i) : clsK n i P = clsL (n + 1) P := by
  unfold clsK clsL
  rw [List.take_of_length_le h, List.range_succ, List.flatMap_append]
  simp
theorem clsK_succ (n i : Nat) (P : List (Int × Int)) (h : i < P.length) : clsK n (i + 1) P = if (P.getD i (0, 0)).2 = ((n + 1 : Nat) : Int) then clsK n i P ++ [P.getD i (0, 0)] else clsK n i P := by
  have hg : P.getD i (0, 0) = P[i] := by simp [List.getD, List.getElem?_eq_getElem h]
  unfold clsK
  rw [List.take_succ_eq_append_getElem h, clsOf_snoc, hg]
  by_cases e : P[i].2 = ((n + 1 : Nat) : Int)
  · rw [if_pos e, if_pos e, List.append_assoc]
  · rw [if_neg e, if_neg e, List.append_nil]
theorem clsL_len_le (n : Nat) (P : List (Int × Int)) : (clsL n P).length ≤ n * P.length := by
  unfold clsL
  induction n with
  | zero => simp
  | succ n ih =>
    rw [List.range_succ, List.flatMap_append, List.length_append]
    have : (clsOf P n).length ≤ P.length := List.length_filter_le _ _
    have e : (List.flatMap (clsOf P) [n]).length = (clsOf P n).length := by simp
    rw [e, Nat.succ_mul]
    omega
theorem clsK_len (n i : Nat) (P : List (Int × Int)) (hP : P.length ≤ 19) (hn : n ≤ 19) : (clsK n i P).length ≤ 900 := by
  unfold clsK
  have h1 := clsL_len_le n P
  have h2 : (clsOf (P.take i) n).length ≤ (P.take i).length := List.length_filter_le _ _
  have h3 : n * P.length ≤ 19 * 19 := Nat.mul_le_mul hn hP
  have h4 : (P.take i).length ≤ P.length := by simp; omega
  rw [List.length_append]
  omega
def LedS2 (w0 w : World) (vo vr : Value) (n i : Nat) (P : List (Int × Int)) : Prop :=
  w.ownsRow w0.heap.size 3 1 vo ((clsK n i P).map (·.1)).length (((clsK n i P).map (·.1)).map (Value.int .i64)) ∧ w.ownsRow w0.heap.size 3 1 vr ((clsK n i P).map (·.2)).length (((clsK n i P).map (·.2)).map (Value.int .i64)) ∧
  (vo.ownBlock = none ∨ vo.ownBlock ≠ vr.ownBlock) ∧ (vr.ownBlock = none ∨ vr.ownBlock ≠ vo.ownBlock) ∧ Below w0.heap.size w0 w
theorem LedS2.more {w0 w : World} {vo vr : Value} {n i : Nat} {P : List (Int × Int)} (h : LedS2 w0 w vo vr n i P) (hi : i < P.length) (he : (P.getD i (0, 0)).2 = ((n + 1 : Nat) : Int)) (hl : (clsK n i P).length ≤ 900) :
    ∃ v1 w1 v2 w2, (Builtin.append_ #[35, 35] 35 #[vo, .slice (some ⟨w.heap.size, 0, none⟩) 1 1]).run Tryz.prog (w.alloc (.cells #[.int .i64 (P.getD i (0, 0)).1] 3)) = .ok v1 w1 ∧
      (Builtin.append_ #[35, 35] 35 #[vr, .slice (some ⟨w1.heap.size, 0, none⟩) 1 1]).run Tryz.prog (w1.alloc (.cells #[.int .i64 ((n + 1 : Nat) : Int)] 3)) = .ok v2 w2 ∧ LedS2 w0 w2 v1 v2 n (i + 1) P := by
  obtain ⟨h1, h2, h3, h4, h5⟩ := h
  obtain ⟨v1, w1, r1, o1, b1, g1, f1⟩ := append_num w0.heap.size (P.getD i (0, 0)).1 w vo _ h5.size (by simp; omega) h1
  have h21 := h2.kept g1 h4
  have hne : vr.ownBlock = none ∨ vr.ownBlock ≠ v1.ownBlock := by
    rcases f1 with f | f
    · rw [f]; exact h4
    · cases hq : vr.ownBlock with
      | none => left; rfl
      | some b =>
        right
        rw [f]
        intro e; injection e with e
        have := (own_lt h2 b hq).2
        omega
  obtain ⟨v2, w2, r2, o2, b2, g2, f2⟩ := append_num w0.heap.size ((n + 1 : Nat) : Int) w1 vr _ (Nat.le_trans h5.size b1.size) (by simp; omega) h21
  have hs := clsK_succ n i P hi
  rw [if_pos he] at hs
  have hne2 : v1.ownBlock = none ∨ v1.ownBlock ≠ vr.ownBlock := by
    rcases hne with e | e
    · cases hq : v1.ownBlock with
      | none => left; rfl
      | some b => right; rw [e]; simp
    · right; exact fun q => e q.symm
  refine ⟨v1, w1, v2, w2, r1, r2, ?_, ?_, ?_, ?_, h5.trans (b1.trans b2)⟩
  · rw [hs, List.map_append]
    exact o1.kept g2 hne2
  · rw [hs, List.map_append]
    have e2 : [P.getD i (0, 0)].map (·.2) = [((n + 1 : Nat) : Int)] := by simp only [List.map_cons, List.map_nil]; rw [he]
    rw [e2]
    exact o2
  · cases hq : v1.ownBlock with
    | none => left; rfl
    | some b =>
      right
      rcases f2 with f | f
      · rw [f, ← hq]
        rcases hne2 with e | e
        · rw [e] at hq; cases hq
        · exact e
      · rw [f]; intro e; injection e with e
        have := (own_lt o1 b hq).2
        omega
  · cases hq : v2.ownBlock with
    | none => left; rfl
    | some b =>
      right
      rcases f2 with f | f
      · rw [f] at hq
        rcases hne with e | e
        · rw [e] at hq; cases hq
        · rw [← hq]; exact e
      · intro e
        rw [f] at hq
        injection hq with hq
        have := (own_lt o1 b e.symm).2
        omega
theorem LedS2.same {w0 w : World} {vo vr : Value} {n i : Nat} {P : List (Int × Int)} (h : LedS2 w0 w vo vr n i P) (hi : i < P.length) (he : (P.getD i (0, 0)).2 ≠ ((n + 1 : Nat) : Int)) : LedS2 w0 w vo vr n (i + 1) P := by
  have hs := clsK_succ n i P hi
  rw [if_neg he] at hs
  unfold LedS2 at *
  rw [hs]
  exact h
theorem LedS2.next {w0 w : World} {vo vr : Value} {n i : Nat} {P : List (Int × Int)} (h : LedS2 w0 w vo vr n i P) (hi : P.length ≤ i) : LedS2 w0 w vo vr (n + 1) 0 P := by
  unfold LedS2 at *
  rw [clsK_zero, ← clsK_all n i P hi]
  exact h
set_option maxRecDepth 100000 in
set_option maxHeartbeats 16000000 in
theorem refLeaders_any (A H : Option Addr) (c ch : Nat) (hs : List (Int × Int)) (ps : List Pl) (w : World) (hr : HolesR w H hs) (hbl : ∀ a, H = some a → a.block < w.heap.size) (hp : PlayersR w A ps) (hl : ps.length ≤ 19) (hn : ∀ p ∈ ps, plI hs p = 0) (h0 : 0 < hs.length) (h36 : hs.length ≤ 36) (HZ : ∀ x ∈ hs, 1 ≤ x.2 ∧ x.2 ≤ hs.length) :
    Calls Tryz.prog 12 #[.agg #[.slice H hs.length ch, .slice A ps.length c]] w (LeadOut ((clsL (ldP hs ps).length (ldP hs ps)).map (·.1)) ((clsL (ldP hs ps).length (ldP hs ps)).map (·.2)) w) := by
  have HSC := Lib.hid (fun W (hb : Below w.heap.size w W) B d (p : Pl) (he : EntriesR W B p.l) (hn : plI hs p = 0) =>
    refScore_any H B ch d hs p.nm p.l p.h W (hr.keep hbl hb) (fun a ha => Nat.lt_of_lt_of_le (hbl a ha) hb.size) he hn HZ (fit_of hn).netsSmall (by rw [(fit_of hn).netsLen]; omega))
  have HNT := Lib.hid (fun W (hb : Below w.heap.size w W) B d (p : Pl) (he : EntriesR W B p.l) (hn : plI hs p = 0) =>
    refNets_any H B ch d hs p.nm p.l p.h W (hr.keep hbl hb) (fun a ha => Nat.lt_of_lt_of_le (hbl a ha) hb.size) he hn HZ)
  have HNL : Hid (∀ p ∈ ps, (netsOf hs p.h p.l).length = hs.length) := Lib.hid (fun p hp => (fit_of (hn p hp)).netsLen)
  have HAL := Lib.hid (ldLs_alike hs ps hn h0 h36)
  have HP := Lib.hid hp
  have HN := Lib.hid hn
  clear hr hp hn
  go_enter Tryz.func12, Tryz.ntmps12
  go_wp2
  generalize hW0 : w.alloc (.cells #[.slice H hs.length ch, .slice A ps.length c] 30) = W0
  obtain ⟨a1, a2, a3⟩ := one_alloc w _ _ hW0
  have HBX := Lib.hid a1
  have HB0 := Lib.hid a2
  clear hW0 a1 a2 a3
  go_loopw [4, 5, 6] (fun vw vl iv w' => ∃ k : Nat, k ≤ ps.length ∧ iv = .int .i64 k ∧ LedS1 W0 w' vw vl hs ps k) (fun _ _ iv _ => ps.length - (intOf iv).toNat)
  case atStart => exact ⟨0, Nat.zero_le _, rfl, World.ownsRow_nil _ _ _ 1, LsOwn.nil _ _ _, Below.refl _ _⟩
  case round =>
    obtain ⟨k, hk, rfl, hst⟩ := hrel
    have HST := Lib.hid hst
    have HBK := Lib.hid (HB0.out.trans (hst.2.2.mono HB0.out.size))
    have hbx := HBX.out.below hst.2.2 HBX.out.lt
    have x0 := hbx.cell 0
    have x1 := hbx.cell 1
    simp only [List.getElem?_toArray, List.getElem?_cons_zero, List.getElem?_cons_succ] at x0 x1
    clear hst
    by_cases hlt : k < ps.length
    · have hk0 : (0 : Int) ≤ (k : Int) := Int.natCast_nonneg _
      have hk1 : (k : Int) < (ps.length : Int) := by omega
      have HMEM : Hid (ps.getD k plD ∈ ps) := Lib.hid (by simp [List.getD, List.getElem?_eq_getElem hlt])
      have HPN := Lib.hid (HN.out _ HMEM.out)
      have HNLK := Lib.hid (HNL.out _ HMEM.out)
      obtain ⟨a, B, d, rfl, d0, d1, d2, _, hent⟩ := (HP.out.keep HBK.out) k hlt
      have HENT := Lib.hid hent
      have HLD : Hid (isLd hs (ps.getD k plD) = allCount (netsOf hs (ps.getD k plD).h (ps.getD k plD).l)) := Lib.hid rfl
      have HLS : Hid (ldS hs (ps.getD k plD) = firsts (netsOf hs (ps.getD k plD).h (ps.getD k plD).l)) := Lib.hid rfl
      have HZ := Lib.hid (ldIx_len hs ps k)
      clear hent hbx
      generalize hpk : ps.getD k plD = p at d0 d1 d2 HENT HPN HNLK HLD HLS
      have HPK := Lib.hid hpk
      clear hpk
      obtain ⟨nm, l, h⟩ := p
      simp only at d0 d1 d2
      have HLD2 : Hid (isLd hs ⟨nm, l, h⟩ = allCount (netsOf hs h l)) := HLD
      have HLS2 : Hid (ldS hs ⟨nm, l, h⟩ = firsts (netsOf hs h l)) := HLS
      have HNL2 : Hid ((netsOf hs h l).length = hs.length) := HNLK
      have HSC2 : Hid (∀ W, Below w.heap.size w W → EntriesR W B l → _) := Lib.hid (fun W hb he => HSC.out W hb B d ⟨nm, l, h⟩ he HPN.out)
      have HNT2 : Hid (∀ W, Below w.heap.size w W → EntriesR W B l → _) := Lib.hid (fun W hb he => HNT.out W hb B d ⟨nm, l, h⟩ he HPN.out)
      have HP2 : Hid (∀ W, Below w.heap.size w W → PlayersR W (some a) ps) := Lib.hid (fun W hb => HP.out.keep hb)
      clear HLD HLS HNLK HMEM HPN
      generalize netsOf hs h l = nl at HLD2 HLS2 HNL2 HSC2 HNT2
      go_wp2
      go_region_with (go_at_call 46; refine (HSC2.out _ (HBK.out.drew) (HENT.out.keep ((Below.refl _ _).drew))).mono ?_; rintro e w2 ⟨rfl, hb2⟩; have HB2 := Lib.hid hb2; clear hb2)
      all_goals
        have HBW := Lib.hid (((Below.refl wr.heap.size wr).drew).trans HB2.out)
        cases hac : allCount nl
        · have HLD3 : Hid (isLd hs (ps.getD k plD) = false) := Lib.hid (by rw [HPK.out, HLD2.out]; exact hac)
          rw [hac] at *
          simp only [wholeB, Bool.false_eq_true, if_false]
          clear hac
          go_wp2
          go_roundw
          case rel => exact ⟨k + 1, by omega, by go_num, (HST.out.same HLD3.out).below HBW.out⟩
          case measure => simp [intOf]; omega
        · have HLD3 : Hid (isLd hs (ps.getD k plD) = true) := Lib.hid (by rw [HPK.out, HLD2.out]; exact hac)
          have HLS3 : Hid (ldS hs (ps.getD k plD) = firsts nl) := Lib.hid (by rw [HPK.out]; exact HLS2.out)
          simp only [wholeB, if_true]
          clear hac
          have hbx2 := (HBX.out.below HST.out.2.2 HBX.out.lt).below HBW.out (HBX.out.below HST.out.2.2 HBX.out.lt).lt
          have y0 := hbx2.cell 0
          have y1 := hbx2.cell 1
          simp only [List.getElem?_toArray, List.getElem?_cons_zero, List.getElem?_cons_succ] at y0 y1
          have z0 := (HBW.out.cell (World.block_lt_of_cell? _ _ d0)).trans d0
          have z1 := (HBW.out.cell (World.block_lt_of_cell? _ _ d1)).trans d1
          have z2 := (HBW.out.cell (World.block_lt_of_cell? _ _ d2)).trans d2
          have HST2 := Lib.hid (HST.out.below HBW.out)
          have HB22 := Lib.hid (HBK.out.trans (HBW.out.mono HBK.out.size))
          have HENT2 := Lib.hid (HENT.out.keep HBW.out)
          clear d0 d1 d2 x0 x1 hbx2 HBW HST HB2 HBK
          go_wp2
          refine region_still_tail 7 (by kernel_rfl) (by kernel_rfl) ?_
          simp only [List.take_succ_cons, List.take_zero, List.drop_succ_cons, List.drop_zero]
          iterate 7 still_step
          refine wpStill_nil ?_
          go_wp2_with fail
          refine (HNT2.out _ HB22.out.drew (HENT2.out.keep ((Below.refl _ _).drew))).mono ?_
          rintro e w3 ⟨v3, rfl, hown3, hb3⟩
          obtain ⟨A3, c3, rfl, hen3⟩ := hown3.entries
          have hb23 : Below w2.heap.size w2 w3 := (Below.refl _ _).drew.trans hb3
          have HST3 := Lib.hid (HST2.out.below hb23)
          have HEN3 := Lib.hid hen3
          clear hown3 hen3 hb3 hb23 y0 y1 z0 z1 z2 HST2 HB22 HENT2
          go_wp2
          go_loopw [9, 11] (fun v9 jv w' => ∃ j : Nat, j ≤ nl.length ∧ jv = .int .i64 j ∧ w'.ownsRow w3.heap.size 3 1 v9 ((firsts nl).take j).length (((firsts nl).take j).map (Value.int .i64)) ∧ Below w3.heap.size w3 w') (fun _ jv _ => nl.length - (intOf jv).toNat)
          case atStart => exact ⟨0, Nat.zero_le _, rfl, by simpa using World.ownsRow_nil _ _ _ 1, Below.refl _ _⟩
          case round =>
            obtain ⟨j, hj, rfl, ho, hb⟩ := hrel
            have HO := Lib.hid ho
            have HB := Lib.hid hb
            clear ho hb
            by_cases hjl : j < nl.length
            · have hj0 : (0 : Int) ≤ (j : Int) := Int.natCast_nonneg _
              have hj1 : (j : Int) < (nl.length : Int) := by omega
              have hj36 : (j : Int) < 36 := by have := HNL2.out; omega
              obtain ⟨b, rfl, q0, q1, _⟩ := (HEN3.out.keep HB.out) j hjl
              have HTK : Hid ((firsts nl).take (j + 1) = (firsts nl).take j ++ [(nl.getD j (0, ByteArray.empty)).1]) := Lib.hid (by
                rw [List.take_succ_eq_append_getElem (by rw [firsts_len]; exact hjl), ← firsts_at nl j hjl]
                simp [List.getD, List.getElem?_eq_getElem (show j < (firsts nl).length by rw [firsts_len]; exact hjl)])
              generalize (nl.getD j (0, ByteArray.empty)).1 = s1 at q0 HTK
              obtain ⟨v5, w5, hr5, ho5, hb5, _, _⟩ := append_num w3.heap.size s1 wr u9 ((firsts nl).take j) HB.out.size (by simp; omega) HO.out
              have HRUN5 := Lib.hid hr5
              have HO5 : Hid (w5.ownsRow w3.heap.size 3 1 v5 ((firsts nl).take (j + 1)).length (((firsts nl).take (j + 1)).map (Value.int .i64))) := Lib.hid (by rw [HTK.out]; exact ho5)
              have HB5 := Lib.hid (HB.out.trans hb5)
              clear hr5 ho5 hb5
              go_wp2_with (at_builtin; refine wpList_append_go rfl _ _ 35 rfl _ _ v5 w5 rfl rfl HRUN5.out ?_)
              go_roundw
              case rel => exact ⟨j + 1, by omega, by go_num, HO5.out, HB5.out⟩
              case measure => simp [intOf]; omega
            · have hjn : ¬ (j : Int) < (nl.length : Int) := by omega
              have HTA : Hid ((firsts nl).take j = firsts nl) := Lib.hid (List.take_of_length_le (by rw [firsts_len]; omega))
              have ho9 := HO.out
              rw [HTA.out] at ho9
              obtain ⟨g9, c9, r9, rfl, hp9, hg9, hc9⟩ := PreR.of_own ho9 (by rw [firsts_len, HNL2.out]; exact h0)
              have hst := HST3.out.below HB.out
              have hne : u4 ≠ u4 ∨ True := .inr trivial
              have hvb : u4.ownBlock ≠ some g9 := fun e => by
                have := (own_lt HST3.out.1 g9 e).2
                omega
              obtain ⟨v1, q1, v2, q2, hr1, hr2, hst2⟩ := hst.more (g := g9) (c := c9) (rest := r9) HLD3.out (by omega) (by rw [HLS3.out]; exact hp9) (by rw [HLS3.out]; exact hc9) hvb
              rw [HLS3.out] at hr2
              have HRUN1 := Lib.hid hr1
              have HRUN2 := Lib.hid hr2
              have HST9 := Lib.hid hst2
              clear hr1 hr2 hst2 hst hvb hp9 ho9 hne
              go_wp2_with (at_builtin; first | refine wpList_append_go rfl _ _ 35 rfl _ _ v1 q1 rfl rfl HRUN1.out ?_ | refine wpList_append_go rfl _ _ 26 rfl _ _ v2 q2 rfl rfl HRUN2.out ?_)
              go_round
              case rel => exact ⟨k + 1, by omega, by go_num, HST9.out⟩
              case measure => simp [intOf]; omega
    · have hkn : k = ps.length := by omega
      subst hkn
      have HM19 : Hid ((ldP hs ps).length ≤ 19) := Lib.hid (by rw [ldP_len]; have := ldIx_len hs ps ps.length; omega)
      have HRL : Hid ((ForMath.ranks (ldLs hs ps ps.length)).length = (ldP hs ps).length) := Lib.hid (by rw [ranks_len, ldLP])
      have HWL : Hid ((ldW hs ps ps.length).length = (ldP hs ps).length) := Lib.hid (by rw [ldW_len, ldP_len])
      have HPW : Hid (∀ i, i < (ldP hs ps).length → (ldW hs ps ps.length).getD i 0 = ((ldP hs ps).getD i (0, 0)).1 ∧ (ForMath.ranks (ldLs hs ps ps.length)).getD i 0 = ((ldP hs ps).getD i (0, 0)).2) := Lib.hid (fun i hi => by
        have h1 : i < (ldW hs ps ps.length).length := by rw [HWL.out]; exact hi
        have h2 : i < (ForMath.ranks (ldLs hs ps ps.length)).length := by rw [HRL.out]; exact hi
        have h3 : (ldP hs ps).getD i (0, 0) = ((ldW hs ps ps.length)[i], (ForMath.ranks (ldLs hs ps ps.length))[i]) := by
          simp only [List.getD, List.getElem?_eq_getElem hi, Option.getD_some]
          simp [ldP, ldW]
        rw [h3]
        simp [List.getD, List.getElem?_eq_getElem h1, List.getElem?_eq_getElem h2])
      obtain ⟨AL, cL, rfl, hLR⟩ := HST.out.2.1.lists
      have hi1 := rows_ints HST.out.1
      obtain ⟨AW, cW, rfl, _, hIW⟩ := hi1
      have HIW := Lib.hid hIW
      have HLR := Lib.hid hLR
      clear hIW hLR hbx
      rw [HWL.out, ldLP]
      have HRK := Lib.hid (fun W (h : ListsR W AL (ldLs hs ps ps.length)) => by
        have hh := refRanks_any AL cL hs.length (ldLs hs ps ps.length) W h HAL.out (by rw [ldLP]; have := HM19.out; omega)
        rw [ldLP] at hh
        exact hh)
      go_wp2_with fail
      refine (HRK.out _ HLR.out).mono ?_
      rintro e w2 ⟨v2, rfl, hnum, hb2⟩
      obtain ⟨AR, cR, rfl, _, hIR⟩ := rows_ints hnum
      have HIW2 := Lib.hid (HIW.out.keep hb2)
      have HIR := Lib.hid hIR
      have HB2 := Lib.hid (HBK.out.trans (hb2.mono HBK.out.size))
      rw [HRL.out]
      clear hnum hIR hb2 HST HBK HIW HLR x0 x1
      generalize hP : ldP hs ps = P at *
      have HPE := Lib.hid hP
      clear hP
      go_wp2
      go_loopw [13, 14, 15] (fun vo vr nv w' => ∃ n : Nat, n ≤ P.length ∧ nv = .int .i64 ((n : Int) + 1) ∧ LedS2 w2 w' vo vr n 0 P) (fun _ _ nv _ => P.length + 1 - (intOf nv).toNat)
      case atStart => exact ⟨0, Nat.zero_le _, rfl, by unfold clsK clsL; exact World.ownsRow_nil _ _ _ 1, by unfold clsK clsL; exact World.ownsRow_nil _ _ _ 1, .inl rfl, .inl rfl, Below.refl _ _⟩
      case round =>
        obtain ⟨n, hnl, rfl, hst⟩ := hrel
        have HS2 := Lib.hid hst
        clear hst
        have hm19 := HM19.out
        by_cases hnlt : n < P.length
        · have hn1 : (n : Int) + 1 ≤ (P.length : Int) := by omega
          go_wp2
          go_loopw [13, 14, 16] (fun vo vr iv w' => ∃ i : Nat, i ≤ P.length ∧ iv = .int .i64 (i : Int) ∧ LedS2 w2 w' vo vr n i P) (fun _ _ iv _ => P.length - (intOf iv).toNat)
          case atStart => exact ⟨0, Nat.zero_le _, rfl, HS2.out⟩
          case round =>
            obtain ⟨i, hil, rfl, hst⟩ := hrel
            have HS3 := Lib.hid hst
            clear hst
            by_cases hilt : i < P.length
            · have hi0 : (0 : Int) ≤ (i : Int) := Int.natCast_nonneg _
              have hi1 : (i : Int) < (P.length : Int) := by omega
              have hi19 : (i : Int) < 19 := by omega
              obtain ⟨hpw, hpr⟩ := HPW.out i hilt
              obtain ⟨aw, rfl, _, cw⟩ := (HIW2.out.keep HS3.out.2.2.2.2) i (by rw [HWL.out]; exact hilt)
              obtain ⟨ar, rfl, _, cr⟩ := (HIR.out.keep HS3.out.2.2.2.2) i (by rw [HRL.out]; exact hilt)
              rw [hpw] at cw
              rw [hpr] at cr
              have hlen := clsK_len n i P hm19 (by omega)
              by_cases he : (P.getD i (0, 0)).2 = ((n + 1 : Nat) : Int)
              · obtain ⟨v1, q1, v2, q2, hr1, hr2, hst2⟩ := HS3.out.more hilt he hlen
                have HRUN1 := Lib.hid hr1
                have HRUN2 := Lib.hid hr2
                have HST9 := Lib.hid hst2
                have heb : ((P.getD i (0, 0)).2 == (n : Int) + 1) = true := by rw [beq_iff_eq]; exact he
                generalize (P.getD i (0, 0)).1 = x at cw HRUN1
                generalize (P.getD i (0, 0)).2 = y at cr heb
                clear hr1 hr2 hst2 he hpw hpr
                go_wp2_with (at_builtin; first | refine wpList_append_go rfl _ _ 35 rfl _ _ v1 q1 rfl rfl HRUN1.out ?_ | refine wpList_append_go rfl _ _ 35 rfl _ _ v2 q2 rfl rfl HRUN2.out ?_)
                go_roundw
                case rel =>
                  exact ⟨i + 1, by omega, by go_num, HST9.out⟩
                case measure => simp [intOf]; omega
              · have HST9 := Lib.hid (HS3.out.same hilt he)
                have heb : ((P.getD i (0, 0)).2 == (n : Int) + 1) = false := beq_eq_false_iff_ne.2 he
                generalize (P.getD i (0, 0)).1 = x at cw
                generalize (P.getD i (0, 0)).2 = y at cr heb
                clear he hpw hpr
                go_wp2
                go_round
                case rel => exact ⟨i + 1, by omega, by go_num, HST9.out⟩
                case measure => simp [intOf]; omega
            · have hin : ¬ (i : Int) < (P.length : Int) := by omega
              have HST9 := Lib.hid (HS3.out.next (by omega))
              go_wp2
              go_round
              case rel => exact ⟨n + 1, by omega, by go_num, HST9.out⟩
              case measure => simp [intOf]; omega
        · have hnn : ¬ (n : Int) + 1 ≤ (P.length : Int) := by omega
          have hne : n = P.length := by omega
          subst hne
          have h2 := HS2.out
          unfold LedS2 at h2
          rw [clsK_zero] at h2
          obtain ⟨o1, o2, _, _, hbz⟩ := h2
          obtain ⟨Ao, co, rfl, _, hIo⟩ := rows_ints o1
          obtain ⟨Az, cz, rfl, _, hIz⟩ := rows_ints o2
          have HIO := Lib.hid hIo
          have HIZ := Lib.hid hIz
          have HBZ := Lib.hid (HB2.out.trans (hbz.mono HB2.out.size))
          clear o1 o2 hIo hIz hbz HS2
          go_wp2
          go_ret2
          have hpe := HPE.out
          subst hpe
          exact ⟨Ao, co, Az, cz, by simp, HIO.out, HIZ.out, HBZ.out⟩
end Go.Proofs.YtfpehblofokheaaGreatDoor
