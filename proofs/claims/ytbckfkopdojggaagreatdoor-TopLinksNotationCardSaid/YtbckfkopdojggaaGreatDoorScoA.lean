/- The reference's Nets. -/
import Derived.Test.YtbckfkopdojggaaGreatDoorGivB
import Derived.Test.YtbckfkopdojggaaGreatDoorMgD
import Derived.Deep.RegionLaw
import Derived.Outline
set_option linter.unusedVariables false
set_option linter.unusedSimpArgs false
namespace Go.Proofs.YtbckfkopdojggaaGreatDoor
open Go.RowKit

theorem wpList_append_go {P : Program} {w : World} {ops : Array Oper} {rest : List Oper} {o : Oper} {a : Act} {Q : Exit → Act → World → Prop} (hgd : o.guard = none) (s x : Operand) (t : TypeId)
    (ho : o.op = .call { callee := .builtin .append, args := #[s, x], argTypes := #[t, t] }) (v1 v2 v' : Value) (w' : World) (h1 : a.eval s = v1) (h2 : a.eval x = v2)
    (hrun : (Builtin.append_ #[t, t] o.type #[v1, v2]).run P w = .ok v' w') (h : wpList P ops Q rest (a.put o.dst v') w') : wpList P ops Q (o :: rest) a w := by
  refine wpList_plain hgd fun K hK => ?_
  unfold Oper.wp execOp
  simp only [ho, resolve, invoke, builtin, Sem.run_bind, Sem.run_pure, Result.andThen_ok, List.map_toArray, List.map_cons, List.map_nil, h1, h2, hrun]
  exact hK _ _ h
theorem info_rnet : (Tryz.prog.info? 110).map (fun i => (i.zero, i.size, i.bytes)) = some (some (.agg #[.int .i64 0, .string ⟨#[]⟩]), 2, 24) := by kernel_rfl
theorem given_boundN {q r : Int} (hq : -1000 ≤ q ∧ q ≤ 1000) (hs : List (Int × Int)) (k : Nat) (hk : k < hs.length) : -10000 ≤ (givenL q r hs).getD k 0 ∧ (givenL q r hs).getD k 0 ≤ 10000 := by
  rw [givenL_at _ _ _ _ hk]
  unfold addI
  split <;> omega
/-- What is known of a round's own block and row behind an append. -/
theorem append_net (base : Nat) (y : Int × ByteArray) (w : World) (v : Value) (tk : List (Int × ByteArray)) (hb : base ≤ w.heap.size) (hl : tk.length ≤ 1000) (hown : PairsOwn w base 110 v tk) :
    ∃ v' w', (Builtin.append_ #[108, 108] 108 #[v, .slice (some ⟨w.heap.size, 0, none⟩) 1 1]).run Tryz.prog (w.alloc (.cells #[.int .i64 y.1, .string y.2] 110)) = .ok v' w' ∧
      PairsOwn w' base 110 v' (tk ++ [y]) ∧ Below base w w' := by
  obtain ⟨v', w', h1, h2, h3⟩ := append_gen base 108 110 (.agg #[.int .i64 0, .string ⟨#[]⟩]) 2 24 Tryz.underlying108 info_rnet rfl (by decide) [.int .i64 y.1, .string y.2] rfl (by simp [Value.oneCell']) w v tk.length _ hb (by omega) (by omega) hown
  refine ⟨v', w', h1, ?_, h3⟩
  unfold PairsOwn
  rw [pairCells_snoc, List.length_append]
  exact h2

set_option maxRecDepth 100000 in
set_option maxHeartbeats 8000000 in
theorem refNets_any (A B : Option Addr) (c d : Nat) (hs : List (Int × Int)) (nm : ByteArray) (l : List (Int × ByteArray)) (h : Int) (w : World) (hr : HolesR w A hs) (hbl : ∀ a, A = some a → a.block < w.heap.size) (he : EntriesR w B l) (hn : playerI hs nm l h = 0)
    (HZ : ∀ x ∈ hs, 1 ≤ x.2 ∧ x.2 ≤ hs.length) :
    Calls Tryz.prog 54 #[.slice A hs.length c, .agg #[.string nm, .slice B l.length d, .int .i64 h]] w fun e w' => ∃ v, e = .returned v ∧ PairsOwn w' w.heap.size 110 v (netsOf hs h l) ∧ Below w.heap.size w w' := by
  have F := Lib.hid (fit_of hn)
  have hmost : hs.length ≤ 36 := F.out.most
  have HLL : Hid (l.length = hs.length) := Lib.hid F.out.len
  have HST : Hid (Strokes l) := Lib.hid F.out.strokes
  have HG := Lib.hid (fun W (hb : Below w.heap.size w W) => refGiven_any A c hs h W (hr.keep hbl hb) (fun a ha => Nat.lt_of_lt_of_le (hbl a ha) hb.size) F.out.pos (by omega) F.out.lo F.out.hi HZ)
  have HE := Lib.hid he
  have HGS := Lib.hid (givenL_len (h / (hs.length : Int)) (h % (hs.length : Int)) hs)
  have HGB := Lib.hid (fun k hk => given_boundN (r := h % (hs.length : Int)) (div_small h hs.length F.out.lo F.out.hi F.out.pos) hs k hk)
  have HNL : Hid (netsOf hs h l = netsL (givenL (h / (hs.length : Int)) (h % (hs.length : Int)) hs) l) := Lib.hid rfl
  generalize givenL (h / (hs.length : Int)) (h % (hs.length : Int)) hs = gs at HG HGS HGB HNL
  rw [HNL.out]
  clear hr hbl he hn HZ F HNL
  go_enter Tryz.func54, Tryz.ntmps54
  go_wp2_with fail
  obtain ⟨w1, hW1⟩ : ∃ w1, w.alloc (.cells #[.string nm, .slice B l.length d, .int .i64 h] 84) = w1 := ⟨_, rfl⟩
  rw [hW1]
  obtain ⟨a1, a2, a3⟩ := one_alloc w _ _ hW1
  have HB1 := Lib.hid a2
  refine (HG.out w1 HB1.out).mono ?_
  rintro e w2 ⟨g, rfl, hrow, hg, hb2⟩
  have HB2 := Lib.hid (HB1.out.trans (hb2.mono HB1.out.size))
  have HBX2 := Lib.hid (a1.below hb2 a1.lt)
  have HROW2 := Lib.hid hrow
  have HX2 : Hid (w.heap.size < w2.heap.size) := Lib.hid (by have := hb2.size; omega)
  clear hW1 a1 a2 a3 hrow hg hb2 HG HB1
  rw [HGS.out]
  go_wp2
  go_loopw [6, 7] (fun v kv w' => ∃ k : Nat, k ≤ hs.length ∧ kv = .int .i64 k ∧ PairsOwn w' w2.heap.size 110 v ((netsL gs l).take k) ∧ RowI w' g gs ∧ BlkV w' w.heap.size 84 #[.string nm, .slice B l.length d, .int .i64 h] ∧ Below w.heap.size w w' ∧ w2.heap.size ≤ w'.heap.size) (fun _ kv _ => hs.length - (intOf kv).toNat)
  case atStart => exact ⟨0, Nat.zero_le _, rfl, PairsOwn.nil _ _ _, HROW2.out, HBX2.out, HB2.out, Nat.le_refl _⟩
  case round =>
    obtain ⟨k, hk, rfl, hown, hrow, hbx, hb, hsz⟩ := hrel
    have HOWN := Lib.hid hown
    have HROW := Lib.hid hrow
    have HBX := Lib.hid hbx
    have HB := Lib.hid hb
    have HSZ := Lib.hid hsz
    clear hown hrow hbx hb hsz
    have hk0 : (0 : Int) ≤ (k : Int) := Int.natCast_nonneg _
    by_cases hlt : k < hs.length
    · have hkl : Hid (k < l.length) := Lib.hid (by have := HLL.out; omega)
      have hkg : Hid (k < gs.length) := Lib.hid (by have := HGS.out; omega)
      have hki : (k : Int) < (hs.length : Int) := by omega
      have hki2 : (k : Int) < (l.length : Int) := by have := hkl.out; omega
      obtain ⟨ea, rfl, d0, d1, d2⟩ := (HE.out.keep HB.out) k hkl.out
      have p0 := HBX.out.cell 1
      simp only [List.getElem?_toArray, List.getElem?_cons_zero, List.getElem?_cons_succ] at p0
      have hst : Hid (0 ≤ (l.getD k (0, ByteArray.empty)).1 ∧ (l.getD k (0, ByteArray.empty)).1 ≤ 99) := Lib.hid (by
        have := HST.out (l[k]'hkl.out) (List.getElem_mem hkl.out)
        simpa [List.getD, List.getElem?_eq_getElem hkl.out] using this)
      have hgb := HGB.out k hlt
      have HSN := Lib.hid (netsL_snoc gs l k hkg.out hkl.out)
      have HLEN : Hid (((netsL gs l).take k).length ≤ 1000) := Lib.hid (by have := List.length_take_le k (netsL gs l); omega)
      -- the entry's own block
      have ha := (Below.refl wr.heap.size wr).alloc (Nat.le_refl _) (.cells #[.int .i64 (l.getD k (0, ByteArray.empty)).1, .string (l.getD k (0, ByteArray.empty)).2] 73)
      have hen := BlkV.new wr 73 #[.int .i64 (l.getD k (0, ByteArray.empty)).1, .string (l.getD k (0, ByteArray.empty)).2]
      have r0 := (HROW.out.below ha HROW.out.lt).cell hkg.out
      have HAPP := Lib.hid (fun y => append_net w2.heap.size y _ u6 _ (by have := HSZ.out; have := ha.size; omega) HLEN.out (HOWN.out.below ha))
      rw [show (wr.alloc (.cells #[.int .i64 (l.getD k (0, ByteArray.empty)).1, .string (l.getD k (0, ByteArray.empty)).2] 73)).heap.size = wr.heap.size + 1 by simp] at HAPP
      have HBA := Lib.hid (HB.out.trans (ha.mono HB.out.size))
      have HROWA := Lib.hid (HROW.out.below ha HROW.out.lt)
      have HBXA := Lib.hid (HBX.out.below ha HBX.out.lt)
      have HSZA : Hid (w2.heap.size ≤ (wr.alloc (.cells #[.int .i64 (l.getD k (0, ByteArray.empty)).1, .string (l.getD k (0, ByteArray.empty)).2] 73)).heap.size) := Lib.hid (Nat.le_trans HSZ.out ha.size)
      clear ha
      generalize (netsL gs l).take k = tk at HOWN HSN HLEN HAPP
      generalize l.getD k (0, ByteArray.empty) = en at d0 d1 hst HSN HAPP hen HBA HROWA HBXA HSZA r0
      obtain ⟨s, m⟩ := en
      simp only at d0 d1 hst HSN HAPP hen HBA HROWA HBXA HSZA r0
      generalize gs.getD k 0 = gk at r0 hgb HSN
      have hst2 := hst.out
      have hwr : IntKind.i64.wrap (s - gk) = s - gk := IntWalk.i64_in _ (by omega)
      have e0 := hen.cell 0
      have e1 := hen.cell 1
      simp only [List.getElem?_toArray, List.getElem?_cons_zero, List.getElem?_cons_succ] at e0 e1
      clear hen
      rcases mark_cases m with ⟨h1, h2, h3, h4, h5⟩ | ⟨h1, h2, h3, h4, h5⟩ | ⟨h1, h2, h3, h4, h5⟩ | ⟨h1, h2, h3, h4, h5⟩ | ⟨h1, h2, h3, h4, h5⟩
      · have HV : Hid (netV gk (s, m) = (s - gk, ⟨#[]⟩)) := Lib.hid (by unfold netV; rw [show markK (s, m).2 = markK m from rfl, h5]; simp [noMark])
        clear h5 h1 h2 HAPP
        have hax : Below wr.heap.size wr (((wr.alloc (.cells #[.int .i64 s, .string m] 73)).drew).alloc (.cells #[.int .i64 (s - gk), .string ⟨#[]⟩] 110)) := (((Below.refl wr.heap.size wr).alloc (Nat.le_refl _) (.cells #[.int .i64 s, .string m] 73)).drew).alloc (by simp) (.cells #[.int .i64 (s - gk), .string ⟨#[]⟩] 110)
        have HOWNX : Hid (PairsOwn (((wr.alloc (.cells #[.int .i64 s, .string m] 73)).drew).alloc (.cells #[.int .i64 (s - gk), .string ⟨#[]⟩] 110)) w2.heap.size 110 u6 tk) := Lib.hid (HOWN.out.below hax)
        have HBLK := Lib.hid (HOWN.out.block)
        have HNEW : Hid (∃ ty fr, (((wr.alloc (.cells #[.int .i64 s, .string m] 73)).drew).alloc (.cells #[.int .i64 (s - gk), .string ⟨#[]⟩] 110)).heap[wr.heap.size + 1]? = some (.cells #[.int .i64 (s - gk), .string ⟨#[]⟩] ty fr)) := Lib.hid ⟨_, _, by
          have := heap_alloc_new ((wr.alloc (.cells #[.int .i64 s, .string m] 73)).drew) (.cells #[.int .i64 (s - gk), .string ⟨#[]⟩] 110)
          simpa using this⟩
        have HBX2 : Hid (Below w.heap.size w (((wr.alloc (.cells #[.int .i64 s, .string m] 73)).drew).alloc (.cells #[.int .i64 (s - gk), .string ⟨#[]⟩] 110))) := Lib.hid (HB.out.trans (hax.mono HB.out.size))
        have HROWX : Hid (RowI (((wr.alloc (.cells #[.int .i64 s, .string m] 73)).drew).alloc (.cells #[.int .i64 (s - gk), .string ⟨#[]⟩] 110)) g gs) := Lib.hid (HROW.out.below hax HROW.out.lt)
        have HBXX : Hid (BlkV (((wr.alloc (.cells #[.int .i64 s, .string m] 73)).drew).alloc (.cells #[.int .i64 (s - gk), .string ⟨#[]⟩] 110)) w.heap.size 84 #[.string nm, .slice (some ea) l.length d, .int .i64 h]) := Lib.hid (HBX.out.below hax HBX.out.lt)
        have HSZX : Hid (w2.heap.size ≤ (((wr.alloc (.cells #[.int .i64 s, .string m] 73)).drew).alloc (.cells #[.int .i64 (s - gk), .string ⟨#[]⟩] 110)).heap.size) := Lib.hid (Nat.le_trans HSZ.out hax.size)
        have r1 : (wr.alloc (.cells #[.int .i64 s, .string m] 73)).drew.cell? ⟨g, k, none⟩ = some (.int .i64 gk) := r0
        clear hax HOWN HBXA HROWA HBA
        go_wp2
        go_region_law (
          refine step_pairs (TE := 110) (v := u6) (base := w2.heap.size) (l := tk) rfl (.tmp 39) (.tmp 48) 108 rfl Tryz.underlying108 info_rnet (by rfl) HOWNX.out HLEN.out (wr.heap.size + 1) 1 (by rfl) (s - gk, ⟨#[]⟩) HNEW.out HSZX.out ?_
          intro g2 cap w4 ho hgr hlt2)
        all_goals
          go_wp2
          go_roundw
          case rel =>
            have hb4 : Below w2.heap.size (((wr.alloc (.cells #[.int .i64 s, .string m] 73)).drew).alloc (.cells #[.int .i64 (s - gk), .string ⟨#[]⟩] 110)) w4 := (Below.refl _ _).grown hgr.out HSZX.out (fun b e => (HBLK.out b e).1)
            exact ⟨k + 1, by omega, by go_num, by rw [HSN.out, HV.out]; exact ho.out, HROWX.out.below hb4 HROW2.out.lt, HBXX.out.below hb4 HX2.out, HBX2.out.trans (hb4.mono (by have := HX2.out; omega)), Nat.le_trans HSZX.out hb4.size⟩
          case measure => simp [intOf]; omega
      · have HV : Hid (netV gk (s, m) = (s - gk, ⟨#[]⟩)) := Lib.hid (by unfold netV; rw [show markK (s, m).2 = markK m from rfl, h5]; simp [noMark])
        clear h5 h1 h2 HAPP
        have hax : Below wr.heap.size wr (((wr.alloc (.cells #[.int .i64 s, .string m] 73)).drew).alloc (.cells #[.int .i64 (s - gk), .string ⟨#[]⟩] 110)) := (((Below.refl wr.heap.size wr).alloc (Nat.le_refl _) (.cells #[.int .i64 s, .string m] 73)).drew).alloc (by simp) (.cells #[.int .i64 (s - gk), .string ⟨#[]⟩] 110)
        have HOWNX : Hid (PairsOwn (((wr.alloc (.cells #[.int .i64 s, .string m] 73)).drew).alloc (.cells #[.int .i64 (s - gk), .string ⟨#[]⟩] 110)) w2.heap.size 110 u6 tk) := Lib.hid (HOWN.out.below hax)
        have HBLK := Lib.hid (HOWN.out.block)
        have HNEW : Hid (∃ ty fr, (((wr.alloc (.cells #[.int .i64 s, .string m] 73)).drew).alloc (.cells #[.int .i64 (s - gk), .string ⟨#[]⟩] 110)).heap[wr.heap.size + 1]? = some (.cells #[.int .i64 (s - gk), .string ⟨#[]⟩] ty fr)) := Lib.hid ⟨_, _, by
          have := heap_alloc_new ((wr.alloc (.cells #[.int .i64 s, .string m] 73)).drew) (.cells #[.int .i64 (s - gk), .string ⟨#[]⟩] 110)
          simpa using this⟩
        have HBX2 : Hid (Below w.heap.size w (((wr.alloc (.cells #[.int .i64 s, .string m] 73)).drew).alloc (.cells #[.int .i64 (s - gk), .string ⟨#[]⟩] 110))) := Lib.hid (HB.out.trans (hax.mono HB.out.size))
        have HROWX : Hid (RowI (((wr.alloc (.cells #[.int .i64 s, .string m] 73)).drew).alloc (.cells #[.int .i64 (s - gk), .string ⟨#[]⟩] 110)) g gs) := Lib.hid (HROW.out.below hax HROW.out.lt)
        have HBXX : Hid (BlkV (((wr.alloc (.cells #[.int .i64 s, .string m] 73)).drew).alloc (.cells #[.int .i64 (s - gk), .string ⟨#[]⟩] 110)) w.heap.size 84 #[.string nm, .slice (some ea) l.length d, .int .i64 h]) := Lib.hid (HBX.out.below hax HBX.out.lt)
        have HSZX : Hid (w2.heap.size ≤ (((wr.alloc (.cells #[.int .i64 s, .string m] 73)).drew).alloc (.cells #[.int .i64 (s - gk), .string ⟨#[]⟩] 110)).heap.size) := Lib.hid (Nat.le_trans HSZ.out hax.size)
        have r1 : (wr.alloc (.cells #[.int .i64 s, .string m] 73)).drew.cell? ⟨g, k, none⟩ = some (.int .i64 gk) := r0
        clear hax HOWN HBXA HROWA HBA
        go_wp2
        go_region_law (
          refine step_pairs (TE := 110) (v := u6) (base := w2.heap.size) (l := tk) rfl (.tmp 39) (.tmp 48) 108 rfl Tryz.underlying108 info_rnet (by rfl) HOWNX.out HLEN.out (wr.heap.size + 1) 1 (by rfl) (s - gk, ⟨#[]⟩) HNEW.out HSZX.out ?_
          intro g2 cap w4 ho hgr hlt2)
        all_goals
          go_wp2
          go_roundw
          case rel =>
            have hb4 : Below w2.heap.size (((wr.alloc (.cells #[.int .i64 s, .string m] 73)).drew).alloc (.cells #[.int .i64 (s - gk), .string ⟨#[]⟩] 110)) w4 := (Below.refl _ _).grown hgr.out HSZX.out (fun b e => (HBLK.out b e).1)
            exact ⟨k + 1, by omega, by go_num, by rw [HSN.out, HV.out]; exact ho.out, HROWX.out.below hb4 HROW2.out.lt, HBXX.out.below hb4 HX2.out, HBX2.out.trans (hb4.mono (by have := HX2.out; omega)), Nat.le_trans HSZX.out hb4.size⟩
          case measure => simp [intOf]; omega
      · have HV : Hid (netV gk (s, m) = (0, m)) := Lib.hid (by unfold netV; rw [show markK (s, m).2 = markK m from rfl, h5]; simp)
        clear h5 h1 h2 hwr
        obtain ⟨v', w4, hrun, ho, hb4⟩ := HAPP.out (0, m)
        have HRUN := Lib.hid hrun
        have HO := Lib.hid ho
        have HB4 := Lib.hid (HBA.out.trans (hb4.mono (by have := HX2.out; omega)))
        have HROW4 := Lib.hid (HROWA.out.below hb4 HROW2.out.lt)
        have HBX4 := Lib.hid (HBXA.out.below hb4 HX2.out)
        have HSZ4 : Hid (w2.heap.size ≤ w4.heap.size) := Lib.hid (Nat.le_trans HSZA.out hb4.size)
        clear hrun ho hb4 HAPP HOWN HBXA HROWA HBA
        go_wp2_with (at_builtin; refine wpList_append_go rfl _ _ 108 rfl _ _ v' w4 rfl rfl HRUN.out ?_)
        go_roundw
        case rel => exact ⟨k + 1, by omega, by go_num, by rw [HSN.out, HV.out]; exact HO.out, HROW4.out, HBX4.out, HB4.out, HSZ4.out⟩
        case measure => simp [intOf]; omega
      · have HV : Hid (netV gk (s, m) = (0, m)) := Lib.hid (by unfold netV; rw [show markK (s, m).2 = markK m from rfl, h5]; simp)
        clear h5 h1 h2 hwr
        obtain ⟨v', w4, hrun, ho, hb4⟩ := HAPP.out (0, m)
        have HRUN := Lib.hid hrun
        have HO := Lib.hid ho
        have HB4 := Lib.hid (HBA.out.trans (hb4.mono (by have := HX2.out; omega)))
        have HROW4 := Lib.hid (HROWA.out.below hb4 HROW2.out.lt)
        have HBX4 := Lib.hid (HBXA.out.below hb4 HX2.out)
        have HSZ4 : Hid (w2.heap.size ≤ w4.heap.size) := Lib.hid (Nat.le_trans HSZA.out hb4.size)
        clear hrun ho hb4 HAPP HOWN HBXA HROWA HBA
        go_wp2_with (at_builtin; refine wpList_append_go rfl _ _ 108 rfl _ _ v' w4 rfl rfl HRUN.out ?_)
        go_roundw
        case rel => exact ⟨k + 1, by omega, by go_num, by rw [HSN.out, HV.out]; exact HO.out, HROW4.out, HBX4.out, HB4.out, HSZ4.out⟩
        case measure => simp [intOf]; omega
      · have HV : Hid (netV gk (s, m) = (s - gk, ⟨#[]⟩)) := Lib.hid (by unfold netV; rw [show markK (s, m).2 = markK m from rfl, h5]; simp [noMark])
        clear h5 h1 h2 HAPP
        have hax : Below wr.heap.size wr (((wr.alloc (.cells #[.int .i64 s, .string m] 73)).drew).alloc (.cells #[.int .i64 (s - gk), .string ⟨#[]⟩] 110)) := (((Below.refl wr.heap.size wr).alloc (Nat.le_refl _) (.cells #[.int .i64 s, .string m] 73)).drew).alloc (by simp) (.cells #[.int .i64 (s - gk), .string ⟨#[]⟩] 110)
        have HOWNX : Hid (PairsOwn (((wr.alloc (.cells #[.int .i64 s, .string m] 73)).drew).alloc (.cells #[.int .i64 (s - gk), .string ⟨#[]⟩] 110)) w2.heap.size 110 u6 tk) := Lib.hid (HOWN.out.below hax)
        have HBLK := Lib.hid (HOWN.out.block)
        have HNEW : Hid (∃ ty fr, (((wr.alloc (.cells #[.int .i64 s, .string m] 73)).drew).alloc (.cells #[.int .i64 (s - gk), .string ⟨#[]⟩] 110)).heap[wr.heap.size + 1]? = some (.cells #[.int .i64 (s - gk), .string ⟨#[]⟩] ty fr)) := Lib.hid ⟨_, _, by
          have := heap_alloc_new ((wr.alloc (.cells #[.int .i64 s, .string m] 73)).drew) (.cells #[.int .i64 (s - gk), .string ⟨#[]⟩] 110)
          simpa using this⟩
        have HBX2 : Hid (Below w.heap.size w (((wr.alloc (.cells #[.int .i64 s, .string m] 73)).drew).alloc (.cells #[.int .i64 (s - gk), .string ⟨#[]⟩] 110))) := Lib.hid (HB.out.trans (hax.mono HB.out.size))
        have HROWX : Hid (RowI (((wr.alloc (.cells #[.int .i64 s, .string m] 73)).drew).alloc (.cells #[.int .i64 (s - gk), .string ⟨#[]⟩] 110)) g gs) := Lib.hid (HROW.out.below hax HROW.out.lt)
        have HBXX : Hid (BlkV (((wr.alloc (.cells #[.int .i64 s, .string m] 73)).drew).alloc (.cells #[.int .i64 (s - gk), .string ⟨#[]⟩] 110)) w.heap.size 84 #[.string nm, .slice (some ea) l.length d, .int .i64 h]) := Lib.hid (HBX.out.below hax HBX.out.lt)
        have HSZX : Hid (w2.heap.size ≤ (((wr.alloc (.cells #[.int .i64 s, .string m] 73)).drew).alloc (.cells #[.int .i64 (s - gk), .string ⟨#[]⟩] 110)).heap.size) := Lib.hid (Nat.le_trans HSZ.out hax.size)
        have r1 : (wr.alloc (.cells #[.int .i64 s, .string m] 73)).drew.cell? ⟨g, k, none⟩ = some (.int .i64 gk) := r0
        clear hax HOWN HBXA HROWA HBA
        go_wp2
        go_region_law (
          refine step_pairs (TE := 110) (v := u6) (base := w2.heap.size) (l := tk) rfl (.tmp 39) (.tmp 48) 108 rfl Tryz.underlying108 info_rnet (by rfl) HOWNX.out HLEN.out (wr.heap.size + 1) 1 (by rfl) (s - gk, ⟨#[]⟩) HNEW.out HSZX.out ?_
          intro g2 cap w4 ho hgr hlt2)
        all_goals
          go_wp2
          go_roundw
          case rel =>
            have hb4 : Below w2.heap.size (((wr.alloc (.cells #[.int .i64 s, .string m] 73)).drew).alloc (.cells #[.int .i64 (s - gk), .string ⟨#[]⟩] 110)) w4 := (Below.refl _ _).grown hgr.out HSZX.out (fun b e => (HBLK.out b e).1)
            exact ⟨k + 1, by omega, by go_num, by rw [HSN.out, HV.out]; exact ho.out, HROWX.out.below hb4 HROW2.out.lt, HBXX.out.below hb4 HX2.out, HBX2.out.trans (hb4.mono (by have := HX2.out; omega)), Nat.le_trans HSZX.out hb4.size⟩
          case measure => simp [intOf]; omega
    · have hke : k = hs.length := by omega
      have HFULL : Hid ((netsL gs l).take k = netsL gs l) := Lib.hid (List.take_of_length_le (by rw [netsL_len _ _ (by have := HLL.out; have := HGS.out; omega)]; have := HLL.out; omega))
      clear hke
      go_wp2
      go_ret
      exact ⟨_, rfl, by
        have := HOWN.out
        rw [HFULL.out] at this
        unfold PairsOwn at this ⊢
        exact ownsRow_base this (Nat.le_of_lt HX2.out), HB.out⟩
end Go.Proofs.YtbckfkopdojggaaGreatDoor
