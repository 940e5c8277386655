/- The law's players of any number that an argument can have; Leaders. -/
import Derived.Test.YtfpehblofokheaaGreatDoorLedB
import Derived.Test.YtfpehblofokheaaGreatDoorFbaA
import Derived.OwnWalk
import Derived.BigQuiet
import Derived.Deep.QuietTactic
import Derived.Outline
set_option linter.unusedVariables false
set_option linter.unusedSimpArgs false
namespace Go.Proofs.YtfpehblofokheaaGreatDoor
open Go.RowKit

theorem append_genB (base : Nat) (T TE : TypeId) (z : Value) (size bytes : Nat) (hT : Tryz.prog.underlying T = some (.slice TE)) (hI : (Tryz.prog.info? TE).map (fun i => (i.zero, i.size, i.bytes)) = some (some z, size, bytes)) (hz : z.cells.size = size) (hsz : 0 < size)
    (cs : List Value) (hcs : cs.length = size) (h1 : ∀ u ∈ cs, u.oneCell' = true) (w : World) (v : Value) (n : Nat) (xs : List Value) (hb : base ≤ w.heap.size) (hl : n ≤ 4611686018427387904) (hbb : (n + 1) * bytes ≤ 140737488355328) (hown : w.ownsRow base TE size v n xs) :
    ∃ v' w', (Builtin.append_ #[T, T] T #[v, .slice (some ⟨w.heap.size, 0, none⟩) 1 1]).run Tryz.prog (w.alloc (.cells cs.toArray TE)) = .ok v' w' ∧
      w'.ownsRow base TE size v' (n + 1) (xs ++ cs) ∧ Below base w w' := by
  obtain ⟨i0, hi, hz0, hz1, hz2⟩ := info_parts hI
  have hd := owns_alloc hown (.cells cs.toArray TE)
  have hrow := heap_alloc_new w (.cells cs.toArray TE)
  obtain ⟨v', w', hrun, h2, h3, _, _⟩ := run_append_own_at (P := Tryz.prog) (w.alloc (.cells cs.toArray TE)) base T T TE i0 z size bytes hT hi hz0 hz1 hz2 hz hsz v n xs hd ⟨w.heap.size, 0, none⟩ 1 1 cs (by omega)
    (fun j u hu => by rw [add_zero_at, cell_of_row _ _ j _ _ _ hrow]; rw [← hu]; simp)
    h1 (by unfold maxLen; omega) hbb (by simp; omega)
  refine ⟨v', w', hrun, h2, ?_⟩
  refine ((Below.refl base w).alloc hb _).grown h3 (by simp; omega) (fun k e => ?_)
  rcases hown.2 with ⟨rfl, _⟩ | ⟨g, cap, cur, rfl, hg, _⟩
  · simp [Value.ownBlock] at e
  · simp [Value.ownBlock] at e; omega
theorem append_plB (w0 : World) (base : Nat) (y : Pl) (B : Option Addr) (d : Nat) (w : World) (v : Value) (tk : List Pl) (hb : base ≤ w.heap.size) (hl : (tk.length + 1) * 48 ≤ 140737488355328) (hown : PlOwn w0 w base v tk) (he : EntriesR w0 B y.l) :
    ∃ v' w', (Builtin.append_ #[27, 27] 27 #[v, .slice (some ⟨w.heap.size, 0, none⟩) 1 1]).run Tryz.prog (w.alloc (.cells #[.string y.nm, .slice B y.l.length d, .int .i64 y.h] 68)) = .ok v' w' ∧
      PlOwn w0 w' base v' (tk ++ [y]) ∧ Below base w w' := by
  obtain ⟨vs, ho, hv⟩ := hown
  obtain ⟨v', w', h1, h2, h3⟩ := append_genB base 27 68 (.agg #[.string ⟨#[]⟩, .slice none 0 0, .int .i64 0]) 3 48 Tryz.underlying27 info_rpl rfl (by decide) [.string y.nm, .slice B y.l.length d, .int .i64 y.h] rfl (by simp [Value.oneCell']) w v tk.length _ hb (by omega) hl ho
  refine ⟨v', w', h1, ⟨_, by rw [List.length_append]; exact h2, fun j hj => ?_⟩, h3⟩
  have hvl : vs.length = tk.length * 3 := ho.1
  by_cases hjt : j < tk.length
  · obtain ⟨B', d', p0, p1, p2, he'⟩ := hv j hjt
    have e : (tk ++ [y]).getD j plD = tk.getD j plD := by simp [List.getD, List.getElem?_append_left hjt]
    rw [e]
    exact ⟨B', d', by rw [List.getElem?_append_left (by omega)]; exact p0, by rw [List.getElem?_append_left (by omega)]; exact p1, by rw [List.getElem?_append_left (by omega)]; exact p2, he'⟩
  · have hj' : j = tk.length := by simp at hj; omega
    subst hj'
    have e : (tk ++ [y]).getD tk.length plD = y := by simp [List.getD]
    rw [e]
    refine ⟨B, d, ?_, ?_, ?_, he⟩
    · rw [List.getElem?_append_right (by omega)]; simp [hvl]
    · rw [List.getElem?_append_right (by omega)]; simp [hvl]
    · rw [List.getElem?_append_right (by omega)]; simp [hvl]

set_option maxRecDepth 100000 in
set_option maxHeartbeats 4000000 in
theorem lawPlayersB_any (A : Option Addr) (c : Nat) (ps : List Pl) (w0 w : World) (hb0 : Below w0.heap.size w0 w) (hp : PlayersR w0 A ps) (hl : ps.length * 48 ≤ 140737488355328) :
    Calls Tryz.prog 5 #[.slice A ps.length c] w fun e w' => ∃ A' c', e = .returned (.slice A' ps.length c') ∧ PlOwn w0 w' w.heap.size (.slice A' ps.length c') ps ∧ Below w.heap.size w w' := by
  have HP := Lib.hid hp
  have HB00 := Lib.hid hb0
  clear hp hb0
  go_enter Tryz.func5, Tryz.ntmps5
  go_wp2
  go_loopw [3, 8] (fun v kv w' => ∃ k : Nat, k ≤ ps.length ∧ kv = .int .i64 k ∧ PlOwn w0 w' w.heap.size v (ps.take k) ∧ Below w.heap.size w w') (fun _ kv _ => ps.length - (intOf kv).toNat)
  case atStart => exact ⟨0, Nat.zero_le _, rfl, PlOwn.nil _ _ _, Below.refl _ _⟩
  case round =>
    obtain ⟨k, hk, rfl, hown, hb⟩ := hrel
    have HOWN := Lib.hid hown
    have HB := Lib.hid hb
    clear hown hb
    have hk0 : (0 : Int) ≤ (k : Int) := Int.natCast_nonneg _
    by_cases hlt : k < ps.length
    · have hk1 : (k : Int) < (ps.length : Int) := by omega
      obtain ⟨a, B, d, rfl, _, _, _, _, he⟩ := HP.out k hlt
      obtain ⟨a', B', d', ea, d0, d1, d2, _, _⟩ := (HP.out.keep (HB00.out.trans (HB.out.mono HB00.out.size))) k hlt
      injection ea with ea
      subst ea
      obtain ⟨_, B2, d3, eb, f0, f1, f2, _, he2⟩ := HP.out k hlt
      injection eb with eb
      subst eb
      have hbd : Value.slice B' (ps.getD k plD).l.length d' = Value.slice B2 (ps.getD k plD).l.length d3 := by
        have g := ((HB00.out.trans (HB.out.mono HB00.out.size)).cell (p := ⟨(a.add (k * 3)).block, (a.add (k * 3)).off + 1, none⟩) (World.block_lt_of_cell? _ _ f1)).trans f1
        rw [d1] at g
        injection g
      injection hbd with h1 _ h3
      subst h1; subst h3
      clear he f0 f1 f2
      have HTK : Hid (ps.take (k + 1) = ps.take k ++ [ps.getD k plD]) := Lib.hid (by
        rw [List.take_succ_eq_append_getElem hlt]; simp [List.getD, List.getElem?_eq_getElem hlt])
      have HLEN : Hid (((ps.take k).length + 1) * 48 ≤ 140737488355328) := Lib.hid (by rw [List.length_take]; omega)
      have hk47 : (k : Int) < 140737488355328 := by omega
      generalize ps.getD k plD = y at d0 d1 d2 he2 HTK
      obtain ⟨nm, l, h⟩ := y
      simp only at d0 d1 d2 he2 HTK
      have ha := (Below.refl wr.heap.size wr).alloc (Nat.le_refl _) (.cells #[.string nm, .slice B' l.length d', .int .i64 h] 55)
      have hen := BlkV.new wr 55 #[.string nm, .slice B' l.length d', .int .i64 h]
      have HAPP := Lib.hid (append_plB w0 w.heap.size ⟨nm, l, h⟩ B' d' _ u3 _ (by have := HB.out.size; have := ha.size; omega) HLEN.out (HOWN.out.below ha) he2)
      have HBA := Lib.hid (HB.out.trans (ha.mono HB.out.size))
      rw [show (wr.alloc (.cells #[.string nm, .slice B' l.length d', .int .i64 h] 55)).heap.size = wr.heap.size + 1 by simp] at HAPP
      clear ha
      generalize ps.take k = tk at HTK HAPP HOWN
      have e0 := hen.cell 0
      have e1 := hen.cell 1
      have e2 := hen.cell 2
      simp only [List.getElem?_toArray, List.getElem?_cons_zero, List.getElem?_cons_succ] at e0 e1 e2
      clear hen he2
      obtain ⟨v', w4, hrun, ho, hb4⟩ := HAPP.out
      simp only at hrun
      have HRUN := Lib.hid hrun
      have HO := Lib.hid ho
      have HB4 := Lib.hid (HBA.out.trans hb4)
      clear hrun ho hb4 HAPP HOWN HBA
      go_wp2_with (at_builtin; refine wpList_append_go rfl _ _ 27 rfl _ _ v' w4 rfl rfl HRUN.out ?_)
      go_roundw
      case rel => exact ⟨k + 1, by omega, by go_num, by rw [HTK.out]; exact HO.out, HB4.out⟩
      case measure => simp [intOf]; omega
    · have HF : Hid (ps.take k = ps) := Lib.hid (List.take_of_length_le (by omega))
      have HFI : Hid (PlOwn w0 wr w.heap.size u3 ps) := Lib.hid (by have := HOWN.out; rwa [HF.out] at this)
      go_wp2
      go_ret
      obtain ⟨A', c', e⟩ := HFI.out.slice
      exact ⟨A', c', by rw [← e]; rfl, by rw [← e]; exact HFI.out, HB.out⟩

theorem PlOwn.far {w0 w : World} {base : Nat} {v : Value} {ps : List Pl} (h : PlOwn w0 w base v ps) {p : Addr} (hp : p.block < base) (u : Value) : PlOwn w0 (w.setCell p u) base v ps := by
  obtain ⟨vs, ho, hv⟩ := h
  refine ⟨vs, ⟨ho.1, ?_⟩, hv⟩
  rcases ho.2 with hn | ⟨g, cap, cur, e1, e2, e3, rest⟩
  · exact .inl hn
  · exact .inr ⟨g, cap, cur, e1, e2, (Below.heap_setCell w p u g (by omega)).trans e3, rest⟩

/-- What Leaders hands over: the players and their ranks. -/
def LeadsOut (xs ys : List Int) (w : World) (e : Ending) (w' : World) : Prop := ∃ A c B d, e = .returned (.tuple #[.slice A xs.length c, .slice B ys.length d, .int .i64 0]) ∧ IntsAt w' w'.heap.size A xs ∧ IntsAt w' w'.heap.size B ys ∧ Below w.heap.size w w'

set_option maxRecDepth 100000 in
set_option maxHeartbeats 4000000 in
theorem fmLeaders_yes (A H : Option Addr) (c ch : Nat) (hs : List (Int × Int)) (ps : List Pl) (w : World)
    (hCF : ∀ W, Below w.heap.size w W → Calls Tryz.prog 11 #[.agg #[.slice H hs.length ch, .slice A ps.length c]] W fun e w' => e = .returned (.int .i64 0) ∧ Below W.heap.size W w')
    (hLD : ∀ W, Below w.heap.size w W → Calls Tryz.prog 38 #[.agg #[.slice H hs.length ch, .slice A ps.length c]] W (LedOut (clsL (ldP hs ps).length (ldP hs ps)) W)) (hl : ps.length ≤ 19) :
    Calls Tryz.prog 10 #[.agg #[.slice H hs.length ch, .slice A ps.length c]] w (LeadsOut ((clsL (ldP hs ps).length (ldP hs ps)).map (·.1)) ((clsL (ldP hs ps).length (ldP hs ps)).map (·.2)) w) := by
  have HCF := Lib.hid hCF
  have HLD := Lib.hid hLD
  have HL : Hid ((clsL (ldP hs ps).length (ldP hs ps)).length ≤ 1000) := Lib.hid (by rw [cls_whole, ldP_len]; have := ldIx_len hs ps ps.length; omega)
  clear hCF hLD
  generalize clsL (ldP hs ps).length (ldP hs ps) = P at HLD HL ⊢
  go_enter Tryz.func10, Tryz.ntmps10
  go_wp2_with fail
  generalize hW0 : w.alloc (.cells #[.slice H hs.length ch, .slice A ps.length c] 25) = W0
  obtain ⟨a1, a2, a3⟩ := one_alloc w _ _ hW0
  have HBX := Lib.hid a1
  have HB0 := Lib.hid a2
  clear hW0 a1 a2 a3
  refine (HCF.out W0 HB0.out).mono ?_
  rintro e w1 ⟨rfl, hb1⟩
  have HB1 := Lib.hid (HB0.out.trans (hb1.mono HB0.out.size))
  have hbx := HBX.out.below hb1 HBX.out.lt
  have x0 := hbx.cell 0
  have x1 := hbx.cell 1
  simp only [List.getElem?_toArray, List.getElem?_cons_zero, List.getElem?_cons_succ] at x0 x1
  clear hbx hb1
  go_wp2_with fail
  refine (HLD.out w1 HB1.out).mono ?_
  rintro e w2 ⟨A2, c2, rfl, hat, hb2⟩
  have HAT := Lib.hid hat
  have HB2 := Lib.hid (HB1.out.trans (hb2.mono HB1.out.size))
  clear hat hb2
  go_wp2_with fail
  refine (eachLed1_any A2 c2 P w2 HAT.out HL.out).mono ?_
  rintro e w3 ⟨rfl, hr3, hb3⟩
  have HR3 := Lib.hid hr3
  have HB3 := Lib.hid (HB2.out.trans (hb3.mono HB2.out.size))
  have HAT3 := Lib.hid (HAT.out.keep hb3)
  clear hr3 hb3
  go_wp2_with fail
  refine (eachLed2_any A2 c2 P w3 HAT3.out HL.out).mono ?_
  rintro e w4 ⟨rfl, hr4, hb4⟩
  have HR4 := Lib.hid hr4
  have HR34 := Lib.hid (HR3.out.below hb4 HR3.out.lt)
  have HB4 := Lib.hid (HB3.out.trans (hb4.mono HB3.out.size))
  clear hr4 hb4
  go_wp2
  go_ret3
  exact ⟨some ⟨w2.heap.size, 0, none⟩, P.length, some ⟨w3.heap.size, 0, none⟩, P.length, by simp, HR34.out.ints HR34.out.lt, HR4.out.ints HR4.out.lt, HB4.out⟩

set_option maxRecDepth 100000 in
set_option maxHeartbeats 2000000 in
theorem fmLeaders_no (A H : Option Addr) (c ch : Nat) (hs : List (Int × Int)) (ps : List Pl) (z : Int) (w : World)
    (hCF : ∀ W, Below w.heap.size w W → Calls Tryz.prog 11 #[.agg #[.slice H hs.length ch, .slice A ps.length c]] W fun e w' => e = .returned (.int .i64 z) ∧ Below W.heap.size W w') (hz : z ≠ 0) :
    Calls Tryz.prog 10 #[.agg #[.slice H hs.length ch, .slice A ps.length c]] w fun e w' => e = .returned (.tuple #[.slice none 0 0, .slice none 0 0, .int .i64 z]) ∧ Below w.heap.size w w' := by
  have HCF := Lib.hid hCF
  have hzb : (z != 0) = true := by simpa using hz
  clear hCF hz
  go_enter Tryz.func10, Tryz.ntmps10
  go_wp2_with fail
  generalize hW0 : w.alloc (.cells #[.slice H hs.length ch, .slice A ps.length c] 25) = W0
  obtain ⟨a1, a2, a3⟩ := one_alloc w _ _ hW0
  have HB0 := Lib.hid a2
  clear hW0 a1 a2 a3
  refine (HCF.out W0 HB0.out).mono ?_
  rintro e w1 ⟨rfl, hb1⟩
  have HB1 := Lib.hid (HB0.out.trans (hb1.mono HB0.out.size))
  clear hb1
  go_wp2
  go_ret3
  exact ⟨rfl, HB1.out⟩
end Go.Proofs.YtfpehblofokheaaGreatDoor
