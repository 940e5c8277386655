/- The law's players; the reference's CheckPlayers. -/
import Derived.Test.YtbckfkopdojggaaGreatDoorSumS
import Derived.Test.YtbckfkopdojggaaGreatDoorScoA
import Derived.BigQuiet
import Derived.Lib.Strings
import Derived.Deep.QuietTactic
import Derived.Outline
set_option linter.unusedVariables false
set_option linter.unusedSimpArgs false
namespace Go.Proofs.YtbckfkopdojggaaGreatDoor
open Go.RowKit

/-- The slice value v owns players of the reference's type; their entries lie in the world w0. -/
def PlOwn (w0 w : World) (base : Nat) (v : Value) (ps : List Pl) : Prop :=
  ∃ vs : List Value, w.ownsRow base 84 3 v ps.length vs ∧ ∀ j, j < ps.length → ∃ B d, vs[j * 3]? = some (.string (ps.getD j plD).nm) ∧ vs[j * 3 + 1]? = some (.slice B (ps.getD j plD).l.length d) ∧ vs[j * 3 + 2]? = some (.int .i64 (ps.getD j plD).h) ∧ EntriesR w0 B (ps.getD j plD).l
theorem PlOwn.nil (w0 w : World) (base : Nat) : PlOwn w0 w base (.slice none 0 0) [] := ⟨[], World.ownsRow_nil w base 84 3, fun j hj => absurd hj (Nat.not_lt_zero _)⟩
theorem PlOwn.below {w0 w w' : World} {base : Nat} {v : Value} {ps : List Pl} (h : PlOwn w0 w base v ps) (hb : Below w.heap.size w w') : PlOwn w0 w' base v ps := by
  obtain ⟨vs, ho, hv⟩ := h
  refine ⟨vs, ⟨ho.1, ?_⟩, hv⟩
  rcases ho.2 with hn | ⟨g, cap, cur, e1, e2, e3, rest⟩
  · exact .inl hn
  · exact .inr ⟨g, cap, cur, e1, e2, (hb.block g (Array.getElem?_eq_some_iff.1 e3).1).trans e3, rest⟩
theorem PlOwn.slice {w0 w : World} {base : Nat} {v : Value} {ps : List Pl} (h : PlOwn w0 w base v ps) : ∃ A c, v = .slice A ps.length c := by
  obtain ⟨vs, ho, _⟩ := h
  rcases ho.2 with ⟨rfl, h0⟩ | ⟨g, cap, cur, rfl, _⟩
  · exact ⟨none, 0, by rw [h0]⟩
  · exact ⟨_, _, rfl⟩
theorem PlOwn.players {w0 w : World} {base : Nat} {v : Value} {ps : List Pl} (h : PlOwn w0 w base v ps) (hb : Below w0.heap.size w0 w) : ∃ A c, v = .slice A ps.length c ∧ PlayersR w A ps := by
  obtain ⟨vs, ho, hv⟩ := h
  rcases ho.2 with ⟨rfl, h0⟩ | ⟨g, cap, cur, rfl, hg, hgb, hnc, hcm, hcs, htk⟩
  · exact ⟨none, 0, by rw [h0], fun j hj => by omega⟩
  · refine ⟨_, _, rfl, fun j hj => ?_⟩
    obtain ⟨B, d, p0, p1, p2, he⟩ := hv j hj
    rw [← htk, List.getElem?_take_of_lt (by omega)] at p0 p1 p2
    refine ⟨⟨g, 0, none⟩, B, d, rfl, ?_, ?_, ?_, ?_, he.keep hb⟩
    · rw [add_zero_at, cell_of_row w g _ _ _ _ hgb]; simpa using p0
    · rw [add_zero_at, cell_of_row w g _ _ _ _ hgb]; simpa using p1
    · rw [add_zero_at, cell_of_row w g _ _ _ _ hgb]; simpa using p2
    · rw [add_zero_at]; exact (Array.getElem?_eq_some_iff.1 hgb).1
theorem info_rpl : (Tryz.prog.info? 84).map (fun i => (i.zero, i.size, i.bytes)) = some (some (.agg #[.string ⟨#[]⟩, .slice none 0 0, .int .i64 0]), 3, 48) := by kernel_rfl
theorem append_pl (w0 : World) (base : Nat) (y : Pl) (B : Option Addr) (d : Nat) (w : World) (v : Value) (tk : List Pl) (hb : base ≤ w.heap.size) (hl : tk.length ≤ 1000) (hown : PlOwn w0 w base v tk) (he : EntriesR w0 B y.l) :
    ∃ v' w', (Builtin.append_ #[27, 27] 27 #[v, .slice (some ⟨w.heap.size, 0, none⟩) 1 1]).run Tryz.prog (w.alloc (.cells #[.string y.nm, .slice B y.l.length d, .int .i64 y.h] 84)) = .ok v' w' ∧
      PlOwn w0 w' base v' (tk ++ [y]) ∧ Below base w w' := by
  obtain ⟨vs, ho, hv⟩ := hown
  obtain ⟨v', w', h1, h2, h3⟩ := append_gen base 27 84 (.agg #[.string ⟨#[]⟩, .slice none 0 0, .int .i64 0]) 3 48 Tryz.underlying27 info_rpl rfl (by decide) [.string y.nm, .slice B y.l.length d, .int .i64 y.h] rfl (by simp [Value.oneCell']) w v tk.length _ hb (by omega) (by omega) ho
  refine ⟨v', w', h1, ⟨_, by rw [List.length_append]; exact h2, fun j hj => ?_⟩, h3⟩
  have hvl : vs.length = tk.length * 3 := ho.1
  by_cases hjt : j < tk.length
  · obtain ⟨B', d', p0, p1, p2, he'⟩ := hv j hjt
    have e : (tk ++ [y]).getD j plD = tk.getD j plD := by simp [List.getD, List.getElem?_append_left hjt]
    rw [e]
    exact ⟨B', d', by rw [List.getElem?_append_left (by omega)]; exact p0, by rw [List.getElem?_append_left (by omega)]; exact p1, by rw [List.getElem?_append_left (by omega)]; exact p2, he'⟩
  · have hj' : j = tk.length := by simp at hj; omega
    subst hj'
    have e : (tk ++ [y]).getD tk.length plD = y := by simp [List.getD]
    rw [e]
    refine ⟨B, d, ?_, ?_, ?_, he⟩
    · rw [List.getElem?_append_right (by omega)]; simp [hvl]
    · rw [List.getElem?_append_right (by omega)]; simp [hvl]
    · rw [List.getElem?_append_right (by omega)]; simp [hvl]

set_option maxRecDepth 100000 in
set_option maxHeartbeats 4000000 in
theorem lawPlayers_any (A : Option Addr) (c : Nat) (ps : List Pl) (w : World) (hp : PlayersR w A ps) (hl : ps.length ≤ 1000) :
    Calls Tryz.prog 7 #[.slice A ps.length c] w fun e w' => ∃ A' c', e = .returned (.slice A' ps.length c') ∧ PlayersR w' A' ps ∧ Below w.heap.size w w' := by
  have HP := Lib.hid hp
  clear hp
  go_enter Tryz.func7, Tryz.ntmps7
  go_wp2
  go_loopw [3, 8] (fun v kv w' => ∃ k : Nat, k ≤ ps.length ∧ kv = .int .i64 k ∧ PlOwn w w' w.heap.size v (ps.take k) ∧ Below w.heap.size w w') (fun _ kv _ => ps.length - (intOf kv).toNat)
  case atStart => exact ⟨0, Nat.zero_le _, rfl, PlOwn.nil _ _ _, Below.refl _ _⟩
  case round =>
    obtain ⟨k, hk, rfl, hown, hb⟩ := hrel
    have HOWN := Lib.hid hown
    have HB := Lib.hid hb
    clear hown hb
    have hk0 : (0 : Int) ≤ (k : Int) := Int.natCast_nonneg _
    by_cases hlt : k < ps.length
    · have hk1 : (k : Int) < (ps.length : Int) := by omega
      obtain ⟨a, B, d, rfl, _, _, _, _, he⟩ := HP.out k hlt
      obtain ⟨a', B', d', ea, d0, d1, d2, _, _⟩ := (HP.out.keep HB.out) k hlt
      injection ea with ea
      subst ea
      obtain ⟨_, B2, d3, eb, f0, f1, f2, _, he2⟩ := HP.out k hlt
      injection eb with eb
      subst eb
      have hbd : Value.slice B' (ps.getD k plD).l.length d' = Value.slice B2 (ps.getD k plD).l.length d3 := by
        have g := (HB.out.cell (p := ⟨(a.add (k * 3)).block, (a.add (k * 3)).off + 1, none⟩) (World.block_lt_of_cell? _ _ f1)).trans f1
        rw [d1] at g
        injection g
      injection hbd with h1 _ h3
      subst h1; subst h3
      clear he f0 f1 f2
      have HTK : Hid (ps.take (k + 1) = ps.take k ++ [ps.getD k plD]) := Lib.hid (by
        rw [List.take_succ_eq_append_getElem hlt]; simp [List.getD, List.getElem?_eq_getElem hlt])
      have HLEN : Hid ((ps.take k).length ≤ 1000) := Lib.hid (by have := List.length_take_le k ps; omega)
      generalize ps.getD k plD = y at d0 d1 d2 he2 HTK
      obtain ⟨nm, l, h⟩ := y
      simp only at d0 d1 d2 he2 HTK
      have ha := (Below.refl wr.heap.size wr).alloc (Nat.le_refl _) (.cells #[.string nm, .slice B' l.length d', .int .i64 h] 55)
      have hen := BlkV.new wr 55 #[.string nm, .slice B' l.length d', .int .i64 h]
      have HAPP := Lib.hid (append_pl w w.heap.size ⟨nm, l, h⟩ B' d' _ u3 _ (by have := HB.out.size; have := ha.size; omega) HLEN.out (HOWN.out.below ha) he2)
      have HBA := Lib.hid (HB.out.trans (ha.mono HB.out.size))
      rw [show (wr.alloc (.cells #[.string nm, .slice B' l.length d', .int .i64 h] 55)).heap.size = wr.heap.size + 1 by simp] at HAPP
      clear ha
      generalize ps.take k = tk at HTK HAPP HOWN
      have e0 := hen.cell 0
      have e1 := hen.cell 1
      have e2 := hen.cell 2
      simp only [List.getElem?_toArray, List.getElem?_cons_zero, List.getElem?_cons_succ] at e0 e1 e2
      clear hen he2
      obtain ⟨v', w4, hrun, ho, hb4⟩ := HAPP.out
      simp only at hrun
      have HRUN := Lib.hid hrun
      have HO := Lib.hid ho
      have HB4 := Lib.hid (HBA.out.trans hb4)
      clear hrun ho hb4 HAPP HOWN HBA
      go_wp2_with (at_builtin; refine wpList_append_go rfl _ _ 27 rfl _ _ v' w4 rfl rfl HRUN.out ?_)
      go_roundw
      case rel => exact ⟨k + 1, by omega, by go_num, by rw [HTK.out]; exact HO.out, HB4.out⟩
      case measure => simp [intOf]; omega
    · have HF : Hid (ps.take k = ps) := Lib.hid (List.take_of_length_le (by omega))
      have HFI : Hid (PlOwn w wr w.heap.size u3 ps) := Lib.hid (by have := HOWN.out; rwa [HF.out] at this)
      go_wp2
      go_ret
      obtain ⟨A', c', e, hp'⟩ := HFI.out.players HB.out
      exact ⟨A', c', by rw [← e]; rfl, hp', HB.out⟩

theorem name_same (m n : ByteArray) : (m.toList == n.toList) = decide (m = n) := by
  by_cases h : m = n
  · subst h; rw [beq_self_eq_true, decide_eq_true rfl]
  · rw [decide_eq_false h, beq_eq_false_iff_ne]
    exact fun e => h (by
      have h9 : m.data.toList = n.data.toList := by rw [← Lib.toList_data, ← Lib.toList_data, e]
      rw [← Lib.mk_data m, ← Lib.mk_data n, h9])
theorem names_take (ps : List Pl) (k : Nat) (m : ByteArray) (hk : k ≤ ps.length) : (∀ j, j < k → (ps.getD j plD).nm ≠ m) → m ∉ (ps.take k).map (·.nm) := fun h hm => by
  obtain ⟨p, hp, e⟩ := List.mem_map.1 hm
  obtain ⟨j, hj, ej⟩ := List.mem_iff_getElem.1 hp
  have hjk : j < k := by simp at hj; omega
  refine h j hjk ?_
  rw [← e, ← ej]
  simp [List.getD, List.getElem?_eq_getElem (show j < ps.length by omega)]

set_option maxRecDepth 100000 in
set_option maxHeartbeats 4000000 in
theorem refPlayers_any (A H : Option Addr) (c ch : Nat) (hs : List (Int × Int)) (ps : List Pl) (w : World)
    (hrp : ∀ W, Below w.heap.size w W → ∀ p ∈ ps, ∀ B d, EntriesR W B p.l → Calls Tryz.prog 96 #[.slice H hs.length ch, .agg #[.string p.nm, .slice B p.l.length d, .int .i64 p.h]] W fun e w' => e = .returned (.int .i64 (plI hs p)) ∧ Below W.heap.size W w')
    (hp : PlayersR w A ps) (hl : ps.length ≤ 1000) :
    Calls Tryz.prog 44 #[.slice H hs.length ch, .slice A ps.length c] w fun e w' => e = .returned (.int .i64 (playersGo hs [] ps)) ∧ Below w.heap.size w w' := by
  have HRP := Lib.hid hrp
  have HP := Lib.hid hp
  clear hrp hp
  obtain ⟨res, hres⟩ : ∃ res, playersGo hs [] ps = res := ⟨_, rfl⟩
  rw [hres]
  have HRES := Lib.hid hres
  clear hres
  go_enter Tryz.func44, Tryz.ntmps44
  go_wp2
  go_loopw [5] (fun kv w' => ∃ k : Nat, k ≤ ps.length ∧ kv = .int .i64 k ∧ playersGo hs ((ps.take k).map (·.nm)) (ps.drop k) = res ∧ Below w.heap.size w w') (fun kv _ => ps.length - (intOf kv).toNat)
  case atStart => exact ⟨0, Nat.zero_le _, rfl, HRES.out, Below.refl _ _⟩
  case round =>
    obtain ⟨k, hk, rfl, hgo, hb⟩ := hrel
    have HB := Lib.hid hb
    clear hb
    have hk0 : (0 : Int) ≤ (k : Int) := Int.natCast_nonneg _
    by_cases hlt : k < ps.length
    · have hk1 : (k : Int) < (ps.length : Int) := by omega
      rw [playersGo_drop hs ps k hlt] at hgo
      have hnx : (ps.take (k + 1)).map (·.nm) = (ps.take k).map (·.nm) ++ [(ps.getD k plD).nm] := by
        rw [List.take_succ_eq_append_getElem hlt, List.map_append, show ps.getD k plD = ps[k] by simp [List.getD, List.getElem?_eq_getElem hlt]]
        rfl
      rw [← hnx] at hgo
      have hmem : ps.getD k plD ∈ ps := by simp [List.getD, List.getElem?_eq_getElem hlt]
      have HNT := Lib.hid (names_take ps k (ps.getD k plD).nm hk)
      have HIN : Hid (∀ j, j < k → (ps.getD j plD).nm = (ps.getD k plD).nm → (ps.getD k plD).nm ∈ (ps.take k).map (·.nm)) := Lib.hid (fun j hj e => by
        rw [← e]
        refine List.mem_map.2 ⟨ps.getD j plD, ?_, rfl⟩
        have hjl : j < ps.length := by omega
        rw [show ps.getD j plD = ps[j] by simp [List.getD, List.getElem?_eq_getElem hjl]]
        exact List.mem_take_iff_getElem.2 ⟨j, by omega, rfl⟩)
      have HGO := Lib.hid hgo
      obtain ⟨a, B, d, rfl, d0, d1, d2, _, he⟩ := (HP.out.keep HB.out) k hlt
      have HC := Lib.hid (HRP.out wr HB.out _ hmem B d he)
      clear hgo hnx hmem he
      obtain ⟨y, hy⟩ : ∃ y, ps.getD k plD = y := ⟨_, rfl⟩
      rw [hy] at d0 d1 d2 HC HGO HNT HIN
      have HY := Lib.hid hy
      clear hy
      obtain ⟨nm, l, h⟩ := y
      simp only at d0 d1 d2 HC HGO HNT HIN
      generalize plI hs ⟨nm, l, h⟩ = q at HC HGO
      by_cases hq : q = 0
      · subst hq
        go_wp2_with fail
        refine HC.out.mono ?_
        rintro e w1 ⟨rfl, hb1⟩
        have HB1 := Lib.hid (HB.out.trans (hb1.mono HB.out.size))
        clear hb1 d0 d1 d2
        go_wp2
        go_loopw [7] (fun jv w' => ∃ j n : Nat, j ≤ k ∧ jv = .int .i64 j ∧ (∀ i, i < j → (ps.getD i plD).nm ≠ nm) ∧ w' = w1.drewN n) (fun jv _ => k - (intOf jv).toNat)
        case atStart => exact ⟨0, 0, Nat.zero_le _, rfl, fun i hi => absurd hi (Nat.not_lt_zero _), rfl⟩
        case round =>
          obtain ⟨j, n, hj, rfl, hno, rfl⟩ := hrel
          have HNO := Lib.hid hno
          clear hno
          have hj0 : (0 : Int) ≤ (j : Int) := Int.natCast_nonneg _
          by_cases hjk : j < k
          · have hj1 : (j : Int) < (k : Int) := by omega
            have hj2 : (j : Int) < (ps.length : Int) := by omega
            obtain ⟨_, B1, dd1, e1, f0, _, _, _, _⟩ := (HP.out.keep HB1.out) j (by omega)
            obtain ⟨_, B2, dd2, e2, g0, _, _, _, _⟩ := (HP.out.keep HB1.out) k hlt
            injection e1 with e1
            injection e2 with e2
            subst e1; subst e2
            rw [HY.out] at g0
            simp only at g0
            obtain ⟨mj, hmj⟩ : ∃ mj, (ps.getD j plD).nm = mj := ⟨_, rfl⟩
            rw [hmj] at f0
            have HMJ := Lib.hid hmj
            have hsm := name_same mj nm
            clear hmj
            cases hd : decide (mj = nm)
            · rw [hd] at hsm
              have HD := Lib.hid hd
              clear hd
              go_wp2
              go_quiet (fail)
              go_wp2
              go_roundw
              case rel => exact ⟨j + 1, _, by omega, by go_num, fun i hi => by
                by_cases e : i = j
                · subst e; rw [HMJ.out]; exact of_decide_eq_false HD.out
                · exact HNO.out i (by omega), rfl⟩
              case measure => simp [intOf]; omega
            · rw [hd] at hsm
              have hin := HIN.out j hjk (by rw [HMJ.out]; exact of_decide_eq_true hd)
              have HR : Hid (res = 9) := Lib.hid (by
                have := HGO.out
                rw [decide_eq_true hin] at this
                rw [← this]
                rfl)
              clear hd hin
              go_wp2
              go_quiet (fail)
              go_wp2
              go_ret
              exact ⟨by rw [HR.out]; rfl, below_drewN HB1.out _ |> fun h => by simpa [World.drewN_drewN] using below_drewN h _⟩
          · have hjk2 : j = k := by omega
            have HG2 : Hid (playersGo hs ((ps.take (k + 1)).map (·.nm)) (ps.drop (k + 1)) = res) := Lib.hid (by
              have := HGO.out
              rw [decide_eq_false (HNT.out (by rw [← hjk2]; exact HNO.out))] at this
              rw [← this]
              rfl)
            clear hjk2
            go_wp2
            go_roundw
            case rel => exact ⟨k + 1, by omega, by go_num, HG2.out, below_drewN HB1.out _⟩
            case measure => simp [intOf]; omega
      · have hqb : (q != 0) = true := by simpa using hq
        have HR : Hid (res = q) := Lib.hid (by
          have := HGO.out
          rw [if_neg (by simp [firstI, hq])] at this
          rw [← this]
          simp [firstI, hq])
        go_wp2_with fail
        refine HC.out.mono ?_
        rintro e w1 ⟨rfl, hb1⟩
        have HB1 := Lib.hid (HB.out.trans (hb1.mono HB.out.size))
        clear hb1
        go_wp2
        go_ret
        exact ⟨by rw [HR.out]; rfl, HB1.out⟩
    · have HR : Hid (res = 0) := Lib.hid (by
        rw [List.drop_of_length_le (by omega)] at hgo
        exact hgo.symm)
      clear hgo
      go_wp2
      go_ret
      exact ⟨by rw [HR.out]; rfl, HB.out⟩
end Go.Proofs.YtbckfkopdojggaaGreatDoor
