/- card.Print of entries without an error. -/
import Derived.Test.YtbckfkopdojggaaGreatDoorNotT
import Derived.Test.YtbckfkopdojggaaGreatDoorNotS
import Derived.Test.YtbckfkopdojggaaGreatDoorNotP
import Derived.Test.YtbckfkopdojggaaGreatDoorMgB
import Derived.Test.YtbckfkopdojggaaGreatDoorRaiM
set_option linter.unusedVariables false
set_option linter.unusedSimpArgs false
namespace Go.Proofs.YtbckfkopdojggaaGreatDoor
open Go Go.RowKit Go.Shelf

attribute [local go_sem] Oper.semAt_some

set_option maxHeartbeats 400000 in
theorem sizedEntry_any (A : Option Addr) (n c : Nat) (m : Int) (w : World) (hn : n ≤ 4611686018427387904) :
    Calls Tryz.prog 63 #[.slice A n c, .int .i64 m] w fun e w' => e = .returned (.int .i64 (sizedI n m)) ∧ Below w.heap.size w w' := by
  by_cases h1 : 0 < n <;> by_cases h2 : (n : Int) ≤ m
  all_goals
    go_enter Tryz.func63, Tryz.ntmps63
    go_wp2_with fail
    refine (unless_any _ _ _).mono ?_; rintro e w' ⟨rfl, rfl⟩
    go_wp2_with fail
    refine (unless_any _ _ _).mono ?_; rintro e w' ⟨rfl, rfl⟩
    go_wp2_with fail
    refine (first_any _ _ [_, _] _ (by simp) (Ints.two _ _ _ _ _ rfl)).mono ?_; rintro e w' ⟨rfl, rfl⟩
    go_wp2
    go_ret
    exact ⟨by simp [sizedI, firstI, unlessI, h2]; omega, (Below.refl _ _).alloc (Nat.le_refl _) _⟩

/-- While the nines are printed: the texts' cell, the iterator's boxes. -/
def PrintP (g : Nat) (l : List NotMath.En) (a : Addr) (c : Nat) {N : Nat} (pre : List { k : Nat // 9 * k < N }) (W : World) : Prop := ∃ v, BlkV W g 121 #[v] ∧ BlkV W (g + 1) 51 #[.slice (some a) l.length c] ∧ BlkV W (g + 1 + 1) 3 #[.int .i64 9] ∧
  TxtOwn W (g + 3) v (wordsP l (pre.map (·.1))) ∧ g + 3 ≤ W.heap.size
theorem printP_own (g : Nat) (l : List NotMath.En) (a : Addr) (c : Nat) (N : Nat) : Own (PrintP g l a c (N := N)) := fun pre X Y row h hg hr => by
  obtain ⟨v, h1, h2, h3, h4, h5⟩ := h
  exact ⟨v, h1.turn hg hr, h2.turn hg hr, h3.turn hg hr, h4.turn hg hr, Nat.le_trans h5 hg.size⟩

/-- A round's end: further texts behind those that are there, and the cell has all of them. -/
theorem print_round {g : Nat} {l : List NotMath.En} {a : Addr} {c : Nat} {W W1 w3 : World} {v v1 v2 : Value} {ts1 ws : List (List UInt8)} (KO : KeepsOthers W W1) (BB : Below g W W1)
    (a2 : BlkV W (g + 1) 51 #[.slice (some a) l.length c]) (a3 : BlkV W (g + 1 + 1) 3 #[.int .i64 9])
    (b1 : BlkV W1 g 121 #[v1]) (b2 : BlkV W1 (g + 1) 51 #[.slice (some a) l.length c]) (b3 : BlkV W1 (g + 1 + 1) 3 #[.int .i64 9]) (T1 : TxtOwn W1 (g + 3) v1 ts1) (hg : g + 3 ≤ W1.heap.size)
    (hl : ts1.length + ws.length ≤ 1000) (h0 : 0 < ws.length) (h2 : TxtOwn w3 W1.heap.size v2 ws) (hb : Below W1.heap.size W1 w3) :
    ∃ A9 n9 c9 w4, (Builtin.append_ #[121, 121] 121 #[v1, v2]).run Tryz.prog w3 = .ok (.slice A9 n9 c9) w4 ∧ w3.cell? ⟨g, 0, none⟩ = some v1 ∧ w4.cell? ⟨g, 0, none⟩ = some v1 ∧ w4.frozen? ⟨g, 0, none⟩ = false ∧
      Hid (KeepsOthers W (w4.setCell ⟨g, 0, none⟩ (.slice A9 n9 c9)) ∧ KeepD g (g + 1) (g + 1 + 1) W (w4.setCell ⟨g, 0, none⟩ (.slice A9 n9 c9)) ∧ BlkV (w4.setCell ⟨g, 0, none⟩ (.slice A9 n9 c9)) g 121 #[.slice A9 n9 c9] ∧ BlkV (w4.setCell ⟨g, 0, none⟩ (.slice A9 n9 c9)) (g + 1) 51 #[.slice (some a) l.length c] ∧
        BlkV (w4.setCell ⟨g, 0, none⟩ (.slice A9 n9 c9)) (g + 1 + 1) 3 #[.int .i64 9] ∧ TxtOwn (w4.setCell ⟨g, 0, none⟩ (.slice A9 n9 c9)) (g + 3) (.slice A9 n9 c9) (ts1 ++ ws) ∧ g + 3 ≤ (w4.setCell ⟨g, 0, none⟩ (.slice A9 n9 c9)).heap.size ∧ Below g W (w4.setCell ⟨g, 0, none⟩ (.slice A9 n9 c9))) := by
  have hs := hb.size
  obtain ⟨v', w4, hrun, ht, hb4, ko4⟩ := append_texts (g + 3) ts1 ws w3 v1 v2 W1.heap.size (by omega) hl h0 (T1.below hb) h2
  obtain ⟨A9, c9, hv9⟩ := ht.slice
  generalize (ts1 ++ ws).length = n9 at hv9
  subst hv9
  have k1 := (b1.below hb b1.lt).below hb4 (by omega)
  have k2 := (b2.below hb b2.lt).below hb4 (by omega)
  have k3 := (b3.below hb b3.lt).below hb4 (by omega)
  have j2 := k2.far (p := ⟨g, 0, none⟩) (by simp) (.slice A9 n9 c9)
  have j3 := k3.far (p := ⟨g, 0, none⟩) (by simp; omega) (.slice A9 n9 c9)
  have hbW : Below g W (w4.setCell ⟨g, 0, none⟩ (.slice A9 n9 c9)) := (BB.trans ((hb.mono (by omega)).trans (hb4.mono (by omega)))).setCell (Nat.le_refl _) (.slice A9 n9 c9)
  refine ⟨A9, n9, c9, w4, hrun, (b1.below hb b1.lt).cell 0, k1.cell 0, k1.frozen 0, Lib.hid ⟨((KO.trans (keepsOthers_below hb)).trans ko4).trans (KeepsOthers.setCell _ _ _), ⟨hbW, fun x hx => ?_, fun x hx => ?_⟩, k1.set 0 (.slice A9 n9 c9), j2, j3, ht.far (p := ⟨g, 0, none⟩) (by simp) (.slice A9 n9 c9), by have := hb4.size; simp; omega, hbW⟩⟩
  · have e1 : x = .slice (some a) l.length c := by have := a2.cell 0; rw [hx] at this; simpa using this
    rw [e1]; exact j2.cell 0
  · have e1 : x = .int .i64 9 := by have := a3.cell 0; rw [hx] at this; simpa using this
    rw [e1]; exact j3.cell 0

theorem wpListIn_append_go {F : Fence} {n : Nat} {P : Program} {w : World} {ops : Array Oper} {rest : List Oper} {o : Oper} {a : Act} {Q : Exit → Act → World → Prop} (hgd : o.guard = none) (s x : Operand) (t : TypeId)
    (hop : o.op = .call { callee := .builtin .append, args := #[s, x], argTypes := #[t, t] }) (v1 v2 v' : Value) (w' : World) (h1 : a.eval s = v1) (h2 : a.eval x = v2)
    (hrun : (Builtin.append_ #[t, t] o.type #[v1, v2]).run P w = .ok v' w') (h : wpListIn F n P ops Q rest (a.put o.dst v') w') : wpListIn F n P ops Q (o :: rest) a w := by
  refine wpListIn_plain hgd fun K hK' => ?_
  unfold Oper.wpIn
  refine ⟨?_, ?_⟩
  · simp [Oper.about, hop, resolve, Target.leads, Sem.run_pure]
  · rw [Oper.semAt_plain F _ _ (by rw [hop]; intro c hc'; cases hc')]
    simp [execOp, hop, resolve, invoke, builtin, h1, h2, hrun, Result.andThen]
    exact hK' _ _ h

theorem step_append_in {F : Fence} {n : Nat} {P : Program} {w : World} {ops : Array Oper} {o : Oper} {a : Act} {K : Act → World → Prop} {Q : Exit → Act → World → Prop} {E : Prop} (hgd : o.guard = none) (s x : Operand) (t : TypeId)
    (hop : o.op = .call { callee := .builtin .append, args := #[s, x], argTypes := #[t, t] }) (v1 v2 v' : Value) (w' : World) (h1 : a.eval s = v1) (h2 : a.eval x = v2)
    (hrun : (Builtin.append_ #[t, t] o.type #[v1, v2]).run P w = .ok v' w') (h : K (a.put o.dst v') w') :
    if Region.wanted o (yielded ops a.tmps) = true then Oper.wpIn F n P o a w K Q else E := by
  have hw : Region.wanted o (yielded ops a.tmps) = true := by simp [Region.wanted, hgd]
  rw [if_pos hw]
  unfold Oper.wpIn
  refine ⟨?_, ?_⟩
  · simp [Oper.about, hop, resolve, Target.leads, Sem.run_pure]
  · rw [Oper.semAt_plain F _ _ (by rw [hop]; intro c hc'; cases hc')]
    simp [execOp, hop, resolve, invoke, builtin, h1, h2, hrun, Result.andThen]
    exact h

set_option maxRecDepth 100000 in
set_option maxHeartbeats 8000000 in
theorem print_yes (a : Addr) (c : Nat) (l : List NotMath.En) (w : World) (h0 : l ≠ []) (h36 : l.length ≤ 36) (hc : l.length ≤ c) (hr : EntriesR w (some a) (l.map enV)) (ho : ∀ x ∈ l, NotMath.okE x = true) :
    Calls Tryz.prog 21 #[.slice (some a) l.length c] w fun e w' => e = .returned (.tuple #[.string ⟨(NotMath.joinB (NotMath.notW 4 l)).toArray⟩, .int .i64 0]) ∧ Below w.heap.size w w' := by
  refine (callsIn_wide (n := 9)).1 ?_
  refine callsIn_of_wp_marks Tryz.func21 rfl trivial ?_ rfl
  simp only [Tryz.ntmps21, List.size_toArray, List.length_cons, List.length_nil, Nat.reduceAdd, Nat.reduceSub, Array.replicate_succ, Array.replicate_zero, List.push_toArray, List.append_toArray, List.nil_append, List.cons_append]
  have hl0 : 0 < l.length := List.length_pos_iff.2 h0
  have HO := Lib.hid ho
  have H0 := Lib.hid h0
  have HR := Lib.hid hr
  have HCC := Lib.hid hc
  have HSZD : Hid (sizedI l.length 36 = 0) := Lib.hid (by
    unfold sizedI
    rw [if_neg (by omega), if_pos (by omega)])
  have HCE : Hid (∀ W, Below w.heap.size w W → Calls Tryz.prog 64 #[.slice (some a) l.length c] W fun e w' => e = .returned (.int .i64 0) ∧ Below W.heap.size W w') := Lib.hid (fun W h => by
    have := checkEntries_any (some a) c (l.map enV) W (by rw [List.length_map]; omega) (hr.keep h)
    rw [List.length_map, entriesI_all _ (fun e he => by obtain ⟨x, hx, rfl⟩ := List.mem_map.1 he; exact (okE_entry x).2 (ho x hx))] at this
    exact this)
  clear ho h0 hr hc
  gi_wp2_with fail
  refine ⟨trivial, (callsIn_wide.2 (sizedEntry_any _ _ _ _ _ (by omega))).mono ?_⟩
  rw [HSZD.out]
  rintro e w1 ⟨rfl, hb1⟩
  have HB1 := Lib.hid hb1
  clear hb1
  gi_wp2_with fail
  refine ⟨trivial, (callsIn_wide.2 (HCE.out _ HB1.out)).mono ?_⟩
  rintro e w2 ⟨rfl, hb2⟩
  have HB2 := Lib.hid (HB1.out.trans (hb2.mono HB1.out.size))
  clear hb2 HCE
  gi_wp2_with fail
  refine ⟨trivial, (callsIn_wide.2 (first_any _ _ [0, 0] _ (by simp) (Ints.two _ _ _ _ _ rfl))).mono ?_⟩
  rintro e w3 ⟨rfl, hw3⟩
  have HB3 : Hid (Below w.heap.size w w3) := Lib.hid (by rw [← hw3]; exact HB2.out.alloc HB2.out.size _)
  clear hw3
  have hf0 : firstI [0, 0] = 0 := rfl
  rw [hf0]
  gi_wp2_with (refine ⟨trivial, ?_⟩; gi_at_call 65; refine (chunk_in Fence.wide _ trivial rfl _ _ _ _).mono ?_; rintro e w' ⟨rfl, rfl⟩)
  obtain ⟨W0, hW0⟩ : ∃ W0, (((w3.alloc (.cells #[.slice none 0 0] 121)).alloc (.cells #[.slice (some a) l.length c] 51)).alloc (.cells #[.int .i64 9] 3)) = W0 := ⟨_, rfl⟩
  rw [hW0]
  obtain ⟨a1, a2, a3, hB0, hsz⟩ := three_allocs w3 _ _ _ _ _ _ hW0
  have HSZ := Lib.hid hsz
  clear hW0 hsz
  refine wpIn_rangeFunc_ownH rfl (by omega) (gf := 115) (lb := #[.pointer (some ⟨w3.heap.size + 1, 0, none⟩), .pointer (some ⟨w3.heap.size + 1 + 1, 0, none⟩)]) rfl trivial (enters_of Tryz.func115 (by kernel_rfl) rfl)
    (chunkLaw _ (by omega) (w3.heap.size + 1) (w3.heap.size + 1 + 1) w3.heap.size a c l.length W0 (by omega) HCC.out (a2.cell 0) (a3.cell 0)) keepD_t (keepD_b (by have := HSZ.out; omega)) (Below.refl _ _) (fun _ => rfl)
    (fun pre W => PrintP w3.heap.size l a c pre W ∧ Below w3.heap.size w3 W)
    (fun cc pre W => False)
    (OwnFrom.and (Own.from (printP_own _ _ _ _ _) _) (ownFrom_below (Nat.le_refl _) (by have := HSZ.out; omega)))
    (fun cc _ _ _ _ h _ _ => h)
    ⟨⟨_, a1, a2, a3, World.ownsRow_nil _ _ _ _, by have := HSZ.out; omega⟩, hB0⟩
    (fun x a' W => a' = { tmps := #[.slice (some a) l.length c, undef, .string ⟨#[]⟩, .int .i64 0, .int .i64 0, .pointer (some ⟨w3.heap.size, 0, none⟩), .slice (some (a.add (9 * x.1 * 2))) (partN l.length x.1) (partN l.length x.1), .slice (some a) l.length c, .int .i64 0, .slice (some a) l.length c, .int .i64 0, .slice (some ⟨w2.heap.size, 0, none⟩) 2 2, .int .i64 0, .int .i64 0, .bool false, undef, .slice (some a) l.length c, .func (.func 115) #[] #[.pointer (some ⟨w3.heap.size + 1, 0, none⟩), .pointer (some ⟨w3.heap.size + 1 + 1, 0, none⟩)], .slice (some (a.add (9 * x.1 * 2))) (partN l.length x.1) (partN l.length x.1), undef, undef, undef, undef, undef, undef, undef, undef, undef, undef, undef, undef], defers := [] })
    (fun x a' _ X Y row hs hg hr => hs)
    ?assign ?body ?done ?stop
  case assign =>
    rintro lp pre x W K ⟨hI, hB1⟩ hK
    unfold encK
    gi_wp2
    exact hK _ _ ((KeepsOthers.refl _).from _) (keepD_refl _ _ _ _) ⟨hI, hB1⟩ rfl
  case body =>
    rintro lp pre ⟨k, hkN⟩ a' W hl ⟨r, hr⟩ ⟨⟨v, h1, h2, h3, h4, h5⟩, hB1⟩ rfl hlt
    obtain ⟨A', c', rfl⟩ := h4.slice
    have hlen := wordsP_len l (pre.map (·.1))
    rw [List.length_map] at hlen
    have hpn : partN l.length k = (partL l k).length := (partL_len l k).symm
    have hl9 : (partL l k).length ≤ 9 := by rw [partL_len]; omega
    have hws : 0 < (NotMath.runsW 9 (partL l k)).length := List.length_pos_iff.2 (runsW_ne _ (partL_ne hkN))
    have hwl := runsW_len 9 (partL l k)
    have HSN : Hid (wordsP l ((pre ++ [(⟨k, hkN⟩ : { k : Nat // 9 * k < l.length })]).map (·.1)) = (if wordsP l (pre.map (·.1)) = [] then [] else wordsP l (pre.map (·.1)) ++ [[124]]) ++ NotMath.runsW 9 (partL l k)) := Lib.hid (by rw [List.map_append]; exact wordsP_snoc _ _ _)
    have HWO : Hid (∀ W', Below w3.heap.size w3 W' → Calls Tryz.prog 66 #[.slice (some (a.add (9 * k * 2))) (partN l.length k) (partN l.length k)] W' fun e w' => ∃ v, e = .returned v ∧ TxtOwn w' W'.heap.size v (NotMath.runsW 9 (partL l k)) ∧ Below W'.heap.size W' w') := Lib.hid (fun W' hW' => by
      rw [hpn]
      exact wordsOf_yes _ _ (partL l k) W' (entries_part ((HR.out.keep HB3.out).keep hW') k) (fun x hx => HO.out x (List.mem_of_mem_drop (List.mem_of_mem_take hx))) hl9 (Nat.le_refl _))
    generalize NotMath.runsW 9 (partL l k) = ws at hws hwl HSN HWO
    generalize hts : wordsP l (pre.map (·.1)) = ts at h1 h4 hlen HSN
    have c0 := h1.cell 0
    simp only [List.getElem?_toArray, List.getElem?_cons_zero] at c0
    have f0 := h1.frozen 0
    have HK1 := Lib.hid h1
    have HK2 := Lib.hid h2
    have HK3 := Lib.hid h3
    have HT := Lib.hid h4
    have HG5 := Lib.hid h5
    have HB1 := Lib.hid hB1
    have hm : Tryz.prog.follows .mixedOrders = true := by kernel_rfl
    clear h1 h2 h3 h4 h5 hB1 hl hr hts hpn
    generalize hQ2 : ownPostG _ _ _ _ _ _ = Q2
    have HQ := Lib.hid hQ2
    clear hQ2
    by_cases hnil : ts = []
    · subst hnil
      have HRD := Lib.hid (fun (w5 : World) (v2 : Value) (h2 : TxtOwn w5 W.heap.size v2 ws) (hb : Below W.heap.size W w5) => print_round (v := .slice A' ([] : List (List UInt8)).length c') (W := W) (W1 := W) (KeepsOthers.refl W) (Below.refl _ _) HK2.out HK3.out HK1.out HK2.out HK3.out HT.out HG5.out (by simp; omega) hws h2 hb)
      simp only [List.length_nil] at *
      gi_wp2
      refine wpIn_region_any hm ?_
      try (change wpAnyIn _ _ _ _ _ _ _ _ _ (World.drew _))
      refine wpAnyIn_ready (rs := [0, 1]) (by kernel_rfl) (by simp) ?_
      refine AllReadyIn.cons rfl (fun K hK => ?_) (AllReadyIn.cons rfl (fun K hK => ?_) AllReadyIn.nil)
      · go_simp
        refine hK _ _ ?_
        clear hK K
        refine wpAnyIn_ready (rs := [1]) (by kernel_rfl) (by simp) ?_
        refine AllReadyIn.cons rfl (fun K hK => ?_) AllReadyIn.nil
        go_simp
        refine hK _ _ ?_
        clear hK K
        refine wpAnyIn_ready (rs := [2]) (by kernel_rfl) (by simp) ?_
        refine AllReadyIn.cons rfl (fun K hK => ?_) AllReadyIn.nil
        go_simp
        gi_wp2_with (refine ⟨trivial, ?_⟩; gi_at_call 66; (with_reducible refine (CallsIn.inRound lp (callsIn_wide.2 (HWO.out _ (HB1.out.drew)))).mono ?_); rintro e w5 ⟨v2, rfl, hown2, hb5⟩; obtain ⟨A9, n9, c9, w6, hrun, q0, q1, q2, HF⟩ := HRD.out w5 v2 hown2 ((Below.refl _ _).drew.trans hb5); obtain ⟨A5, c5, rfl⟩ := hown2.slice)
        refine wpAnyIn_ready (rs := [3]) (by kernel_rfl) (by simp) ?_
        refine AllReadyIn.cons rfl (fun K hK => ?_) AllReadyIn.nil
        refine step_append_in rfl _ _ 121 rfl _ _ (.slice A9 n9 c9) w6 rfl rfl hrun ?_
        refine hK _ _ ?_
        clear hK K
        refine wpAnyIn_ready (rs := [4]) (by kernel_rfl) (by simp) ?_
        refine AllReadyIn.cons rfl (fun K hK => ?_) AllReadyIn.nil
        go_simp
        refine hK _ _ ?_
        clear hK K
        refine wpAnyIn_done (by kernel_rfl) ?_ _
        show Q2 .normal _ _
        rw [← HQ.out]
        obtain ⟨z1, z2, z3, z4, z5, z6, z7, z8⟩ := HF.out
        exact ⟨z1.from _, z2, ⟨_, z3, z4, z5, by rw [HSN.out]; first | exact z6 | (rw [if_neg HNE.out]; exact z6), z7⟩, HB1.out.trans z8⟩
      · go_simp
        refine hK _ _ ?_
        clear hK K
        refine wpAnyIn_ready (rs := [0, 2]) (by kernel_rfl) (by simp) ?_
        refine AllReadyIn.cons rfl (fun K hK => ?_) (AllReadyIn.cons rfl (fun K hK => ?_) AllReadyIn.nil)
        · go_simp
          refine hK _ _ ?_
          clear hK K
          refine wpAnyIn_ready (rs := [2]) (by kernel_rfl) (by simp) ?_
          refine AllReadyIn.cons rfl (fun K hK => ?_) AllReadyIn.nil
          go_simp
          gi_wp2_with (refine ⟨trivial, ?_⟩; gi_at_call 66; (with_reducible refine (CallsIn.inRound lp (callsIn_wide.2 (HWO.out _ (HB1.out.drew)))).mono ?_); rintro e w5 ⟨v2, rfl, hown2, hb5⟩; obtain ⟨A9, n9, c9, w6, hrun, q0, q1, q2, HF⟩ := HRD.out w5 v2 hown2 ((Below.refl _ _).drew.trans hb5); obtain ⟨A5, c5, rfl⟩ := hown2.slice)
          refine wpAnyIn_ready (rs := [3]) (by kernel_rfl) (by simp) ?_
          refine AllReadyIn.cons rfl (fun K hK => ?_) AllReadyIn.nil
          refine step_append_in rfl _ _ 121 rfl _ _ (.slice A9 n9 c9) w6 rfl rfl hrun ?_
          refine hK _ _ ?_
          clear hK K
          refine wpAnyIn_ready (rs := [4]) (by kernel_rfl) (by simp) ?_
          refine AllReadyIn.cons rfl (fun K hK => ?_) AllReadyIn.nil
          go_simp
          refine hK _ _ ?_
          clear hK K
          refine wpAnyIn_done (by kernel_rfl) ?_ _
          show Q2 .normal _ _
          rw [← HQ.out]
          obtain ⟨z1, z2, z3, z4, z5, z6, z7, z8⟩ := HF.out
          exact ⟨z1.from _, z2, ⟨_, z3, z4, z5, by rw [HSN.out]; first | exact z6 | (rw [if_neg HNE.out]; exact z6), z7⟩, HB1.out.trans z8⟩
        · go_simp
          gi_wp2_with (refine ⟨trivial, ?_⟩; gi_at_call 66; (with_reducible refine (CallsIn.inRound lp (callsIn_wide.2 (HWO.out _ (HB1.out.drew)))).mono ?_); rintro e w5 ⟨v2, rfl, hown2, hb5⟩; obtain ⟨A9, n9, c9, w6, hrun, q0, q1, q2, HF⟩ := HRD.out w5 v2 hown2 ((Below.refl _ _).drew.trans hb5); obtain ⟨A5, c5, rfl⟩ := hown2.slice)
          refine wpAnyIn_ready (rs := [0]) (by kernel_rfl) (by simp) ?_
          refine AllReadyIn.cons rfl (fun K hK => ?_) AllReadyIn.nil
          go_simp
          refine hK _ _ ?_
          clear hK K
          refine wpAnyIn_ready (rs := [3]) (by kernel_rfl) (by simp) ?_
          refine AllReadyIn.cons rfl (fun K hK => ?_) AllReadyIn.nil
          refine step_append_in rfl _ _ 121 rfl _ _ (.slice A9 n9 c9) w6 rfl rfl hrun ?_
          refine hK _ _ ?_
          clear hK K
          refine wpAnyIn_ready (rs := [4]) (by kernel_rfl) (by simp) ?_
          refine AllReadyIn.cons rfl (fun K hK => ?_) AllReadyIn.nil
          go_simp
          refine hK _ _ ?_
          clear hK K
          refine wpAnyIn_done (by kernel_rfl) ?_ _
          show Q2 .normal _ _
          rw [← HQ.out]
          obtain ⟨z1, z2, z3, z4, z5, z6, z7, z8⟩ := HF.out
          exact ⟨z1.from _, z2, ⟨_, z3, z4, z5, by rw [HSN.out]; first | exact z6 | (rw [if_neg HNE.out]; exact z6), z7⟩, HB1.out.trans z8⟩
    · have hn0 : 0 < ts.length := List.length_pos_iff.2 hnil
      have HNE := Lib.hid hnil
      have hn1 : decide ((0 : Int) < (ts.length : Int)) = true := decide_eq_true (by omega)
      have hw8 : (W.alloc (.cells #[.string ⟨#[124]⟩] 9)).heap.size = W.heap.size + 1 := by simp
      have hb8a : Below W.heap.size W (W.alloc (.cells #[.string ⟨#[124]⟩] 9)) := (Below.refl _ _).alloc (Nat.le_refl _) _
      obtain ⟨v8, w8, hrun8, ht8, hb8, ko8⟩ := append_texts (w3.heap.size + 3) ts [[124]] (W.alloc (.cells #[.string ⟨#[124]⟩] 9)) (.slice A' ts.length c') (.slice (some ⟨W.heap.size, 0, none⟩) 1 1) W.heap.size (by have := HG5.out; omega) (by simp; omega) (by simp) (HT.out.below hb8a) (txt_new W [124])
      obtain ⟨A8, c8, hv8⟩ := ht8.slice
      generalize hn8 : (ts ++ [[124]]).length = n8 at hv8
      subst hv8
      have hs8 := hb8.size
      have k1 := (HK1.out.below hb8a HK1.out.lt).below hb8 (by omega)
      have k2 := (HK2.out.below hb8a HK2.out.lt).below hb8 (by omega)
      have k3 := (HK3.out.below hb8a HK3.out.lt).below hb8 (by omega)
      have d0 := k1.cell 0
      simp only [List.getElem?_toArray, List.getElem?_cons_zero] at d0
      have d1 := k1.frozen 0
      obtain ⟨W1, hW1⟩ : ∃ W1, w8.setCell ⟨w3.heap.size, 0, none⟩ (.slice A8 n8 c8) = W1 := ⟨_, rfl⟩
      have j1 : BlkV W1 w3.heap.size 121 #[.slice A8 n8 c8] := by rw [← hW1]; exact k1.set 0 _
      have j2 : BlkV W1 (w3.heap.size + 1) 51 #[.slice (some a) l.length c] := by rw [← hW1]; exact k2.far (p := ⟨w3.heap.size, 0, none⟩) (by simp) _
      have j3 : BlkV W1 (w3.heap.size + 1 + 1) 3 #[.int .i64 9] := by rw [← hW1]; exact k3.far (p := ⟨w3.heap.size, 0, none⟩) (by simp; omega) _
      have jt : TxtOwn W1 (w3.heap.size + 3) (.slice A8 n8 c8) (ts ++ [[124]]) := by rw [← hW1]; exact ht8.far (p := ⟨w3.heap.size, 0, none⟩) (by simp) _
      have jk : KeepsOthers W W1 := by rw [← hW1]; exact ((KeepsOthers.alloc W _).trans ko8).trans (KeepsOthers.setCell _ _ _)
      have e1 : Below w3.heap.size W (W.alloc (.cells #[.string ⟨#[124]⟩] 9)) := hb8a.mono (by have := HG5.out; omega)
      have e2 : Below w3.heap.size (W.alloc (.cells #[.string ⟨#[124]⟩] 9)) w8 := hb8.mono (Nat.le_add_right _ _)
      have jb : Below w3.heap.size W W1 := by rw [← hW1]; exact (e1.trans e2).setCell (p := ⟨w3.heap.size, 0, none⟩) (Nat.le_refl _) _
      have js : w3.heap.size + 3 ≤ W1.heap.size := by have := jb.size; have := HG5.out; omega
      have HRD := Lib.hid (fun (w5 : World) (v2 : Value) (h2 : TxtOwn w5 W1.heap.size v2 ws) (hb : Below W1.heap.size W1 w5) => print_round (v := .slice A' ts.length c') jk jb HK2.out HK3.out j1 j2 j3 jt js (by simp; omega) hws h2 hb)
      have JB : Hid (Below w3.heap.size w3 W1) := Lib.hid (HB1.out.trans jb)
      have HRUN8 := Lib.hid hrun8
      have HW1 := Lib.hid hW1
      have x0 := j1.cell 0
      simp only [List.getElem?_toArray, List.getElem?_cons_zero] at x0
      clear e1 e2 ht8 hb8 ko8 hrun8 k1 k2 k3 j1 j2 j3 jt jk jb js hb8a hW1 hs8 hn8
      gi_wp2_with ((gi_at_builtin; refine wpListIn_append_go rfl _ _ 121 rfl _ _ (.slice A8 n8 c8) w8 rfl rfl HRUN8.out ?_))
      rw [HW1.out]
      refine wpIn_region_any hm ?_
      try (change wpAnyIn _ _ _ _ _ _ _ _ _ (World.drew _))
      refine wpAnyIn_ready (rs := [0, 1]) (by kernel_rfl) (by simp) ?_
      refine AllReadyIn.cons rfl (fun K hK => ?_) (AllReadyIn.cons rfl (fun K hK => ?_) AllReadyIn.nil)
      · go_simp
        refine hK _ _ ?_
        clear hK K
        refine wpAnyIn_ready (rs := [1]) (by kernel_rfl) (by simp) ?_
        refine AllReadyIn.cons rfl (fun K hK => ?_) AllReadyIn.nil
        go_simp
        refine hK _ _ ?_
        clear hK K
        refine wpAnyIn_ready (rs := [2]) (by kernel_rfl) (by simp) ?_
        refine AllReadyIn.cons rfl (fun K hK => ?_) AllReadyIn.nil
        go_simp
        gi_wp2_with (refine ⟨trivial, ?_⟩; gi_at_call 66; (with_reducible refine (CallsIn.inRound lp (callsIn_wide.2 (HWO.out _ (JB.out.drew)))).mono ?_); rintro e w5 ⟨v2, rfl, hown2, hb5⟩; obtain ⟨A9, n9, c9, w6, hrun, q0, q1, q2, HF⟩ := HRD.out w5 v2 hown2 ((Below.refl _ _).drew.trans hb5); obtain ⟨A5, c5, rfl⟩ := hown2.slice)
        refine wpAnyIn_ready (rs := [3]) (by kernel_rfl) (by simp) ?_
        refine AllReadyIn.cons rfl (fun K hK => ?_) AllReadyIn.nil
        refine step_append_in rfl _ _ 121 rfl _ _ (.slice A9 n9 c9) w6 rfl rfl hrun ?_
        refine hK _ _ ?_
        clear hK K
        refine wpAnyIn_ready (rs := [4]) (by kernel_rfl) (by simp) ?_
        refine AllReadyIn.cons rfl (fun K hK => ?_) AllReadyIn.nil
        go_simp
        refine hK _ _ ?_
        clear hK K
        refine wpAnyIn_done (by kernel_rfl) ?_ _
        show Q2 .normal _ _
        rw [← HQ.out]
        obtain ⟨z1, z2, z3, z4, z5, z6, z7, z8⟩ := HF.out
        exact ⟨z1.from _, z2, ⟨_, z3, z4, z5, by rw [HSN.out]; first | exact z6 | (rw [if_neg HNE.out]; exact z6), z7⟩, HB1.out.trans z8⟩
      · go_simp
        refine hK _ _ ?_
        clear hK K
        refine wpAnyIn_ready (rs := [0, 2]) (by kernel_rfl) (by simp) ?_
        refine AllReadyIn.cons rfl (fun K hK => ?_) (AllReadyIn.cons rfl (fun K hK => ?_) AllReadyIn.nil)
        · go_simp
          refine hK _ _ ?_
          clear hK K
          refine wpAnyIn_ready (rs := [2]) (by kernel_rfl) (by simp) ?_
          refine AllReadyIn.cons rfl (fun K hK => ?_) AllReadyIn.nil
          go_simp
          gi_wp2_with (refine ⟨trivial, ?_⟩; gi_at_call 66; (with_reducible refine (CallsIn.inRound lp (callsIn_wide.2 (HWO.out _ (JB.out.drew)))).mono ?_); rintro e w5 ⟨v2, rfl, hown2, hb5⟩; obtain ⟨A9, n9, c9, w6, hrun, q0, q1, q2, HF⟩ := HRD.out w5 v2 hown2 ((Below.refl _ _).drew.trans hb5); obtain ⟨A5, c5, rfl⟩ := hown2.slice)
          refine wpAnyIn_ready (rs := [3]) (by kernel_rfl) (by simp) ?_
          refine AllReadyIn.cons rfl (fun K hK => ?_) AllReadyIn.nil
          refine step_append_in rfl _ _ 121 rfl _ _ (.slice A9 n9 c9) w6 rfl rfl hrun ?_
          refine hK _ _ ?_
          clear hK K
          refine wpAnyIn_ready (rs := [4]) (by kernel_rfl) (by simp) ?_
          refine AllReadyIn.cons rfl (fun K hK => ?_) AllReadyIn.nil
          go_simp
          refine hK _ _ ?_
          clear hK K
          refine wpAnyIn_done (by kernel_rfl) ?_ _
          show Q2 .normal _ _
          rw [← HQ.out]
          obtain ⟨z1, z2, z3, z4, z5, z6, z7, z8⟩ := HF.out
          exact ⟨z1.from _, z2, ⟨_, z3, z4, z5, by rw [HSN.out]; first | exact z6 | (rw [if_neg HNE.out]; exact z6), z7⟩, HB1.out.trans z8⟩
        · go_simp
          gi_wp2_with (refine ⟨trivial, ?_⟩; gi_at_call 66; (with_reducible refine (CallsIn.inRound lp (callsIn_wide.2 (HWO.out _ (JB.out.drew)))).mono ?_); rintro e w5 ⟨v2, rfl, hown2, hb5⟩; obtain ⟨A9, n9, c9, w6, hrun, q0, q1, q2, HF⟩ := HRD.out w5 v2 hown2 ((Below.refl _ _).drew.trans hb5); obtain ⟨A5, c5, rfl⟩ := hown2.slice)
          refine wpAnyIn_ready (rs := [0]) (by kernel_rfl) (by simp) ?_
          refine AllReadyIn.cons rfl (fun K hK => ?_) AllReadyIn.nil
          go_simp
          refine hK _ _ ?_
          clear hK K
          refine wpAnyIn_ready (rs := [3]) (by kernel_rfl) (by simp) ?_
          refine AllReadyIn.cons rfl (fun K hK => ?_) AllReadyIn.nil
          refine step_append_in rfl _ _ 121 rfl _ _ (.slice A9 n9 c9) w6 rfl rfl hrun ?_
          refine hK _ _ ?_
          clear hK K
          refine wpAnyIn_ready (rs := [4]) (by kernel_rfl) (by simp) ?_
          refine AllReadyIn.cons rfl (fun K hK => ?_) AllReadyIn.nil
          go_simp
          refine hK _ _ ?_
          clear hK K
          refine wpAnyIn_done (by kernel_rfl) ?_ _
          show Q2 .normal _ _
          rw [← HQ.out]
          obtain ⟨z1, z2, z3, z4, z5, z6, z7, z8⟩ := HF.out
          exact ⟨z1.from _, z2, ⟨_, z3, z4, z5, by rw [HSN.out]; first | exact z6 | (rw [if_neg HNE.out]; exact z6), z7⟩, HB1.out.trans z8⟩
  case done =>
    rintro D ys W hD hS ⟨⟨v, h1, h2, h3, h4, h5⟩, hB1⟩ hK
    rw [hS, wordsP_range, wordsK_all H0.out h36] at h4
    have hpos : 0 < (NotMath.notW 4 l).length := List.length_pos_iff.2 (NotMath.notW_ne 3 l H0.out)
    have hww : ∀ t ∈ NotMath.notW 4 l, t.length ≤ 6 := by rw [← wordsK_all H0.out h36]; exact wordsK_wide HO.out _
    have hjl := joinB_len _ hww
    have hnl : (NotMath.notW 4 l).length ≤ 40 := by rw [← wordsK_all H0.out h36]; have := wordsK_len l ((l.length + 8) / 9); omega
    obtain ⟨g2, c2, rfl, hg2, hlt2, hc2, hcells⟩ := h4.block hpos
    have hmap : ((NotMath.notW 4 l).map fun t => (⟨t.toArray⟩ : ByteArray)).map (·.data.toList) = NotMath.notW 4 l := by
      rw [List.map_map]
      exact List.map_id' _
    have HJ : Hid (Calls Tryz.prog 67 #[.slice (some ⟨g2, 0, none⟩) (NotMath.notW 4 l).length c2, .string ⟨#[32]⟩] W fun e w' => e = .returned (.string ⟨(NotMath.joinB (NotMath.notW 4 l)).toArray⟩) ∧ Below W.heap.size W w') := Lib.hid (by
      have := Tryz.strings_Join g2 0 c2 ((NotMath.notW 4 l).map fun t => ⟨t.toArray⟩) ⟨#[32]⟩ W hcells hlt2 (by rw [List.length_map]; omega) (by rw [List.length_map]; exact hc2) (by rw [hmap, show (⟨#[32]⟩ : ByteArray).data.toList = [32] from rfl, join_lib]; omega)
      rw [List.length_map, hmap, show (⟨#[32]⟩ : ByteArray).data.toList = [32] from rfl, join_lib] at this
      exact this)
    have lc := h1.cell 0
    simp only [List.getElem?_toArray, List.getElem?_cons_zero] at lc
    have HB1 := Lib.hid hB1
    have HDD := Lib.hid hD
    have HK := Lib.hid hK
    clear h1 h2 h3 h4 h5 hB1 hD hS hK hcells hmap hww hjl hnl hpos
    obtain ⟨res, hres⟩ : ∃ res, NotMath.joinB (NotMath.notW 4 l) = res := ⟨_, rfl⟩
    rw [hres] at HJ
    have HRES := Lib.hid hres
    clear hres
    generalize (NotMath.notW 4 l).length = nl at HJ lc
    gi_wp2_with fail
    refine ⟨trivial, (callsIn_wide.2 HJ.out).mono ?_⟩
    rintro e w5 ⟨rfl, hb5⟩
    have hk5 : w5.heap[D]? = some (.deferred (some [])) := (hb5.block D (Array.getElem?_eq_some_iff.1 HK.out).1).trans HK.out
    have HB5 := Lib.hid hb5
    clear hb5 HJ
    gi_wp2
    refine ⟨by simp, .inl ⟨_, _, rfl, run_takeDeferred hk5, ?_⟩⟩
    refine ⟨.tuple #[.string ⟨res.toArray⟩, .int .i64 0], ?_, by rw [HRES.out], (HB3.out.trans ((HB1.out.trans (HB5.out.mono HB1.out.size)).mono HB3.out.size)).trans (belowK_b (w := w) (Nat.le_refl _) w5 D _ _ ?_ hk5 rfl rfl)⟩
    · simp [results, Tryz.f21, go_sem]
    · have := HDD.out
      have := HSZ.out
      have := HB3.out.size
      omega
  case stop =>
    rintro D cc pre W hD hS h hK
    exact h.elim
end Go.Proofs.YtbckfkopdojggaaGreatDoor
