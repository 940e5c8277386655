/- card's notation: the words of the entries of a nine. -/
import Derived.Test.YtbckfkopdojggaaGreatDoorNotQ
import Derived.Test.YtbckfkopdojggaaGreatDoorNotD
import Derived.Test.YtbckfkopdojggaaGreatDoorMgC
import Derived.Test.YtbckfkopdojggaaGreatDoorScoA
set_option linter.unusedVariables false
set_option linter.unusedSimpArgs false
namespace Go.Proofs.YtbckfkopdojggaaGreatDoor
open Go Go.RowKit

theorem enV_inj {x y : NotMath.En} (h : enV x = enV y) : x = y := by
  obtain ⟨n, m⟩ := x
  obtain ⟨n2, m2⟩ := y
  simp only [enV, Prod.mk.injEq, Int.natCast_inj] at h
  have h2 := congrArg (fun b : ByteArray => b.data.toList) h.2
  simp only at h2
  rw [h.1, h2]

theorem tw_at (x : NotMath.En) : ∀ (l : List NotMath.En) (j : Nat), j < (l.takeWhile (· = x)).length → l[j]? = some x
  | [], j, h => by simp at h
  | y :: l, j, h => by
    rw [List.takeWhile_cons] at h
    split at h
    · rename_i hy
      cases j with
      | zero => simp at hy; simp [hy]
      | succ j => simpa using tw_at x l j (by simpa using h)
    · simp at h
theorem tw_stop (x : NotMath.En) : ∀ (l : List NotMath.En), l[(l.takeWhile (· = x)).length]? ≠ some x
  | [] => by simp
  | y :: l => by
    rw [List.takeWhile_cons]
    split
    · simpa using tw_stop x l
    · rename_i hy
      simpa using hy
theorem tw_len (x : NotMath.En) (l : List NotMath.En) : (l.takeWhile (· = x)).length ≤ l.length := (List.takeWhile_sublist _).length_le

theorem lead_take {x : NotMath.En} {l : List NotMath.En} {n : Nat} (h : LeadN ((x :: l).map enV) n) : n = (l.takeWhile (· = x)).length + 1 := by
  obtain ⟨h1, h2, h3, h4⟩ := h
  have hat : ∀ j, (((x :: l).map enV).getD (j + 1) (0, ByteArray.empty)) = ((l[j]?).map enV).getD (0, ByteArray.empty) := fun j => by simp [List.getD]
  have h0 : ((x :: l).map enV).getD 0 (0, ByteArray.empty) = enV x := by simp [List.getD]
  have htl := tw_len x l
  simp only [List.length_map, List.length_cons] at h2 h4
  rcases Nat.lt_trichotomy n ((l.takeWhile (· = x)).length + 1) with h | h | h
  · obtain ⟨k, rfl⟩ : ∃ k, n = k + 1 := ⟨n - 1, by omega⟩
    have := h4 (by omega)
    rw [hat, h0, tw_at x l k (by omega)] at this
    simp at this
  · exact h
  · have := h3 ((l.takeWhile (· = x)).length + 1) h
    rw [hat, h0] at this
    have hlt : (l.takeWhile (· = x)).length < l.length := by omega
    have hs := tw_stop x l
    rw [List.getElem?_eq_getElem hlt] at this hs
    simp only [Option.map_some, Option.getD_some] at this
    exact absurd (by rw [enV_inj this]) hs

/-- The slice value v owns these texts. -/
def TxtOwn (w : World) (base : Nat) (v : Value) (ts : List (List UInt8)) : Prop := w.ownsRow base 9 1 v ts.length (ts.map fun t => Value.string ⟨t.toArray⟩)
theorem info_text : (Tryz.prog.info? 9).map (fun i => (i.zero, i.size, i.bytes)) = some (some (.string ⟨#[]⟩), 1, 16) := by kernel_rfl
theorem append_text (base : Nat) (t : List UInt8) (w : World) (v : Value) (ts : List (List UInt8)) (hb : base ≤ w.heap.size) (hl : ts.length ≤ 1000) (hown : TxtOwn w base v ts) :
    ∃ v' w', (Builtin.append_ #[121, 121] 121 #[v, .slice (some ⟨w.heap.size, 0, none⟩) 1 1]).run Tryz.prog (w.alloc (.cells #[.string ⟨t.toArray⟩] 9)) = .ok v' w' ∧
      TxtOwn w' base v' (ts ++ [t]) ∧ Below base w w' := by
  obtain ⟨v', w', h1, h2, h3⟩ := append_gen base 121 9 (.string ⟨#[]⟩) 1 16 Tryz.underlying121 info_text rfl (by decide) [.string ⟨t.toArray⟩] rfl (by simp [Value.oneCell']) w v ts.length _ hb (by omega) (by omega) hown
  refine ⟨v', w', h1, ?_, h3⟩
  unfold TxtOwn
  rw [List.map_append, List.length_append]
  exact h2

theorem digits_len : ∀ n, n < 100 → (NotMath.digits n).length ≤ 2 := by decide +kernel
theorem wordE_len (x : NotMath.En) (h : NotMath.okE x = true) : (NotMath.wordE x).length ≤ 3 := by
  obtain ⟨n, m⟩ := x
  rcases NotMath.marks_of h with ⟨h0, h1, h2⟩ | ⟨h0, h1, h2⟩ | ⟨h0, h1⟩ | ⟨h0, h1⟩
  all_goals
    simp only at h0 h1
    subst h0
  · have := digits_len n h2; simp [NotMath.wordE]; omega
  · have := digits_len n h2; simp [NotMath.wordE]; omega
  · simp [NotMath.wordE]
  · simp [NotMath.wordE]
theorem drop_tw (x : NotMath.En) (l : List NotMath.En) : l.drop (l.takeWhile (· = x)).length = l.dropWhile (· = x) := by
  have h : l.takeWhile (· = x) ++ l.dropWhile (· = x) = l := List.takeWhile_append_dropWhile
  conv => lhs; arg 2; rw [← h]
  exact List.drop_left
theorem runs_yes {f n : Nat} {x : NotMath.En} {rest : List NotMath.En} (hn : n = (rest.takeWhile (· = x)).length + 1) (h3 : 3 ≤ n) (hf : rest.length + 1 ≤ f) :
    ∃ f0, f = f0 + 1 ∧ NotMath.runsW f (x :: rest) = (NotMath.digits n ++ 42 :: NotMath.wordE x) :: NotMath.runsW f0 ((x :: rest).drop n) := by
  obtain ⟨f0, rfl⟩ : ∃ f0, f = f0 + 1 := ⟨f - 1, by omega⟩
  refine ⟨f0, rfl, ?_⟩
  subst hn
  rw [NotMath.runsW, if_pos h3, List.drop_succ_cons, drop_tw]
theorem runs_no {f n : Nat} {x : NotMath.En} {rest : List NotMath.En} (hn : n = (rest.takeWhile (· = x)).length + 1) (h3 : ¬ 3 ≤ n) (hf : rest.length + 1 ≤ f) :
    ∃ f0, f = f0 + 1 ∧ NotMath.runsW f (x :: rest) = NotMath.wordE x :: NotMath.runsW f0 ((x :: rest).drop 1) := by
  obtain ⟨f0, rfl⟩ : ∃ f0, f = f0 + 1 := ⟨f - 1, by omega⟩
  refine ⟨f0, rfl, ?_⟩
  subst hn
  rw [NotMath.runsW, if_neg h3]
  rfl
theorem entries_drop {w : World} {a : Addr} {c n : Nat} {x : NotMath.En} {rest : List NotMath.En} (h : EntriesR w (some a) ((x :: rest).map enV)) (hc : rest.length + 1 ≤ c) (hn : n ≤ rest.length + 1) :
    EntriesR w (if c = n then some a else some (a.add (n * 2))) (((x :: rest).drop n).map enV) := by
  intro j hj
  rw [List.length_map, List.length_drop, List.length_cons] at hj
  rw [if_neg (by omega)]
  obtain ⟨a2, e2, z0, z1, z2⟩ := h (n + j) (by rw [List.length_map, List.length_cons]; omega)
  cases e2
  have e : (a.add (n * 2)).add (j * 2) = a.add ((n + j) * 2) := by
    rcases Nat.eq_zero_or_pos n with rfl | h1
    · simp [Addr.add]
    · rcases Nat.eq_zero_or_pos j with rfl | h2
      · simp [Addr.add]
      · have g1 : ¬ n * 2 = 0 := by omega
        have g2 : ¬ j * 2 = 0 := by omega
        have g3 : ¬ n * 2 + j * 2 = 0 := by omega
        simp only [Addr.add, if_neg g1, if_neg g2, Nat.add_mul, Nat.add_assoc, if_neg g3]
  have eg : (((x :: rest).drop n).map enV).getD j (0, ByteArray.empty) = ((x :: rest).map enV).getD (n + j) (0, ByteArray.empty) := by simp [List.getD, List.getElem?_drop]
  exact ⟨_, rfl, by rw [e, eg]; exact z0, by rw [e, eg]; exact z1, by rw [e]; exact z2⟩
theorem quiet_txt {P : Program} {f : FuncId} {args : Array Value} {w : World} {n : Nat} {v : Value}
    (h : Calls P f args (w.drewN n) fun e w' => e = .returned v ∧ w' = w.drewN n) : Calls P f args (w.drewN n) fun e w' => e = .returned v ∧ ∃ m, w' = w.drewN m :=
  h.mono fun _ _ ⟨he, hm⟩ => ⟨he, n, hm⟩
theorem field_word (f g : Nat) (W : World) : (Instr.field 186 (.agg #[.func (.func f) #[] #[], .func (.func g) #[] #[]]) 1).run Tryz.prog W = .ok (.func (.func g) #[] #[]) W := by kernel_rfl

set_option maxRecDepth 100000 in
set_option maxHeartbeats 4000000 in
theorem wordsOf_yes (A : Option Addr) (c : Nat) (l : List NotMath.En) (w : World) (hr : EntriesR w A (l.map enV)) (ho : ∀ x ∈ l, NotMath.okE x = true) (h9 : l.length ≤ 9) (hc : l.length ≤ c) :
    Calls Tryz.prog 66 #[.slice A l.length c] w fun e w' => ∃ v, e = .returned v ∧ TxtOwn w' w.heap.size v (NotMath.runsW 9 l) ∧ Below w.heap.size w w' := by
  have HR := Lib.hid hr
  have HO := Lib.hid ho
  clear hr ho
  go_enter Tryz.func66, Tryz.ntmps66
  go_wp2_with (go_at_call 116; refine (marks_any _).mono ?_; rintro e w1 ⟨rfl, rfl⟩)
  go_loopw [0, 4] (fun t0 t4 wr => ∃ (rest : List NotMath.En) (f : Nat) (ts : List (List UInt8)) (A' : Option Addr) (c' : Nat), t0 = .slice A' rest.length c' ∧ rest.length ≤ c' ∧ rest.length ≤ f ∧ ts.length + rest.length ≤ 9 ∧ Hid (NotMath.runsW 9 l = ts ++ NotMath.runsW f rest) ∧ Hid (∀ x ∈ rest, NotMath.okE x = true) ∧
    Hid (EntriesR w A' (rest.map enV)) ∧ Hid (TxtOwn wr (w.heap.size + 1) t4 ts) ∧ Hid (Below (w.heap.size + 1) (w.alloc marksObj) wr)) (fun t0 _ _ => match t0 with | .slice _ n _ => n | _ => 0)
  case atStart => exact ⟨l, 9, [], A, c, rfl, hc, h9, by simpa using h9, Lib.hid rfl, HO, HR, Lib.hid (World.ownsRow_nil _ _ _ _), Lib.hid (by simpa using Below.refl (w.alloc marksObj).heap.size (w.alloc marksObj))⟩
  case round =>
    obtain ⟨rest, f, ts, A', c', rfl, hc', hf, hts, HRUN, HOK, HE, HT, HB⟩ := hrel
    rcases rest with _ | ⟨x, rest⟩
    · have HFIN : Hid (NotMath.runsW 9 l = ts) := Lib.hid (by rw [HRUN.out]; cases f <;> simp [NotMath.runsW])
      simp only [List.length_nil] at *
      go_wp2
      go_ret
      refine ⟨u4, rfl, by rw [HFIN.out]; exact ownsRow_base HT.out (Nat.le_succ _), ((Below.refl _ _).alloc (Nat.le_refl _) marksObj).trans (HB.out.mono (Nat.le_succ _))⟩
    · obtain ⟨a, rfl, z0, z1, z2⟩ := HE.out 0 (by simp)
      have hx : NotMath.okE x = true := HOK.out x (by simp)
      obtain ⟨fF, g, hmv, hg, hcall⟩ := word_call x hx
      have hbl : ∀ b, b < w.heap.size → wr.heap[b]? = w.heap[b]? := fun b hb => (HB.out.block b (by omega)).trans (Below.heap_alloc w marksObj b hb)
      rw [Nat.zero_mul, Addr.add_zero'] at z0 z1 z2
      have c0 : wr.cell? a = some (.int .i64 (x.n : Int)) := (World.cell?_of_block (hbl _ z2)).trans z0
      have c1 : wr.cell? ⟨a.block, a.off + 1, none⟩ = some (.string ⟨x.mark.toArray⟩) := (World.cell?_of_block (a := ⟨a.block, a.off + 1, none⟩) (hbl _ z2)).trans z1
      have hmk : wr.heap[w.heap.size]? = some marksObj := (HB.out.block w.heap.size (by omega)).trans (heap_alloc_new w marksObj)
      have L0 := look_mark wr w.heap.size ⟨x.mark.toArray⟩ fF g hmk hmv
      have L1 := fun k => look_mark (wr.drewN k) w.heap.size ⟨x.mark.toArray⟩ fF g hmk hmv
      simp only [fnV] at L0 L1
      have LF := field_word fF g
      have hwl : (NotMath.wordE x).length ≤ 3 := wordE_len x hx
      have HEW : Hid (EntriesR wr (some a) ((x :: rest).map enV)) := Lib.hid (fun j hj => by
        obtain ⟨a2, e2, y0, y1, y2⟩ := HE.out j hj
        exact ⟨a2, e2, (World.cell?_of_block (hbl _ y2)).trans y0, (World.cell?_of_block (a := ⟨(a2.add (j * 2)).block, (a2.add (j * 2)).off + 1, none⟩) (hbl _ y2)).trans y1, by have := HB.out.size; simp at this; omega⟩)
      have HLD : Hid (∀ W, EntriesR W (some a) ((x :: rest).map enV) → Calls Tryz.prog 117 #[.slice (some a) (rest.length + 1) c'] W fun e w' => ∃ n : Nat, e = .returned (.int .i64 n) ∧ n = (rest.takeWhile (· = x)).length + 1 ∧ ∃ k, w' = W.drewN k) := Lib.hid (fun W hW => by
        have := leading_any (some a) c' ((x :: rest).map enV) W hW (by simp) (by simp; simp at hts; omega)
        rw [List.length_map, List.length_cons] at this
        exact this.mono fun e w' ⟨n, h1, h2, h3⟩ => ⟨n, h1, lead_take h2, h3⟩)
      have HC := Lib.hid hcall
      have HBL := Lib.hid hbl
      have hl0 : (0 : Int) < (rest.length : Int) + 1 := by omega
      simp only [List.length_cons] at hc' hf hts ⊢
      generalize hwd : NotMath.wordE x = wd at HC hwl
      have HWD := Lib.hid hwd
      generalize hmm : (⟨x.mark.toArray⟩ : ByteArray) = mm at *
      clear z0 z1 hmv hcall hbl hmk hwd hmm
      rcases hg with rfl | rfl | rfl | rfl
      all_goals
        go_wp2
        go_quiet ((first
          | (go_at_call 118; exact quiet_txt (HC.out _))
          | (go_at_call 168; exact quiet_txt (HC.out _))
          | (go_at_call 169; exact quiet_txt (HC.out _))
          | (go_at_call 170; exact quiet_txt (HC.out _))))
        go_wp2_with fail
        refine (HLD.out _ (by exact HEW.out)).mono ?_
        rintro e w3 ⟨n, rfl, hn, kd, rfl⟩
        have HN := Lib.hid hn
        have hnr : n ≤ rest.length + 1 := by have := tw_len x rest; omega
        have hn1 : 1 ≤ n := by omega
        have hni : (n : Int) ≤ (rest.length : Int) + 1 := by omega
        have hn0 : (1 : Int) ≤ (n : Int) := by omega
        have hci : (rest.length : Int) + 1 ≤ (c' : Int) := by omega
        clear hn
        by_cases h3 : 3 ≤ n
        · have h3i : (3 : Int) ≤ (n : Int) := by omega
          have hdl := len_dec n (by omega)
          have hcat : ((⟨(Lib.decDigits n).toArray⟩ : ByteArray) ++ ⟨#[42]⟩) ++ ⟨wd.toArray⟩ = ⟨(NotMath.digits n ++ 42 :: wd).toArray⟩ := by
            rw [digits_dec n (by omega)]
            apply ByteArray.ext
            simp
          obtain ⟨v', w', hrun, hown, hbel⟩ := append_text (w.heap.size + 1) (NotMath.digits n ++ 42 :: wd) (wr.drewN (nq + kd)) u4 ts (by have := HB.out.size; simp at this ⊢; omega) (by omega) HT.out
          rw [← hcat] at hrun
          have HRUN2 : Hid ((Builtin.append_ #[121, 121] 121 #[u4, .slice (some ⟨wr.heap.size, 0, none⟩) 1 1]).run Tryz.prog ((wr.drewN (nq + kd)).alloc (.cells #[.string (((⟨(Lib.decDigits n).toArray⟩ : ByteArray) ++ ⟨#[42]⟩) ++ ⟨wd.toArray⟩)] 9)) = .ok v' w') := Lib.hid hrun
          have HOWN := Lib.hid hown
          have HBEL := Lib.hid hbel
          clear hrun hown hbel hcat
          go_wp2_with fail
          refine (Tryz.strconv_Itoa_small n (by omega) _).mono ?_
          rintro e w4 ⟨rfl, rfl⟩
          go_wp2_with (at_builtin; refine wpList_append_go rfl _ _ 121 rfl _ _ v' w' rfl rfl HRUN2.out ?_)
          obtain ⟨f0, hf0, hruns⟩ := runs_yes HN.out h3 hf
          refine ⟨⟨(x :: rest).drop n, f0, ts ++ [NotMath.digits n ++ 42 :: wd], (if c' = n then some a else some (a.add (n * 2))), c' - n, by rw [List.length_drop, List.length_cons], by rw [List.length_drop, List.length_cons]; omega, by rw [List.length_drop, List.length_cons]; omega, by simp only [List.length_drop, List.length_append, List.length_cons, List.length_nil]; omega, Lib.hid ?_, Lib.hid (fun y hy => HOK.out y (List.mem_of_mem_drop hy)), Lib.hid (entries_drop HE.out hc' hnr), HOWN, Lib.hid ((belowDraws HB.out (nq + kd)).trans HBEL.out)⟩, ?_⟩
          · rw [HRUN.out, hruns, HWD.out, List.append_assoc]; rfl
          · simp; omega
        · have h3i : (n : Int) < 3 := by omega
          obtain ⟨v', w', hrun, hown, hbel⟩ := append_text (w.heap.size + 1) wd (wr.drewN (nq + kd)) u4 ts (by have := HB.out.size; simp at this ⊢; omega) (by omega) HT.out
          have HRUN2 : Hid ((Builtin.append_ #[121, 121] 121 #[u4, .slice (some ⟨wr.heap.size, 0, none⟩) 1 1]).run Tryz.prog ((wr.drewN (nq + kd)).alloc (.cells #[.string ⟨wd.toArray⟩] 9)) = .ok v' w') := Lib.hid hrun
          have HOWN := Lib.hid hown
          have HBEL := Lib.hid hbel
          clear hrun hown hbel
          go_wp2_with (at_builtin; refine wpList_append_go rfl _ _ 121 rfl _ _ v' w' rfl rfl HRUN2.out ?_)
          obtain ⟨f0, hf0, hruns⟩ := runs_no HN.out h3 hf
          refine ⟨⟨(x :: rest).drop 1, f0, ts ++ [wd], (if c' = 1 then some a else some (a.add (1 * 2))), c' - 1, by rw [List.length_drop, List.length_cons]; rfl, by rw [List.length_drop, List.length_cons]; omega, by rw [List.length_drop, List.length_cons]; omega, by simp only [List.length_drop, List.length_append, List.length_cons, List.length_nil]; omega, Lib.hid ?_, Lib.hid (fun y hy => HOK.out y (List.mem_of_mem_drop hy)), Lib.hid (entries_drop HE.out hc' (by omega)), HOWN, Lib.hid ((belowDraws HB.out (nq + kd)).trans HBEL.out)⟩, ?_⟩
          · rw [HRUN.out, hruns, HWD.out, List.append_assoc]; rfl
          · simp
end Go.Proofs.YtbckfkopdojggaaGreatDoor
