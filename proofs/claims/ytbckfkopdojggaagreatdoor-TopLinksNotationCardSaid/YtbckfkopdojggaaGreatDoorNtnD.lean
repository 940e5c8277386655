/- TopLinksNotation: what all calls return, for any field. -/
import Derived.Test.YtbckfkopdojggaaGreatDoorNtnM
import Derived.Test.YtbckfkopdojggaaGreatDoorNtnS
import Derived.Test.YtbckfkopdojggaaGreatDoorNtnC
import Derived.Test.YtbckfkopdojggaaGreatDoorMgX
import Derived.Test.YtbckfkopdojggaaGreatDoorNotV
set_option linter.unusedVariables false
set_option linter.unusedSimpArgs false
namespace Go.Proofs.YtbckfkopdojggaaGreatDoor
open Go Go.RowKit

set_option maxRecDepth 100000 in
set_option maxHeartbeats 4000000 in
theorem notation_any (X A0 : Option Addr) (ch c0 : Nat) (hs : List (Int × Int)) (ps : List Pl) (mx : Int) (w : World) (hr : HolesR w X hs) (hbl : hs = [] ∨ ∀ a, X = some a → a.block < w.heap.size) (hp : PlayersR w A0 ps) (hcap : CapsR w A0 ps) (hl : ps.length * 48 ≤ 140737488355328)
    (hm : w.cell? ⟨0, 0, none⟩ = some (.int .i64 mx)) :
    Calls Tryz.prog 4 #[.agg #[.slice X hs.length ch, .slice A0 ps.length c0]] w fun e w' => e = .returned (.bool true) ∧ Below w.heap.size w w' := by
  have hmW : ∀ W, Below w.heap.size w W → W.cell? ⟨0, 0, none⟩ = some (.int .i64 mx) := fun W h => (h.cell (p := ⟨0, 0, none⟩) (World.block_lt_of_cell? _ _ hm)).trans hm
  have kL : ∀ W, Below w.heap.size w W → Calls Tryz.prog 20 #[] W fun e w' => e = .returned (.bool true) ∧ Below W.heap.size W w' := fun W h => linksRound_any mx W (hmW W h)
  have kF : ∀ W, Below w.heap.size w W → Calls Tryz.prog 19 #[.agg #[.slice X hs.length ch, .slice A0 ps.length c0]] W fun e w' => e = .returned (.bool (fewQ hs ps)) ∧ Below W.heap.size W w' := fun W h => by
    refine linksP_few X A0 ch c0 hs ps W ?_ ?_ (hp.keep h) hl
    · rcases hbl with hz | hbl
      · rw [hz]; exact fun j hj => absurd hj (Nat.not_lt_zero _)
      · exact hr.keep hbl h
    · rcases hbl with hz | hbl
      · exact .inl hz
      · exact .inr fun a ha => Nat.lt_of_lt_of_le (hbl a ha) h.size
  cases hq : fewQ hs ps
  · exact notation_few X A0 ch c0 hs.length ps.length w (fun W h => by have := kF W h; rwa [hq] at this) kL
  · rw [hq] at kF
    obtain ⟨h36, hsh, hfe⟩ := fewP_facts hq
    obtain ⟨hz, h200, hgo⟩ := fieldP_zero hfe
    obtain ⟨hpos, _, hpar, _⟩ := holesI_zero hz
    have hnz : ∀ p ∈ ps, plI hs p = 0 := playersGo_zero hs ps [] hgo
    have hbl2 : ∀ x, X = some x → x.block < w.heap.size := by
      rcases hbl with e | e
      · subst e; simp at hpos
      · exact e
    have hkr : ∀ W, Below w.heap.size w W → HolesR W X hs := fun W h => hr.keep hbl2 h
    have hkb : ∀ W, Below w.heap.size w W → ∀ x, X = some x → x.block < W.heap.size := fun W h x hx => Nat.lt_of_lt_of_le (hbl2 x hx) h.size
    have hlh : hs.length ≤ 4611686018427387904 := by omega
    have hp100 : ∀ x ∈ hs, -100 ≤ x.1 ∧ x.1 ≤ 100 := fun x hx => by have := hpar x hx; omega
    have hat : ∀ k, k < ps.length → ps.getD k plD ∈ ps := fun k hk => by simp [List.getD, List.getElem?_eq_getElem hk]
    have hfit : ∀ k, k < ps.length → Fit hs (ps.getD k plD).l (ps.getD k plD).h := fun k hk => fit_of (hnz _ (hat k hk))
    have hens : ∀ k, k < ps.length → ((ps.getD k plD).l.map enOf).map enV = (ps.getD k plD).l ∧ ∀ x ∈ (ps.getD k plD).l.map enOf, NotMath.okE x = true := fun k hk => ens_of (pl_entries (hnz _ (hat k hk)))
    have hne : ∀ k, k < ps.length → (ps.getD k plD).l.map enOf ≠ [] ∧ ((ps.getD k plD).l.map enOf).length ≤ 36 := fun k hk => by
      have F := hfit k hk
      refine ⟨fun e => ?_, by rw [List.length_map, F.len]; exact h36⟩
      have := congrArg List.length e
      rw [List.length_map, F.len] at this
      simp only [List.length_nil] at this
      omega
    have hnm : ∀ k, k < ps.length → ∀ nm, (nm = (ps.getD k plD).nm ∨ nm = ⟨#[97, 103, 97, 105, 110]⟩) → playerI hs nm (ps.getD k plD).l (ps.getD k plD).h = 0 := fun k hk nm hnm => by
      rcases hnm with rfl | rfl
      · exact hnz _ (hat k hk)
      · exact pl_name (hnz _ (hat k hk)) _ again_name
    refine notation_start X A0 ch c0 hs.length ps.length w kF ?_
    intros
    rename_i g3 g4 W hX hB h3 h4 b3 b4 b34
    refine ntT4 X A0 hs.length ch ps.length c0 g3 g4 ps (fullT hs) (fun k => textOf ((ps.getD k plD).l.map enOf)) (fun k => wholeR (netsOf hs (ps.getD k plD).h (ps.getD k plD).l) (sumS (netsOf hs (ps.getD k plD).h (ps.getD k plD).l))) (fun k => parL pointsF 0 hs (netsOf hs (ps.getD k plD).h (ps.getD k plD).l)) w W
      rfl (by omega) (full_bound hp100 h36) hX hB h3 h4 b3 b4 b34 hp hcap ?_ ?_ ?_ ?_ ?_ kL
    · intro k hk
      have F := hfit k hk
      have hpl : (parL pointsF 0 hs (netsOf hs (ps.getD k plD).h (ps.getD k plD).l)).length ≤ 36 := by rw [parL_len _ _ _ _ F.netsLen, F.netsLen]; exact h36
      have hsb := sum_600 F
      refine ⟨by rw [F.len]; omega, hpl, pts_2000 F hp100, ?_, ?_, ?_, ?_⟩
      · simp only [wholeR]; split
        · exact .inl rfl
        · exact .inr rfl
      · simp only [wholeR]; split
        · exact hsb.1
        · simp
      · simp only [wholeR]; split
        · exact hsb.2
        · simp
      · intro ha
        unfold allP at ha
        simp only [Bool.and_eq_true, decide_eq_true_eq, List.all_eq_true] at ha
        obtain ⟨e0, e1⟩ := ha
        have hall : allCount (netsOf hs (ps.getD k plD).h (ps.getD k plD).l) = true := by
          cases hc : allCount (netsOf hs (ps.getD k plD).h (ps.getD k plD).l)
          · rw [wholeR, hc] at e0; simp at e0
          · rfl
        simp only [wholeR, hall, if_true]
        exact full_sum hs _ F.netsLen.symm (fun n hn => List.all_eq_true.1 hall n hn) e1
    · intro V k B d hV hk he hc
      obtain ⟨e1, e2⟩ := hens k hk
      obtain ⟨n1, n2⟩ := hne k hk
      have F := hfit k hk
      obtain ⟨a, ea, _⟩ := he 0 (by rw [F.len]; exact hpos)
      subst ea
      have := print_yes a d ((ps.getD k plD).l.map enOf) V n1 n2 (by rw [List.length_map]; exact hc) (by rw [e1]; exact he) e2
      rwa [List.length_map] at this
    · intro V k hV hk
      obtain ⟨e1, e2⟩ := hens k hk
      obtain ⟨n1, n2⟩ := hne k hk
      have := parse_yes (textOf ((ps.getD k plD).l.map enOf)) ((ps.getD k plD).l.map enOf) mx V (text_size e2) (text_some n1 n2 e2) (hmW V hV) (text_steps n1 n2 e2)
      rwa [e1] at this
    · intro V k nm B d hV hk hn he
      have F := hfit k hk
      have h0 := hnm k hk nm hn
      have := fmScore_any X B ch d hs nm (ps.getD k plD).l (ps.getD k plD).h V (hkr V hV) (hkb V hV) hlh he (by rw [F.len]; omega)
      unfold scoreR at this
      rwa [if_pos h0] at this
    · intro V k nm B d hV hk hn he
      exact fmPoints_yes X B ch d hs nm (ps.getD k plD).l (ps.getD k plD).h V (hkr V hV) (hkb V hV) he (hnm k hk nm hn)
end Go.Proofs.YtbckfkopdojggaaGreatDoor
