/- The reference's check of a field; short players, for five. -/
import Derived.Test.YtbckfkopdojggaaGreatDoorMgF
import Derived.Test.YtbckfkopdojggaaGreatDoorMgD
import Derived.Test.YtbckfkopdojggaaGreatDoorSumS
import Derived.Test.YtbckfkopdojggaaGreatDoorMgA
import Derived.BigQuiet
import Derived.Deep.QuietTactic
import Derived.Outline
set_option linter.unusedVariables false
set_option linter.unusedSimpArgs false
namespace Go.Proofs.YtbckfkopdojggaaGreatDoor
open Go.RowKit

/-- The error of a field. -/
def fieldE (hs : List (Int × Int)) (ps : List Pl) : Int := firstI [holesI hs, unlessI (decide ((ps.length : Int) ≤ 200)) 5, playersGo hs [] ps]

set_option maxRecDepth 100000 in
set_option maxHeartbeats 2000000 in
theorem refField_any (A H : Option Addr) (c ch : Nat) (hs : List (Int × Int)) (ps : List Pl) (w : World) (kCH : ∀ W, Below w.heap.size w W → Calls Tryz.prog 43 #[.slice H hs.length ch] W fun e w' => e = .returned (.int .i64 (holesI hs)) ∧ ∃ n, w' = W.drewN n)
    (kCP : ∀ W, Below w.heap.size w W → ps.length ≤ 200 → Calls Tryz.prog 44 #[.slice H hs.length ch, .slice A ps.length c] W fun e w' => e = .returned (.int .i64 (playersGo hs [] ps)) ∧ Below W.heap.size W w') :
    Calls Tryz.prog 11 #[.agg #[.slice H hs.length ch, .slice A ps.length c]] w fun e w' => e = .returned (.int .i64 (fieldE hs ps)) ∧ Below w.heap.size w w' := by
  have HCH := Lib.hid kCH
  have HCP := Lib.hid kCP
  have HV : Hid (fieldE hs ps = if holesI hs = 0 then (if ps.length ≤ 200 then playersGo hs [] ps else 5) else holesI hs) := Lib.hid (by
    unfold fieldE
    by_cases g1 : holesI hs = 0
    · rw [if_pos g1, g1]
      by_cases g2 : ps.length ≤ 200
      · rw [if_pos g2, decide_eq_true (show (ps.length : Int) ≤ 200 by omega)]
        show firstI [playersGo hs [] ps] = _
        unfold firstI
        by_cases g3 : playersGo hs [] ps = 0
        · rw [if_pos g3, g3]; rfl
        · rw [if_neg g3]
      · rw [if_neg g2, decide_eq_false (show ¬ (ps.length : Int) ≤ 200 by omega)]
        simp [firstI, unlessI]
    · rw [if_neg g1]; simp [firstI, g1])
  clear kCH kCP
  generalize fieldE hs ps = z at HV ⊢
  generalize hq : holesI hs = q at HCH HV
  clear hq
  go_enter Tryz.func11, Tryz.ntmps11
  go_wp2_with fail
  generalize hW0 : w.alloc (.cells #[.slice H hs.length ch, .slice A ps.length c] 30) = W0
  obtain ⟨a1, a2, a3⟩ := one_alloc w _ _ hW0
  have HBX := Lib.hid a1
  have HB0 := Lib.hid a2
  clear hW0 a1 a2 a3
  refine (HCH.out W0 HB0.out).mono ?_
  rintro e w1 ⟨rfl, n1, rfl⟩
  have HB1 := Lib.hid (below_drewN HB0.out n1)
  have hbx := HBX.out.below (below_drewN (Below.refl _ _) n1) HBX.out.lt
  have x0 := hbx.cell 0
  have x1 := hbx.cell 1
  simp only [List.getElem?_toArray, List.getElem?_cons_zero, List.getElem?_cons_succ] at x0 x1
  clear hbx
  by_cases g1 : q = 0
  · subst g1
    by_cases g2 : ps.length ≤ 200
    · have d2 : decide ((200 : Int) < (ps.length : Int)) = false := decide_eq_false (by omega)
      have HV2 : Hid (z = playersGo hs [] ps) := Lib.hid (by rw [HV.out, if_pos rfl, if_pos g2])
      go_wp2_with fail
      refine (HCP.out _ HB1.out g2).mono ?_
      rintro e w2 ⟨rfl, hb2⟩
      have HB2 := Lib.hid (HB1.out.trans (hb2.mono HB1.out.size))
      clear hb2
      go_wp2
      go_ret
      exact ⟨by rw [HV2.out]; rfl, HB2.out⟩
    · have d2 : decide ((200 : Int) < (ps.length : Int)) = true := decide_eq_true (by omega)
      have HV2 : Hid (z = 5) := Lib.hid (by rw [HV.out, if_pos rfl, if_neg g2])
      go_wp2
      go_ret
      exact ⟨by rw [HV2.out]; rfl, HB1.out⟩
  · have gb : (q == 0) = false := beq_eq_false_iff_ne.2 g1
    have HV2 : Hid (z = q) := Lib.hid (by rw [HV.out, if_neg g1])
    go_wp2
    go_ret
    exact ⟨by rw [HV2.out]; rfl, HB1.out⟩


/-- What the reference's ShortPlayers says, for five. -/
def shortsQ (ps : List Pl) : Bool := (decide (ps.length ≤ 5) || (decide (200 < ps.length) && decide (ps.length ≤ 203))) && ps.all fun p => shortB p.nm p.l
set_option maxRecDepth 100000 in
set_option maxHeartbeats 2000000 in
theorem refShortsQ_any (A : Option Addr) (c : Nat) (ps : List Pl) (w : World) (hp : PlayersR w A ps) :
    Calls Tryz.prog 8 #[.slice A ps.length c, .int .i64 5] w fun e w' => e = .returned (.bool (shortsQ ps)) ∧ Below w.heap.size w w' := by
  have HP := Lib.hid hp
  clear hp
  by_cases h1 : ps.length ≤ 5 ∨ (200 < ps.length ∧ ps.length ≤ 203)
  · have hl : ps.length ≤ 203 := by omega
    have HV : Hid (shortsQ ps = ps.all fun p => shortB p.nm p.l) := Lib.hid (by
      unfold shortsQ
      rcases h1 with g | ⟨g1, g2⟩
      · rw [decide_eq_true g]; rfl
      · rw [decide_eq_true g1, decide_eq_true g2]; simp)
    have b3 : decide ((203 : Int) < (ps.length : Int)) = false := decide_eq_false (by omega)
    have hbb : (decide ((5 : Int) < (ps.length : Int)) = false) ∨ (decide ((5 : Int) < (ps.length : Int)) = true ∧ decide ((ps.length : Int) ≤ 200) = false) := by
      rcases h1 with g | ⟨g1, g2⟩
      · exact .inl (decide_eq_false (by omega))
      · exact .inr ⟨decide_eq_true (by omega), decide_eq_false (by omega)⟩
    generalize shortsQ ps = res at HV ⊢
    clear h1
    rcases hbb with b1 | ⟨b1, b2⟩
    all_goals
      go_enter Tryz.func8, Tryz.ntmps8
      go_wp2
      go_loopw [5] (fun i w' => ∃ k : Nat, k ≤ ps.length ∧ i = .int .i64 k ∧ (ps.take k).all (fun p => shortB p.nm p.l) = true ∧ Below w.heap.size w w') (fun i _ => ps.length - (intOf i).toNat)
      case atStart => exact ⟨0, Nat.zero_le _, rfl, rfl, Below.refl _ _⟩
      case round =>
        obtain ⟨k, hk, rfl, hall, hb⟩ := hrel
        have HALL := Lib.hid hall
        have HB := Lib.hid hb
        clear hall hb
        by_cases hlt : k < ps.length
        · obtain ⟨a, B, d, rfl, d0, d1, d2, _, he⟩ := (HP.out.keep HB.out) k hlt
          have HTK : Hid (ps.take (k + 1) = ps.take k ++ [ps.getD k plD]) := Lib.hid (by
            rw [List.take_succ_eq_append_getElem hlt]; simp [List.getD, List.getElem?_eq_getElem hlt])
          have HMEM : Hid (ps.getD k plD ∈ ps) := Lib.hid (by simp [List.getD, List.getElem?_eq_getElem hlt])
          have HE := Lib.hid he
          have hk0 : (0 : Int) ≤ (k : Int) := Int.natCast_nonneg _
          have hk1 : (k : Int) < (ps.length : Int) := by omega
          clear he
          generalize ps.getD k plD = p at d0 d1 d2 HTK HMEM HE
          obtain ⟨nm, l, h⟩ := p
          simp only at d0 d1 d2
          have HSP := Lib.hid (fun W (he : EntriesR W B l) => shortPlayer_any B d nm l h W he)
          have HQ : Hid (shortB nm l = shortB nm l) := Lib.hid rfl
          go_wp2_with fail
          refine (HSP.out _ HE.out).mono ?_
          rintro e w2 ⟨rfl, hb2⟩
          have HB2 := Lib.hid (HB.out.trans (hb2.mono HB.out.size))
          clear hb2
          cases hsb : shortB nm l
          · have HF : Hid (res = false) := Lib.hid (by rw [HV.out]; exact List.all_eq_false.2 ⟨_, HMEM.out, by simp [hsb]⟩)
            clear hsb
            go_wp2
            go_ret
            exact ⟨by rw [HF.out]; rfl, HB2.out⟩
          · have HA2 : Hid ((ps.take (k + 1)).all (fun p => shortB p.nm p.l) = true) := Lib.hid (by rw [HTK.out, List.all_append, HALL.out]; simp [hsb])
            clear hsb
            go_wp2
            go_round
            case rel => exact ⟨k + 1, by omega, by go_num, HA2.out, HB2.out⟩
            case measure => simp [intOf]; omega
        · have HF : Hid (res = true) := Lib.hid (by
            have h2 := HALL.out
            rw [List.take_of_length_le (by omega)] at h2
            rw [HV.out, h2])
          go_wp2
          go_ret
          exact ⟨by rw [HF.out]; rfl, HB.out⟩
  · have HV : Hid (shortsQ ps = false) := Lib.hid (by
      unfold shortsQ
      rw [show (decide (ps.length ≤ 5) || (decide (200 < ps.length) && decide (ps.length ≤ 203))) = false by
        by_cases g : 200 < ps.length
        · rw [decide_eq_false (show ¬ ps.length ≤ 5 by omega), decide_eq_false (show ¬ ps.length ≤ 203 by omega)]; simp
        · rw [decide_eq_false (show ¬ ps.length ≤ 5 by omega), decide_eq_false g]; rfl]
      rfl)
    rw [HV.out]
    have b1 : decide ((5 : Int) < (ps.length : Int)) = true := decide_eq_true (by omega)
    have hbb : (decide ((ps.length : Int) ≤ 200) = true) ∨ (decide ((ps.length : Int) ≤ 200) = false ∧ decide ((203 : Int) < (ps.length : Int)) = true) := by
      by_cases g : ps.length ≤ 200
      · exact .inl (decide_eq_true (by omega))
      · exact .inr ⟨decide_eq_false (by omega), decide_eq_true (by omega)⟩
    clear h1 HV
    rcases hbb with b2 | ⟨b2, b3⟩
    all_goals
      go_enter Tryz.func8, Tryz.ntmps8
      go_wp2
      go_ret
      exact ⟨rfl, Below.refl _ _⟩
end Go.Proofs.YtbckfkopdojggaaGreatDoor
