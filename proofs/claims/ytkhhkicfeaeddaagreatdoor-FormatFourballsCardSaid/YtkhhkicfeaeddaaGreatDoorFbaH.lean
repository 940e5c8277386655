/- FormatFourballs: the law, for any holes and any players. -/
import Derived.Test.YtkhhkicfeaeddaaGreatDoorFbaE
import Derived.Test.YtkhhkicfeaeddaaGreatDoorFbaF
import Derived.Test.YtkhhkicfeaeddaaGreatDoorFbaG
import Derived.Test.YtkhhkicfeaeddaaGreatDoorMatN
set_option linter.unusedVariables false
set_option linter.unusedSimpArgs false
namespace Go.Proofs.YtkhhkicfeaeddaaGreatDoor
open Go.RowKit

theorem joinedE_two (hs : List (Int × Int)) (a b : Pl) : joinedE 2 hs [a, b] = playersGo hs [] [a, b] := by
  have hs2 : sideI 2 [a, b].length = 0 := rfl
  unfold joinedE
  rw [hs2]
  by_cases h : holesI hs = 0
  · rw [h]
    by_cases g : playersGo hs [] [a, b] = 0
    · rw [g]; rfl
    · simp [firstI, g]
  · have hp : plI hs a = holesI hs := by unfold plI playerI; simp [firstI, h]
    have e1 : firstI [plI hs a, unlessI (!decide (a.nm ∈ ([] : List ByteArray))) 9] = holesI hs := by rw [hp]; simp [firstI, h]
    have e2 : playersGo hs [] [a, b] = holesI hs := by
      rw [playersGo, e1, if_neg h]
    rw [e2]
    simp [firstI, h]
theorem go_first_two {hs : List (Int × Int)} {a b : Pl} {r : List Pl} (h : playersGo hs [] (a :: b :: r) = 0) : playersGo hs [] [a, b] = 0 := by
  rw [playersGo] at h ⊢
  by_cases h1 : firstI [plI hs a, unlessI (!decide (a.nm ∈ ([] : List ByteArray))) 9] = 0
  · rw [if_pos h1] at h ⊢
    rw [playersGo] at h ⊢
    by_cases h2 : firstI [plI hs b, unlessI (!decide (b.nm ∈ ([] ++ [a.nm] : List ByteArray))) 9] = 0
    · rw [if_pos h2, playersGo]
    · rw [if_neg h2] at h; exact absurd h h2
  · rw [if_neg h1] at h; exact absurd h h1
theorem side_unless (n : Nat) : unlessI (!decide ((n : Int) < 2) && !decide (4 < (n : Int))) 2 = sideI 4 n := by
  unfold sideI unlessI
  by_cases h1 : (n : Int) < 2
  · rw [decide_eq_true h1, if_neg (show ¬ (2 ≤ n ∧ (n : Int) ≤ 4) by omega)]; rfl
  · by_cases h2 : 4 < (n : Int)
    · rw [decide_eq_true h2, decide_eq_false h1, if_neg (show ¬ (2 ≤ n ∧ (n : Int) ≤ 4) by omega)]; rfl
    · rw [decide_eq_false h2, decide_eq_false h1, if_pos (show 2 ≤ n ∧ (n : Int) ≤ 4 by omega)]; rfl
theorem first_three {a b c : Int} (h : firstI [a, b] ≠ 0) : firstI [a, b, c] = firstI [a, b] := by
  by_cases ha : a = 0
  · by_cases hb : b = 0
    · exact absurd (by simp [firstI, ha, hb]) h
    · simp [firstI, ha, hb]
  · simp [firstI, ha]
theorem first_three_zero {a b c : Int} (h : firstI [a, b] = 0) : firstI [a, b, c] = c := by
  have ha := firstI_zero _ h a (by simp)
  have hb := firstI_zero _ h b (by simp)
  subst ha; subst hb
  by_cases hc : c = 0
  · subst hc; rfl
  · simp [firstI, hc]
theorem agg_joined {hs : List (Int × Int)} {a b : Pl} (ha : (netsOf hs a.h a.l).length = hs.length) (hb : (netsOf hs b.h b.l).length = hs.length) : aggL (netsOf hs a.h a.l) (netsOf hs b.h b.l) hs.length = joinedL totalM hs [a, b] := by
  refine list_same (by rw [aggL_len, joinedL_len]) fun j hj => ?_
  rw [aggL_len] at hj
  rw [joinedL_at _ _ _ _ hj, at_two]
  have e : (aggL (netsOf hs a.h a.l) (netsOf hs b.h b.l) hs.length).getD j (0, ByteArray.empty) = aggM ((netsOf hs a.h a.l).getD j (0, ByteArray.empty)) ((netsOf hs b.h b.l).getD j (0, ByteArray.empty)) := by
    simp [aggL, List.getD, List.getElem?_range hj]
  rw [e]
  exact agg_total (nets_at_fine hs a j (by omega)) (nets_at_fine hs b j (by omega))
theorem small_mem {l : List Nt} (h : Small l) : ∀ e ∈ l, -1000000 ≤ e.1 ∧ e.1 ≤ 1000000 := fun e he => by
  have := h e.1 (List.mem_map.2 ⟨e, he, rfl⟩)
  omega

theorem fourballs_any (H A : Option Addr) (ch c : Nat) (hs : List (Int × Int)) (ps : List Pl) (w : World) (hr : HolesR w H hs) (hbl : hs = [] ∨ ∀ x, H = some x → x.block < w.heap.size) (hp : PlayersR w A ps) (hl : ps.length ≤ 4611686018427387904) :
    Calls Tryz.prog 4 #[.slice H hs.length ch, .slice A ps.length c] w fun e w' => e = .returned (.bool true) ∧ Below w.heap.size w w' := by
  by_cases h6 : 6 < ps.length
  · exact fba_w1 H A ch c hs ps w hp hl h6
  have h6 : ps.length ≤ 6 := by omega
  cases hf : fewB hs.length ps
  · exact fba_w2 H A ch c hs ps w hp hl h6 hf
  have hb39 : hs.length ≤ 39 ∧ ∀ p ∈ ps, p.l.length ≤ 39 := by
    unfold fewB at hf
    simp only [Bool.and_eq_true, List.all_eq_true, decide_eq_true_eq] at hf
    refine ⟨hf.2, fun p hp => ?_⟩
    have := hf.1 p hp
    unfold shortB at this
    simp only [Bool.and_eq_true, decide_eq_true_eq] at this
    exact this.1.2
  have hlh : hs.length ≤ 4611686018427387904 := by omega
  have hll : ∀ p ∈ ps, p.l.length ≤ 4611686018427387904 := fun p hp => by have := hb39.2 p hp; omega
  have hW : ∀ W, Below w.heap.size w W → HolesR W H hs := fun W hW => by
    rcases hbl with hz | hbl
    · rw [hz]; exact fun j hj => absurd hj (Nat.not_lt_zero _)
    · exact hr.keep hbl hW
  have kCH : ∀ W, Below w.heap.size w W → Calls Tryz.prog 22 #[.slice H hs.length ch] W fun e w' => e = .returned (.int .i64 (holesI hs)) ∧ ∃ n, w' = W.drewN n := fun W h => refCheckHoles_any H ch hs W (hW W h)
  have hch : ∀ W, Below w.heap.size w W → Calls Tryz.prog 60 #[.slice H hs.length ch] W fun e w' => e = .returned (.int .i64 (holesI hs)) ∧ Below W.heap.size W w' := fun W h => by
    rcases hbl with hz | hbl
    · exact checkHoles_nil H ch hs W hz
    · exact checkHoles_any H ch hs W (hr.keep hbl h) (fun a ha => Nat.lt_of_lt_of_le (hbl a ha) h.size) hlh
  have hcp : ∀ (qs : List Pl), (∀ p ∈ qs, p ∈ ps) → qs.length ≤ 6 → ∀ W X cx, Below w.heap.size w W → PlayersR W X qs → Calls Tryz.prog 69 #[.slice H hs.length ch, .slice X qs.length cx] W fun e w' => e = .returned (.int .i64 (playersGo hs [] qs)) ∧ Below W.heap.size W w' := fun qs hq hq6 W X cx h hx => by
    rcases hbl with hz | hbl
    · exact checkPlayers_nil X H cx ch hs qs W hz hx (by omega) (fun p hp => hll p (hq p hp))
    · exact checkPlayers_any X H cx ch hs qs W (hr.keep hbl h) (fun a ha => Nat.lt_of_lt_of_le (hbl a ha) h.size) hlh hx (by omega) (fun p hp => hll p (hq p hp))
  have kRP : ∀ W, Below w.heap.size w W → ∀ p ∈ ps, ∀ B d, EntriesR W B p.l → Calls Tryz.prog 27 #[.slice H hs.length ch, .agg #[.string p.nm, .slice B p.l.length d, .int .i64 p.h]] W fun e w' => e = .returned (.int .i64 (plI hs p)) ∧ Below W.heap.size W w' := fun W h p hpm B d he => by
    rcases hbl with hz | hbl
    · subst hz
      exact refPlayer_nil H B ch d p.nm p.l p.h W
    · exact refPlayer_any H B ch d hs p.nm p.l p.h W (hr.keep hbl h) (fun x hx => Nat.lt_of_lt_of_le (hbl x hx) h.size) hlh he (hll p hpm)
  have kCP : ∀ W X x, Below w.heap.size w W → PlayersR W X ps → Calls Tryz.prog 23 #[.slice H hs.length ch, .slice X ps.length x] W fun e w' => e = .returned (.int .i64 (playersGo hs [] ps)) ∧ Below W.heap.size W w' := fun W X x h hx =>
    refPlayers_any X H x ch hs ps W (fun W' h' p hpm B d he => kRP W' (h.trans (h'.mono h.size)) p hpm B d he) hx (by omega)
  have kFno : ∀ z, joinedE 4 hs ps = z → z ≠ 0 → ∀ W, Below w.heap.size w W → Calls Tryz.prog 21 #[.slice H hs.length ch, .slice A ps.length c] W fun e w' => e = .returned (.tuple #[.slice none 0 0, .int .i64 z]) ∧ Below W.heap.size W w' := fun z hE hz W h =>
    fmFourball_no A H c ch hs ps W (fun X hX => hch X (h.trans (hX.mono h.size))) (fun X hX => hcp ps (fun p hp => hp) h6 X A c (h.trans (hX.mono h.size)) ((hp.keep h).keep hX)) hl z hE hz
  have hside := side_unless ps.length
  by_cases h2 : ps.length < 2
  · have hz : joinedE 4 hs ps ≠ 0 := fun e => by
      have := firstI_zero _ e (sideI 4 ps.length) (by simp)
      unfold sideI at this
      rw [if_neg (by omega)] at this
      omega
    have hsd : sideI 4 ps.length = 2 := by unfold sideI; rw [if_neg (by omega)]
    refine fba_short H A ch c hs ps w hp hl h6 hf kCH _ hz (kFno _ rfl hz) ?_ h2
    unfold joinedE
    rw [hsd]
    show firstI [holesI hs, 2] = _
    exact (first_three (by by_cases g : holesI hs = 0 <;> simp [firstI, g])).symm
  have h2 : 2 ≤ ps.length := by omega
  obtain ⟨p0, p1, r, rfl⟩ : ∃ p0 p1 r, ps = p0 :: p1 :: r := by
    match ps, h2 with
    | p0 :: p1 :: r, _ => exact ⟨p0, p1, r, rfl⟩
  have m0 : p0 ∈ p0 :: p1 :: r := by simp
  have m1 : p1 ∈ p0 :: p1 :: r := by simp
  have hsub : ∀ p ∈ [p0, p1], p ∈ p0 :: p1 :: r := fun p hp => by
    rcases List.mem_cons.1 hp with rfl | hp
    · exact m0
    · obtain rfl := List.mem_singleton.1 hp
      exact m1
  have kC0 := fun W (h : Below w.heap.size w W) B d he => kRP W h p0 m0 B d he
  have kC1 := fun W (h : Below w.heap.size w W) B d he => kRP W h p1 m1 B d he
  have hq2 := players_two hs p0 p1
  have kAno : ∀ z, playersGo hs [] [p0, p1] = z → z ≠ 0 → ∀ W, Below w.heap.size w W → ∀ B0 d0 B1 d1, EntriesR W B0 p0.l → EntriesR W B1 p1.l → Calls Tryz.prog 26 #[.slice H hs.length ch, .agg #[.string p0.nm, .slice B0 p0.l.length d0, .int .i64 p0.h], .agg #[.string p1.nm, .slice B1 p1.l.length d1, .int .i64 p1.h]] W fun e w' => e = .returned (.tuple #[.slice none 0 0, .int .i64 z]) ∧ Below W.heap.size W w' := fun z hz gz W h B0 d0 B1 d1 e0 e1 =>
    fmAggregate_no H B0 B1 ch d0 d1 hs p0 p1 W (fun X hX => hch X (h.trans (hX.mono h.size))) (fun X Y cy hX hY => hcp [p0, p1] hsub (by simp) X Y cy (h.trans (hX.mono h.size)) hY) e0 e1 z ((joinedE_two hs p0 p1).trans hz) gz
  -- where both are right
  have good : playersGo hs [] [p0, p1] = 0 → (∀ x, H = some x → x.block < w.heap.size) ∧ (joinedL totalM hs [p0, p1]).length ≤ 1000 ∧
      (∀ W, Below w.heap.size w W → ∀ B0 d0 B1 d1, EntriesR W B0 p0.l → EntriesR W B1 p1.l → Calls Tryz.prog 26 #[.slice H hs.length ch, .agg #[.string p0.nm, .slice B0 p0.l.length d0, .int .i64 p0.h], .agg #[.string p1.nm, .slice B1 p1.l.length d1, .int .i64 p1.h]] W (HolesOut (joinedL totalM hs [p0, p1]) W)) ∧
      (∀ W, Below w.heap.size w W → ∀ B0 d0 B1 d1, EntriesR W B0 p0.l → EntriesR W B1 p1.l → Calls Tryz.prog 28 #[.slice H hs.length ch, .agg #[.string p0.nm, .slice B0 p0.l.length d0, .int .i64 p0.h], .agg #[.string p1.nm, .slice B1 p1.l.length d1, .int .i64 p1.h]] W fun e w' => ∃ v, e = .returned v ∧ PairsOwn w' W.heap.size 91 v (joinedL totalM hs [p0, p1]) ∧ Below W.heap.size W w') := fun h0 => by
    obtain ⟨hpa, hpb, _⟩ := playersGo_two h0
    have FA := fit_of hpa
    have FB := fit_of hpb
    have hz := (holesI_zero (player_holes hpa)).2.2.1
    have hne : hs ≠ [] := fun e => by have := FA.pos; rw [e] at this; simp at this
    have hbl2 := hbl.resolve_left hne
    refine ⟨hbl2, by rw [joinedL_len]; omega, fun W h B0 d0 B1 d1 e0 e1 => ?_, fun W h B0 d0 B1 d1 e0 e1 => ?_⟩
    · exact fmAggregate_yes H B0 B1 ch d0 d1 hs p0 p1 W (hr.keep hbl2 h) (fun x hx => Nat.lt_of_lt_of_le (hbl2 x hx) h.size) e0 e1 ((joinedE_two hs p0 p1).trans h0)
    · rw [← agg_joined FA.netsLen FB.netsLen]
      have hn : ∀ (p : Pl) (B : Option Addr) (d : Nat), playerI hs p.nm p.l p.h = 0 → EntriesR W B p.l → ∀ W', Below W.heap.size W W' → Calls Tryz.prog 57 #[.slice H hs.length ch, .agg #[.string p.nm, .slice B p.l.length d, .int .i64 p.h]] W' fun e w' => ∃ A' c', e = .returned (.slice A' hs.length c') ∧ EntriesR w' A' (netsOf hs p.h p.l) ∧ Below W'.heap.size W' w' := fun p B d hpp he W' h' => by
        have hh := h.trans (h'.mono h.size)
        refine (refNets_any H B ch d hs p.nm p.l p.h W' (hr.keep hbl2 hh) (fun x hx => Nat.lt_of_lt_of_le (hbl2 x hx) hh.size) (he.keep h') hpp (fun x hx => (hz x hx).2.2)).mono ?_
        rintro e w' ⟨v, rfl, ho, hb⟩
        obtain ⟨A', c', rfl, he'⟩ := ho.entries
        exact ⟨A', c', by rw [(fit_of hpp).netsLen], he', hb⟩
      exact refAggregate_any H B0 B1 ch d0 d1 hs p0 p1 _ _ W (hn p0 B0 d0 hpa e0) (hn p1 B1 d1 hpb e1) FA.netsLen FB.netsLen (nets_fine _ _ _) (nets_fine _ _ _) (small_mem FA.netsSmall) (small_mem FB.netsSmall) (by omega)
  by_cases hq : firstI [holesI hs, unlessI (!decide (((p0 :: p1 :: r).length : Int) < 2) && !decide (4 < ((p0 :: p1 :: r).length : Int))) 2] = 0
  · by_cases hg : playersGo hs [] (p0 :: p1 :: r) = 0
    · have h0 := go_first_two hg
      obtain ⟨hbl2, hnl, kA, kRA⟩ := good h0
      have hE : joinedE 4 hs (p0 :: p1 :: r) = 0 := by
        unfold joinedE
        rw [hside] at hq
        rw [first_three_zero hq]
        exact hg
      have hps := playersGo_zero hs _ [] hg
      have hz := (holesI_zero (player_holes (show playerI hs p0.nm p0.l p0.h = 0 from hps p0 m0))).2.2.1
      refine fba_Fok_ok H A ch c hs _ w hp hl h6 hf kCH ?_ ?_ ?_ hq (by omega) h2 p0 p1 rfl rfl _ _ 0 kC0 kC1 (hq2.trans h0) _ hnl rfl kA kRA
      · intro W h
        exact fmFourball_yes A H c ch hs _ W (hr.keep hbl2 h) (fun x hx => Nat.lt_of_lt_of_le (hbl2 x hx) h.size) (hp.keep h) hE
      · intro W X x h hx
        have := kCP W X x h hx
        rwa [hg] at this
      · intro W X x h hx
        refine refFourball_any X H x ch hs _ W (fun W' h' p hpm B d he => ?_) (fun p hpm => (fit_of (show playerI hs p.nm p.l p.h = 0 from hps p hpm)).netsLen) hx (by simp) (by omega) (by omega)
        have hh := h.trans (h'.mono h.size)
        have hpp : playerI hs p.nm p.l p.h = 0 := hps p hpm
        refine (refNets_any H B ch d hs p.nm p.l p.h W' (hr.keep hbl2 hh) (fun x hx => Nat.lt_of_lt_of_le (hbl2 x hx) hh.size) he hpp (fun x hx => (hz x hx).2.2)).mono ?_
        rintro e w' ⟨v, rfl, ho, hb⟩
        obtain ⟨A', c', rfl, he'⟩ := ho.entries
        exact ⟨A', c', by rw [(fit_of hpp).netsLen], he', hb⟩
    · have hE : joinedE 4 hs (p0 :: p1 :: r) = playersGo hs [] (p0 :: p1 :: r) := by
        unfold joinedE
        rw [hside] at hq
        exact first_three_zero hq
      by_cases h0 : playersGo hs [] [p0, p1] = 0
      · obtain ⟨_, hnl, kA, kRA⟩ := good h0
        exact fba_Fp_ok H A ch c hs _ w hp hl h6 hf kCH _ hg (kFno _ hE hg) kCP hq h2 p0 p1 rfl rfl _ _ 0 kC0 kC1 (hq2.trans h0) _ hnl rfl kA kRA
      · exact fba_Fp_er H A ch c hs _ w hp hl h6 hf kCH _ hg (kFno _ hE hg) kCP hq h2 p0 p1 rfl rfl _ _ _ kC0 kC1 hq2 h0 (kAno _ rfl h0)
  · have hE : joinedE 4 hs (p0 :: p1 :: r) = firstI [holesI hs, unlessI (!decide (((p0 :: p1 :: r).length : Int) < 2) && !decide (4 < ((p0 :: p1 :: r).length : Int))) 2] := by
      unfold joinedE
      rw [hside] at hq ⊢
      exact first_three hq
    by_cases h0 : playersGo hs [] [p0, p1] = 0
    · obtain ⟨_, hnl, kA, kRA⟩ := good h0
      exact fba_Fq_ok H A ch c hs _ w hp hl h6 hf kCH _ hq (kFno _ hE hq) rfl h2 p0 p1 rfl rfl _ _ 0 kC0 kC1 (hq2.trans h0) _ hnl rfl kA kRA
    · exact fba_Fq_er H A ch c hs _ w hp hl h6 hf kCH _ hq (kFno _ hE hq) rfl h2 p0 p1 rfl rfl _ _ _ kC0 kC1 hq2 h0 (kAno _ rfl h0)
end Go.Proofs.YtkhhkicfeaeddaaGreatDoor
