/- TopLinksRaised: what all calls return, for any field and any number of rounds. -/
import Derived.Test.YtbckfkopdojggaaGreatDoorRaiB
import Derived.Test.YtbckfkopdojggaaGreatDoorLinA
import Derived.Test.YtbckfkopdojggaaGreatDoorMatO
import Derived.Test.YtbckfkopdojggaaGreatDoorMgE
set_option linter.unusedVariables false
set_option linter.unusedSimpArgs false
namespace Go.Proofs.YtbckfkopdojggaaGreatDoor
open Go.RowKit

theorem shortsQ_facts {ps : List Pl} (h : shortsQ ps = true) : (ps.length ≤ 5 ∨ (200 < ps.length ∧ ps.length ≤ 203)) ∧ ∀ p ∈ ps, p.l.length ≤ 39 := by
  unfold shortsQ at h
  simp only [Bool.and_eq_true, Bool.or_eq_true, decide_eq_true_eq, List.all_eq_true] at h
  refine ⟨h.1, fun p hp => ?_⟩
  have := h.2 p hp
  unfold shortB at this
  simp only [Bool.and_eq_true, decide_eq_true_eq] at this
  exact this.1.2
theorem fieldQ_zero {hs : List (Int × Int)} {ps : List Pl} (h : fieldE hs ps = 0) : holesI hs = 0 ∧ ps.length ≤ 200 ∧ playersGo hs [] ps = 0 := by
  have h1 := firstI_zero _ h (holesI hs) (by simp)
  have h2 := firstI_zero _ h (unlessI (decide ((ps.length : Int) ≤ 200)) 5) (by simp)
  have h3 := firstI_zero _ h (playersGo hs [] ps) (by simp)
  refine ⟨h1, ?_, h3⟩
  by_cases g : (ps.length : Int) ≤ 200
  · omega
  · rw [decide_eq_false g] at h2; simp [unlessI] at h2
theorem fewQ_facts {hs : List (Int × Int)} {ps : List Pl} (h : fewQ hs ps = true) : hs.length ≤ 36 ∧ shortsQ ps = true ∧ fieldE hs ps = 0 := by
  unfold fewQ at h
  simpa using h
theorem statesGo_lenQ : ∀ (u : Int) (o : Bool) (l : List Du), (statesGo u o l).length ≤ l.length
  | _, _, [] => Nat.le_refl _
  | u, o, x :: l => by
    have ih := statesGo_lenQ (u + resI x.2.1 x.2.2) (overI (u + resI x.2.1 x.2.2) x.1) l
    rw [statesGo]
    split
    · simp
    · simp only [List.length_cons]; omega
theorem given_small {h : Int} {n : Nat} (h1 : -99 ≤ h) (h2 : h ≤ 99) (hn : 0 < n) (hs : List (Int × Int)) : ∀ z ∈ givenL (h / (n : Int)) (h % (n : Int)) hs, -1000 ≤ z ∧ z ≤ 1000 := fun z hz => by
  unfold givenL at hz
  obtain ⟨x, _, rfl⟩ := List.mem_map.1 hz
  have a := Int.ediv_mul_le h (show (n : Int) ≠ 0 by omega)
  have b := Int.lt_ediv_add_one_mul_self h (show (0 : Int) < n by omega)
  have hq : -500 ≤ h / (n : Int) ∧ h / (n : Int) ≤ 500 := by
    constructor
    · by_cases g : h / (n : Int) + 1 ≤ -100
      · have := Int.mul_le_mul_of_nonneg_right g (show (0 : Int) ≤ n by omega)
        omega
      · omega
    · by_cases g : (100 : Int) ≤ h / (n : Int)
      · have := Int.mul_le_mul_of_nonneg_right g (show (0 : Int) ≤ n by omega)
        omega
      · omega
  show -1000 ≤ addI _ _ _ ∧ addI _ _ _ ≤ 1000
  unfold addI
  split <;> omega

/-- The reference's check of a field, where it is asked. -/
theorem linField_any (X A : Option Addr) (ch c : Nat) (hs : List (Int × Int)) (ps : List Pl) (w : World) (hr : HolesR w X hs) (hbl : hs = [] ∨ ∀ a, X = some a → a.block < w.heap.size) (hp : PlayersR w A ps) (h36 : hs.length ≤ 36) (hsh : shortsQ ps = true) :
    Calls Tryz.prog 11 #[.agg #[.slice X hs.length ch, .slice A ps.length c]] w fun e w' => e = .returned (.int .i64 (fieldE hs ps)) ∧ Below w.heap.size w w' := by
  obtain ⟨_, hll⟩ := shortsQ_facts hsh
  refine refField_any A X c ch hs ps w (fun W h => ?_) (fun W h h200 => ?_)
  · refine refCheckHoles_any X ch hs W ?_
    rcases hbl with hz | hbl
    · rw [hz]; exact fun j hj => absurd hj (Nat.not_lt_zero _)
    · exact hr.keep hbl h
  · refine refPlayers_any A X c ch hs ps W (fun V hV p hpm B d he => ?_) (hp.keep h) (by omega)
    rcases hbl with hz | hbl
    · subst hz
      exact refPlayer_nil X B ch d p.nm p.l p.h V
    · have hV2 : Below w.heap.size w V := h.trans (hV.mono h.size)
      exact refPlayer_any X B ch d hs p.nm p.l p.h V (hr.keep hbl hV2) (fun x hx => Nat.lt_of_lt_of_le (hbl x hx) hV2.size) (by omega) he (by have := hll p hpm; omega)

theorem links_few (X A : Option Addr) (ch c : Nat) (hs : List (Int × Int)) (ps : List Pl) (w : World) (hr : HolesR w X hs) (hbl : hs = [] ∨ ∀ a, X = some a → a.block < w.heap.size) (hp : PlayersR w A ps) (hl : ps.length * 48 ≤ 140737488355328) :
    Calls Tryz.prog 19 #[.agg #[.slice X hs.length ch, .slice A ps.length c]] w fun e w' => e = .returned (.bool (fewQ hs ps)) ∧ Below w.heap.size w w' :=
  linksFew_any X A ch c hs ps w hp hl fun h36 hsh W A' c' h hx => by
    refine linField_any X A' ch c' hs ps W ?_ ?_ hx h36 hsh
    · rcases hbl with hz | hbl
      · rw [hz]; exact fun j hj => absurd hj (Nat.not_lt_zero _)
      · exact hr.keep hbl h
    · rcases hbl with hz | hbl
      · exact .inl hz
      · exact .inr fun a ha => Nat.lt_of_lt_of_le (hbl a ha) h.size

set_option maxRecDepth 100000 in
theorem raised_any (X A0 : Option Addr) (ch c0 : Nat) (hs : List (Int × Int)) (ps : List Pl) (r mx : Int) (w : World) (hr : HolesR w X hs) (hbl : hs = [] ∨ ∀ a, X = some a → a.block < w.heap.size) (hp : PlayersR w A0 ps) (hl : ps.length * 48 ≤ 140737488355328) (h8 : -128 ≤ r ∧ r ≤ 127)
    (hm : w.cell? ⟨0, 0, none⟩ = some (.int .i64 mx)) :
    Calls Tryz.prog 5 #[.agg #[.slice X hs.length ch, .slice A0 ps.length c0], .int .i8 r] w fun e w' => e = .returned (.bool true) ∧ Below w.heap.size w w' := by
  have kL : ∀ W, Below w.heap.size w W → Calls Tryz.prog 20 #[] W fun e w' => e = .returned (.bool true) ∧ Below W.heap.size W w' := fun W h =>
    linksRound_any mx W ((h.cell (p := ⟨0, 0, none⟩) (cell_lt hm)).trans hm)
  have kF : ∀ W, Below w.heap.size w W → Calls Tryz.prog 19 #[.agg #[.slice X hs.length ch, .slice A0 ps.length c0]] W fun e w' => e = .returned (.bool (fewQ hs ps)) ∧ Below W.heap.size W w' := fun W h => by
    refine links_few X A0 ch c0 hs ps W ?_ ?_ (hp.keep h) hl
    · rcases hbl with hz | hbl
      · rw [hz]; exact fun j hj => absurd hj (Nat.not_lt_zero _)
      · exact hr.keep hbl h
    · rcases hbl with hz | hbl
      · exact .inl hz
      · exact .inr fun a ha => Nat.lt_of_lt_of_le (hbl a ha) h.size
  cases hq : fewQ hs ps
  · exact raised_few X A0 ch c0 hs.length ps.length r w false (.inl rfl) (fun W h => by have := kF W h; rwa [hq] at this) kL
  · rw [hq] at kF
    obtain ⟨h36, hsh, hfe⟩ := fewQ_facts hq
    obtain ⟨hz, h200, hgo⟩ := fieldQ_zero hfe
    obtain ⟨hpos, _, _, _⟩ := holesI_zero hz
    clear hl hq hfe h200 hsh
    rcases ps with _ | ⟨a, _ | ⟨b, rest⟩⟩
    · exact raised_few X A0 ch c0 hs.length 0 r w true (.inr ⟨rfl, by omega⟩) kF kL
    · exact raised_few X A0 ch c0 hs.length 1 r w true (.inr ⟨rfl, by omega⟩) kF kL
    · skip
      have hbl2 : ∀ x, X = some x → x.block < w.heap.size := by
        rcases hbl with e | e
        · subst e; simp at hpos
        · exact e
      have hAB := two_first hgo
      obtain ⟨pa, pb, hne⟩ := playersGo_two hAB
      have FA := fit_of pa
      have FB := fit_of pb
      obtain ⟨ea, ma⟩ := pl_marks pa
      obtain ⟨eb, mb⟩ := pl_marks pb
      obtain ⟨a0, A, c, rfl, p0, p1, p2, p9, hA⟩ := hp 0 (by simp)
      obtain ⟨a1, B, d, e1, p3, p4, p5, _, hB⟩ := hp 1 (by simp)
      injection e1 with e1
      subst e1
      rw [Nat.zero_mul, Addr.add_zero'] at p0 p1 p2 p9
      rw [show a0.add (1 * 3) = (⟨a0.block, a0.off + 3, none⟩ : Addr) from rfl] at p3 p4 p5
      have hkr : ∀ W, Below w.heap.size w W → HolesR W X hs := fun W h => hr.keep hbl2 h
      have hkb : ∀ W, Below w.heap.size w W → ∀ x, X = some x → x.block < W.heap.size := fun W h x hx => Nat.lt_of_lt_of_le (hbl2 x hx) h.size
      have hgz : ∀ k : Int, -99 ≤ k → k ≤ 99 → givenE hs k = 0 := fun k k1 k2 => firstI_all _ fun x hx => by
        simp only [List.mem_cons, List.not_mem_nil, or_false] at hx
        rcases hx with rfl | rfl
        · exact hz
        · unfold withinI; rw [if_pos ⟨k1, k2⟩]
      have hst : (statesL (netsOf hs a.h a.l) (netsOf hs b.h b.l)).length ≤ 36 := by
        have h1 := statesGo_lenQ 0 false (duels (netsOf hs a.h a.l) (netsOf hs b.h b.l) (netsOf hs a.h a.l).length)
        rw [duels_length, netsOf_size FA.len] at h1
        unfold statesL
        rw [netsOf_size FA.len]
        omega
      refine raised_main X a0 ch c0 hs.length (a :: b :: rest).length a b A B c d r (r * (hs.length : Int)) w (by simp) h8 h36 rfl ⟨FA.lo, FA.hi⟩ ⟨FB.lo, FB.hi⟩ p0 p1 p2 p9 p3 p4 p5 kF kL
        (givenL (a.h / (hs.length : Int)) (a.h % (hs.length : Int)) hs) (statesL (netsOf hs a.h a.l) (netsOf hs b.h b.l)) (givenL_len _ _ _) (given_small FA.lo FA.hi hpos hs) hst ?_ ?_ ?_ ?_ ?_ ?_ ?_
      · exact fun W h => fmGiven_yes X ch hs a.h W (hkr W h) (hkb W h) (hgz a.h FA.lo FA.hi)
      · intro k1 k2 W h
        have := fmGiven_yes X ch hs (a.h + r * (hs.length : Int)) W (hkr W h) (hkb W h) (hgz _ k1 k2)
        rwa [givenL_more hs.length hpos] at this
      · exact fun W h => match_yes X A B ch c d hs a b W (hkr W h) (hkb W h) (hA.keep h) (hB.keep h) hAB
      · rintro ⟨k1, k2, k3, k4⟩ W h
        have := match_yes X A B ch c d hs { a with h := a.h + r * (hs.length : Int) } { b with h := b.h + r * (hs.length : Int) } W (hkr W h) (hkb W h) (hA.keep h) (hB.keep h) (two_of (pl_more pa _ k1 k2) (pl_more pb _ k3 k4) hne)
        rw [match_more hpos a.h b.h r a.l b.l FA.len FB.len] at this
        exact this
      · exact fun W h => raised_up A c a.nm a.l a.h W (hA.keep h) (by rw [FA.len]; exact hpos) (by rw [FA.len]; omega) (fun e he => by have := FA.strokes e he; omega)
      · exact fun W h => raised_up B d b.nm b.l b.h W (hB.keep h) (by rw [FB.len]; exact hpos) (by rw [FB.len]; omega) (fun e he => by have := FB.strokes e he; omega)
      · intro W g1 c1 g2 c2 h q1 q2 r1 r2
        have := match_yes X (some ⟨g1, 0, none⟩) (some ⟨g2, 0, none⟩) ch c1 c2 hs { a with l := a.l.map upE } { b with l := b.l.map upE } W (hkr W h) (hkb W h) q1 q2 (two_of (pl_up pa r1) (pl_up pb r2) hne)
        rw [match_up a.h b.h a.l b.l FA.len FB.len ma mb] at this
        simp only [plV, List.length_map] at this
        exact this
end Go.Proofs.YtbckfkopdojggaaGreatDoor
