/- TopLinksPartners: what all calls return, for any field. -/
import Derived.Test.YtbckfkopdojggaaGreatDoorMgV
import Derived.Test.YtbckfkopdojggaaGreatDoorMgW
import Derived.Test.YtbckfkopdojggaaGreatDoorParT
import Derived.Test.YtbckfkopdojggaaGreatDoorParU
import Derived.Test.YtbckfkopdojggaaGreatDoorMgX
import Derived.Test.YtbckfkopdojggaaGreatDoorNotV
import Derived.Test.YtbckfkopdojggaaGreatDoorMgEx
set_option linter.unusedVariables false
set_option linter.unusedSimpArgs false
namespace Go.Proofs.YtbckfkopdojggaaGreatDoor
open Go.RowKit

set_option maxRecDepth 100000 in
set_option maxHeartbeats 4000000 in
theorem partners_any (X A0 : Option Addr) (ch c0 : Nat) (hs : List (Int × Int)) (ps : List Pl) (mx : Int) (w : World) (hr : HolesR w X hs) (hbl : hs = [] ∨ ∀ a, X = some a → a.block < w.heap.size) (hp : PlayersR w A0 ps) (hl : ps.length * 48 ≤ 140737488355328)
    (hm : w.cell? ⟨0, 0, none⟩ = some (.int .i64 mx)) :
    Calls Tryz.prog 6 #[.agg #[.slice X hs.length ch, .slice A0 ps.length c0]] w fun e w' => e = .returned (.bool true) ∧ Below w.heap.size w w' := by
  have kL : ∀ W, Below w.heap.size w W → Calls Tryz.prog 20 #[] W fun e w' => e = .returned (.bool true) ∧ Below W.heap.size W w' := fun W h =>
    linksRound_any mx W ((h.cell (p := ⟨0, 0, none⟩) (World.block_lt_of_cell? _ _ hm)).trans hm)
  have kF : ∀ W, Below w.heap.size w W → Calls Tryz.prog 19 #[.agg #[.slice X hs.length ch, .slice A0 ps.length c0]] W fun e w' => e = .returned (.bool (fewQ hs ps)) ∧ Below W.heap.size W w' := fun W h => by
    refine linksP_few X A0 ch c0 hs ps W ?_ ?_ (hp.keep h) hl
    · rcases hbl with hz | hbl
      · rw [hz]; exact fun j hj => absurd hj (Nat.not_lt_zero _)
      · exact hr.keep hbl h
    · rcases hbl with hz | hbl
      · exact .inl hz
      · exact .inr fun a ha => Nat.lt_of_lt_of_le (hbl a ha) h.size
  cases hq : fewQ hs ps
  · exact partners_few X A0 ch c0 hs.length ps.length w false (.inl rfl) (fun W h => by have := kF W h; rwa [hq] at this) kL
  · rw [hq] at kF
    obtain ⟨h36, hsh, hfe⟩ := fewP_facts hq
    obtain ⟨hz, h200, hgo⟩ := fieldP_zero hfe
    obtain ⟨hpos, _, _, _⟩ := holesI_zero hz
    obtain ⟨h5, hll0⟩ := shortsP_facts hsh
    have h19 : ps.length ≤ 19 := by omega
    have hll : ∀ p ∈ ps, p.l.length ≤ 4611686018427387904 := fun p hp => by have := hll0 p hp; omega
    have hnz : ∀ p ∈ ps, plI hs p = 0 := playersGo_zero hs ps [] hgo
    clear hl hq hsh h5 hll0
    have hbl2 : ∀ x, X = some x → x.block < w.heap.size := by
      rcases hbl with e | e
      · subst e; simp at hpos
      · exact e
    have hkr : ∀ W, Below w.heap.size w W → HolesR W X hs := fun W h => hr.keep hbl2 h
    have hkb : ∀ W, Below w.heap.size w W → ∀ x, X = some x → x.block < W.heap.size := fun W h x hx => Nat.lt_of_lt_of_le (hbl2 x hx) h.size
    have hlh : hs.length ≤ 4611686018427387904 := by omega
    have kCF : ∀ W, Below w.heap.size w W → Calls Tryz.prog 13 #[.agg #[.slice X hs.length ch, .slice A0 ps.length c0]] W fun e w' => e = .returned (.int .i64 0) ∧ Below W.heap.size W w' := fun W h => by
      have := fmField_any A0 X c0 ch hs ps W (fun V hV => checkHoles_any X ch hs V (hkr V (h.trans (hV.mono h.size))) (hkb V (h.trans (hV.mono h.size))) hlh)
        (fun V hV => checkPlayers_any A0 X c0 ch hs ps V (hkr V (h.trans (hV.mono h.size))) (hkb V (h.trans (hV.mono h.size))) hlh (hp.keep (h.trans (hV.mono h.size))) (by omega) hll)
      rwa [hfe] at this
    have kLD : ∀ W, Below w.heap.size w W → Calls Tryz.prog 12 #[.agg #[.slice X hs.length ch, .slice A0 ps.length c0]] W (LeadsOut ((clsL (ldP hs ps).length (ldP hs ps)).map (·.1)) ((clsL (ldP hs ps).length (ldP hs ps)).map (·.2)) W) := fun W h =>
      fmLeaders_yes A0 X c0 ch hs ps W (fun V hV => kCF V (h.trans (hV.mono h.size)))
        (fun V hV => leaders_any A0 X c0 ch hs ps V (hkr V (h.trans (hV.mono h.size))) (hkb V (h.trans (hV.mono h.size))) (hp.keep (h.trans (hV.mono h.size))) h19 hnz hpos h36) h19
    have kSC : ∀ W (k : Nat) B d, Below w.heap.size w W → k < ps.length → isLd hs (ps.getD k plD) = true → EntriesR W B (ps.getD k plD).l → Calls Tryz.prog 24 #[.slice X hs.length ch, .agg #[.string (ps.getD k plD).nm, .slice B (ps.getD k plD).l.length d, .int .i64 (ps.getD k plD).h]] W fun e w' =>
        e = .returned (.tuple #[.int .i64 (sumS (netsOf hs (ps.getD k plD).h (ps.getD k plD).l)), .int .i64 0]) ∧ Below W.heap.size W w' := fun W k B d h hk hg he => by
      have hmem : ps.getD k plD ∈ ps := by simp [List.getD, List.getElem?_eq_getElem hk]
      have := fmScore_any X B ch d hs (ps.getD k plD).nm (ps.getD k plD).l (ps.getD k plD).h W (hkr W h) (hkb W h) hlh he (hll _ hmem)
      have e0 : scoreR hs (ps.getD k plD).nm (ps.getD k plD).l (ps.getD k plD).h = (sumS (netsOf hs (ps.getD k plD).h (ps.getD k plD).l), 0) := by
        unfold scoreR wholeR
        rw [if_pos (show playerI hs (ps.getD k plD).nm (ps.getD k plD).l (ps.getD k plD).h = 0 from hnz _ hmem), if_pos (show allCount (netsOf hs (ps.getD k plD).h (ps.getD k plD).l) = true from hg)]
      rwa [e0] at this
    obtain ⟨o1, o2, o3⟩ := order_facts hnz hpos h36 _ rfl
    have hPl : (clsL (ldP hs ps).length (ldP hs ps)).length ≤ 200 := by
      have hle := ldIx_len hs ps ps.length
      rw [cls_whole, ldP_len]
      omega
    clear kCF hfe h200
    rcases ps with _ | ⟨pa, _ | ⟨pb, _ | ⟨pc, rest⟩⟩⟩
    · exact partners_few X A0 ch c0 hs.length 0 w true (.inr ⟨rfl, by omega⟩) kF kL
    · exact partners_few X A0 ch c0 hs.length 1 w true (.inr ⟨rfl, by omega⟩) kF kL
    · exact partners_few X A0 ch c0 hs.length 2 w true (.inr ⟨rfl, by omega⟩) kF kL
    · have hAB := two_first hgo
      have za := hnz pa (by simp)
      have zb := hnz pb (by simp)
      have zc := hnz pc (by simp)
      have FA := fit_of za
      have FB := fit_of zb
      have FC := fit_of zc
      obtain ⟨a0, A, c, rfl, p0, p1, p2, p9, hA⟩ := hp 0 (by simp)
      obtain ⟨a1, B, d, e1, p3, p4, p5, _, hB⟩ := hp 1 (by simp)
      obtain ⟨a2, C, e, e2, p6, p7, p8, _, hC⟩ := hp 2 (by simp)
      injection e1 with e1
      subst e1
      injection e2 with e2
      subst e2
      rw [Nat.zero_mul, Addr.add_zero'] at p0 p1 p2 p9
      rw [show a0.add (1 * 3) = (⟨a0.block, a0.off + 3, none⟩ : Addr) from rfl] at p3 p4 p5
      rw [show a0.add (2 * 3) = (⟨a0.block, a0.off + 6, none⟩ : Addr) from rfl] at p6 p7 p8
      have ltw : (joinedL minM hs [pa, pb]).length = hs.length := joinedL_len _ _ _
      have lsm : (joinedL totalM hs [pa, pb]).length = hs.length := joinedL_len _ _ _
      have lot : (netsOf hs pc.h pc.l).length = hs.length := FC.netsLen
      have low : (netsOf hs pa.h pa.l).length = hs.length := FA.netsLen
      have z1 : netsI (joinedL minM hs [pa, pb]) = 0 := netsI_of (by rw [ltw]; exact hpos) (by rw [ltw]; exact h36) (best_in FA FB)
      have z2 : netsI (netsOf hs pa.h pa.l) = 0 := netsI_of (by rw [low]; exact hpos) (by rw [low]; exact h36) (nets_in FA)
      have z3 : netsI (netsOf hs pc.h pc.l) = 0 := netsI_of (by rw [lot]; exact hpos) (by rw [lot]; exact h36) (nets_in FC)
      have hJ : ∀ m : Int, sideI m 2 = 0 → joinedE m hs [pa, pb] = 0 := fun m hm => firstI_all _ fun x hx => by
        simp only [List.mem_cons, List.not_mem_nil, or_false] at hx
        rcases hx with rfl | rfl | rfl
        · exact hz
        · exact hm
        · exact hAB
      refine partners_start X a0 ch c0 hs.length (pa :: pb :: pc :: rest).length pa pb pc A B C c d e w (by simp) p9 ⟨p0, p1, p2, p3, p4, p5, p6, p7, p8⟩ kF ?_
      intros
      rename_i x y z W hX
      refine part4 x y z X a0 ch c0 hs.length (pa :: pb :: pc :: rest).length pa pb pc A B C c d e w W (joinedL minM hs [pa, pb]) (joinedL totalM hs [pa, pb]) (netsOf hs pa.h pa.l) (netsOf hs pc.h pc.l) ltw lsm low lot hX ?_ ?_ ?_ ?_ ?_
      · exact fun W g h hg => fmFourball_yes (some ⟨g, 0, none⟩) X 2 ch hs [pa, pb] W (hkr W h) (hkb W h) (PlayersR.two hg (hA.keep h) (hB.keep h)) (hJ 4 (by decide))
      · exact fun W h => fmAggregate_yes X A B ch c d hs pa pb W (hkr W h) (hkb W h) (hA.keep h) (hB.keep h) (hJ 2 (by decide))
      · exact fun W h => fmNets_yes X A ch c hs pa.nm pa.l pa.h W (hkr W h) (hkb W h) (hA.keep h) za
      · exact fun W h => fmNets_yes X C ch e hs pc.nm pc.l pc.h W (hkr W h) (hkb W h) (hC.keep h) zc
      · intros
        rename_i g6 g8 A10 c10 A12 c12 W hX h6 h8 h10 h12
        refine part8 x y z X a0 ch c0 hs.length (pa :: pb :: pc :: rest).length pa pb pc A B C c d e w W (joinedL minM hs [pa, pb]) (joinedL totalM hs [pa, pb]) (netsOf hs pa.h pa.l) (netsOf hs pc.h pc.l)
          (statesL (joinedL minM hs [pa, pb]) (netsOf hs pc.h pc.l)) (statesL (netsOf hs pa.h pa.l) (netsOf hs pc.h pc.l)) g6 g8 c10 c12 A10 A12 ltw hX h6 h8 h10 h12 (states_few (by rw [ltw]; exact h36)) (states_few (by rw [low]; exact h36)) (fun i h1 h2 => best_ups FA _ i h1 h2) ?_ ?_ ?_
        · intro W _ q1 q2
          have := fmSides_yes (some ⟨g6, 0, none⟩) A12 hs.length c12 _ _ W q1 q2 (sidesE_of z1 z3 (ltw.trans lot.symm))
          rwa [ltw, lot] at this
        · intro W _ q1 q2
          have := fmSides_yes A10 A12 c10 c12 _ _ W q1 q2 (sidesE_of z2 z3 (low.trans lot.symm))
          rwa [low, lot] at this
        · intros
          rename_i W hX h6 h8
          refine part20 x y z X a0 ch c0 hs.length (pa :: pb :: pc :: rest).length pa pb pc A B C c d e w W (joinedL minM hs [pa, pb]) (joinedL totalM hs [pa, pb]) g6 g8 ltw lsm h36 hX h6 h8 (best_bound FA FB) (both_least FA FB) ?_
          intros
          rename_i W hX
          exact part26 x y z X a0 ch c0 hs.length (pa :: pb :: pc :: rest).length pa pb pc A B C c d e w W (pa :: pb :: pc :: rest) _ (fun k => sumS (netsOf hs ((pa :: pb :: pc :: rest).getD k plD).h ((pa :: pb :: pc :: rest).getD k plD).l)) (fun k => isLd hs ((pa :: pb :: pc :: rest).getD k plD) = true)
            rfl hPl hX hp o1 o2 o3 kLD kSC kL
end Go.Proofs.YtbckfkopdojggaaGreatDoor
