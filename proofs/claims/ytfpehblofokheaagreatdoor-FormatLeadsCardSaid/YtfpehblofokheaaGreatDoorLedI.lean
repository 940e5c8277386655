/- FormatLeads: what all calls return, for any field and any lists. -/
import Derived.Test.YtfpehblofokheaaGreatDoorLedH
import Derived.Test.YtfpehblofokheaaGreatDoorMatO
import Derived.Test.YtfpehblofokheaaGreatDoorFrDN
set_option linter.unusedVariables false
set_option linter.unusedSimpArgs false
namespace Go.Proofs.YtfpehblofokheaaGreatDoor
open Go.RowKit

theorem shortsB_facts {ps : List Pl} (h : shortsB ps = true) : (ps.length ≤ 8 ∨ (200 < ps.length ∧ ps.length ≤ 203)) ∧ ∀ p ∈ ps, p.l.length ≤ 39 := by
  unfold shortsB at h
  simp only [Bool.and_eq_true, Bool.or_eq_true, decide_eq_true_eq, List.all_eq_true] at h
  refine ⟨h.1, fun p hp => ?_⟩
  have := h.2 p hp
  unfold shortB at this
  simp only [Bool.and_eq_true, decide_eq_true_eq] at this
  exact this.1.2
theorem fieldE_zero {hs : List (Int × Int)} {ps : List Pl} (h : fieldE hs ps = 0) : holesI hs = 0 ∧ ps.length ≤ 200 ∧ playersGo hs [] ps = 0 := by
  have h1 := firstI_zero _ h (holesI hs) (by simp)
  have h2 := firstI_zero _ h (unlessI (decide ((ps.length : Int) ≤ 200)) 5) (by simp)
  have h3 := firstI_zero _ h (playersGo hs [] ps) (by simp)
  refine ⟨h1, ?_, h3⟩
  by_cases g : (ps.length : Int) ≤ 200
  · omega
  · rw [decide_eq_false g] at h2; simp [unlessI] at h2

theorem leadK_any (H A : Option Addr) (ch c : Nat) (hs : List (Int × Int)) (ps : List Pl) (w : World) (hr : HolesR w H hs) (hbl : hs = [] ∨ ∀ x, H = some x → x.block < w.heap.size) (hp : PlayersR w A ps) (h39 : hs.length ≤ 39) (hsh : shortsB ps = true) :
    ∃ X Y z, LeadK w H A ch c hs ps X Y z := by
  obtain ⟨hpl, hll0⟩ := shortsB_facts hsh
  have hlh : hs.length ≤ 4611686018427387904 := by omega
  have hl1000 : ps.length ≤ 1000 := by omega
  have hll : ∀ p ∈ ps, p.l.length ≤ 4611686018427387904 := fun p hp => by have := hll0 p hp; omega
  have hW : ∀ W, Below w.heap.size w W → HolesR W H hs := fun W hW => by
    rcases hbl with hz | hbl
    · rw [hz]; exact fun j hj => absurd hj (Nat.not_lt_zero _)
    · exact hr.keep hbl hW
  have kCH : ∀ W, Below w.heap.size w W → Calls Tryz.prog 36 #[.slice H hs.length ch] W fun e w' => e = .returned (.int .i64 (holesI hs)) ∧ ∃ n, w' = W.drewN n := fun W h => refCheckHoles_any H ch hs W (hW W h)
  have hch : ∀ W, Below w.heap.size w W → Calls Tryz.prog 43 #[.slice H hs.length ch] W fun e w' => e = .returned (.int .i64 (holesI hs)) ∧ Below W.heap.size W w' := fun W h => by
    rcases hbl with hz | hbl
    · exact checkHoles_nil H ch hs W hz
    · exact checkHoles_any H ch hs W (hr.keep hbl h) (fun a ha => Nat.lt_of_lt_of_le (hbl a ha) h.size) hlh
  have hcp : ∀ W, Below w.heap.size w W → Calls Tryz.prog 45 #[.slice H hs.length ch, .slice A ps.length c] W fun e w' => e = .returned (.int .i64 (playersGo hs [] ps)) ∧ Below W.heap.size W w' := fun W h => by
    rcases hbl with hz | hbl
    · exact checkPlayers_nil A H c ch hs ps W hz (hp.keep h) (by omega) hll
    · exact checkPlayers_any A H c ch hs ps W (hr.keep hbl h) (fun a ha => Nat.lt_of_lt_of_le (hbl a ha) h.size) hlh (hp.keep h) (by omega) hll
  have kRP : ∀ W, Below w.heap.size w W → ∀ p ∈ ps, ∀ B d, EntriesR W B p.l → Calls Tryz.prog 82 #[.slice H hs.length ch, .agg #[.string p.nm, .slice B p.l.length d, .int .i64 p.h]] W fun e w' => e = .returned (.int .i64 (plI hs p)) ∧ Below W.heap.size W w' := fun W h p hpm B d he => by
    rcases hbl with hz | hbl
    · subst hz
      exact refPlayer_nil H B ch d p.nm p.l p.h W
    · exact refPlayer_any H B ch d hs p.nm p.l p.h W (hr.keep hbl h) (fun x hx => Nat.lt_of_lt_of_le (hbl x hx) h.size) hlh he (hll p hpm)
  have kCP : ∀ W X x, Below w.heap.size w W → PlayersR W X ps → Calls Tryz.prog 37 #[.slice H hs.length ch, .slice X ps.length x] W fun e w' => e = .returned (.int .i64 (playersGo hs [] ps)) ∧ Below W.heap.size W w' := fun W X x h hx =>
    refPlayers_any X H x ch hs ps W (fun W' h' p hpm B d he => kRP W' (h.trans (h'.mono h.size)) p hpm B d he) hx hl1000
  have kF : ∀ W, Below w.heap.size w W → Calls Tryz.prog 11 #[.agg #[.slice H hs.length ch, .slice A ps.length c]] W fun e w' => e = .returned (.int .i64 (fieldE hs ps)) ∧ Below W.heap.size W w' := fun W h =>
    fmField_any A H c ch hs ps W (fun X hX => hch X (h.trans (hX.mono h.size))) (fun X hX => hcp X (h.trans (hX.mono h.size)))
  have good : fieldE hs ps = 0 → (∀ x, H = some x → x.block < w.heap.size) ∧ 0 < hs.length ∧ hs.length ≤ 36 ∧ (∀ x ∈ hs, 1 ≤ x.2 ∧ x.2 ≤ hs.length) ∧ ps.length ≤ 19 ∧ ∀ p ∈ ps, plI hs p = 0 := fun hz => by
    obtain ⟨g1, g2, g3⟩ := fieldE_zero hz
    obtain ⟨q1, q2, q3, _⟩ := holesI_zero g1
    refine ⟨?_, q1, q2, fun x hx => ⟨(q3 x hx).2.2.1, (q3 x hx).2.2.2⟩, by omega, playersGo_zero hs ps [] g3⟩
    rcases hbl with e | e
    · subst e; simp at q1
    · exact e
  refine ⟨(clsL (ldP hs ps).length (ldP hs ps)).map (·.1), (clsL (ldP hs ps).length (ldP hs ps)).map (·.2), fieldE hs ps, kF, ?_, ?_, ?_, ?_, ?_, ?_⟩
  · exact fun W A' c' h hx => refField_any A' H c' ch hs ps W (fun X hX => kCH X (h.trans (hX.mono h.size))) (fun X hX _ => kCP X A' c' (h.trans (hX.mono h.size)) (hx.keep hX))
  · intro hz W h
    obtain ⟨g1, g2, g3, g4, g5, g6⟩ := good hz
    exact fmLeaders_yes A H c ch hs ps W (fun X hX => by have := kF X (h.trans (hX.mono h.size)); rwa [hz] at this)
      (fun X hX => leaders_any A H c ch hs ps X (hr.keep g1 (h.trans (hX.mono h.size))) (fun x hx => Nat.lt_of_lt_of_le (g1 x hx) (h.trans (hX.mono h.size)).size) (hp.keep (h.trans (hX.mono h.size))) g5 g6 g2 g3) g5
  · exact fun hz W h => fmLeaders_no A H c ch hs ps (fieldE hs ps) W (fun X hX => kF X (h.trans (hX.mono h.size))) hz
  · intro hz W A' c' h hx
    obtain ⟨g1, g2, g3, g4, g5, g6⟩ := good hz
    exact refLeaders_any A' H c' ch hs ps W (hr.keep g1 h) (fun x hx => Nat.lt_of_lt_of_le (g1 x hx) h.size) hx g5 g6 g2 g3 g4
  · have hle := ldIx_len hs ps ps.length
    rw [List.length_map, cls_whole, ldP_len]
    omega
  · have hle := ldIx_len hs ps ps.length
    rw [List.length_map, cls_whole, ldP_len]
    omega

theorem playK_any (L : Option Addr) (cl : Nat) (ls : List (List Int)) (w : World) (hls : ListsR w L ls) (hst : shortTB ls = true) : ∃ V n y, PlayK w L cl ls V n y := by
  unfold shortTB at hst
  simp only [Bool.and_eq_true, Bool.or_eq_true, decide_eq_true_eq] at hst
  have hll : ∀ y ∈ ls, y.length ≤ 4611686018427387904 := fun y hy => by have := shortL_len hst.2 y hy; omega
  have hl : ls.length ≤ 4611686018427387904 := by omega
  refine ⟨valF ls.length (playGo ls.length ls (ls.getD 0 []).length 0 (finL ls.length)).1, (((playGo ls.length ls (ls.getD 0 []).length 0 (finL ls.length)).2 : Nat) : Int), playE ls, ?_, ?_, ?_, ?_, ?_⟩
  · intro hz W h
    refine (fmPlayoff_yes L cl ls W (hls.keep h) hz).mono ?_
    rintro e w' ⟨A, c, rfl, hi, hb⟩
    exact ⟨A, c, by rw [valF_len], hi, hb⟩
  · exact fun hz W h => fmPlayoff_no L cl ls (playE ls) W (hls.keep h) hl hll rfl hz
  · exact fun W h => refCheckPlayoff_any L cl ls W (hls.keep h)
  · intro hz W h
    have hp := playE_zero hz
    have h2 := hp.least
    obtain ⟨a, B, c, rfl, _⟩ := hls 0 (by omega)
    refine (refPlayoff_any a cl (ls.getD 0 []).length ls W (hls.keep h) hp hp.most).mono ?_
    rintro e w' ⟨A, c2, rfl, hi, hb⟩
    rw [ref_play hz] at hi ⊢
    exact ⟨A, c2, by rw [valF_len], hi, hb⟩
  · rw [valF_len]
    have hlen : ∀ (k h : Nat) (L : List (Fin ls.length)), (playGo ls.length ls k h L).1.length ≤ L.length := fun k => by
      induction k with
      | zero => intro h L; exact Nat.le_refl _
      | succ k ih =>
        intro h L
        rw [playGo]
        split
        · exact Nat.le_trans (ih _ _) stepL_len
        · exact Nat.le_refl _
    have := hlen (ls.getD 0 []).length 0 (finL ls.length)
    rw [finL_len] at this
    omega

theorem formatLeads_any (H A L : Option Addr) (ch c cl : Nat) (hs : List (Int × Int)) (ps : List Pl) (ls : List (List Int)) (w : World) (hr : HolesR w H hs) (hbl : hs = [] ∨ ∀ x, H = some x → x.block < w.heap.size) (hp : PlayersR w A ps) (hls : ListsR w L ls) (hl : ps.length * 48 ≤ 140737488355328) :
    Calls Tryz.prog 3 #[.agg #[.slice H hs.length ch, .slice A ps.length c], .slice L ls.length cl] w fun e w' => e = .returned (.bool true) ∧ Below w.heap.size w w' :=
  leads_any H A L ch c cl hs ps ls w hp hls hl (fun h39 hsh => leadK_any H A ch c hs ps w hr hbl hp h39 hsh) (fun hst => playK_any L cl ls w hls hst)
end Go.Proofs.YtfpehblofokheaaGreatDoor
