/- Merged: MatO LinA LinB. -/
import Derived.Test.YtbckfkopdojggaaGreatDoorSumS
import Derived.Test.YtbckfkopdojggaaGreatDoorMgF
import Derived.Outline
import Derived.Test.YtbckfkopdojggaaGreatDoorFbaS
import Derived.Test.YtbckfkopdojggaaGreatDoorFldS
import Derived.Test.YtbckfkopdojggaaGreatDoorMgPx
/- The checks of format where there are no holes: an empty slice's address may lie nowhere. -/
set_option linter.unusedVariables false
set_option linter.unusedSimpArgs false
namespace Go.Proofs.YtbckfkopdojggaaGreatDoor
open Go.RowKit

set_option maxRecDepth 100000 in
set_option maxHeartbeats 1000000 in
theorem checkHoles_nil (A : Option Addr) (c : Nat) (hs : List (Int × Int)) (w : World) (hz : hs = []) :
    Calls Tryz.prog 50 #[.slice A hs.length c] w fun e w' => e = .returned (.int .i64 (holesI hs)) ∧ Below w.heap.size w w' := by
  subst hz
  rw [show holesI [] = 12 from rfl]
  go_enter Tryz.func50, Tryz.ntmps50
  go_wp2_with fail
  refine (sizedHole_any _ ([] : List (Int × Int)).length _ _ _ (by simp)).mono ?_; rintro e w1 ⟨rfl, hb1⟩
  rw [show sizedI ([] : List (Int × Int)).length 36 = 12 from rfl]
  go_wp2
  go_ret
  exact ⟨rfl, hb1⟩

set_option maxRecDepth 100000 in
set_option maxHeartbeats 4000000 in
theorem checkCard_nil (A B : Option Addr) (c d : Nat) (hs : List (Int × Int)) (player : ByteArray) (l : List (Int × ByteArray)) (w : World) (hz : hs = [])
    (he : EntriesR w B l) (hl2 : l.length ≤ 4611686018427387904) :
    Calls Tryz.prog 163 #[.slice A hs.length c, .agg #[.string player, .slice B l.length d]] w fun e w' => e = .returned (.int .i64 (cardI hs player l)) ∧ Below w.heap.size w w' := by
  have HZ := Lib.hid hz
  have HE := Lib.hid he
  have HS0 := Lib.hid (fun o => below_drewN ((Below.refl w.heap.size w).alloc (Nat.le_refl _) o) 1)
  clear hz he
  go_enter Tryz.func163, Tryz.ntmps163
  go_wp2
  go_region_held3 (fun w' => w'.cell? ⟨w.heap.size, 0, none⟩ = some (.string player) ∧ w'.cell? ⟨w.heap.size, 1, none⟩ = some (.slice B l.length d) ∧ Hid (Below w.heap.size w w'))
    ((first | assumption | exact keep2 hb1 (by assumption) (Nat.le_refl _) | exact keep2_alloc _ (by assumption) (Nat.le_refl _) | exact ⟨by go_simp, by go_simp, HS0.out _⟩))
    (first
      | (go_at_call 192; refine (cardIsName_any _ _).mono ?_; rintro e w1 ⟨rfl, hb1⟩)
      | (go_at_call 50; refine (checkHoles_nil _ _ hs _ HZ.out).mono ?_; rintro e w1 ⟨rfl, hb1⟩)
      | (go_at_call 64; refine (checkEntries_any _ _ l _ hl2 (HE.out.keep (heldB (by assumption)))).mono ?_; rintro e w1 ⟨rfl, hb1⟩)
      | (go_at_call 193; refine (pairedEntryHole_any _ _ _ _ _ _ _).mono ?_; rintro e w1 ⟨rfl, rfl⟩)
      | (go_at_call 62; refine (first_any _ _ [_, _, _, _] _ (by simp) (Ints.four _ _ _ _ _ _ _ rfl)).mono ?_; rintro e w1 ⟨rfl, rfl⟩)
      | (go_at_call 105; refine (unless_any _ _ _).mono ?_; rintro e w1 ⟨rfl, rfl⟩))
  all_goals go_wp2
  all_goals go_ret
  all_goals exact ⟨rfl, by first | exact heldB (by assumption) | exact (heldB (by assumption)).alloc (heldB (B := w.heap.size) (w := w) (by assumption)).size _⟩

set_option maxRecDepth 100000 in
set_option maxHeartbeats 4000000 in
theorem fmCheckPlayer_nil (A B : Option Addr) (c d : Nat) (hs : List (Int × Int)) (nm : ByteArray) (l : List (Int × ByteArray)) (h : Int) (w : World) (hz : hs = [])
    (he : EntriesR w B l) (hl2 : l.length ≤ 4611686018427387904) :
    Calls Tryz.prog 106 #[.slice A hs.length c, .agg #[.string nm, .slice B l.length d, .int .i64 h]] w fun e w' => e = .returned (.int .i64 (playerI hs nm l h)) ∧ Below w.heap.size w w' := by
  have HZ := Lib.hid hz
  have HE := Lib.hid he
  have HS0 := Lib.hid (fun o => below_drewN ((Below.refl w.heap.size w).alloc (Nat.le_refl _) o) 1)
  clear hz he
  go_enter Tryz.func106, Tryz.ntmps106
  go_wp2
  go_region_held3 (fun w' => w'.cell? ⟨w.heap.size, 0, none⟩ = some (.string nm) ∧ w'.cell? ⟨w.heap.size, 1, none⟩ = some (.slice B l.length d) ∧ w'.cell? ⟨w.heap.size, 2, none⟩ = some (.int .i64 h) ∧ Hid (Below w.heap.size w w'))
    ((first | assumption | exact keep3 hb1 (by assumption) (Nat.le_refl _) | exact keep3_alloc _ (by assumption) (Nat.le_refl _) | exact ⟨by go_simp, by go_simp, by go_simp, HS0.out _⟩))
    (first
      | (go_at_call 50; refine (checkHoles_nil _ _ hs _ HZ.out).mono ?_; rintro e w1 ⟨rfl, hb1⟩)
      | (go_at_call 163; refine (checkCard_nil _ _ _ _ hs _ l _ HZ.out (HE.out.keep (heldC (by assumption))) hl2).mono ?_; rintro e w1 ⟨rfl, hb1⟩)
      | (go_at_call 75; refine (fmCheckHandicap_any _ _).mono ?_; rintro e w1 ⟨rfl, rfl⟩)
      | (go_at_call 49; refine (fmFirst_any _ _ [_, _, _] _ (by simp) (Ints.three _ _ _ _ _ _ rfl)).mono ?_; rintro e w1 ⟨rfl, rfl⟩))
  all_goals go_wp2
  all_goals go_ret
  all_goals exact ⟨rfl, by first | exact heldC (by assumption) | exact (heldC (by assumption)).alloc (heldC (B := w.heap.size) (w := w) (by assumption)).size _⟩

set_option maxRecDepth 100000 in
set_option maxHeartbeats 4000000 in
theorem checkPlayers_nil (A H : Option Addr) (c ch : Nat) (hs : List (Int × Int)) (ps : List Pl) (w : World) (hz : hs = [])
    (hp : PlayersR w A ps) (hl1 : ps.length ≤ 4611686018427387904) (hl2 : ∀ p ∈ ps, p.l.length ≤ 4611686018427387904) :
    Calls Tryz.prog 52 #[.slice H hs.length ch, .slice A ps.length c] w fun e w' => e = .returned (.int .i64 (playersGo hs [] ps)) ∧ Below w.heap.size w w' := by
  have HP := Lib.hid hp
  have HL2 := Lib.hid hl2
  have HCP := Lib.hid (fun W (hb : Below w.heap.size w W) B d nm l h (he : EntriesR W B l) hl2 => fmCheckPlayer_nil H B ch d hs nm l h W hz he hl2)
  have hmm := @run_makeMap Tryz.prog
  clear hz hp hl2
  go_enter Tryz.func52, Tryz.ntmps52
  go_wp2
  go_loopw [13] (fun i w' => ∃ k : Nat, k ≤ ps.length ∧ i = .int .i64 k ∧ w'.heap[w.heap.size]? = some (.map (setTx 0 ((ps.take k).map (·.nm))).toArray k) ∧ Below w.heap.size w w' ∧ playersGo hs ((ps.take k).map (·.nm)) (ps.drop k) = playersGo hs [] ps) (fun i _ => ps.length - (intOf i).toNat)
  case atStart => exact ⟨0, Nat.zero_le _, rfl, (MapKept.heap_alloc w _).1, (Below.refl _ _).alloc (Nat.le_refl _) _, rfl⟩
  case round =>
    obtain ⟨k, hk, rfl, hm, hb, hd⟩ := hrel
    have HM := Lib.hid hm
    have HB := Lib.hid hb
    have HD := Lib.hid hd
    clear hm hb hd
    by_cases hlt : k < ps.length
    · have HDR := Lib.hid (playersGo_drop hs ps k hlt)
      have HTK : Hid ((ps.take (k + 1)).map (·.nm) = (ps.take k).map (·.nm) ++ [(ps.getD k plD).nm]) := Lib.hid (by
        rw [List.take_succ_eq_append_getElem hlt, List.map_append]; simp [List.getD, List.getElem?_eq_getElem hlt])
      have HLK : Hid (((ps.take k).map (·.nm)).length = k) := Lib.hid (by simp; omega)
      have HPL : Hid ((ps.getD k plD).l.length ≤ 4611686018427387904) := Lib.hid (by
        have := HL2.out _ (List.getElem_mem hlt); simpa [List.getD, List.getElem?_eq_getElem hlt] using this)
      obtain ⟨a, B, d, rfl, p0, p1, p2, p3, p4⟩ := HP.out k hlt
      have q0 := (HB.out.cell p3).trans p0
      have q1 := (HB.out.cell (p := ⟨_, _, none⟩) p3).trans p1
      have q2 := (HB.out.cell (p := ⟨_, _, none⟩) p3).trans p2
      have HE := Lib.hid p4
      clear p0 p1 p2 p3 p4
      generalize ps.getD k plD = p at q0 q1 q2 HE HPL HTK HDR
      generalize (ps.take k).map (·.nm) = S at HM HD HTK HDR HLK
      have HQ := Lib.hid (HDR.out S)
      have HS0 : Hid (HeldP wr.heap.size w.heap.size k S p B d w (wr.alloc (.cells #[.string p.nm, .slice B p.l.length d, .int .i64 p.h] 55)).drew) :=
        Lib.hid ⟨(BlkV.new wr _ _).drew, ((Below.heap_alloc wr _ _ (Array.getElem?_eq_some_iff.1 HM.out).1).trans HM.out), (HB.out.alloc HB.out.size _).drew⟩
      have HEE := Lib.hid (fun W (hb : Below w.heap.size w W) => HE.out.keep hb)
      by_cases he : firstI [playerI hs p.nm p.l p.h, unlessI (!decide (p.nm ∈ S)) 9] = 0
      · have hz : (firstI [playerI hs p.nm p.l p.h, unlessI (!decide (p.nm ∈ S)) 9] != 0) = false := by rw [he]; rfl
        have HNI : Hid (p.nm ∉ S) := Lib.hid (fun hm => by
          have := firstI_zero _ he (unlessI (!decide (p.nm ∈ S)) 9) (by simp)
          rw [decide_eq_true hm] at this
          simp [unlessI] at this)
        have HZ : Hid (firstI [plI hs p, unlessI (!decide (p.nm ∈ S)) 9] = 0) := Lib.hid he
        clear he
        go_wp2
        go_region_held3 (fun W => W.cell? ⟨wr.heap.size, 0, none⟩ = some (.string p.nm) ∧ W.cell? ⟨wr.heap.size, 1, none⟩ = some (.slice B p.l.length d) ∧ W.cell? ⟨wr.heap.size, 2, none⟩ = some (.int .i64 p.h) ∧
          (Instr.lookup 174 (.map (some w.heap.size)) (.string p.nm) false).run Tryz.prog W = .ok (.bool (decide (p.nm ∈ S))) W ∧ (Instr.mapUpdate 174 (.map (some w.heap.size)) (.string p.nm) (.bool true)).run Tryz.prog W = .ok () (putObj W w.heap.size (.map (setTx 0 (S ++ [p.nm])).toArray (k + 1))) ∧ Hid (HeldP wr.heap.size w.heap.size k S p B d w W))
          ((first | with_reducible assumption | exact (HeldP.below (heldP6 (by with_reducible assumption)) hb1).s5 HNI HLK | exact (HeldP.below (heldP6 (by with_reducible assumption)) ((Below.refl _ _).alloc (Nat.le_refl _) _)).s5 HNI HLK | exact (HeldP.below HS0.out ((Below.refl _ _).alloc (Nat.le_refl _) _)).s5 HNI HLK | exact HS0.out.s5 HNI HLK))
          (first
            | (go_at_call 106; (refine (HCP.out _ (heldP6 (by assumption)).2.2 _ _ _ _ _ (HEE.out _ (heldP6 (by assumption)).2.2) HPL.out).mono ?_); rintro e w1 ⟨rfl, hb1⟩)
            | (go_at_call 51; (with_reducible refine (fmUnless_any _ _ _).mono ?_); rintro e w1 ⟨rfl, rfl⟩)
            | (go_at_call 49; refine (fmFirst_any _ _ [_, _] _ (by simp) (Ints.two _ _ _ _ _ rfl)).mono ?_; rintro e w1 ⟨rfl, rfl⟩))
        all_goals
          go_split_ands
          go_wp2
          go_roundw
          case rel =>
            refine ⟨k + 1, by omega, by go_num, ?_, ?_, ?_⟩
            · rw [HTK.out]; exact putObj_at (HeldP.below (by first | exact Hid.out (by assumption) | exact HS0.out) (Below.refl _ _)).2.1
            · exact (Hid.out (by assumption) : HeldP _ _ _ _ _ _ _ _ _).2.2.trans (putObj_below _ _ _ _ (Nat.le_refl _))
            · rw [HTK.out, ← HD.out, HQ.out, if_pos HZ.out]
          case measure => simp [intOf]; omega
      · have hz : (firstI [playerI hs p.nm p.l p.h, unlessI (!decide (p.nm ∈ S)) 9] != 0) = true := by simpa using he
        have HZ : Hid (¬ firstI [plI hs p, unlessI (!decide (p.nm ∈ S)) 9] = 0) := Lib.hid he
        clear he
        go_wp2
        go_region_held3 (fun W => W.cell? ⟨wr.heap.size, 0, none⟩ = some (.string p.nm) ∧ W.cell? ⟨wr.heap.size, 1, none⟩ = some (.slice B p.l.length d) ∧ W.cell? ⟨wr.heap.size, 2, none⟩ = some (.int .i64 p.h) ∧
          (Instr.lookup 174 (.map (some w.heap.size)) (.string p.nm) false).run Tryz.prog W = .ok (.bool (decide (p.nm ∈ S))) W ∧ Hid (HeldP wr.heap.size w.heap.size k S p B d w W))
          ((first | with_reducible assumption | exact (HeldP.below (heldP5 (by with_reducible assumption)) hb1).s4 | exact (HeldP.below (heldP5 (by with_reducible assumption)) ((Below.refl _ _).alloc (Nat.le_refl _) _)).s4 | exact (HeldP.below HS0.out ((Below.refl _ _).alloc (Nat.le_refl _) _)).s4 | exact HS0.out.s4))
          (first
            | (go_at_call 106; (refine (HCP.out _ (heldP5 (by assumption)).2.2 _ _ _ _ _ (HEE.out _ (heldP5 (by assumption)).2.2) HPL.out).mono ?_); rintro e w1 ⟨rfl, hb1⟩)
            | (go_at_call 51; (with_reducible refine (fmUnless_any _ _ _).mono ?_); rintro e w1 ⟨rfl, rfl⟩)
            | (go_at_call 49; refine (fmFirst_any _ _ [_, _] _ (by simp) (Ints.two _ _ _ _ _ rfl)).mono ?_; rintro e w1 ⟨rfl, rfl⟩))
        all_goals
          go_wp2
          go_ret
          exact ⟨by rw [← HD.out, HQ.out, if_neg HZ.out]; rfl, (heldP5 (by assumption)).2.2⟩
    · have hfin : playersGo hs [] ps = 0 := by rw [← HD.out, List.drop_eq_nil_of_le (by omega)]; rfl
      have HF := Lib.hid hfin
      clear hfin
      go_wp2
      go_ret
      exact ⟨by rw [HF.out]; rfl, HB.out⟩

set_option maxRecDepth 100000 in
set_option maxHeartbeats 4000000 in
theorem refCard_nil (A B : Option Addr) (c d : Nat) (nm : ByteArray) (l : List (Int × ByteArray)) (w : World) :
    Calls Tryz.prog 157 #[.slice A ([] : List (Int × Int)).length c, .agg #[.string nm, .slice B l.length d]] w fun e w' => e = .returned (.int .i64 12) ∧ Below w.heap.size w w' := by
  go_enter Tryz.func157, Tryz.ntmps157
  go_wp2_with fail
  refine (refCheckHoles_any A c [] _ (fun j hj => absurd hj (Nat.not_lt_zero _))).mono ?_
  rintro e w1 ⟨rfl, n1, rfl⟩
  rw [show holesI [] = 12 from rfl]
  go_wp2
  go_ret
  exact ⟨rfl, below_drewN ((Below.refl _ _).alloc (Nat.le_refl _) _) _⟩

set_option maxRecDepth 100000 in
set_option maxHeartbeats 4000000 in
theorem refPlayer_nil (A B : Option Addr) (c d : Nat) (nm : ByteArray) (l : List (Int × ByteArray)) (h : Int) (w : World) :
    Calls Tryz.prog 96 #[.slice A ([] : List (Int × Int)).length c, .agg #[.string nm, .slice B l.length d, .int .i64 h]] w fun e w' => e = .returned (.int .i64 12) ∧ Below w.heap.size w w' := by
  go_enter Tryz.func96, Tryz.ntmps96
  go_wp2_with fail
  refine (refCard_nil A B c d nm l _).mono ?_
  rintro e w1 ⟨rfl, hb1⟩
  have HB := Lib.hid (((Below.refl w.heap.size w).alloc (Nat.le_refl _) (.cells #[.string nm, .slice B l.length d, .int .i64 h] 84)).trans (hb1.mono (by simp)))
  clear hb1
  go_wp2
  go_ret
  exact ⟨rfl, HB.out⟩

end Go.Proofs.YtbckfkopdojggaaGreatDoor

/- The whole's laws of chapter 5: whether a field is valid, with up to five players. -/
namespace Go.Proofs.YtbckfkopdojggaaGreatDoor
open Go.RowKit

theorem append_genW (base : Nat) (T TE : TypeId) (z : Value) (size bytes : Nat) (hT : Tryz.prog.underlying T = some (.slice TE)) (hI : (Tryz.prog.info? TE).map (fun i => (i.zero, i.size, i.bytes)) = some (some z, size, bytes)) (hz : z.cells.size = size) (hsz : 0 < size)
    (cs : List Value) (hcs : cs.length = size) (h1 : ∀ u ∈ cs, u.oneCell' = true) (w : World) (v : Value) (n : Nat) (xs : List Value) (hb : base ≤ w.heap.size) (hl : n + 1 ≤ maxLen) (hbb : (n + 1) * bytes ≤ 140737488355328) (hown : w.ownsRow base TE size v n xs) :
    ∃ v' w', (Builtin.append_ #[T, T] T #[v, .slice (some ⟨w.heap.size, 0, none⟩) 1 1]).run Tryz.prog (w.alloc (.cells cs.toArray TE)) = .ok v' w' ∧
      w'.ownsRow base TE size v' (n + 1) (xs ++ cs) ∧ Below base w w' := by
  obtain ⟨i0, hi, hz0, hz1, hz2⟩ := info_parts hI
  have hd := owns_alloc hown (.cells cs.toArray TE)
  have hrow := heap_alloc_new w (.cells cs.toArray TE)
  obtain ⟨v', w', hrun, h2, h3, _, _⟩ := run_append_own_at (P := Tryz.prog) (w.alloc (.cells cs.toArray TE)) base T T TE i0 z size bytes hT hi hz0 hz1 hz2 hz hsz v n xs hd ⟨w.heap.size, 0, none⟩ 1 1 cs (by omega)
    (fun j u hu => by rw [add_zero_at, cell_of_row _ _ j _ _ _ hrow]; rw [← hu]; simp)
    h1 hl hbb (by simp; omega)
  refine ⟨v', w', hrun, h2, ?_⟩
  refine ((Below.refl base w).alloc hb _).grown h3 (by simp; omega) (fun k e => ?_)
  rcases hown.2 with ⟨rfl, _⟩ | ⟨g, cap, cur, rfl, hg, _⟩
  · simp [Value.ownBlock] at e
  · simp [Value.ownBlock] at e; omega
theorem append_plW (w0 : World) (base : Nat) (y : Pl) (B : Option Addr) (d : Nat) (w : World) (v : Value) (tk : List Pl) (hb : base ≤ w.heap.size) (hl : (tk.length + 1) * 48 ≤ 140737488355328) (hown : PlOwn w0 w base v tk) (he : EntriesR w0 B y.l) :
    ∃ v' w', (Builtin.append_ #[27, 27] 27 #[v, .slice (some ⟨w.heap.size, 0, none⟩) 1 1]).run Tryz.prog (w.alloc (.cells #[.string y.nm, .slice B y.l.length d, .int .i64 y.h] 84)) = .ok v' w' ∧
      PlOwn w0 w' base v' (tk ++ [y]) ∧ Below base w w' := by
  obtain ⟨vs, ho, hv⟩ := hown
  obtain ⟨v', w', h1, h2, h3⟩ := append_genW base 27 84 (.agg #[.string ⟨#[]⟩, .slice none 0 0, .int .i64 0]) 3 48 Tryz.underlying27 info_rpl rfl (by decide) [.string y.nm, .slice B y.l.length d, .int .i64 y.h] rfl (by simp [Value.oneCell']) w v tk.length _ hb (by unfold maxLen; omega) hl ho
  refine ⟨v', w', h1, ⟨_, by rw [List.length_append]; exact h2, fun j hj => ?_⟩, h3⟩
  have hvl : vs.length = tk.length * 3 := ho.1
  by_cases hjt : j < tk.length
  · obtain ⟨B', d', p0, p1, p2, he'⟩ := hv j hjt
    have e : (tk ++ [y]).getD j plD = tk.getD j plD := by simp [List.getD, List.getElem?_append_left hjt]
    rw [e]
    exact ⟨B', d', by rw [List.getElem?_append_left (by omega)]; exact p0, by rw [List.getElem?_append_left (by omega)]; exact p1, by rw [List.getElem?_append_left (by omega)]; exact p2, he'⟩
  · have hj' : j = tk.length := by simp at hj; omega
    subst hj'
    have e : (tk ++ [y]).getD tk.length plD = y := by simp [List.getD]
    rw [e]
    refine ⟨B, d, ?_, ?_, ?_, he⟩
    · rw [List.getElem?_append_right (by omega)]; simp [hvl]
    · rw [List.getElem?_append_right (by omega)]; simp [hvl]
    · rw [List.getElem?_append_right (by omega)]; simp [hvl]

/-- Whether a field is valid, with up to five players. -/
def fewQ (hs : List (Int × Int)) (ps : List Pl) : Bool := decide (hs.length ≤ 36) && (shortsQ ps && decide (fieldE hs ps = 0))
set_option maxRecDepth 100000 in
set_option maxHeartbeats 2000000 in
theorem refFew_any (A H : Option Addr) (c ch : Nat) (hs : List (Int × Int)) (ps : List Pl) (w : World) (hp : PlayersR w A ps)
    (kF : hs.length ≤ 36 → shortsQ ps = true → ∀ W, Below w.heap.size w W → Calls Tryz.prog 11 #[.agg #[.slice H hs.length ch, .slice A ps.length c]] W fun e w' => e = .returned (.int .i64 (fieldE hs ps)) ∧ Below W.heap.size W w') :
    Calls Tryz.prog 61 #[.agg #[.slice H hs.length ch, .slice A ps.length c], .int .i64 5] w fun e w' => e = .returned (.bool (fewQ hs ps)) ∧ Below w.heap.size w w' := by
  have HKF := Lib.hid kF
  have HSH := Lib.hid (fun W (h : Below w.heap.size w W) => refShortsQ_any A c ps W (hp.keep h))
  clear hp kF
  by_cases h1 : hs.length ≤ 36
  · have h1i : decide ((hs.length : Int) ≤ 36) = true := decide_eq_true (by omega)
    cases h2 : shortsQ ps
    · have HV : Hid (fewQ hs ps = false) := Lib.hid (by unfold fewQ; rw [h2]; simp)
      rw [h2] at HSH
      go_enter Tryz.func61, Tryz.ntmps61
      go_wp2_with fail
      refine (HSH.out _ ((Below.refl _ _).alloc (Nat.le_refl _) _)).mono ?_
      rintro e w1 ⟨rfl, hb1⟩
      have HB1 := Lib.hid (((Below.refl w.heap.size w).alloc (Nat.le_refl _) _).trans (hb1.mono (by simp)))
      clear hb1
      go_wp2
      go_ret
      exact ⟨by rw [HV.out]; rfl, HB1.out⟩
    · replace HKF := Lib.hid (HKF.out h1 h2)
      have HV : Hid (fewQ hs ps = decide (fieldE hs ps = 0)) := Lib.hid (by unfold fewQ; rw [h2, decide_eq_true h1]; simp)
      rw [h2] at HSH
      go_enter Tryz.func61, Tryz.ntmps61
      go_wp2_with fail
      generalize hW0 : w.alloc (.cells #[.slice H hs.length ch, .slice A ps.length c] 30) = W0
      obtain ⟨a1, a2, a3⟩ := one_alloc w _ _ hW0
      have HBX := Lib.hid a1
      have HB0 := Lib.hid a2
      clear hW0 a1 a2 a3
      refine (HSH.out W0 HB0.out).mono ?_
      rintro e w1 ⟨rfl, hb1⟩
      have HB1 := Lib.hid (HB0.out.trans (hb1.mono HB0.out.size))
      have hbx := HBX.out.below hb1 HBX.out.lt
      have x0 := hbx.cell 0
      have x1 := hbx.cell 1
      simp only [List.getElem?_toArray, List.getElem?_cons_zero, List.getElem?_cons_succ] at x0 x1
      clear hbx hb1
      go_wp2_with fail
      refine (HKF.out _ HB1.out).mono ?_
      rintro e w2 ⟨rfl, hb2⟩
      have HB2 := Lib.hid (HB1.out.trans (hb2.mono HB1.out.size))
      clear hb2
      generalize fieldE hs ps = z at HV
      have hzb : (z == 0) = decide (z = 0) := by
        by_cases g : z = 0
        · rw [decide_eq_true g, g]; rfl
        · rw [decide_eq_false g]; exact beq_eq_false_iff_ne.2 g
      go_wp2
      go_ret
      exact ⟨by rw [HV.out]; rfl, HB2.out⟩
  · have h1i : decide ((hs.length : Int) ≤ 36) = false := decide_eq_false (by omega)
    have HV : Hid (fewQ hs ps = false) := Lib.hid (by unfold fewQ; rw [decide_eq_false h1]; simp)
    go_enter Tryz.func61, Tryz.ntmps61
    go_wp2
    go_ret
    exact ⟨by rw [HV.out]; rfl, (Below.refl _ _).alloc (Nat.le_refl _) _⟩

set_option maxRecDepth 100000 in
set_option maxHeartbeats 4000000 in
theorem linksFew_any (X A : Option Addr) (ch c : Nat) (hs : List (Int × Int)) (ps : List Pl) (w : World) (hp : PlayersR w A ps) (hl : ps.length * 48 ≤ 140737488355328)
    (kF : hs.length ≤ 36 → shortsQ ps = true → ∀ W A' c', Below w.heap.size w W → PlayersR W A' ps → Calls Tryz.prog 11 #[.agg #[.slice X hs.length ch, .slice A' ps.length c']] W fun e w' => e = .returned (.int .i64 (fieldE hs ps)) ∧ Below W.heap.size W w') :
    Calls Tryz.prog 19 #[.agg #[.slice X hs.length ch, .slice A ps.length c]] w fun e w' => e = .returned (.bool (fewQ hs ps)) ∧ Below w.heap.size w w' := by
  have HP := Lib.hid hp
  have HKF := Lib.hid kF
  have HLL := Lib.hid hl
  clear hp kF
  go_enter Tryz.func19, Tryz.ntmps19
  go_wp2
  go_loopw [12] (fun kv w' => ∃ (k : Nat) (v : Value), k ≤ ps.length ∧ kv = .int .i64 k ∧ BlkV w' (w.heap.size + 1) 30 #[.slice X hs.length ch, v] ∧ PlOwn w w' (w.heap.size + 2) v (ps.take k) ∧ Below w.heap.size w w' ∧ w.heap.size + 2 ≤ w'.heap.size) (fun kv _ => ps.length - (intOf kv).toNat)
  case atStart =>
    obtain ⟨b1, b2, b3, b4⟩ := two_allocs w 25 30 #[.slice X hs.length ch, .slice A ps.length c] #[.slice X hs.length ch, .slice none 0 0] rfl
    exact ⟨0, .slice none 0 0, Nat.zero_le _, rfl, b2, PlOwn.nil _ _ _, b3, by rw [b4]; omega⟩
  case round =>
    obtain ⟨k, v, hk, rfl, hbx, hown, hb, hsz⟩ := hrel
    have HOWN := Lib.hid hown
    have HB := Lib.hid hb
    have HBX := Lib.hid hbx
    clear hown hb
    have hk0 : (0 : Int) ≤ (k : Int) := Int.natCast_nonneg _
    by_cases hlt : k < ps.length
    · have hk1 : (k : Int) < (ps.length : Int) := by omega
      obtain ⟨a, B, d, rfl, _, _, _, _, he⟩ := HP.out k hlt
      obtain ⟨a', B', d', ea, d0, d1, d2, _, _⟩ := (HP.out.keep HB.out) k hlt
      injection ea with ea
      subst ea
      obtain ⟨_, B2, d3, eb, f0, f1, f2, _, he2⟩ := HP.out k hlt
      injection eb with eb
      subst eb
      have hbd : Value.slice B' (ps.getD k plD).l.length d' = Value.slice B2 (ps.getD k plD).l.length d3 := by
        have g := (HB.out.cell (p := ⟨(a.add (k * 3)).block, (a.add (k * 3)).off + 1, none⟩) (World.block_lt_of_cell? _ _ f1)).trans f1
        rw [d1] at g
        injection g
      injection hbd with h1 _ h3
      subst h1; subst h3
      clear he f0 f1 f2
      have HTK : Hid (ps.take (k + 1) = ps.take k ++ [ps.getD k plD]) := Lib.hid (by
        rw [List.take_succ_eq_append_getElem hlt]; simp [List.getD, List.getElem?_eq_getElem hlt])
      have HLEN : Hid (((ps.take k).length + 1) * 48 ≤ 140737488355328) := Lib.hid (by have := HLL.out; rw [List.length_take]; omega)
      generalize ps.getD k plD = y at d0 d1 d2 he2 HTK
      obtain ⟨nm, l, h⟩ := y
      simp only at d0 d1 d2 he2 HTK
      have ha := (Below.refl wr.heap.size wr).alloc (Nat.le_refl _) (.cells #[.string nm, .slice B' l.length d', .int .i64 h] 55)
      have hen := BlkV.new wr 55 #[.string nm, .slice B' l.length d', .int .i64 h]
      have HAPP := Lib.hid (append_plW w (w.heap.size + 2) ⟨nm, l, h⟩ B' d' _ v _ (by have := ha.size; omega) HLEN.out (HOWN.out.below ha) he2)
      have HBA := Lib.hid (HB.out.trans (ha.mono HB.out.size))
      rw [show (wr.alloc (.cells #[.string nm, .slice B' l.length d', .int .i64 h] 55)).heap.size = wr.heap.size + 1 by simp] at HAPP
      clear ha
      generalize ps.take k = tk at HTK HAPP HOWN
      have e0 := hen.cell 0
      have e1 := hen.cell 1
      have e2 := hen.cell 2
      simp only [List.getElem?_toArray, List.getElem?_cons_zero, List.getElem?_cons_succ] at e0 e1 e2
      have y1 := (hbx.alloc (.cells #[.string nm, .slice B' l.length d', .int .i64 h] 55)).cell 1
      simp only [List.getElem?_toArray, List.getElem?_cons_zero, List.getElem?_cons_succ] at y1
      clear hen he2
      obtain ⟨v0, w4, hrun, ho, hb4⟩ := HAPP.out
      obtain ⟨A9, c9, hv9⟩ := ho.slice
      simp only at hrun
      generalize (tk ++ [(⟨nm, l, h⟩ : Pl)]).length = n9 at hv9
      subst hv9
      have hbx4 := (hbx.alloc (.cells #[.string nm, .slice B' l.length d', .int .i64 h] 55)).below hb4 (by omega)
      have y2 := hbx4.frozen 1
      have y3 := hbx4.cell 1
      simp only [List.getElem?_toArray, List.getElem?_cons_zero, List.getElem?_cons_succ] at y3
      have HBX4 := Lib.hid hbx4
      have HRUN := Lib.hid hrun
      have HO := Lib.hid ho
      have HB4 := Lib.hid (HBA.out.trans (hb4.mono (by omega)))
      have HS4 := Lib.hid hb4.size
      clear hrun ho hb4 HAPP HOWN HBA hbx4 hbx HBX
      go_wp2_with (at_builtin; refine wpList_append_go rfl _ _ 27 rfl _ _ (.slice A9 n9 c9) w4 rfl rfl HRUN.out ?_)
      go_roundw
      case rel =>
        refine ⟨k + 1, .slice A9 n9 c9, by omega, by go_num, HBX4.out.set 1 _, ?_, HB4.out.setCell (p := ⟨w.heap.size + 1, 1, none⟩) (by simp) _, by have := HS4.out; simp at this ⊢; omega⟩
        rw [HTK.out]
        obtain ⟨vs, q1, q2⟩ := HO.out
        refine ⟨vs, ⟨q1.1, ?_⟩, q2⟩
        rcases q1.2 with hn | ⟨g, cap, cur, r1, r2, r3, rest⟩
        · exact .inl hn
        · exact .inr ⟨g, cap, cur, r1, r2, (Below.heap_setCell w4 ⟨w.heap.size + 1, 1, none⟩ _ g (by simp; omega)).trans r3, rest⟩
      case measure => simp [intOf]; omega
    · have HF : Hid (ps.take k = ps) := Lib.hid (List.take_of_length_le (by omega))
      have HFI : Hid (PlOwn w wr (w.heap.size + 2) v ps) := Lib.hid (by have := HOWN.out; rwa [HF.out] at this)
      obtain ⟨A', c', rfl, hp'⟩ := HFI.out.players HB.out
      have HW := Lib.hid (refFew_any A' X c' ch hs ps wr hp' (fun q1 q2 W h => HKF.out q1 q2 W A' c' (HB.out.trans (h.mono HB.out.size)) (hp'.keep h)))
      have y0 := hbx.cell 0
      have y1 := hbx.cell 1
      simp only [List.getElem?_toArray, List.getElem?_cons_zero, List.getElem?_cons_succ] at y0 y1
      clear hp' hbx HBX HFI HOWN HF
      go_wp2_with fail
      refine HW.out.mono ?_
      rintro e w5 ⟨rfl, hb5⟩
      have HB5 := Lib.hid (HB.out.trans (hb5.mono HB.out.size))
      clear hb5
      go_wp2
      go_ret
      exact ⟨rfl, HB5.out⟩
end Go.Proofs.YtbckfkopdojggaaGreatDoor

/- What is asked of a field ahead of the links' laws, for any field (for a text that does not reach the rounds of TopLinksRaised). -/
namespace Go.Proofs.YtbckfkopdojggaaGreatDoor
open Go.RowKit

theorem shortsP_facts {ps : List Pl} (h : shortsQ ps = true) : (ps.length ≤ 5 ∨ (200 < ps.length ∧ ps.length ≤ 203)) ∧ ∀ p ∈ ps, p.l.length ≤ 39 := by
  unfold shortsQ at h
  simp only [Bool.and_eq_true, Bool.or_eq_true, decide_eq_true_eq, List.all_eq_true] at h
  refine ⟨h.1, fun p hp => ?_⟩
  have := h.2 p hp
  unfold shortB at this
  simp only [Bool.and_eq_true, decide_eq_true_eq] at this
  exact this.1.2
theorem fieldP_zero {hs : List (Int × Int)} {ps : List Pl} (h : fieldE hs ps = 0) : holesI hs = 0 ∧ ps.length ≤ 200 ∧ playersGo hs [] ps = 0 := by
  have h1 := firstI_zero _ h (holesI hs) (by simp)
  have h2 := firstI_zero _ h (unlessI (decide ((ps.length : Int) ≤ 200)) 5) (by simp)
  have h3 := firstI_zero _ h (playersGo hs [] ps) (by simp)
  refine ⟨h1, ?_, h3⟩
  by_cases g : (ps.length : Int) ≤ 200
  · omega
  · rw [decide_eq_false g] at h2; simp [unlessI] at h2
theorem fewP_facts {hs : List (Int × Int)} {ps : List Pl} (h : fewQ hs ps = true) : hs.length ≤ 36 ∧ shortsQ ps = true ∧ fieldE hs ps = 0 := by
  unfold fewQ at h
  simpa using h
/-- The reference's check of a field, where it is asked. -/
theorem linFieldP_any (X A : Option Addr) (ch c : Nat) (hs : List (Int × Int)) (ps : List Pl) (w : World) (hr : HolesR w X hs) (hbl : hs = [] ∨ ∀ a, X = some a → a.block < w.heap.size) (hp : PlayersR w A ps) (h36 : hs.length ≤ 36) (hsh : shortsQ ps = true) :
    Calls Tryz.prog 11 #[.agg #[.slice X hs.length ch, .slice A ps.length c]] w fun e w' => e = .returned (.int .i64 (fieldE hs ps)) ∧ Below w.heap.size w w' := by
  obtain ⟨_, hll⟩ := shortsP_facts hsh
  refine refField_any A X c ch hs ps w (fun W h => ?_) (fun W h h200 => ?_)
  · refine refCheckHoles_any X ch hs W ?_
    rcases hbl with hz | hbl
    · rw [hz]; exact fun j hj => absurd hj (Nat.not_lt_zero _)
    · exact hr.keep hbl h
  · refine refPlayers_any A X c ch hs ps W (fun V hV p hpm B d he => ?_) (hp.keep h) (by omega)
    rcases hbl with hz | hbl
    · subst hz
      exact refPlayer_nil X B ch d p.nm p.l p.h V
    · have hV2 : Below w.heap.size w V := h.trans (hV.mono h.size)
      exact refPlayer_any X B ch d hs p.nm p.l p.h V (hr.keep hbl hV2) (fun x hx => Nat.lt_of_lt_of_le (hbl x hx) hV2.size) (by omega) he (by have := hll p hpm; omega)

theorem linksP_few (X A : Option Addr) (ch c : Nat) (hs : List (Int × Int)) (ps : List Pl) (w : World) (hr : HolesR w X hs) (hbl : hs = [] ∨ ∀ a, X = some a → a.block < w.heap.size) (hp : PlayersR w A ps) (hl : ps.length * 48 ≤ 140737488355328) :
    Calls Tryz.prog 19 #[.agg #[.slice X hs.length ch, .slice A ps.length c]] w fun e w' => e = .returned (.bool (fewQ hs ps)) ∧ Below w.heap.size w w' :=
  linksFew_any X A ch c hs ps w hp hl fun h36 hsh W A' c' h hx => by
    refine linFieldP_any X A' ch c' hs ps W ?_ ?_ hx h36 hsh
    · rcases hbl with hz | hbl
      · rw [hz]; exact fun j hj => absurd hj (Nat.not_lt_zero _)
      · exact hr.keep hbl h
    · rcases hbl with hz | hbl
      · exact .inl hz
      · exact .inr fun a ha => Nat.lt_of_lt_of_le (hbl a ha) h.size

end Go.Proofs.YtbckfkopdojggaaGreatDoor
