/- FormatSums: for any holes and any player the law answers true, and the arguments read afterwards as they read before; tied to the program's text. Conditions: none of ours (the card's three listed tables of Go's library are laid as the program lays them). -/
import Derived.Test.YtndalbcmmdinhaaGreatDoorRows
import Derived.Test.YtndalbcmmdinhaaGreatDoorCards
import Derived.Test.YtndalbcmmdinhaaGreatDoorTie
import Derived.Test.YtndalbcmmdinhaaGreatDoorSumD
import Derived.ProofKit
import Derived.LaidMore
import Derived.SizedLaws
import Derived.OpenShut
import Derived.SevenTiedAt
import Derived.Stop.Joined
import Derived.Deep.Slices
import Derived.Deep.Strs
set_option linter.unusedVariables false
set_option linter.unusedSimpArgs false
namespace Go.Proofs.YtndalbcmmdinhaaGreatDoor
open Go.ChangeShapes Go.WideShapes Go.ChangeAt Go.ChangeMaps Go.RowKit

theorem own0 : ownKnob Tryz.prog.godebug = none := by kernel_rfl
theorem laidOut0 : laidOutB Tryz.prog = true := by kernel_rfl
theorem cellsInt0 : Tryz.prog.cellsOf 3 = 1 := by kernel_rfl
theorem cellsStr0 : Tryz.prog.cellsOf 9 = 1 := by kernel_rfl
theorem cellsHole0 : Tryz.prog.cellsOf 73 = 2 := by kernel_rfl
theorem cellsEntry0 : Tryz.prog.cellsOf 108 = 2 := by kernel_rfl
theorem cellsCard0 : Tryz.prog.cellsOf 35 = 2 := by kernel_rfl
theorem cellsPlayer0 : Tryz.prog.cellsOf 37 = 3 := by kernel_rfl
theorem cellsEntries0 : Tryz.prog.cellsOf 33 = 1 := by kernel_rfl
theorem bytesEntry0 : Tryz.prog.bytesOf 108 = 24 := by kernel_rfl

section
variable {H : Type} {enc : TypeId × Value → H} {W : World} {d : DataW H} {p : List MemPlace}

set_option maxRecDepth 100000 in
theorem open_holes {a0 : Option Addr} {len cap : Nat} (h : DataW.Trod enc Tryz.prog W 0 (fun _ => true) true 22 (.slice a0 len cap) d p) :
    ∃ R : List (Int × Int), R.length = len ∧ HolesR W a0 R ∧ (R = [] ∨ ∀ a, a0 = some a → a.block < W.heap.size) := by
  obtain ⟨fuel, hf⟩ := h
  rcases Deep.open_slice Tryz.underlying22 hf with ⟨hcs, hx⟩ | ⟨a, len', cap', m, n, D, Pl, hcs, hb, hl, hm, hmm, hx, he⟩
  · simp [Value.cells] at hcs
    obtain ⟨rfl, rfl, rfl⟩ := hcs
    exact ⟨[], rfl, fun j hj => absurd hj (Nat.not_lt_zero _), .inl rfl⟩
  · simp [Value.cells] at hcs
    obtain ⟨rfl, rfl, rfl⟩ := hcs
    simp only [if_true] at hmm
    have each : ∀ i, i < m → ∃ q : Int × Int, W.cell? (a.add (i * 2)) = some (.int .i64 q.1) ∧ W.cell? ⟨(a.add (i * 2)).block, (a.add (i * 2)).off + 1, none⟩ = some (.int .i64 q.2) := by
      intro i hi
      obtain ⟨cs', h1, h2⟩ := he i hi
      rw [cellsHole0] at h1
      obtain ⟨_, hlen, hcell⟩ := World.cells?_some h1
      obtain ⟨y0, y1, n', hxx, _, g0, g1⟩ := trod_struct2 Tryz.underlying73 h2
      match cs', hlen with
      | [u0, u1], _ =>
        have e0 := hcell 0 (by omega)
        have e1 := hcell 1 (by omega)
        simp [cellsInt0] at g0 g1
        obtain ⟨z0, k0, _⟩ := DataW.trod_int Tryz.underlying3 g0
        obtain ⟨z1, k1, _⟩ := DataW.trod_int Tryz.underlying3 g1
        simp only [List.cons.injEq, and_true] at k0 k1
        subst k0; subst k1
        exact ⟨(z0, z1), e0, e1⟩
    obtain ⟨q, hq⟩ := Deep.choose_lt each
    refine ⟨(List.range len).map q, by simp, ?_, ?_⟩
    · intro j hj
      have hj' : j < len := by simpa using hj
      have hjq : ((List.range len).map q).getD j (0, 0) = q j := by simp [List.getD, hj']
      obtain ⟨c0, c1⟩ := hq j (by omega)
      rw [hjq]
      exact ⟨a, rfl, c0, c1⟩
    · by_cases h0 : len = 0
      · left; simp [h0]
      · right
        intro a' ha'
        injection ha' with ha'
        subst ha'
        have := World.block_lt_of_cell? _ _ (hq 0 (by omega)).1
        rwa [add_block] at this

set_option maxRecDepth 100000 in
theorem open_entries {fuel : Nat} {cs : List Value} {x : DataW H × List MemPlace} (h : DataW.trod enc Tryz.prog W 0 (fun _ => true) true fuel 33 cs = some x) :
    ∃ (B : Option Addr) (cap : Nat) (l : List (Int × ByteArray)), cs = [.slice B l.length cap] ∧ EntriesR W B l ∧ (l = [] ∨ ∃ es sp, x.1 = .slice es sp ∧ es.length = l.length) := by
  rcases Deep.open_slice Tryz.underlying33 h with ⟨hcs, hx⟩ | ⟨a, len, cap, m, n, D, Pl, hcs, hb, hl, hm, hmm, hx, he⟩
  · exact ⟨none, 0, [], hcs, fun j hj => absurd hj (Nat.not_lt_zero _), .inl rfl⟩
  · simp only [if_true] at hmm
    have each : ∀ i, i < m → ∃ q : Int × ByteArray, W.cell? (a.add (i * 2)) = some (.int .i64 q.1) ∧ W.cell? ⟨(a.add (i * 2)).block, (a.add (i * 2)).off + 1, none⟩ = some (.string q.2) := by
      intro i hi
      obtain ⟨cs', h1, h2⟩ := he i hi
      rw [cellsEntry0] at h1
      obtain ⟨_, hlen, hcell⟩ := World.cells?_some h1
      obtain ⟨y0, y1, n', hxx, _, g0, g1⟩ := trod_struct2 Tryz.underlying108 h2
      match cs', hlen with
      | [u0, u1], _ =>
        have e0 := hcell 0 (by omega)
        have e1 := hcell 1 (by omega)
        simp [cellsInt0, cellsStr0] at g0 g1
        obtain ⟨z0, k0, _⟩ := DataW.trod_int Tryz.underlying3 g0
        obtain ⟨z1, k1, _⟩ := DataW.trod_string Tryz.underlying9 g1
        simp only [List.cons.injEq, and_true] at k0 k1
        subst k0; subst k1
        exact ⟨(z0, z1), e0, e1⟩
    obtain ⟨q, hq⟩ := Deep.choose_lt each
    refine ⟨some a, cap, (List.range len).map q, by simpa using hcs, ?_, .inr ⟨_, _, congrArg Prod.fst hx, by simp⟩⟩
    intro j hj
    have hj' : j < len := by simpa using hj
    have hjq : ((List.range len).map q).getD j (0, ByteArray.empty) = q j := by simp [List.getD, hj']
    obtain ⟨c0, c1⟩ := hq j (by omega)
    rw [hjq]
    exact ⟨a, rfl, c0, c1, World.block_lt_of_cell? _ _ c0⟩

set_option maxRecDepth 100000 in
theorem open_player {v : Value} (hv : ∃ cs, v = .agg cs ∧ cs.size = Tryz.prog.cellsOf 37) (h : DataW.Trod enc Tryz.prog W 0 (fun _ => true) true 37 v d p) :
    ∃ (nm : ByteArray) (B : Option Addr) (cap : Nat) (l : List (Int × ByteArray)) (hc : Int), v = .agg #[.string nm, .slice B l.length cap, .int .i64 hc] ∧ EntriesR W B l := by
  obtain ⟨cs, rfl, hsz⟩ := hv
  obtain ⟨fuel, hf⟩ := h
  obtain ⟨y0, y1, n', hxx, _, g0, g1⟩ := trod_struct2 Tryz.underlying37 hf
  rw [cellsPlayer0] at hsz
  obtain ⟨cl⟩ := cs
  match cl, hsz with
  | [u0, u1, u2], _ =>
    simp [Value.cells, cellsCard0, cellsInt0] at g0 g1
    obtain ⟨z, k2, _⟩ := DataW.trod_int Tryz.underlying3 g1
    obtain ⟨x0, x1, n2, _, _, f0, f1⟩ := trod_struct2 Tryz.underlying35 g0
    simp [cellsStr0, cellsEntries0] at f0 f1
    obtain ⟨nm, k0, _⟩ := DataW.trod_string Tryz.underlying9 f0
    obtain ⟨B, cap, l, k1, hE, hb⟩ := open_entries f1
    simp only [List.cons.injEq, and_true] at k0 k1 k2
    subst k0; subst k1; subst k2
    exact ⟨nm, B, cap, l, z, rfl, hE⟩
end

set_option maxRecDepth 100000 in
set_option maxHeartbeats 4000000 in
theorem refCard_none (A B : Option Addr) (c d : Nat) (nm : ByteArray) (l : List (Int × ByteArray)) (w : World) :
    Calls Tryz.prog 59 #[.slice A ([] : List (Int × Int)).length c, .agg #[.string nm, .slice B l.length d]] w fun e w' => e = .returned (.int .i64 12) ∧ Below w.heap.size w w' := by
  go_enter Tryz.func59, Tryz.ntmps59
  go_wp2_with fail
  refine (refCheckHoles_any A c [] _ (fun j hj => absurd hj (Nat.not_lt_zero _))).mono ?_
  rintro e w1 ⟨rfl, n1, rfl⟩
  rw [show holesI [] = 12 from rfl]
  go_wp2
  go_ret
  exact ⟨rfl, below_drewN ((Below.refl _ _).alloc (Nat.le_refl _) _) _⟩
set_option maxRecDepth 100000 in
set_option maxHeartbeats 4000000 in
theorem refPlayer_none (A B : Option Addr) (c d : Nat) (nm : ByteArray) (l : List (Int × ByteArray)) (h : Int) (w : World) :
    Calls Tryz.prog 15 #[.slice A ([] : List (Int × Int)).length c, .agg #[.string nm, .slice B l.length d, .int .i64 h]] w fun e w' => e = .returned (.int .i64 12) ∧ Below w.heap.size w w' := by
  go_enter Tryz.func15, Tryz.ntmps15
  go_wp2_with fail
  refine (refCard_none A B c d nm l _).mono ?_
  rintro e w1 ⟨rfl, hb1⟩
  have HB := Lib.hid (((Below.refl w.heap.size w).alloc (Nat.le_refl _) (.cells #[.string nm, .slice B l.length d, .int .i64 h] 38)).trans (hb1.mono (by simp)))
  clear hb1
  go_wp2
  go_ret
  exact ⟨rfl, HB.out⟩
set_option maxRecDepth 100000 in
set_option maxHeartbeats 4000000 in
theorem sums_none (A B : Option Addr) (c d : Nat) (nm : ByteArray) (l : List (Int × ByteArray)) (h : Int) (w : World) (he : EntriesR w B l) (hf : fewB ([] : List (Int × Int)).length [⟨nm, l, h⟩] = true) :
    Calls Tryz.prog 7 #[.slice A ([] : List (Int × Int)).length c, .agg #[.string nm, .slice B l.length d, .int .i64 h]] w fun e w' => e = .returned (.bool true) ∧ Below w.heap.size w w' := by
  have HE := Lib.hid he
  have HF := Lib.hid hf
  clear he hf
  go_enter Tryz.func7, Tryz.ntmps7
  go_wp2_with fail
  generalize hW1 : (w.alloc (.cells #[.string nm, .slice B l.length d, .int .i64 h] 37)).alloc (.cells #[.string nm, .slice B l.length d, .int .i64 h] 37) = w1
  obtain ⟨a1, a2, a3, a4⟩ := two_allocs w _ _ _ _ hW1
  have HB1 := Lib.hid a3
  refine (few_any _ _ 1 c ([] : List (Int × Int)).length [⟨nm, l, h⟩] w1 (PlayersR.one a2 (HE.out.keep a3)) (by simp)).mono ?_
  rintro e w2 ⟨rfl, hb2⟩
  rw [HF.out]
  have hbx := a1.below hb2 a1.lt
  have HB2 := Lib.hid (HB1.out.trans (hb2.mono HB1.out.size))
  have k0 := hbx.cell 0
  have k1 := hbx.cell 1
  have k2 := hbx.cell 2
  simp only [List.getElem?_toArray, List.getElem?_cons_zero, List.getElem?_cons_succ] at k0 k1 k2
  clear hW1 a1 a2 a3 a4 hb2 hbx
  go_wp2_with fail
  refine (refPlayer_none A B c d nm l h w2).mono ?_
  rintro e w3 ⟨rfl, hb3⟩
  have HB3 := Lib.hid (HB2.out.trans (hb3.mono HB2.out.size))
  clear hb3 k0 k1 k2
  go_wp2_with fail
  refine (awake_any _).mono ?_
  rintro e w4 ⟨rfl, hb4⟩
  have HB4 := Lib.hid (HB3.out.trans (hb4.mono HB3.out.size))
  clear hb4
  go_wp2
  go_ret
  exact ⟨rfl, HB4.out⟩

theorem few_bounds {n : Nat} {nm : ByteArray} {l : List (Int × ByteArray)} {h : Int} (hf : fewB n [⟨nm, l, h⟩] = true) : n ≤ 39 ∧ l.length ≤ 39 := by
  unfold fewB shortB at hf
  simp only [List.all_cons, List.all_nil, Bool.and_true, Bool.and_eq_true, decide_eq_true_eq] at hf
  exact ⟨hf.2, hf.1.1.2⟩
theorem law_any (A B : Option Addr) (c d : Nat) (hs : List (Int × Int)) (nm : ByteArray) (l : List (Int × ByteArray)) (h : Int) (w : World) (hr : HolesR w A hs) (hbl : hs = [] ∨ ∀ a, A = some a → a.block < w.heap.size) (he : EntriesR w B l) :
    Calls Tryz.prog 7 #[.slice A hs.length c, .agg #[.string nm, .slice B l.length d, .int .i64 h]] w fun e w' => e = .returned (.bool true) ∧ Below w.heap.size w w' := by
  cases hf : fewB hs.length [⟨nm, l, h⟩]
  · exact sums_many A B c d hs nm l h w he hf
  · obtain ⟨b1, b2⟩ := few_bounds hf
    rcases hbl with rfl | hbl
    · exact sums_none A B c d nm l h w he hf
    · by_cases hn : playerI hs nm l h = 0
      · exact sums_main A B c d hs nm l h w hr hbl he hf hn
      · exact sums_wrong A B c d hs nm l h w hr hbl he hf (by omega) (by omega) hn

/-- The door's own heap meets the condition. -/
theorem door_met (os : Os) (args : Array Value) : laidMetH Tryz.prog Rows.formatSumsRow.laid ((World.doorLaid Tryz.prog 400 os).forCall (fun _ _ => 0) ⟨#[], args, []⟩).memory :=
  laidMetH_of_parts3 (fuel := 8) (laidMet_of_run' 8 (by kernel_rfl) (by kernel_rfl)) (by kernel_rfl) (by kernel_rfl)

set_option maxRecDepth 100000 in
theorem lifted0 (os : Os) (started : os.Started) (H : Type) (enc : TypeId × Value → H) :
    ReturnsInHanded {} Tryz.checked os 7 .any (fun w args => (Rows.formatSumsSpec.pre enc Tryz.prog Tryz.f7 [] false w args ∧ laidMetH Tryz.prog Rows.formatSumsRow.laid w) ∧ sizedMet enc Tryz.prog Tryz.f7 (OpenSpec.ofChange Rows.formatSumsSpec) false w args)
      (Rows.formatSumsSpec.post enc Tryz.prog Tryz.f7 false true false false) := by
  refine returnsInHanded_of_change_and (C := Tryz.checked) (X := fun w _ => laidMetH Tryz.prog Rows.formatSumsRow.laid w) (fun _ _ _ hh h => h.of_heap hh) own0 started (by kernel_rfl) Tryz.func7
    (ChangeSpec.witness_shaped (enc := enc) (C := Tryz.checked) (os := os) (X := fun w _ => laidMetH Tryz.prog Rows.formatSumsRow.laid w) false (World.doorLaid Tryz.prog 400 os) #[.slice none 0 0, .agg #[.string ⟨#[]⟩, .slice none 0 0, .int .i64 0]] 8 rfl (World.shaped_of_RefB (by kernel_rfl) (by kernel_rfl)) (by kernel_rfl) (by kernel_rfl) (by kernel_rfl) (door_met os _)) ?_
  intro W base args ds gs before hval0 hW _ _ _ _
  have hval : ∀ (j : Nat) t v, Tryz.f7.params[j]? = some t → args[j]? = some v → Value.okWide Tryz.prog W .any base t v := hval0
  have hW' := hW
  obtain ⟨p, q, hA0, hV, rfl, hfz, hnd⟩ := hW
  have hA : DataW.TrodAll enc Tryz.prog W 0 (fun _ => true) true Tryz.f7.params.toList args.toList ds p := hA0
  rw [Tryz.params7] at hA hval
  obtain ⟨v0, v1, d0, d1, p0, p1, rfl, rfl, rfl, h0, h1⟩ := trodAll_two hA
  obtain ⟨rfl, rfl⟩ := trodVars_none hV
  obtain ⟨A, lA, cA, rfl⟩ := okWide_slice Tryz.underlying22 (hval 0 22 v0 rfl rfl)
  obtain ⟨nm, B, cB, l, h, rfl, hE⟩ := open_player (okWide_struct Tryz.underlying37 (hval 1 37 v1 rfl rfl)) h1
  clear hA0 hval0 hA hV
  simp only [List.append_nil] at hW'
  have hlt : ∀ x ∈ p0 ++ p1, x.block < W.heap.size := fun x hx => by simpa using hW'.lt x hx
  obtain ⟨hs, rfl, hR, hbl⟩ := open_holes h0
  refine (law_any A B cA cB hs nm l h W hR hbl hE).mono fun e W' ⟨he, hn⟩ => ?_
  subst he
  exact ⟨_, rfl, _, _, _, [], _, [], hW', trodAll_mk1 (shut_bool Tryz.underlying4 _),
    trodAll_mk2 (Below.trod laidOut0 (by kernel_rfl) (of_decide_eq_true (by kernel_rfl)) h0 hn (fun x hx => hlt x (by simp [hx]))) (Below.trod laidOut0 (by kernel_rfl) (of_decide_eq_true (by kernel_rfl)) h1 hn (fun x hx => hlt x (by simp [hx]))),
    rfl, hn.frame _, fun h => by cases h⟩

theorem formatSums_row : Rows.FormatSumsSaid :=
  OpenClaim.holds_of_wide 7 Tryz.f7 rfl rfl rfl rfl rfl rfl rfl ⟨rfl, rfl, rfl, rfl, rfl⟩ rfl rfl rfl rfl rfl (by kernel_rfl) Tryz.func7 (by kernel_rfl)
    (of_decide_eq_true (by kernel_rfl)) (by unfold Func.isWrapper; first | (rw [if_pos (by decide +kernel)]; kernel_rfl) | (rw [if_neg (by decide +kernel)]; exact ⟨rfl, rfl⟩))
    (fun os started H enc _ => lifted0 os started H enc)

theorem formatSums_holds : Rows.FormatSumsCardSaid :=
  Claim7.holds_tied_plain_at .later [] [.data, .data, .data] true Rows.formatSumsCard.stood.harness false
    formatSums_row (fun _ h => by cases h) (by kernel_rfl) (fun _ h => by cases h) formatSums_row_tie rfl ⟨rfl, rfl⟩ (by kernel_rfl) rfl
    (fun f fn hf hfn => by
      obtain rfl : f = 7 := Option.some.inj ((show Tryz.prog.funcNamed "niblick/niblicklaw05.FormatSums" = some 7 by kernel_rfl).symm.trans hf) |>.symm
      obtain rfl : fn = Tryz.f7 := (Option.some.inj (Tryz.func7.symm.trans hfn)).symm
      exact ⟨by kernel_rfl, fun j t ht => by
        rw [Tryz.params7] at ht
        have hm : t ∈ [22, 37] := by simpa using Array.mem_of_getElem? ht
        have hall : ([22, 37].all fun u => !Tryz.prog.wantsStandIn u) = true := by kernel_rfl
        exact (show Tryz.prog.wantsStandIn t = false by simpa using List.all_eq_true.1 hall t hm)⟩)
    (by kernel_rfl)

end Go.Proofs.YtndalbcmmdinhaaGreatDoor
