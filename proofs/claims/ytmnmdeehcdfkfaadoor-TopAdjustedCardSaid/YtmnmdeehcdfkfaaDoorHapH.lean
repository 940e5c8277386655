/- TopAdjusted: for any holes, any card and any course handicap the law answers true, and the arguments read afterwards as they read before; tied to the program's text. Conditions: none of ours (the card's three listed tables of Go's library are laid as the program lays them). -/
import Derived.Test.YtmnmdeehcdfkfaaDoorRows
import Derived.Test.YtmnmdeehcdfkfaaDoorCards
import Derived.Test.YtmnmdeehcdfkfaaDoorTie
import Derived.Test.YtmnmdeehcdfkfaaDoorHapG
import Derived.ProofKit
import Derived.LaidMore
import Derived.SizedLaws
import Derived.OpenShut
import Derived.SevenTiedAt
import Derived.Stop.Joined
import Derived.Deep.Slices
import Derived.Deep.Strs
namespace Go.Proofs.YtmnmdeehcdfkfaaDoor
open Go.ChangeShapes Go.WideShapes Go.ChangeAt Go.ChangeMaps Go.RowKit

theorem own0 : ownKnob Tryd.prog.godebug = none := by kernel_rfl
theorem laidOut0 : laidOutB Tryd.prog = true := by kernel_rfl
theorem cellsInt0 : Tryd.prog.cellsOf 3 = 1 := by kernel_rfl
theorem cellsStr0 : Tryd.prog.cellsOf 9 = 1 := by kernel_rfl
theorem cellsHole0 : Tryd.prog.cellsOf 32 = 2 := by kernel_rfl
theorem cellsEntry0 : Tryd.prog.cellsOf 30 = 2 := by kernel_rfl
theorem cellsCard0 : Tryd.prog.cellsOf 25 = 2 := by kernel_rfl
theorem cellsEntries0 : Tryd.prog.cellsOf 23 = 1 := by kernel_rfl
theorem bytesEntry0 : Tryd.prog.bytesOf 30 = 24 := by kernel_rfl

section
variable {H : Type} {enc : TypeId × Value → H} {W : World} {d : DataW H} {p : List MemPlace}

set_option maxRecDepth 100000 in
theorem open_holes {a0 : Option Addr} {len cap : Nat} (h : DataW.Trod enc Tryd.prog W 0 (fun _ => true) true 22 (.slice a0 len cap) d p) :
    ∃ R : List (Int × Int), R.length = len ∧ HolesR W a0 R ∧ (R = [] ∨ ∀ a, a0 = some a → a.block < W.heap.size) := by
  obtain ⟨fuel, hf⟩ := h
  rcases Deep.open_slice Tryd.underlying22 hf with ⟨hcs, hx⟩ | ⟨a, len', cap', m, n, D, Pl, hcs, hb, hl, hm, hmm, hx, he⟩
  · simp [Value.cells] at hcs
    obtain ⟨rfl, rfl, rfl⟩ := hcs
    exact ⟨[], rfl, fun j hj => absurd hj (Nat.not_lt_zero _), .inl rfl⟩
  · simp [Value.cells] at hcs
    obtain ⟨rfl, rfl, rfl⟩ := hcs
    simp only [if_true] at hmm
    have each : ∀ i, i < m → ∃ q : Int × Int, W.cell? (a.add (i * 2)) = some (.int .i64 q.1) ∧ W.cell? ⟨(a.add (i * 2)).block, (a.add (i * 2)).off + 1, none⟩ = some (.int .i64 q.2) := by
      intro i hi
      obtain ⟨cs', h1, h2⟩ := he i hi
      rw [cellsHole0] at h1
      obtain ⟨_, hlen, hcell⟩ := World.cells?_some h1
      obtain ⟨y0, y1, n', hxx, _, g0, g1⟩ := trod_struct2 Tryd.underlying32 h2
      match cs', hlen with
      | [u0, u1], _ =>
        have e0 := hcell 0 (by omega)
        have e1 := hcell 1 (by omega)
        simp [cellsInt0] at g0 g1
        obtain ⟨z0, k0, _⟩ := DataW.trod_int Tryd.underlying3 g0
        obtain ⟨z1, k1, _⟩ := DataW.trod_int Tryd.underlying3 g1
        simp only [List.cons.injEq, and_true] at k0 k1
        subst k0; subst k1
        exact ⟨(z0, z1), e0, e1⟩
    obtain ⟨q, hq⟩ := Deep.choose_lt each
    refine ⟨(List.range len).map q, by simp, ?_, ?_⟩
    · intro j hj
      have hj' : j < len := by simpa using hj
      have hjq : ((List.range len).map q).getD j (0, 0) = q j := by simp [List.getD, hj']
      obtain ⟨c0, c1⟩ := hq j (by omega)
      rw [hjq]
      exact ⟨a, rfl, c0, c1⟩
    · by_cases h0 : len = 0
      · left; simp [h0]
      · right
        intro a' ha'
        injection ha' with ha'
        subst ha'
        have := World.block_lt_of_cell? _ _ (hq 0 (by omega)).1
        rwa [add_block] at this

set_option maxRecDepth 100000 in
theorem open_entries {fuel : Nat} {cs : List Value} {x : DataW H × List MemPlace} (h : DataW.trod enc Tryd.prog W 0 (fun _ => true) true fuel 23 cs = some x) :
    ∃ (B : Option Addr) (cap : Nat) (l : List (Int × ByteArray)), cs = [.slice B l.length cap] ∧ EntriesR W B l ∧ (l = [] ∨ ∃ es sp, x.1 = .slice es sp ∧ es.length = l.length) := by
  rcases Deep.open_slice Tryd.underlying23 h with ⟨hcs, hx⟩ | ⟨a, len, cap, m, n, D, Pl, hcs, hb, hl, hm, hmm, hx, he⟩
  · exact ⟨none, 0, [], hcs, fun j hj => absurd hj (Nat.not_lt_zero _), .inl rfl⟩
  · simp only [if_true] at hmm
    have each : ∀ i, i < m → ∃ q : Int × ByteArray, W.cell? (a.add (i * 2)) = some (.int .i64 q.1) ∧ W.cell? ⟨(a.add (i * 2)).block, (a.add (i * 2)).off + 1, none⟩ = some (.string q.2) := by
      intro i hi
      obtain ⟨cs', h1, h2⟩ := he i hi
      rw [cellsEntry0] at h1
      obtain ⟨_, hlen, hcell⟩ := World.cells?_some h1
      obtain ⟨y0, y1, n', hxx, _, g0, g1⟩ := trod_struct2 Tryd.underlying30 h2
      match cs', hlen with
      | [u0, u1], _ =>
        have e0 := hcell 0 (by omega)
        have e1 := hcell 1 (by omega)
        simp [cellsInt0, cellsStr0] at g0 g1
        obtain ⟨z0, k0, _⟩ := DataW.trod_int Tryd.underlying3 g0
        obtain ⟨z1, k1, _⟩ := DataW.trod_string Tryd.underlying9 g1
        simp only [List.cons.injEq, and_true] at k0 k1
        subst k0; subst k1
        exact ⟨(z0, z1), e0, e1⟩
    obtain ⟨q, hq⟩ := Deep.choose_lt each
    refine ⟨some a, cap, (List.range len).map q, by simpa using hcs, ?_, .inr ⟨_, _, congrArg Prod.fst hx, by simp⟩⟩
    intro j hj
    have hj' : j < len := by simpa using hj
    have hjq : ((List.range len).map q).getD j (0, ByteArray.empty) = q j := by simp [List.getD, hj']
    obtain ⟨c0, c1⟩ := hq j (by omega)
    rw [hjq]
    exact ⟨a, rfl, c0, c1, World.block_lt_of_cell? _ _ c0⟩

set_option maxRecDepth 100000 in
theorem open_card {v : Value} (hv : ∃ cs, v = .agg cs ∧ cs.size = Tryd.prog.cellsOf 25) (h : DataW.Trod enc Tryd.prog W 0 (fun _ => true) true 25 v d p) :
    ∃ (nm : ByteArray) (B : Option Addr) (cap : Nat) (l : List (Int × ByteArray)), v = .agg #[.string nm, .slice B l.length cap] ∧ EntriesR W B l ∧ (l = [] ∨ ∃ d0 es sp, d = .agg [d0, .slice es sp] ∧ es.length = l.length) := by
  obtain ⟨cs, rfl, hsz⟩ := hv
  obtain ⟨fuel, hf⟩ := h
  obtain ⟨y0, y1, n', hxx, _, g0, g1⟩ := trod_struct2 Tryd.underlying25 hf
  rw [cellsCard0] at hsz
  obtain ⟨cl⟩ := cs
  match cl, hsz with
  | [u0, u1], _ =>
    simp [Value.cells, cellsStr0, cellsEntries0] at g0 g1
    obtain ⟨nm, k0, _⟩ := DataW.trod_string Tryd.underlying9 g0
    obtain ⟨B, cap, l, k1, hE, hb⟩ := open_entries g1
    simp only [List.cons.injEq, and_true] at k0 k1
    subst k0; subst k1
    have hd := congrArg Prod.fst hxx
    refine ⟨nm, B, cap, l, rfl, hE, ?_⟩
    rcases hb with rfl | ⟨es, sp, hes, hel⟩
    · exact .inl rfl
    · exact .inr ⟨y0.1, es, sp, by rw [← hes]; exact hd, hel⟩
end

set_option maxRecDepth 100000 in
set_option maxHeartbeats 4000000 in
theorem law_none (A B : Option Addr) (c d : Nat) (nm : ByteArray) (l : List (Int × ByteArray)) (h : Int) (w : World) :
    Calls Tryd.prog 3 #[.slice A ([] : List (Int × Int)).length c, .agg #[.string nm, .slice B l.length d], .int .i64 h] w fun e w' => e = .returned (.bool true) ∧ Below w.heap.size w w' := by
  go_enter Tryd.func3, Tryd.ntmps3
  go_wp2_with fail
  refine (refCheckHoles_any A c [] _ (fun j hj => absurd hj (Nat.not_lt_zero _))).mono ?_
  rintro e w1 ⟨rfl, n1, rfl⟩
  rw [show holesI [] = 12 from rfl]
  have hB1 := Lib.hid (below_drewN ((Below.refl w.heap.size w).alloc (Nat.le_refl _) (.cells #[.string nm, .slice B l.length d] 25)) n1)
  go_wp2_with fail
  refine (caddiePoints_any _).mono ?_
  rintro e w3 ⟨rfl, hb3⟩
  have HB3 := Lib.hid (hB1.out.trans (hb3.mono hB1.out.size))
  clear hb3
  go_wp2
  go_ret
  exact ⟨rfl, HB3.out⟩

theorem law_any (A B : Option Addr) (c d : Nat) (hs : List (Int × Int)) (nm : ByteArray) (l : List (Int × ByteArray)) (h : Int) (w : World) (hr : HolesR w A hs) (hbl : hs = [] ∨ ∀ a, A = some a → a.block < w.heap.size)
    (he : EntriesR w B l) (hl2 : l.length ≤ 4611686018427387904) :
    Calls Tryd.prog 3 #[.slice A hs.length c, .agg #[.string nm, .slice B l.length d], .int .i64 h] w fun e w' => e = .returned (.bool true) ∧ Below w.heap.size w w' := by
  rcases hbl with rfl | hbl
  · exact law_none A B c d nm l h w
  by_cases h1 : 18 < hs.length
  · exact law_long A B c d hs nm l h w hr hbl he hl2 h1
  by_cases h2 : holesI hs = 0
  · by_cases h3 : cardI hs nm l = 0
    · by_cases h4 : h < -20 ∨ 60 < h
      · exact law_range A B c d hs nm l h w hr hbl he hl2 h1 h2 h3 h4
      · exact law_main A B c d hs nm l h w hr hbl he hl2 h1 h2 h3 (by omega)
    · exact law_card A B c d hs nm l h w hr hbl he hl2 h1 h2 h3
  · exact law_holes A B c d hs nm l h w hr hbl he hl2 h1 h2

/-- The door's own heap meets the condition. -/
theorem door_met (os : Os) (args : Array Value) : laidMetH Tryd.prog Rows.topAdjustedRow.laid ((World.doorLaid Tryd.prog 400 os).forCall (fun _ _ => 0) ⟨#[], args, []⟩).memory :=
  laidMetH_of_parts3 (fuel := 8) (laidMet_of_run' 8 (by kernel_rfl) (by kernel_rfl)) (by kernel_rfl) (by kernel_rfl)

set_option maxRecDepth 100000 in
theorem lifted0 (os : Os) (started : os.Started) (H : Type) (enc : TypeId × Value → H) :
    ReturnsInHanded {} Tryd.checked os 3 .any (fun w args => (Rows.topAdjustedSpec.pre enc Tryd.prog Tryd.f3 [] false w args ∧ laidMetH Tryd.prog Rows.topAdjustedRow.laid w) ∧ sizedMet enc Tryd.prog Tryd.f3 (OpenSpec.ofChange Rows.topAdjustedSpec) false w args)
      (Rows.topAdjustedSpec.post enc Tryd.prog Tryd.f3 false true false false) := by
  refine returnsInHanded_of_change_and (C := Tryd.checked) (X := fun w _ => laidMetH Tryd.prog Rows.topAdjustedRow.laid w) (fun _ _ _ hh h => h.of_heap hh) own0 started (by kernel_rfl) Tryd.func3
    (ChangeSpec.witness_shaped (enc := enc) (C := Tryd.checked) (os := os) (X := fun w _ => laidMetH Tryd.prog Rows.topAdjustedRow.laid w) false (World.doorLaid Tryd.prog 400 os) #[.slice none 0 0, .agg #[.string ⟨#[]⟩, .slice none 0 0], .int .i64 0] 8 rfl (World.shaped_of_RefB (by kernel_rfl) (by kernel_rfl)) (by kernel_rfl) (by kernel_rfl) (by kernel_rfl) (door_met os _)) ?_
  intro W base args ds gs before hval0 hW _ hsz0 _ _
  have hsz : (DataW.weightsEach Tryd.prog (Tryd.f3.params.toList ++ Rows.topAdjustedSpec.plain.varTypes Tryd.prog) (ds ++ gs)).all (· ≤ reachBytes) = true := hsz0
  clear hsz0
  have hval : ∀ (j : Nat) t v, Tryd.f3.params[j]? = some t → args[j]? = some v → Value.okWide Tryd.prog W .any base t v := hval0
  have hW' := hW
  obtain ⟨p, q, hA0, hV, rfl, hfz, hnd⟩ := hW
  have hA : DataW.TrodAll enc Tryd.prog W 0 (fun _ => true) true Tryd.f3.params.toList args.toList ds p := hA0
  rw [Tryd.params3] at hA hval hsz
  obtain ⟨v0, v1, v2, d0, d1, d2, p0, p1, p2, rfl, rfl, rfl, h0, h1, h2⟩ := trodAll_three hA
  obtain ⟨rfl, rfl⟩ := trodVars_none hV
  obtain ⟨A, lA, cA, rfl⟩ := okWide_slice Tryd.underlying22 (hval 0 22 v0 rfl rfl)
  obtain ⟨nm, B, cB, l, rfl, hE, bE⟩ := open_card (okWide_struct Tryd.underlying25 (hval 1 25 v1 rfl rfl)) h1
  obtain ⟨h, rfl⟩ := okWide_int Tryd.underlying3 (hval 2 3 v2 rfl rfl)
  clear hA0 hval0 hA hV
  simp only [List.append_nil] at hW' hsz
  have hlt : ∀ x ∈ p0 ++ p1 ++ p2, x.block < W.heap.size := fun x hx => by simpa using hW'.lt x hx
  obtain ⟨hs, rfl, hR, hbl⟩ := open_holes h0
  have b1 : l.length ≤ 4611686018427387904 := by
    rcases bE with rfl | ⟨dn, es, sp, rfl, hel⟩
    · simp
    · have hw : (DataW.weightsEach Tryd.prog [9, 23] [dn, .slice es sp]).all (· ≤ reachBytes) = true := List.all_eq_true.2 fun n hn =>
        List.all_eq_true.1 hsz n (DataW.weights_mem_each (j := 1) (t := 25) (d := .agg [dn, .slice es sp]) rfl rfl n (by
          unfold DataW.weights
          rw [Tryd.underlying25]
          exact hn))
      have := sized_slice hw (j := 1) (t := 23) (e := 30) rfl rfl Tryd.underlying23
      rw [bytesEntry0] at this
      simp only [reachBytes] at this
      omega
  refine (law_any A B cA cB hs nm l h W hR hbl hE b1).mono fun e W' ⟨he, hn⟩ => ?_
  subst he
  exact ⟨_, rfl, _, _, _, [], _, [], hW', trodAll_mk1 (shut_bool Tryd.underlying4 _),
    trodAll_mk3 (Below.trod laidOut0 (by kernel_rfl) (of_decide_eq_true (by kernel_rfl)) h0 hn (fun x hx => hlt x (by simp [hx]))) (Below.trod laidOut0 (by kernel_rfl) (of_decide_eq_true (by kernel_rfl)) h1 hn (fun x hx => hlt x (by simp [hx]))) (Below.trod laidOut0 (by kernel_rfl) (of_decide_eq_true (by kernel_rfl)) h2 hn (fun x hx => hlt x (by simp [hx]))),
    rfl, hn.frame _, fun h => by cases h⟩

theorem topAdjusted_row : Rows.TopAdjustedSaid :=
  OpenClaim.holds_of_wide 3 Tryd.f3 rfl rfl rfl rfl rfl rfl rfl ⟨rfl, rfl, rfl, rfl, rfl⟩ rfl rfl rfl rfl rfl (by kernel_rfl) Tryd.func3 (by kernel_rfl)
    (of_decide_eq_true (by kernel_rfl)) (by unfold Func.isWrapper; first | (rw [if_pos (by decide +kernel)]; kernel_rfl) | (rw [if_neg (by decide +kernel)]; exact ⟨rfl, rfl⟩))
    (fun os started H enc _ => lifted0 os started H enc)

theorem topAdjusted_holds : Rows.TopAdjustedCardSaid :=
  Claim7.holds_tied_plain_at .later [] [.data, .data, .data] true Rows.topAdjustedCard.stood.harness false
    topAdjusted_row (fun _ h => by cases h) (by kernel_rfl) (fun _ h => by cases h) topAdjusted_row_tie rfl ⟨rfl, rfl⟩ (by kernel_rfl) rfl
    (fun f fn hf hfn => by
      obtain rfl : f = 3 := Option.some.inj ((show Tryd.prog.funcNamed "niblick/niblicktop.TopAdjusted" = some 3 by kernel_rfl).symm.trans hf) |>.symm
      obtain rfl : fn = Tryd.f3 := (Option.some.inj (Tryd.func3.symm.trans hfn)).symm
      exact ⟨by kernel_rfl, fun j t ht => by
        rw [Tryd.params3] at ht
        have hm : t ∈ [22, 25, 3] := by simpa using Array.mem_of_getElem? ht
        have hall : ([22, 25, 3].all fun u => !Tryd.prog.wantsStandIn u) = true := by kernel_rfl
        exact (show Tryd.prog.wantsStandIn t = false by simpa using List.all_eq_true.1 hall t hm)⟩)
    (by kernel_rfl)

end Go.Proofs.YtmnmdeehcdfkfaaDoor
