/- TopLinksPlans: for any rules and any two lists of days the law answers true, and the arguments read afterwards as they read before. Conditions: none. -/
import Derived.Test.YtclhohfkacgooaaRows
import Derived.Test.YtclhohfkacgooaaLawB
import Derived.ProofKit
import Derived.SizedLaws
import Derived.OpenShut
import Derived.Deep.Slices
import Derived.Deep.Strs
namespace Go.Proofs.Ytclhohfkacgooaa
open Go.ChangeShapes Go.WideShapes Go.ChangeAt Go.RowKit

theorem own0 : ownKnob Try.prog.godebug = none := by kernel_rfl
theorem laidOut0 : laidOutB Try.prog = true := by kernel_rfl
theorem cellsInt0 : Try.prog.cellsOf 3 = 1 := by kernel_rfl
theorem cellsRule0 : Try.prog.cellsOf 26 = 3 := by kernel_rfl
theorem bytesInt0 : Try.prog.bytesOf 3 = 8 := by kernel_rfl
theorem bytesRule0 : Try.prog.bytesOf 26 = 24 := by kernel_rfl

section
variable {H : Type} {enc : TypeId × Value → H} {W : World} {d : DataW H} {p : List MemPlace}

theorem open_numbers {a0 : Option Addr} {len cap : Nat} (h : DataW.Trod enc Try.prog W 0 (fun _ => true) true 23 (.slice a0 len cap) d p) :
    ∃ xs : List Int, xs.length = len ∧ IntsAt W W.heap.size a0 xs ∧ (xs = [] ∨ ∃ es sp, d = .slice es sp ∧ es.length = xs.length) := by
  obtain ⟨fuel, hf⟩ := h
  rcases open_ints Try.underlying23 Try.underlying3 cellsInt0 hf with ⟨hcs, hx⟩ | ⟨a, len', cap', zs, hcs, _, hl, hm, hz, hx, hcell, hwz⟩
  · simp [Value.cells] at hcs
    obtain ⟨rfl, rfl, rfl⟩ := hcs
    exact ⟨[], rfl, fun j hj => absurd hj (Nat.not_lt_zero _), .inl rfl⟩
  · simp [Value.cells] at hcs
    obtain ⟨rfl, rfl, rfl⟩ := hcs
    simp only [if_true] at hz
    have hx1 := congrArg Prod.fst hx
    refine ⟨zs.take len, by simp; omega, ?_, .inr ⟨_, _, hx1, by simp [lits]⟩⟩
    intro j hj
    have hj' : j < len := by simp at hj; omega
    have hc := hcell j (by omega)
    refine ⟨a, rfl, ?_, ?_⟩
    · have := World.block_lt_of_cell? _ _ hc
      rwa [block_of_add] at this
    · rw [hc]
      simp [List.getD, List.getElem?_take_of_lt hj']

theorem open_rules {a0 : Option Addr} {len cap : Nat} (h : DataW.Trod enc Try.prog W 0 (fun _ => true) true 22 (.slice a0 len cap) d p) :
    ∃ R : List (Int × Int × Int), R.length = len ∧ RulesR W W.heap.size a0 R ∧ (R = [] ∨ ∃ es sp, d = .slice es sp ∧ es.length = R.length) := by
  obtain ⟨fuel, hf⟩ := h
  rcases Deep.open_slice Try.underlying22 hf with ⟨hcs, hx⟩ | ⟨a, len', cap', m, n, D, Pl, hcs, hb, hl, hm, hmm, hx, he⟩
  · simp [Value.cells] at hcs
    obtain ⟨rfl, rfl, rfl⟩ := hcs
    exact ⟨[], rfl, fun j hj => absurd hj (Nat.not_lt_zero _), .inl rfl⟩
  · simp [Value.cells] at hcs
    obtain ⟨rfl, rfl, rfl⟩ := hcs
    simp only [if_true] at hmm
    have each : ∀ i, i < m → ∃ q : Int × Int × Int, W.cell? (a.add (i * 3)) = some (.int .i64 q.1) ∧ W.cell? ⟨(a.add (i * 3)).block, (a.add (i * 3)).off + 1, none⟩ = some (.int .i64 q.2.1) ∧
        W.cell? ⟨(a.add (i * 3)).block, (a.add (i * 3)).off + 2, none⟩ = some (.int .i64 q.2.2) := by
      intro i hi
      obtain ⟨cs', h1, h2⟩ := he i hi
      rw [cellsRule0] at h1
      obtain ⟨_, hlen, hcell⟩ := World.cells?_some h1
      obtain ⟨y0, y1, y2, n', hxx, _, g0, g1, g2⟩ := Deep.trod_struct3 Try.underlying26 h2
      match cs', hlen with
      | [u0, u1, u2], _ =>
        have e0 := hcell 0 (by omega)
        have e1 := hcell 1 (by omega)
        have e2 := hcell 2 (by omega)
        simp [cellsInt0] at g0 g1 g2
        obtain ⟨z0, k0, _⟩ := DataW.trod_int Try.underlying3 g0
        obtain ⟨z1, k1, _⟩ := DataW.trod_int Try.underlying3 g1
        obtain ⟨z2, k2, _⟩ := DataW.trod_int Try.underlying3 g2
        simp only [List.cons.injEq, and_true] at k0 k1 k2
        subst k0; subst k1; subst k2
        exact ⟨(z0, z1, z2), e0, e1, e2⟩
    obtain ⟨q, hq⟩ := Deep.choose_lt each
    have hx1 := congrArg Prod.fst hx
    refine ⟨(List.range len).map q, by simp, ?_, .inr ⟨_, _, hx1, by simp⟩⟩
    intro j hj
    have hj' : j < len := by simpa using hj
    have hjq : ((List.range len).map q).getD j (0, 0, 0) = q j := by simp [List.getD, hj']
    obtain ⟨c0, c1, c2⟩ := hq j (by omega)
    rw [hjq]
    refine ⟨a, rfl, ?_, c0, c1, c2⟩
    have := World.block_lt_of_cell? _ _ c0
    rwa [block_of_add] at this
end

set_option maxRecDepth 100000 in
theorem lifted0 (os : Os) (started : os.Started) (H : Type) (enc : TypeId × Value → H) :
    ReturnsInHanded {} Try.checked os 3 .any (Rows.topLinksPlansSpec.pre6 enc Try.prog Try.f3 Rows.topLinksPlansRow.domain false) (Rows.topLinksPlansSpec.post enc Try.prog Try.f3 false true false false) := by
  refine returnsInHanded_of_change_sized (C := Try.checked) own0 started (by kernel_rfl) Try.func3
    (ChangeSpec.witness6 (enc := enc) (C := Try.checked) false ⟨#[], #[.slice none 0 0, .slice none 0 0, .slice none 0 0], []⟩ 8 (by kernel_rfl) (by kernel_rfl) (by kernel_rfl) (by kernel_rfl)) ?_
  intro W base args ds gs before hval0 hW _ hsz0 _
  have hsz : (DataW.weightsEach Try.prog (Try.f3.params.toList ++ Rows.topLinksPlansSpec.plain.varTypes Try.prog) (ds ++ gs)).all (· ≤ reachBytes) = true := hsz0
  clear hsz0
  have hval : ∀ (j : Nat) t v, Try.f3.params[j]? = some t → args[j]? = some v → Value.okWide Try.prog W .any base t v := hval0
  have hW' := hW
  obtain ⟨p, q, hA0, hV, rfl, hfz, hnd⟩ := hW
  have hA : DataW.TrodAll enc Try.prog W 0 (fun _ => true) true Try.f3.params.toList args.toList ds p := hA0
  rw [Try.params3] at hA hval hsz
  obtain ⟨v0, v1, v2, d0, d1, d2, p0, p1, p2, rfl, rfl, rfl, h0, h1, h2⟩ := trodAll_three hA
  obtain ⟨rfl, rfl⟩ := trodVars_none hV
  obtain ⟨A, lA, cA, rfl⟩ := okWide_slice Try.underlying22 (hval 0 22 v0 rfl rfl)
  obtain ⟨E, lE, cE, rfl⟩ := okWide_slice Try.underlying23 (hval 1 23 v1 rfl rfl)
  obtain ⟨L, lL, cL, rfl⟩ := okWide_slice Try.underlying23 (hval 2 23 v2 rfl rfl)
  clear hA0 hval0 hA hV
  simp only [List.append_nil] at hW' hsz
  have hlt : ∀ x ∈ p0 ++ p1 ++ p2, x.block < W.heap.size := fun x hx => by simpa using hW'.lt x hx
  obtain ⟨R, rfl, hR, bR⟩ := open_rules h0
  obtain ⟨e1, rfl, hE, bE⟩ := open_numbers h1
  obtain ⟨e2, rfl, hL, bL⟩ := open_numbers h2
  have b0 : (R.length + 1) * 24 ≤ 140737488355328 := by
    rcases bR with rfl | ⟨es, sp, rfl, hel⟩
    · simp
    · have := sized_slice hsz (j := 0) (t := 22) (e := 26) rfl rfl Try.underlying22
      rw [bytesRule0] at this
      simp only [reachBytes] at this
      omega
  have b1 : e1.length ≤ 4611686018427387904 := by
    rcases bE with rfl | ⟨es, sp, rfl, hel⟩
    · simp
    · have := sized_slice hsz (j := 1) (t := 23) (e := 3) rfl rfl Try.underlying23
      rw [bytesInt0] at this
      simp only [reachBytes] at this
      omega
  have b2 : e2.length ≤ 4611686018427387904 := by
    rcases bL with rfl | ⟨es, sp, rfl, hel⟩
    · simp
    · have := sized_slice hsz (j := 2) (t := 23) (e := 3) rfl rfl Try.underlying23
      rw [bytesInt0] at this
      simp only [reachBytes] at this
      omega
  refine (law_any A cA R E cE e1 L cL e2 W hR hE hL b0 b1 b2).mono fun e W' ⟨he, hn⟩ => ?_
  subst he
  exact ⟨_, rfl, _, _, _, [], _, [], hW', trodAll_mk1 (shut_bool Try.underlying4 _),
    trodAll_mk3 (Below.trod laidOut0 (by kernel_rfl) (of_decide_eq_true (by kernel_rfl)) h0 hn (fun x hx => hlt x (by simp [hx]))) (Below.trod laidOut0 (by kernel_rfl) (of_decide_eq_true (by kernel_rfl)) h1 hn (fun x hx => hlt x (by simp [hx]))) (Below.trod laidOut0 (by kernel_rfl) (of_decide_eq_true (by kernel_rfl)) h2 hn (fun x hx => hlt x (by simp [hx]))),
    rfl, hn.frame _, fun h => by cases h⟩

theorem topLinksPlans_holds : Rows.TopLinksPlansSaid :=
  OpenClaim.holds_of_wide 3 Try.f3 rfl rfl rfl rfl rfl rfl rfl ⟨rfl, rfl, rfl, rfl, rfl⟩ rfl rfl rfl rfl rfl (by kernel_rfl) Try.func3 (by kernel_rfl)
    (of_decide_eq_true (by kernel_rfl)) (by unfold Func.isWrapper; first | (rw [if_pos (by decide +kernel)]; kernel_rfl) | (rw [if_neg (by decide +kernel)]; exact ⟨rfl, rfl⟩))
    (fun os started H enc _ => lifted0 os started H enc)

end Go.Proofs.Ytclhohfkacgooaa
