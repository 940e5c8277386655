/- card's notation: the word of an entry. -/
import Derived.Test.YtbckfkopdojggaaGreatDoorNotO
set_option linter.unusedVariables false
set_option linter.unusedSimpArgs false
namespace Go.Proofs.YtbckfkopdojggaaGreatDoor
open Go Go.RowKit

theorem digits_dec : ∀ n, n < 100 → Lib.decDigits n = NotMath.digits n := by decide +kernel

theorem len_dec : ∀ n, n < 100 → (Lib.decDigits n).length ≤ 2 := by decide +kernel

set_option maxHeartbeats 400000 in
theorem markC_any (n : Nat) (h : n < 100) (w : World) :
    Calls Tryz.prog 168 #[.int .i64 (n : Int)] w fun e w' => e = .returned (.string ⟨(NotMath.digits n ++ [99]).toArray⟩) ∧ w' = w := by
  have HI := Lib.hid (Tryz.strconv_Itoa_small n h w)
  have hl := len_dec n h
  have hd : ((⟨(Lib.decDigits n).toArray⟩ : ByteArray) ++ ⟨#[99]⟩) = ⟨(NotMath.digits n ++ [99]).toArray⟩ := by
    rw [digits_dec n h]
    apply ByteArray.ext
    simp
  go_enter Tryz.func168, Tryz.ntmps168
  go_wp2_with fail
  refine HI.out.mono ?_
  rintro e w1 ⟨rfl, rfl⟩
  go_wp2
  go_ret
  exact ⟨by rw [← hd]; rfl, rfl⟩
set_option maxHeartbeats 400000 in
theorem markX_any (n : Int) (w : World) :
    Calls Tryz.prog 169 #[.int .i64 n] w fun e w' => e = .returned (.string ⟨#[120]⟩) ∧ w' = w := by
  go_enter Tryz.func169, Tryz.ntmps169
  go_wp2
  go_ret
  exact ⟨rfl, rfl⟩
set_option maxHeartbeats 400000 in
theorem markD_any (n : Int) (w : World) :
    Calls Tryz.prog 170 #[.int .i64 n] w fun e w' => e = .returned (.string ⟨#[45]⟩) ∧ w' = w := by
  go_enter Tryz.func170, Tryz.ntmps170
  go_wp2
  go_ret
  exact ⟨rfl, rfl⟩

/-- The function of a mark that makes its word. -/
theorem word_call (x : NotMath.En) (h : NotMath.okE x = true) : ∃ f g, markVal ⟨x.mark.toArray⟩ = some (f, g) ∧
    (g = 118 ∨ g = 168 ∨ g = 169 ∨ g = 170) ∧
    ∀ w, Calls Tryz.prog g #[.int .i64 (x.n : Int)] w fun e w' => e = .returned (.string ⟨(NotMath.wordE x).toArray⟩) ∧ w' = w := by
  obtain ⟨n, m⟩ := x
  rcases NotMath.marks_of h with ⟨h0, h1, h2⟩ | ⟨h0, h1, h2⟩ | ⟨h0, h1⟩ | ⟨h0, h1⟩
  all_goals
    simp only at h0 h1
    subst h0
  · refine ⟨_, _, by unfold markVal; rw [show markK ⟨([] : List UInt8).toArray⟩ = 0 by decide +kernel]; rfl, .inl rfl, fun w => ?_⟩
    have e : NotMath.wordE ⟨n, []⟩ = NotMath.digits n := by simp [NotMath.wordE]
    rw [e, ← digits_dec n h2]
    exact Tryz.strconv_Itoa_small n h2 w
  · refine ⟨_, _, by unfold markVal; rw [show markK ⟨([99] : List UInt8).toArray⟩ = 1 by decide +kernel]; rfl, .inr (.inl rfl), fun w => ?_⟩
    have e : NotMath.wordE ⟨n, [99]⟩ = NotMath.digits n ++ [99] := by simp [NotMath.wordE]
    rw [e]
    exact markC_any n h2 w
  · refine ⟨_, _, by unfold markVal; rw [show markK ⟨([120] : List UInt8).toArray⟩ = 2 by decide +kernel]; rfl, .inr (.inr (.inl rfl)), fun w => ?_⟩
    exact markX_any _ w
  · refine ⟨_, _, by unfold markVal; rw [show markK ⟨([45] : List UInt8).toArray⟩ = 3 by decide +kernel]; rfl, .inr (.inr (.inr rfl)), fun w => ?_⟩
    exact markD_any _ w

theorem run_look_one {P : Program} (w : World) {t kt et : TypeId} {d : TypeDesc} {es : Array MapEntry} {clock b i : Nat} {v : Value} (hm : P.underlying t = some (.map kt et)) (hd : P.underlying kt = some d)
    (hb : w.heap[b]? = some (.map es clock)) (key : Value) (hk : MapKept.IsKey d key) (hf : Instr.findNow d key es.toList 0 = some (some (i, v))) :
    (Instr.lookup t (.map (some b)) key false).run P w = .ok v w := by
  unfold Instr.lookup
  simp only [Sem.run_bind, run_underlying hm, Result.andThen_ok, MapKept.run_getObj_map hb, MapKept.run_checkKey hd hk, MapKept.run_findKey hd hf, Sem.run_pure]
  rfl

theorem look_mark (W : World) (b : Nat) (m : ByteArray) (f g : Nat) (hb : W.heap[b]? = some marksObj) (hv : markVal m = some (f, g)) :
    (Instr.lookup 182 (.map (some b)) (.string m) false).run Tryz.prog W = .ok (.agg #[fnV f, fnV g]) W := by
  unfold marksObj at hb
  unfold markVal at hv
  rcases mark_cases m with ⟨h1, h2, h3, h4, h5⟩ | ⟨h1, h2, h3, h4, h5⟩ | ⟨h1, h2, h3, h4, h5⟩ | ⟨h1, h2, h3, h4, h5⟩ | ⟨h1, h2, h3, h4, h5⟩
  · rw [h5] at hv
    have e := bytes_of_toList (List.isEmpty_iff.1 h1)
    subst e
    cases hv
    exact run_look_one (i := 0) W Tryz.underlying182 Tryz.underlying9 hb _ trivial (by kernel_rfl)
  · rw [h5] at hv
    have e := bytes_of_toList (beq_iff_eq.1 h2)
    subst e
    cases hv
    exact run_look_one (i := 1) W Tryz.underlying182 Tryz.underlying9 hb _ trivial (by kernel_rfl)
  · rw [h5] at hv
    have e := bytes_of_toList (beq_iff_eq.1 h3)
    subst e
    cases hv
    exact run_look_one (i := 2) W Tryz.underlying182 Tryz.underlying9 hb _ trivial (by kernel_rfl)
  · rw [h5] at hv
    have e := bytes_of_toList (beq_iff_eq.1 h4)
    subst e
    cases hv
    exact run_look_one (i := 3) W Tryz.underlying182 Tryz.underlying9 hb _ trivial (by kernel_rfl)
  · rw [h5] at hv; cases hv
end Go.Proofs.YtbckfkopdojggaaGreatDoor
