/- The words of a text as an iterator. -/
import Derived.Test.YtbckfkopdojggaaGreatDoorNotK
import Derived.Test.YtbckfkopdojggaaGreatDoorShelf
import Derived.Below
import Derived.Lib.Hide
import Derived.StillTailTactics
import Derived.RangeFuncNested
import Derived.RangeFuncBound
import Derived.RangeFuncCalls
import Derived.RangeFuncLeaves
import Derived.Shelf.Abstract
import Derived.Shelf.RegionOpen
import Derived.OwnWalkIn
import Derived.TacticsInMore
import Derived.LoopNIn
import Derived.LoopIn
import Derived.Lib.QuietBelowIn
import Derived.Outline
set_option linter.unusedVariables false
set_option linter.unusedSimpArgs false
namespace Go.Proofs.YtbckfkopdojggaaGreatDoor
open Go Go.RowKit Go.Shelf

attribute [local go_sem] Oper.semAt_some

theorem cut_len {s : List UInt8} {c : UInt8} {p r : List UInt8} {f : Bool} (h : Lib.cut s [c] = (p, r, f)) : p.length ≤ s.length := by
  rcases cut_one s c with ⟨p', r', e1, e2, _⟩ | ⟨e1, _⟩
  · rw [e1] at h
    have := (Prod.mk.inj h).1
    subst this
    rw [e2]; simp
  · rw [e1] at h
    have := (Prod.mk.inj h).1
    subst this
    exact Nat.le_refl _

def numbered : Nat → List (List UInt8) → List (Nat × List UInt8)
  | _, [] => []
  | k, t :: ts => (k, t) :: numbered (k + 1) ts
theorem numbered_append : ∀ (k : Nat) (a b : List (List UInt8)), numbered k (a ++ b) = numbered k a ++ numbered (k + a.length) b
  | k, [], b => by simp [numbered]
  | k, t :: a, b => by
    simp only [List.cons_append, numbered, numbered_append (k + 1) a b, List.length_cons]
    rw [show k + 1 + a.length = k + (a.length + 1) by omega]
theorem numbered_len : ∀ (k : Nat) (a : List (List UInt8)), (numbered k a).length = a.length
  | _, [] => rfl
  | k, t :: a => by simp [numbered, numbered_len (k + 1) a]
theorem splitB_len : ∀ s : List UInt8, (NotMath.splitB s).length ≤ s.length + 1
  | [] => by simp [NotMath.splitB]
  | c :: t => by
    have := splitB_len t
    unfold NotMath.splitB
    split
    · simp; omega
    · split
      · simp
      · rename_i h; rw [h] at this; simp at this ⊢; omega
def encW (x : Nat × List UInt8) : Array Value := #[.int .i64 (x.1 : Nat), .string ⟨x.2.toArray⟩]

/-- Where the iterator stands: the words that it has handed over, and the rest of the text, if there is more. -/
def AtW (s : List UInt8) (pre : List (List UInt8)) (t : List UInt8) (more : Bool) : Prop := NotMath.splitB s = if more = true then pre ++ NotMath.splitB t else pre
def leftW (r m : Value) : Nat := match r, m with
  | .string s, .bool true => s.size + 1
  | _, _ => 0

set_option maxRecDepth 100000 in
set_option maxHeartbeats 20000000 in
theorem words1_in (n : Nat) (hn : 1 ≤ n) (l Ba n₀ : Nat) (s : ByteArray) (mx : Int) (h64 : s.size ≤ 100000) (h0n : 0 < n₀)
    (J Jx : List (Nat × List UInt8) → World → Prop) (hJd : ∀ pre W k, J pre W → J pre (W.drewN k))
    (hY : ∀ pre x W, x.2.length ≤ s.size → J pre W → pre.length < (NotMath.splitB s.data.toList).length → YieldAt Fence.wide (n - 1) Tryz.prog l (encW x) W fun e W' =>
      (e = .returned (.bool true) ∧ J (pre ++ [x]) W' ∧ Below n₀ W W') ∨ (e = .returned (.bool false) ∧ Jx (pre ++ [x]) W'))
    (W : World) (hBa : W.cell? ⟨Ba, 0, none⟩ = some (.string s)) (hm : W.cell? ⟨0, 0, none⟩ = some (.int .i64 mx)) (h0 : J [] W) :
    CallsIn Fence.wide n Tryz.prog 122 #[.func (.yield l) #[] #[], .pointer (some ⟨Ba, 0, none⟩)] W fun e W' => (∃ v, e = .returned v) ∧
      ((∃ ys, ys = numbered 1 (NotMath.splitB s.data.toList) ∧ J ys W') ∨ (∃ pre, pre <+: numbered 1 (NotMath.splitB s.data.toList) ∧ Jx pre W')) := by
  have HY := Lib.hid hY
  clear hY
  refine callsIn_of_wp Tryz.func122 rfl trivial ?_ rfl
  simp only [Tryz.ntmps122, List.size_toArray, List.length_cons, List.length_nil, Nat.reduceAdd, Nat.reduceSub, Array.replicate_succ, Array.replicate_zero, List.push_toArray, List.append_toArray, List.nil_append, List.cons_append]
  gi_wp2
  gi_loopw [3, 4, 5] (fun r m i wr => ∃ (pre : List (List UInt8)) (t : ByteArray) (more : Bool), r = .string t ∧ m = .bool more ∧ i = .int .i64 ((pre.length + 1 : Nat) : Int) ∧ t.size ≤ s.size ∧ Hid (AtW s.data.toList pre t.data.toList more) ∧ Hid (J (numbered 1 pre) wr) ∧ Hid (Below n₀ W wr)) (fun r m _ _ => leftW r m)
  case atStart => exact ⟨[], s, true, rfl, rfl, rfl, Nat.le_refl _, Lib.hid (by unfold AtW; rw [if_pos rfl]; rfl), Lib.hid h0, Lib.hid (Below.refl _ _)⟩
  case round =>
    obtain ⟨pre, t, more, rfl, rfl, rfl, hts, hat, hJ, hb⟩ := hrel
    have hat2 := hat.out
    unfold AtW at hat2
    cases more
    · rw [if_neg (by simp)] at hat2
      have HAT := Lib.hid hat2
      clear hat hat2
      gi_wp2
      go_end0
      exact ⟨⟨_, rfl⟩, .inl ⟨_, by rw [HAT.out], hJ.out⟩⟩
    · rw [if_pos rfl] at hat2
      have HAT := Lib.hid hat2
      have hlen := splitB_len s.data.toList
      rw [← Lib.size_eq] at hlen
      have hne : 0 < (NotMath.splitB t.data.toList).length := List.length_pos_iff.2 (NotMath.splitB_ne _)
      have hpl : pre.length < (NotMath.splitB s.data.toList).length := by rw [hat2, List.length_append]; omega
      have HC := Lib.hid (Tryz.strings_Cut t ⟨#[32]⟩ mx wr (by omega) ((hb.out.cell (p := ⟨0, 0, none⟩) h0n).trans hm))
      clear hat hat2 hBa hm h0
      gi_wp2_with fail
      refine ⟨trivial, (callsIn_wide.2 HC.out).mono ?_⟩
      rintro e w1 ⟨rfl, kd, hw1⟩
      obtain ⟨p, r, f, hcut, hsp, hrl, hrf, hpz⟩ : ∃ p r f, Lib.cut t.data.toList [32] = (p, r, f) ∧ NotMath.splitB t.data.toList = p :: (if f = true then NotMath.splitB r else []) ∧ r.length ≤ t.size ∧ (f = true → r.length < t.size) ∧ p.length ≤ t.size := by
        rcases cut_words t.data.toList with ⟨p, r, h1, h2, h3⟩ | ⟨h1, h2⟩
        · exact ⟨p, r, true, h1, by rw [h2, if_pos rfl], by rw [Lib.size_eq]; omega, (fun _ => by rw [Lib.size_eq]; exact h3), by rw [Lib.size_eq]; exact cut_len h1⟩
        · exact ⟨_, [], false, h1, by rw [h2, if_neg (by simp)], by simp, (fun h => by cases h), by rw [Lib.size_eq]; exact cut_len h1⟩
      have hcut2 : Lib.cut t.data.toList (⟨#[32]⟩ : ByteArray).data.toList = (p, r, f) := hcut
      rw [hcut2]
      have HB1 : Hid (Below n₀ wr w1) := Lib.hid (by rw [hw1]; exact ⟨rfl, rfl, rfl, Nat.le_refl _, fun _ _ => rfl⟩)
      have hJ1 : J (numbered 1 pre) w1 := by rw [hw1]; exact hJd _ _ _ hJ.out
      obtain ⟨fn, tmps, assign, body, hy, hR⟩ := HY.out (numbered 1 pre) (pre.length + 1, p) w1 (by show p.length ≤ s.size; omega) hJ1 (by rw [numbered_len]; exact hpl)
      have HNB : Hid (numbered 1 (pre ++ [p]) = numbered 1 pre ++ [(pre.length + 1, p)]) := Lib.hid (by rw [numbered_append, Nat.add_comm 1]; rfl)
      have HAT2 : Hid (NotMath.splitB s.data.toList = pre ++ [p] ++ if f = true then NotMath.splitB r else []) := Lib.hid (by rw [HAT.out, hsp, List.append_assoc]; rfl)
      have HRR := Lib.hid (hR.mono (R' := fun e W' => ∃ b : Bool, e = .returned (.bool b) ∧ Hid ((b = true ∧ J (numbered 1 pre ++ [(pre.length + 1, p)]) W' ∧ Below n₀ w1 W') ∨ (b = false ∧ Jx (numbered 1 pre ++ [(pre.length + 1, p)]) W'))) (by
        rintro e W' (⟨rfl, h1, h2⟩ | ⟨rfl, h1⟩)
        · exact ⟨true, rfl, .inl ⟨rfl, h1, h2⟩⟩
        · exact ⟨false, rfl, .inr ⟨rfl, h1⟩⟩))
      have HRL := Lib.hid hrl
      have HRF := Lib.hid hrf
      have hy2 : encW (pre.length + 1, p) = #[.int .i64 ((pre.length : Int) + 1), .string ⟨p.toArray⟩] := rfl
      rw [hy2] at hy
      clear hR hcut hcut2 hsp hrl hrf hJ1 hw1 hy2 HC HY hJd hne
      gi_wp2
      refine HRR.out.mono ?_
      rintro e W3 ⟨b, rfl, hbb⟩
      rcases hbb.out with ⟨rfl, hJ3, hk3⟩ | ⟨rfl, hJx3⟩
      · gi_wp2
        go_roundw
        case rel =>
          refine ⟨pre ++ [p], ⟨r.toArray⟩, f, rfl, rfl, by simp, ?_, Lib.hid ?_, Lib.hid (by rw [HNB.out]; exact hJ3), Lib.hid (hb.out.trans (HB1.out.trans hk3))⟩
          · have h9 : (⟨r.toArray⟩ : ByteArray).size = r.length := by rw [Lib.size_eq]
            have := HRL.out
            omega
          · unfold AtW
            rw [HAT2.out]
            cases f <;> simp
        case measure =>
          cases f
          · simp [leftW]
          · have := HRF.out rfl
            have h9 : (⟨r.toArray⟩ : ByteArray).size = r.length := by rw [Lib.size_eq]
            simp only [leftW]
            omega
      · gi_wp2
        refine bodyPost_ret (results_none rfl _ _ _) rfl ?_
        refine ⟨⟨_, rfl⟩, .inr ⟨_, ?_, hJx3⟩⟩
        rw [← HNB.out, HAT2.out, numbered_append 1 (pre ++ [p])]
        exact List.prefix_append _ _
end Go.Proofs.YtbckfkopdojggaaGreatDoor
