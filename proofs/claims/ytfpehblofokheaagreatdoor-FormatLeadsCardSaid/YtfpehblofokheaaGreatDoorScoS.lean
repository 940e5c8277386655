/- The reference's Gross and Score. -/
import Derived.Test.YtfpehblofokheaaGreatDoorScoA
import Derived.Test.YtfpehblofokheaaGreatDoorMgD
import Derived.Outline
set_option linter.unusedVariables false
set_option linter.unusedSimpArgs false
namespace Go.Proofs.YtfpehblofokheaaGreatDoor
open Go.RowKit

/-- The mark of a hole that counts for no score. -/
def crossB (m : ByteArray) : Bool := decide (markK m = 2) || decide (markK m = 3)
theorem netV_counts (g : Int) (e : Int × ByteArray) : countsB (netV g e).2 = !crossB e.2 := by
  unfold netV crossB countsB
  rcases mark_cases e.2 with ⟨h1, h2, h3, h4, h5⟩ | ⟨h1, h2, h3, h4, h5⟩ | ⟨h1, h2, h3, h4, h5⟩ | ⟨h1, h2, h3, h4, h5⟩ | ⟨h1, h2, h3, h4, h5⟩
  all_goals
    rw [h5]
    simp [h1, noMark]
    try rfl
theorem nets_cross : ∀ (gs : List Int) (l : List (Int × ByteArray)), gs.length = l.length → allCount (netsL gs l) = l.all fun e => !crossB e.2
  | [], [], _ => rfl
  | g :: gs, e :: l, h => by
    have ih := nets_cross gs l (by simpa using h)
    unfold allCount netsL at ih ⊢
    simp only [List.zip_cons_cons, List.map_cons, List.all_cons, ih, netV_counts]
  | [], _ :: _, h => by simp at h
  | _ :: _, [], h => by simp at h
/-- A sum that there is only if all holes count. -/
def wholeB (ok : Bool) (s : Int) : Int × Bool := if ok then (s, true) else (0, false)
theorem all_takeC {α : Type} (f : α → Bool) (l : List α) (k : Nat) (d : α) (h : k < l.length) : (l.take (k + 1)).all f = ((l.take k).all f && f (l.getD k d)) := by
  rw [List.take_succ_eq_append_getElem h, List.all_append]
  simp [List.getD, List.getElem?_eq_getElem h]
theorem all_atC {α : Type} {f : α → Bool} {l : List α} {k : Nat} {d : α} (h : k < l.length) (hf : f (l.getD k d) = false) : l.all f = false :=
  List.all_eq_false.2 ⟨l[k], List.getElem_mem h, by
    have e : l.getD k d = l[k] := by simp [List.getD, List.getElem?_eq_getElem h]
    rw [e] at hf
    simp [hf]⟩

set_option maxRecDepth 100000 in
set_option maxHeartbeats 8000000 in
theorem refScore_any (A B : Option Addr) (c d : Nat) (hs : List (Int × Int)) (nm : ByteArray) (l : List (Int × ByteArray)) (h : Int) (w : World) (hr : HolesR w A hs) (hbl : ∀ a, A = some a → a.block < w.heap.size) (he : EntriesR w B l) (hn : playerI hs nm l h = 0)
    (HZ : ∀ x ∈ hs, 1 ≤ x.2 ∧ x.2 ≤ hs.length) (hsm : Small (netsOf hs h l)) (hll : (netsOf hs h l).length ≤ 1000) :
    Calls Tryz.prog 46 #[.slice A hs.length c, .agg #[.string nm, .slice B l.length d, .int .i64 h]] w fun e w' => e = .returned (.tuple #[.int .i64 (wholeB (allCount (netsOf hs h l)) (sumS (netsOf hs h l))).1, .bool (wholeB (allCount (netsOf hs h l)) (sumS (netsOf hs h l))).2]) ∧ Below w.heap.size w w' := by
  have HN := Lib.hid (fun W (hb : Below w.heap.size w W) => refNets_any A B c d hs nm l h W (hr.keep hbl hb) (fun a ha => Nat.lt_of_lt_of_le (hbl a ha) hb.size) (he.keep hb) hn HZ)
  clear hr hbl he hn HZ
  have HS := Lib.hid hsm
  generalize netsOf hs h l = nl at HN HS hll ⊢
  clear hsm
  obtain ⟨ok, hok⟩ : ∃ ok, allCount nl = ok := ⟨_, rfl⟩
  rw [hok]
  have HOK := Lib.hid hok
  have HSUM : Hid (sumS nl = ForMath.sumI (firsts nl)) := Lib.hid rfl
  clear hok
  go_enter Tryz.func46, Tryz.ntmps46
  go_wp2_with fail
  obtain ⟨w1, hW1⟩ : ∃ w1, w.alloc (.cells #[.string nm, .slice B l.length d, .int .i64 h] 68) = w1 := ⟨_, rfl⟩
  rw [hW1]
  have HB1 : Hid (Below w.heap.size w w1) := Lib.hid (by subst hW1; exact (Below.refl _ _).alloc (Nat.le_refl _) _)
  clear hW1
  refine (HN.out w1 HB1.out).mono ?_
  rintro e w2 ⟨v, rfl, hown, hb2⟩
  have HB2 := Lib.hid (HB1.out.trans (hb2.mono HB1.out.size))
  obtain ⟨A2, c2, rfl, hent⟩ := hown.entries
  have HE := Lib.hid hent
  clear hown hb2 hent HN HB1
  go_wp2
  go_loopw [7, 8] (fun nv kv w' => ∃ k : Nat, k ≤ nl.length ∧ kv = .int .i64 k ∧ nv = .int .i64 (ForMath.sumI ((firsts nl).take k)) ∧ (nl.take k).all (fun e => countsB e.2) = true ∧ w2 = w') (fun _ kv _ => nl.length - (intOf kv).toNat)
  case atStart => exact ⟨0, Nat.zero_le _, rfl, rfl, rfl, rfl⟩
  case round =>
    obtain ⟨k, hk, rfl, rfl, hall, rfl⟩ := hrel
    have HALL := Lib.hid hall
    clear hall
    have hk0 : (0 : Int) ≤ (k : Int) := Int.natCast_nonneg _
    have sb := sumI_take_bound (firsts nl) k (by rw [firsts_len]; omega) HS.out
    by_cases hlt : k < nl.length
    · have hk1 : (k : Int) < (nl.length : Int) := by omega
      obtain ⟨ea, rfl, d0, d1, _⟩ := HE.out k hlt
      have HTS := Lib.hid (sumI_take (firsts nl) k (by rw [firsts_len]; exact hlt))
      rw [firsts_at nl k hlt] at HTS
      have hsb := HS.out.at k hlt
      have HTA := Lib.hid (all_takeC (fun e => countsB e.2) nl k (0, ByteArray.empty) hlt)
      have HAF := Lib.hid (fun hf => all_atC (f := fun e : Int × ByteArray => countsB e.2) (d := (0, ByteArray.empty)) hlt hf)
      generalize nl.getD k (0, ByteArray.empty) = en at d0 d1 HTS hsb HTA HAF
      obtain ⟨s, m⟩ := en
      simp only at d0 d1 HTS hsb HTA HAF
      generalize ForMath.sumI ((firsts nl).take k) = t at sb HTS
      have hwr : IntKind.i64.wrap (t + s) = t + s := IntWalk.i64_in _ (by omega)
      cases hm : m.toList.isEmpty
      · have hz : ok = false := by rw [← HOK.out]; exact HAF.out hm
        have HZ2 := Lib.hid hz
        clear hz
        go_wp2
        go_ret2
        have hz := HZ2.out
        subst hz
        exact ⟨rfl, HB2.out⟩
      · have HM := Lib.hid (show countsB m = true from hm)
        go_wp2
        go_roundw
        case rel => exact ⟨k + 1, by omega, by go_num, by rw [HTS.out], by rw [HTA.out, HALL.out, HM.out]; rfl, by simp⟩
        case measure => simp [intOf]; omega
    · have HF : Hid ((firsts nl).take k = firsts nl) := Lib.hid (List.take_of_length_le (by rw [firsts_len]; omega))
      have HF2 : Hid (ok = true) := Lib.hid (by rw [← HOK.out]; have := HALL.out; rwa [List.take_of_length_le (by omega)] at this)
      go_wp2
      go_ret2
      have hz := HF2.out
      subst hz
      refine ⟨?_, HB2.out⟩
      rw [HF.out]
      rfl
end Go.Proofs.YtfpehblofokheaaGreatDoor
