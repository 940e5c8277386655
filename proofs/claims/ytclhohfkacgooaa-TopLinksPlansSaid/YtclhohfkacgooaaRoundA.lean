/- Rounds: the first rounds of the least number of rounds that serve. -/
import Derived.Test.YtclhohfkacgooaaWaterA
import Derived.Test.YtclhohfkacgooaaWaterC
import Derived.Test.YtclhohfkacgooaaFlowA
namespace Go.Proofs.Ytclhohfkacgooaa
open Go.RowKit WaterMath

def RoundsOut (fs : List Int) (limit : Int) (w : World) (e : Ending) (w' : World) : Prop :=
  ∃ n ss v, 1 ≤ n ∧ n ≤ fs.length ∧ wat fs (full n limit) = some ss ∧ (∀ k, 1 ≤ k → k < n → wat fs (full k limit) = none) ∧
    e = .returned (.tuple #[v, .int .i64 0]) ∧ w'.ownsRow w.heap.size 3 1 v ss.length (intsV ss) ∧ Below w.heap.size w w'

theorem full_bounds (n : Nat) (limit : Int) (h : 0 ≤ limit ∧ limit ≤ 999999999) (r : Nat) : 0 ≤ (full n limit).getD r 0 ∧ (full n limit).getD r 0 ≤ 999999999 := by
  unfold full
  simp only [List.getD, List.getElem?_replicate]
  split <;> simp <;> omega

set_option maxRecDepth 100000 in
set_option maxHeartbeats 2000000 in
theorem rounds_any (A : Option Addr) (c B : Nat) (fs : List Int) (limit : Int) (w : World) (hl : fs.length ≤ 8) (hl0 : 0 < fs.length) (hlc : fs.length ≤ c) (hlim : 1 ≤ limit ∧ limit ≤ 999999999) (hB : B ≤ w.heap.size) (hr : IntsAt w B A fs) (hfl : ∀ f ∈ fs, 1 ≤ f ∧ f ≤ limit) :
    Calls Try.prog 8 #[.slice A fs.length c, .int .i64 limit] w (RoundsOut fs limit w) := by
  have HCK := Lib.hid (checkFlows_ok A c B fs limit w hl hl0 hlim hB hr hfl)
  have HR := Lib.hid hr
  have HF : Hid (∀ f ∈ fs, 1 ≤ f ∧ f ≤ 999999999) := fun f hf => by have := hfl f hf; omega
  have HEN := Lib.hid (enough fs limit (by omega) fun f hf => by have := hfl f hf; omega)
  clear hr hfl
  go_enter Try.func8, Try.ntmps8
  go_wp2_with fail
  refine HCK.out.mono ?_
  rintro e w1 ⟨rfl, hb1⟩
  have HB1 := Lib.hid hb1
  clear hb1 HCK
  go_wp2
  go_loopw [7] (fun i wr => ∃ k : Nat, 1 ≤ k ∧ k ≤ fs.length ∧ i = .int .i64 k ∧ (∀ j, 1 ≤ j → j < k → wat fs (full j limit) = none) ∧ Below w.heap.size w wr) (fun i _ => fs.length - (intOf i).toNat)
  case atStart => exact ⟨1, Nat.le_refl _, hl0, rfl, fun j h1 h2 => absurd h2 (by omega), HB1.out⟩
  case round =>
    obtain ⟨k, hk1, hk, rfl, hno, hbel⟩ := hrel
    have HNO := Lib.hid hno
    have HBEL := Lib.hid hbel
    have hsz := hbel.size
    clear hno hbel
    go_wp2_with fail
    refine (repeat_any k limit wr.heap.size _ hk1 (by omega) (RowI.new wr [limit])).mono ?_
    rintro e w2 ⟨rfl, hrow, hb2⟩
    have hg : (wr.alloc (.cells (rowI [limit]) 3)).heap.size = wr.heap.size + 1 := World.size_alloc _ _
    have HB2 : Hid (Below w.heap.size w w2) := Lib.hid ((HBEL.out.alloc hsz _).trans (hb2.mono (by rw [hg]; omega)))
    have hs2 := hrow.lt
    have HW := Lib.hid (watered_any fs A c (full k limit) (wr.alloc (.cells (rowI [limit]) 3)).heap.size w2 hl hlc HF.out (by rw [full_length]; omega) (full_bounds k limit (by omega)) ((HR.out.below (HB2.out.mono hB)).mono (by rw [hg]; omega)) hrow)
    rw [full_length, hg] at HW
    clear hrow hb2
    go_wp2_with fail
    refine HW.out.mono ?_
    rintro e w3 ⟨hres, hb3⟩
    have HB3 : Hid (Below w.heap.size w w3) := Lib.hid (HB2.out.trans (hb3.mono HB2.out.size))
    clear hb3 HW
    rcases hres with ⟨hn, rfl⟩ | ⟨ss, v, hs, rfl, hown⟩
    · have hne : k ≠ fs.length := fun e => by
        obtain ⟨tt, ht⟩ := HEN.out
        rw [← e, hn] at ht; cases ht
      have HN := Lib.hid hn
      clear hn
      go_wp2
      go_roundw
      case rel =>
        refine ⟨k + 1, by omega, by omega, by go_num, fun j h1 h2 => ?_, HB3.out⟩
        by_cases e : j = k
        · subst e; exact HN.out
        · exact HNO.out j h1 (by omega)
      case measure => simp [intOf]; omega
    · have HS := Lib.hid hs
      have HOWN := Lib.hid (ownsRow_base hown (HB2.out.size))
      clear hs hown
      go_wp2
      go_ret2
      exact ⟨k, ss, v, hk1, hk, HS.out, HNO.out, rfl, HOWN.out, HB3.out⟩

end Go.Proofs.Ytclhohfkacgooaa
