/- The law FormatSums where its premises fail: chapter 5's fixed examples. -/
import Derived.Test.YtndalbcmmdinhaaGreatDoorAwkD
import Derived.Test.YtndalbcmmdinhaaGreatDoorSumA
import Derived.Test.YtndalbcmmdinhaaGreatDoorSumB
import Derived.Outline
set_option linter.unusedVariables false
set_option linter.unusedSimpArgs false
namespace Go.Proofs.YtndalbcmmdinhaaGreatDoor
open Go.RowKit

theorem PlayersR.one {w : World} {g T : Nat} {nm : ByteArray} {l : List (Int × ByteArray)} {h : Int} {B : Option Addr} {d : Nat} (hb : BlkV w g T #[.string nm, .slice B l.length d, .int .i64 h]) (he : EntriesR w B l) :
    PlayersR w (some ⟨g, 0, none⟩) [⟨nm, l, h⟩] := fun j hj =>
  match j, hj with
  | 0, _ => ⟨_, B, d, rfl, by rw [add_zero_at]; exact hb.cell 0, by rw [add_zero_at]; exact hb.cell 1, by rw [add_zero_at]; exact hb.cell 2, by rw [add_zero_at]; exact hb.lt, he⟩

set_option maxRecDepth 100000 in
set_option maxHeartbeats 2000000 in
theorem sums_many (A B : Option Addr) (c d : Nat) (hs : List (Int × Int)) (nm : ByteArray) (l : List (Int × ByteArray)) (h : Int) (w : World) (he : EntriesR w B l) (hf : fewB hs.length [⟨nm, l, h⟩] = false) :
    Calls Tryz.prog 7 #[.slice A hs.length c, .agg #[.string nm, .slice B l.length d, .int .i64 h]] w fun e w' => e = .returned (.bool true) ∧ Below w.heap.size w w' := by
  have HE := Lib.hid he
  have HF := Lib.hid hf
  clear he hf
  go_enter Tryz.func7, Tryz.ntmps7
  go_wp2_with fail
  generalize hW1 : (w.alloc (.cells #[.string nm, .slice B l.length d, .int .i64 h] 37)).alloc (.cells #[.string nm, .slice B l.length d, .int .i64 h] 37) = w1
  obtain ⟨a1, a2, a3, a4⟩ := two_allocs w _ _ _ _ hW1
  have HB1 := Lib.hid a3
  refine (few_any _ _ 1 c hs.length [⟨nm, l, h⟩] w1 (PlayersR.one a2 (HE.out.keep a3)) (by simp)).mono ?_
  rintro e w2 ⟨rfl, hb2⟩
  rw [HF.out]
  have HB2 := Lib.hid (HB1.out.trans (hb2.mono HB1.out.size))
  clear hW1 a1 a2 a3 a4 hb2
  go_wp2_with fail
  refine (awake_any _).mono ?_
  rintro e w3 ⟨rfl, hb3⟩
  have HB3 := Lib.hid (HB2.out.trans (hb3.mono HB2.out.size))
  clear hb3
  go_wp2
  go_ret
  exact ⟨rfl, HB3.out⟩

set_option maxRecDepth 100000 in
set_option maxHeartbeats 2000000 in
theorem sums_wrong (A B : Option Addr) (c d : Nat) (hs : List (Int × Int)) (nm : ByteArray) (l : List (Int × ByteArray)) (h : Int) (w : World) (hr : HolesR w A hs) (hbl : ∀ a, A = some a → a.block < w.heap.size) (he : EntriesR w B l) (hf : fewB hs.length [⟨nm, l, h⟩] = true)
    (hl : hs.length ≤ 4611686018427387904) (hl2 : l.length ≤ 4611686018427387904) (hn : playerI hs nm l h ≠ 0) :
    Calls Tryz.prog 7 #[.slice A hs.length c, .agg #[.string nm, .slice B l.length d, .int .i64 h]] w fun e w' => e = .returned (.bool true) ∧ Below w.heap.size w w' := by
  have HE := Lib.hid he
  have HF := Lib.hid hf
  have HC := Lib.hid (fun W (hb : Below w.heap.size w W) => refPlayer_any A B c d hs nm l h W (hr.keep hbl hb) (fun a ha => Nat.lt_of_lt_of_le (hbl a ha) hb.size) hl (he.keep hb) hl2)
  have hnb : (playerI hs nm l h != 0) = true := by simpa using hn
  clear he hf hr hbl hn
  generalize playerI hs nm l h = q at HC hnb
  go_enter Tryz.func7, Tryz.ntmps7
  go_wp2_with fail
  generalize hW1 : (w.alloc (.cells #[.string nm, .slice B l.length d, .int .i64 h] 37)).alloc (.cells #[.string nm, .slice B l.length d, .int .i64 h] 37) = w1
  obtain ⟨a1, a2, a3, a4⟩ := two_allocs w _ _ _ _ hW1
  have HB1 := Lib.hid a3
  refine (few_any _ _ 1 c hs.length [⟨nm, l, h⟩] w1 (PlayersR.one a2 (HE.out.keep a3)) (by simp)).mono ?_
  rintro e w2 ⟨rfl, hb2⟩
  rw [HF.out]
  have hbx := a1.below hb2 a1.lt
  have HB2 := Lib.hid (HB1.out.trans (hb2.mono HB1.out.size))
  have k0 := hbx.cell 0
  have k1 := hbx.cell 1
  have k2 := hbx.cell 2
  simp only [List.getElem?_toArray, List.getElem?_cons_zero, List.getElem?_cons_succ] at k0 k1 k2
  clear hW1 a1 a2 a3 a4 hb2 hbx
  go_wp2_with fail
  refine (HC.out w2 HB2.out).mono ?_
  rintro e w3 ⟨rfl, hb3⟩
  have HB3 := Lib.hid (HB2.out.trans (hb3.mono HB2.out.size))
  clear hb3 k0 k1 k2
  go_wp2_with fail
  refine (awake_any _).mono ?_
  rintro e w4 ⟨rfl, hb4⟩
  have HB4 := Lib.hid (HB3.out.trans (hb4.mono HB3.out.size))
  clear hb4
  go_wp2
  go_ret
  exact ⟨rfl, HB4.out⟩
end Go.Proofs.YtndalbcmmdinhaaGreatDoor
