/- Merged: FrKC. -/
import Derived.Test.YtbckfkopdojggaaGreatDoorMgE
/- Nets. -/
set_option linter.unusedVariables false
set_option linter.unusedSimpArgs false
namespace Go.Proofs.YtbckfkopdojggaaGreatDoor
open Go.RowKit

/-- Net strokes beside no error. -/
def NetsOut (nl : List (Int × ByteArray)) (w : World) (e : Ending) (w' : World) : Prop :=
  ∃ A c, e = .returned (.tuple #[.slice A nl.length c, .int .i64 0]) ∧ EntriesR w' A nl ∧ (∀ a, A = some a → w.heap.size ≤ a.block) ∧ Below w.heap.size w w'

set_option maxRecDepth 100000 in
set_option maxHeartbeats 1000000 in
theorem fmNets_yes (A B : Option Addr) (c d : Nat) (hs : List (Int × Int)) (nm : ByteArray) (l : List (Int × ByteArray)) (h : Int) (w : World) (hr : HolesR w A hs) (hbl : ∀ a, A = some a → a.block < w.heap.size)
    (he : EntriesR w B l) (hn : playerI hs nm l h = 0) :
    Calls Tryz.prog 31 #[.slice A hs.length c, .agg #[.string nm, .slice B l.length d, .int .i64 h]] w (NetsOut (netsOf hs h l) w) := by
  have HC := Lib.hid (fun W (hb : Below w.heap.size w W) => readRound_yes A B c d hs nm l h W (hr.keep hbl hb) (fun a ha => Nat.lt_of_lt_of_le (hbl a ha) hb.size) (he.keep hb) hn)
  clear hr hbl hn he
  generalize netsOf hs h l = nl at HC ⊢
  go_enter Tryz.func31, Tryz.ntmps31
  go_wp2_with fail
  refine (HC.out _ ((Below.refl _ _).alloc (Nat.le_refl _) _)).mono ?_
  rintro e w1 ⟨A', c', rfl, hent, hge, hb1⟩
  have HENT := Lib.hid hent
  have HGE : Hid (∀ a, A' = some a → w.heap.size ≤ a.block) := Lib.hid (fun a ha => by have := hge a ha; simp at this; omega)
  have HB1 := Lib.hid (((Below.refl w.heap.size w).alloc (Nat.le_refl _) (.cells #[.string nm, .slice B l.length d, .int .i64 h] 55)).trans (hb1.mono (by simp)))
  clear hb1 HC hent hge
  go_wp2
  go_ret2
  exact ⟨A', c', rfl, HENT.out.keep ((Below.refl _ _).alloc (Nat.le_refl _) _), HGE.out, HB1.out.alloc HB1.out.size _⟩

set_option maxRecDepth 100000 in
set_option maxHeartbeats 1000000 in
theorem fmNets_no (A B : Option Addr) (c d : Nat) (hs : List (Int × Int)) (nm : ByteArray) (l : List (Int × ByteArray)) (h : Int) (w : World) (hr : HolesR w A hs) (hbl : ∀ a, A = some a → a.block < w.heap.size)
    (hl : hs.length ≤ 4611686018427387904) (he : EntriesR w B l) (hl2 : l.length ≤ 4611686018427387904) (hn : playerI hs nm l h ≠ 0) :
    Calls Tryz.prog 31 #[.slice A hs.length c, .agg #[.string nm, .slice B l.length d, .int .i64 h]] w fun e w' => e = .returned (.tuple #[.slice none 0 0, .int .i64 (playerI hs nm l h)]) ∧ Below w.heap.size w w' := by
  have HC := Lib.hid (fun W (hb : Below w.heap.size w W) => readRound_no A B c d hs nm l h W (hr.keep hbl hb) (fun a ha => Nat.lt_of_lt_of_le (hbl a ha) hb.size) hl (he.keep hb) hl2 hn)
  clear hr hbl he hn
  generalize playerI hs nm l h = q at HC ⊢
  go_enter Tryz.func31, Tryz.ntmps31
  go_wp2_with fail
  refine (HC.out _ ((Below.refl _ _).alloc (Nat.le_refl _) _)).mono ?_
  rintro e w1 ⟨rfl, hb1⟩
  have HB1 := Lib.hid (((Below.refl w.heap.size w).alloc (Nat.le_refl _) (.cells #[.string nm, .slice B l.length d, .int .i64 h] 55)).trans (hb1.mono (by simp)))
  clear hb1 HC
  go_wp2
  go_ret2
  exact ⟨rfl, HB1.out.alloc HB1.out.size _⟩

end Go.Proofs.YtbckfkopdojggaaGreatDoor
