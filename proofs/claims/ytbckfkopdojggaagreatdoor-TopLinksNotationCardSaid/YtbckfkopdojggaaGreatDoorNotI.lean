/- card's reader of a notation: a word that is an entry. -/
import Derived.Test.YtbckfkopdojggaaGreatDoorNotH
import Derived.Test.YtbckfkopdojggaaGreatDoorMgB
set_option linter.unusedVariables false
set_option linter.unusedSimpArgs false
namespace Go.Proofs.YtbckfkopdojggaaGreatDoor
open Go Go.RowKit

theorem ReaderR.below {w w' : World} {b base : Nat} {v : Value} {l : List (Int × ByteArray)} {q : Bool} (h : ReaderR w b base v l q) (hb : Below w.heap.size w w') : ReaderR w' b base v l q :=
  ⟨h.blk.below hb h.blk.lt, h.own.below hb, h.lo, Nat.le_trans h.hi hb.size⟩
theorem AddOut.before {b base : Nat} {l : List (Int × ByteArray)} {w w1 w' : World} {e : Ending} (h : AddOut b base l w1 e w') (hb : Below w.heap.size w w1) (h1 : b < base) (h2 : base ≤ w.heap.size) : AddOut b base l w e w' := by
  obtain ⟨v, rfl, hr, hb2, hk, hko⟩ := h
  exact ⟨v, rfl, hr, (hb.mono (by omega)).trans hb2, fun k hk1 hk2 => (hk k hk1 hk2).trans (hb.block k (by omega)), KeepsOthers.trans ⟨hb.size, fun k o hk _ => (hb.block k (Array.getElem?_eq_some_iff.1 hk).1).trans hk⟩ hko⟩

/-- The entry of a word: its strokes and its mark. -/
def enV (x : NotMath.En) : Int × ByteArray := ((x.n : Int), ⟨x.mark.toArray⟩)
/-- The error of a word that is an entry. -/
def takeE (l : List (Int × ByteArray)) (o : Option NotMath.En) (n : Nat) : Int := match o with
  | none => 25
  | some x => if entryI (enV x).1 (enV x).2 = 0 then addE l n else entryI (enV x).1 (enV x).2

set_option maxRecDepth 100000 in
set_option maxHeartbeats 1000000 in
theorem takeEntry_yes (b base : Nat) (v : Value) (l : List (Int × ByteArray)) (q : Bool) (s : ByteArray) (x : NotMath.En) (w : World) (hs : s.size ≤ 9223372036854775807) (hr : ReaderR w b base v l q)
    (hx : NotMath.entryOf s.data.toList = some x) (he : entryI (enV x).1 (enV x).2 = 0) (hl : l.length + 1 ≤ 36) :
    Calls Tryz.prog 127 #[.pointer (some ⟨b, 0, none⟩), .string s] w (AddOut b base (l ++ [enV x]) w) := by
  have HR := Lib.hid hr
  have HE := Lib.hid (fun W => entryOf_any s W hs)
  have HX := Lib.hid hx
  have hz : (entryI (enV x).1 (enV x).2 != 0) = false := by rw [he]; rfl
  have HZ := Lib.hid he
  clear hr hx hs he
  go_enter Tryz.func127, Tryz.ntmps127
  go_wp2_with fail
  refine (HE.out _).mono ?_
  rintro e w1 ⟨rfl, hb1⟩
  rw [HX.out]
  have hv : entV (some x) = .agg #[.int .i64 (enV x).1, .string (enV x).2] := rfl
  rw [hv]
  have HB1 := Lib.hid hb1
  clear hv hb1
  generalize hy : enV x = y at HZ hz ⊢
  have HY := Lib.hid hy
  clear hy
  obtain ⟨n, m⟩ := y
  simp only at HZ hz ⊢
  go_wp2_with fail
  refine (checkEntry_any n m _).mono ?_
  rintro e w2 ⟨rfl, hb2⟩
  have hblk : BlkV w2 w1.heap.size 73 #[.int .i64 n, .string m] := (BlkV.new w1 73 #[.int .i64 n, .string m]).below hb2 (by simp)
  have hb3 : Below w.heap.size w w2 := (HB1.out.alloc HB1.out.size _).trans (hb2.mono (by have := HB1.out.size; simp; omega))
  have c0 := hblk.cell 0
  have c1 := hblk.cell 1
  have HB3 := Lib.hid hb3
  clear hb3 hblk hb2
  go_wp2_with fail
  refine (add_yes b base v l q n m 1 _ (HR.out.below HB3.out) (Nat.le_refl _) hl).mono ?_
  rintro e w3 hadd
  have hout := hadd.before HB3.out HR.out.lo HR.out.hi
  obtain ⟨v', rfl, hrest⟩ := hout
  have HREST := Lib.hid hrest
  clear hrest hadd
  go_wp2
  go_ret
  rw [HY.out]
  exact ⟨v', rfl, HREST.out⟩
end Go.Proofs.YtbckfkopdojggaaGreatDoor
