/- card's reader of a notation: a word that is a repetition. -/
import Derived.Test.YtbckfkopdojggaaGreatDoorNotI
set_option linter.unusedVariables false
set_option linter.unusedSimpArgs false
namespace Go.Proofs.YtbckfkopdojggaaGreatDoor
open Go Go.RowKit

set_option maxRecDepth 100000 in
set_option maxHeartbeats 2000000 in
theorem takeRepetition_yes (b base : Nat) (v : Value) (l : List (Int × ByteArray)) (q : Bool) (s : ByteArray) (p r : List UInt8) (k : Nat) (x : NotMath.En) (mx : Int) (w : World) (hs : s.size < 4294967281) (hm : w.cell? ⟨0, 0, none⟩ = some (.int .i64 mx))
    (hr : ReaderR w b base v l q) (hcut : Lib.cut s.data.toList [42] = (p, r, true)) (hps : p.length ≤ 9223372036854775807) (hrs : r.length ≤ 9223372036854775807) (hk : NotMath.num p = some k) (h2 : 2 ≤ k)
    (hx : NotMath.entryOf r = some x) (he : entryI (enV x).1 (enV x).2 = 0) (hl : l.length + k ≤ 36) :
    Calls Tryz.prog 126 #[.pointer (some ⟨b, 0, none⟩), .string s] w (AddOut b base (l ++ List.replicate k (enV x)) w) := by
  have HR := Lib.hid hr
  have HC := Lib.hid (Tryz.strings_Cut s ⟨#[42]⟩ mx w hs hm)
  have HI := Lib.hid (fun W => integerOf_any ⟨p.toArray⟩ W (by rw [Lib.size_eq]; simpa using hps))
  have HE := Lib.hid (fun W => entryOf_any ⟨r.toArray⟩ W (by rw [Lib.size_eq]; simpa using hrs))
  have HX := Lib.hid hx
  have HCUT : Hid (Lib.cut s.data.toList (⟨#[42]⟩ : ByteArray).data.toList = (p, r, true)) := hcut
  have HK := Lib.hid hk
  have hz : (entryI (enV x).1 (enV x).2 != 0) = false := by rw [he]; rfl
  have HZ := Lib.hid he
  have HW : Hid (withinI k 2 36 = 0) := Lib.hid (by unfold withinI; rw [if_pos (by omega)])
  clear hr hx hs he hcut hm hk hps hrs
  go_enter Tryz.func126, Tryz.ntmps126
  go_wp2_with fail
  refine HC.out.mono ?_
  rintro e w0 ⟨rfl, n0, hw0⟩
  have HB0 : Hid (Below w.heap.size w w0) := Lib.hid (by rw [hw0]; exact ⟨rfl, rfl, rfl, Nat.le_refl _, fun _ _ => rfl⟩)
  clear hw0
  rw [HCUT.out]
  go_wp2_with fail
  refine (HI.out _).mono ?_
  rintro e w1 ⟨rfl, hb1⟩
  have hki : numI (⟨p.toArray⟩ : ByteArray).data.toList = (k : Int) := by unfold numI; rw [show (⟨p.toArray⟩ : ByteArray).data.toList = p from rfl, HK.out]
  have hkb : wnumB (⟨p.toArray⟩ : ByteArray).data.toList = true := by unfold wnumB; rw [show (⟨p.toArray⟩ : ByteArray).data.toList = p from rfl, HK.out]; rfl
  rw [hki, hkb]
  have HB1 := Lib.hid (HB0.out.trans (hb1.mono HB0.out.size))
  clear hb1 hki hkb
  go_wp2_with fail
  refine (HE.out _).mono ?_
  rintro e w2 ⟨rfl, hb2⟩
  rw [HX.out]
  have hv : entV (some x) = .agg #[.int .i64 (enV x).1, .string (enV x).2] := rfl
  rw [hv]
  have HB2 := Lib.hid (HB1.out.trans (hb2.mono HB1.out.size))
  clear hv hb2
  generalize hy : enV x = y at HZ hz ⊢
  have HY := Lib.hid hy
  clear hy
  obtain ⟨n, m⟩ := y
  simp only at HZ hz ⊢
  go_wp2_with fail
  refine (checkEntry_any n m _).mono ?_
  rintro e w3 ⟨rfl, hb3⟩
  have hblk : BlkV w3 w2.heap.size 73 #[.int .i64 n, .string m] := (BlkV.new w2 73 #[.int .i64 n, .string m]).below hb3 (by simp)
  have HB3 := Lib.hid ((HB2.out.alloc HB2.out.size _).trans (hb3.mono (by have := HB2.out.size; simp; omega)))
  have HBLK := Lib.hid hblk
  clear hblk hb3
  go_wp2_with fail
  refine (within_any _ _ _ _).mono ?_
  rintro e w4 ⟨rfl, rfl⟩
  rw [HW.out, HZ.out]
  go_wp2_with fail
  have HB4 := Lib.hid (HB3.out.alloc HB3.out.size (.cells #[.int .i64 0, .int .i64 0] 36))
  have hblk := HBLK.out.alloc (.cells #[.int .i64 0, .int .i64 0] 36)
  have c0 := hblk.cell 0
  have c1 := hblk.cell 1
  clear hblk
  refine (first_any _ _ [0, 0] _ (by simp) (Ints.two _ _ _ _ _ rfl)).mono ?_
  rintro e w5 ⟨rfl, rfl⟩
  have hf : firstI [0, 0] = 0 := rfl
  rw [hf]
  clear hf
  go_wp2_with fail
  refine (add_yes b base v l q n m k _ (HR.out.below HB4.out) (by omega) hl).mono ?_
  rintro e w6 hadd
  have hout := hadd.before HB4.out HR.out.lo HR.out.hi
  obtain ⟨v', rfl, hrest⟩ := hout
  have HREST := Lib.hid hrest
  clear hrest hadd
  go_wp2
  go_ret
  rw [HY.out]
  exact ⟨v', rfl, HREST.out⟩
end Go.Proofs.YtbckfkopdojggaaGreatDoor
