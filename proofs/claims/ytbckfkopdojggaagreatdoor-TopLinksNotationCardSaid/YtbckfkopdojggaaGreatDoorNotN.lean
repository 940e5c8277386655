/- card's reader of a notation: words with an error. -/
import Derived.Test.YtbckfkopdojggaaGreatDoorNotJ
set_option linter.unusedVariables false
set_option linter.unusedSimpArgs false
namespace Go.Proofs.YtbckfkopdojggaaGreatDoor
open Go Go.RowKit

set_option maxRecDepth 100000 in
set_option maxHeartbeats 2000000 in
theorem takeEntry_no (b base : Nat) (v : Value) (l : List (Int × ByteArray)) (q : Bool) (s : ByteArray) (w : World) (hs : s.size ≤ 9223372036854775807) (hr : ReaderR w b base v l q) (hl : l.length ≤ 36)
    (h : takeE l (NotMath.entryOf s.data.toList) 1 ≠ 0) :
    Calls Tryz.prog 127 #[.pointer (some ⟨b, 0, none⟩), .string s] w fun e w' => (∃ z : Int, z ≠ 0 ∧ e = .returned (.int .i64 z)) ∧ Below w.heap.size w w' := by
  have HR := Lib.hid hr
  have HE := Lib.hid (fun W => entryOf_any s W hs)
  clear hr hs
  rcases ho : NotMath.entryOf s.data.toList with _ | x
  · rw [ho] at HE
    clear h ho
    go_enter Tryz.func127, Tryz.ntmps127
    go_wp2_with fail
    refine (HE.out _).mono ?_
    rintro e w1 ⟨rfl, hb1⟩
    have hv : entV none = .agg #[.int .i64 0, .string ⟨#[]⟩] := rfl
    rw [hv, Option.isSome_none]
    have HB1 := Lib.hid hb1
    clear hv hb1
    go_wp2
    go_ret
    exact ⟨⟨25, by decide, rfl⟩, HB1.out.alloc HB1.out.size _⟩
  · rw [ho] at HE h
    have HH := Lib.hid h
    clear h ho
    generalize hy : enV x = y
    obtain ⟨n, m⟩ := y
    have HZ : Hid ((if entryI n m = 0 then addE l 1 else entryI n m) ≠ 0) := Lib.hid (by have := HH.out; unfold takeE at this; simp only [hy] at this; exact this)
    have hv : entV (some x) = .agg #[.int .i64 n, .string m] := by
      have : entV (some x) = .agg #[.int .i64 (enV x).1, .string (enV x).2] := rfl
      rw [this, hy]
    clear HH hy
    generalize hz : entryI n m = z at HZ
    have HZE := Lib.hid hz
    clear hz
    by_cases h0 : z = 0
    · subst h0
      have hx : 36 < l.length + 1 := by
        have := HZ.out
        rw [if_pos rfl, addE] at this
        by_cases g : 36 < l.length + 1
        · exact g
        · rw [if_neg g] at this; exact absurd rfl this
      clear HZ
      go_enter Tryz.func127, Tryz.ntmps127
      go_wp2_with fail
      refine (HE.out _).mono ?_
      rintro e w1 ⟨rfl, hb1⟩
      rw [hv, Option.isSome_some]
      have HB1 := Lib.hid hb1
      clear hv hb1
      go_wp2_with fail
      refine (checkEntry_any n m _).mono ?_
      rintro e w2 ⟨rfl, hb2⟩
      rw [HZE.out]
      have hblk : BlkV w2 w1.heap.size 73 #[.int .i64 n, .string m] := (BlkV.new w1 73 #[.int .i64 n, .string m]).below hb2 (by simp)
      have HB3 := Lib.hid ((HB1.out.alloc HB1.out.size (.cells #[.int .i64 n, .string m] 73)).trans (hb2.mono (by have := HB1.out.size; simp; omega)))
      have c0 := hblk.cell 0
      have c1 := hblk.cell 1
      clear hblk hb2
      go_wp2_with fail
      refine (add_no b base v l q n m 1 _ (HR.out.below HB3.out) hl (by omega) hx).mono ?_
      rintro e w3 ⟨rfl, hb3⟩
      have HB4 := Lib.hid (HB3.out.trans (hb3.mono HB3.out.size))
      clear hb3
      go_wp2
      go_ret
      exact ⟨⟨5, by decide, rfl⟩, HB4.out⟩
    · have hzb : (z != 0) = true := by rw [bne_iff_ne]; exact h0
      have HZ0 := Lib.hid h0
      clear HZ h0
      go_enter Tryz.func127, Tryz.ntmps127
      go_wp2_with fail
      refine (HE.out _).mono ?_
      rintro e w1 ⟨rfl, hb1⟩
      rw [hv, Option.isSome_some]
      have HB1 := Lib.hid hb1
      clear hv hb1
      go_wp2_with fail
      refine (checkEntry_any n m _).mono ?_
      rintro e w2 ⟨rfl, hb2⟩
      rw [HZE.out]
      have HB3 := Lib.hid ((HB1.out.alloc HB1.out.size (.cells #[.int .i64 n, .string m] 73)).trans (hb2.mono (by have := HB1.out.size; simp; omega)))
      clear hb2
      go_wp2
      go_ret
      exact ⟨⟨z, HZ0.out, rfl⟩, HB3.out⟩

/-- The error of a word that is a repetition. -/
def repE (l : List (Int × ByteArray)) (a : Option Nat) (o : Option NotMath.En) : Int := match a, o with
  | some k, some x => if firstI [entryI (enV x).1 (enV x).2, withinI (k : Int) 2 36] = 0 then addE l k else firstI [entryI (enV x).1 (enV x).2, withinI (k : Int) 2 36]
  | _, _ => 25

set_option maxRecDepth 100000 in
set_option maxHeartbeats 4000000 in
theorem takeRepetition_no (b base : Nat) (v : Value) (l : List (Int × ByteArray)) (q : Bool) (s : ByteArray) (p r : List UInt8) (f : Bool) (mx : Int) (w : World) (hs : s.size < 4294967281) (hm : w.cell? ⟨0, 0, none⟩ = some (.int .i64 mx))
    (hr : ReaderR w b base v l q) (hl : l.length ≤ 36) (hcut : Lib.cut s.data.toList [42] = (p, r, f)) (hps : p.length ≤ 9223372036854775807) (hrs : r.length ≤ 9223372036854775807)
    (h : repE l (NotMath.num p) (NotMath.entryOf r) ≠ 0) :
    Calls Tryz.prog 126 #[.pointer (some ⟨b, 0, none⟩), .string s] w fun e w' => (∃ z : Int, z ≠ 0 ∧ e = .returned (.int .i64 z)) ∧ Below w.heap.size w w' := by
  have HR := Lib.hid hr
  have HC := Lib.hid (Tryz.strings_Cut s ⟨#[42]⟩ mx w hs hm)
  have HI := Lib.hid (fun W => integerOf_any ⟨p.toArray⟩ W (by rw [Lib.size_eq]; simpa using hps))
  have HE := Lib.hid (fun W => entryOf_any ⟨r.toArray⟩ W (by rw [Lib.size_eq]; simpa using hrs))
  have HCUT : Hid (Lib.cut s.data.toList (⟨#[42]⟩ : ByteArray).data.toList = (p, r, f)) := hcut
  clear hr hs hcut hm hps hrs
  rcases hk : NotMath.num p with _ | k
  · have hki : numI (⟨p.toArray⟩ : ByteArray).data.toList = 0 := by unfold numI; rw [show (⟨p.toArray⟩ : ByteArray).data.toList = p from rfl, hk]
    have hkb : wnumB (⟨p.toArray⟩ : ByteArray).data.toList = false := by unfold wnumB; rw [show (⟨p.toArray⟩ : ByteArray).data.toList = p from rfl, hk]; rfl
    rw [hki, hkb] at HI
    obtain ⟨n, m, hv⟩ : ∃ n m, entV (NotMath.entryOf (⟨r.toArray⟩ : ByteArray).data.toList) = .agg #[.int .i64 n, .string m] := by
      cases NotMath.entryOf (⟨r.toArray⟩ : ByteArray).data.toList <;> exact ⟨_, _, rfl⟩
    rw [hv] at HE
    generalize (NotMath.entryOf (⟨r.toArray⟩ : ByteArray).data.toList).isSome = sb at HE
    clear h hk hki hkb hv
    go_enter Tryz.func126, Tryz.ntmps126
    go_wp2_with fail
    refine HC.out.mono ?_
    rintro e w0 ⟨rfl, n0, hw0⟩
    have HB0 : Hid (Below w.heap.size w w0) := Lib.hid (by rw [hw0]; exact ⟨rfl, rfl, rfl, Nat.le_refl _, fun _ _ => rfl⟩)
    clear hw0
    rw [HCUT.out]
    go_wp2_with fail
    refine (HI.out _).mono ?_
    rintro e w1 ⟨rfl, hb1⟩
    have HB1 := Lib.hid (HB0.out.trans (hb1.mono HB0.out.size))
    clear hb1
    go_wp2_with fail
    refine (HE.out _).mono ?_
    rintro e w2 ⟨rfl, hb2⟩
    have HB2 := Lib.hid (HB1.out.trans (hb2.mono HB1.out.size))
    clear hb2
    go_wp2
    go_ret
    exact ⟨⟨25, by decide, rfl⟩, HB2.out.alloc HB2.out.size _⟩
  have hki : numI (⟨p.toArray⟩ : ByteArray).data.toList = (k : Int) := by unfold numI; rw [show (⟨p.toArray⟩ : ByteArray).data.toList = p from rfl, hk]
  have hkb : wnumB (⟨p.toArray⟩ : ByteArray).data.toList = true := by unfold wnumB; rw [show (⟨p.toArray⟩ : ByteArray).data.toList = p from rfl, hk]; rfl
  rw [hki, hkb] at HI
  rw [hk] at h
  clear hk hki hkb
  rcases ho : NotMath.entryOf r with _ | x
  · have hv : entV (NotMath.entryOf (⟨r.toArray⟩ : ByteArray).data.toList) = .agg #[.int .i64 0, .string ⟨#[]⟩] := by
      rw [show (⟨r.toArray⟩ : ByteArray).data.toList = r from rfl, ho]; rfl
    have hvb : (NotMath.entryOf (⟨r.toArray⟩ : ByteArray).data.toList).isSome = false := by rw [show (⟨r.toArray⟩ : ByteArray).data.toList = r from rfl, ho]; rfl
    rw [hv, hvb] at HE
    clear h ho hv hvb
    go_enter Tryz.func126, Tryz.ntmps126
    go_wp2_with fail
    refine HC.out.mono ?_
    rintro e w0 ⟨rfl, n0, hw0⟩
    have HB0 : Hid (Below w.heap.size w w0) := Lib.hid (by rw [hw0]; exact ⟨rfl, rfl, rfl, Nat.le_refl _, fun _ _ => rfl⟩)
    clear hw0
    rw [HCUT.out]
    go_wp2_with fail
    refine (HI.out _).mono ?_
    rintro e w1 ⟨rfl, hb1⟩
    have HB1 := Lib.hid (HB0.out.trans (hb1.mono HB0.out.size))
    clear hb1
    go_wp2_with fail
    refine (HE.out _).mono ?_
    rintro e w2 ⟨rfl, hb2⟩
    have HB2 := Lib.hid (HB1.out.trans (hb2.mono HB1.out.size))
    clear hb2
    go_wp2
    go_ret
    exact ⟨⟨25, by decide, rfl⟩, HB2.out.alloc HB2.out.size _⟩
  · have hvb : (NotMath.entryOf (⟨r.toArray⟩ : ByteArray).data.toList).isSome = true := by rw [show (⟨r.toArray⟩ : ByteArray).data.toList = r from rfl, ho]; rfl
    have hv0 : entV (NotMath.entryOf (⟨r.toArray⟩ : ByteArray).data.toList) = .agg #[.int .i64 (enV x).1, .string (enV x).2] := by
      rw [show (⟨r.toArray⟩ : ByteArray).data.toList = r from rfl, ho]; rfl
    rw [hv0, hvb] at HE
    rw [ho] at h
    have HH := Lib.hid h
    clear h ho hv0 hvb
    generalize hy : enV x = y at HE
    obtain ⟨n, m⟩ := y
    have HZ : Hid ((if firstI [entryI n m, withinI (k : Int) 2 36] = 0 then addE l k else firstI [entryI n m, withinI (k : Int) 2 36]) ≠ 0) := Lib.hid (by have := HH.out; unfold repE at this; simp only [hy] at this; exact this)
    have HK2 : Hid (firstI [entryI n m, withinI (k : Int) 2 36] = 0 → k ≤ 36) := Lib.hid (fun hf => by
      have : withinI (k : Int) 2 36 = 0 := by
        by_cases e : entryI n m = 0
        · rw [firstI, if_pos e, firstI] at hf
          by_cases e2 : withinI (k : Int) 2 36 = 0
          · exact e2
          · rw [if_neg e2] at hf; exact absurd hf e2
        · rw [firstI, if_neg e] at hf; exact absurd hf e
      unfold withinI at this
      by_cases g : 2 ≤ (k : Int) ∧ (k : Int) ≤ 36
      · omega
      · rw [if_neg g] at this; omega)
    clear HH hy
    generalize hz : firstI [entryI n m, withinI (k : Int) 2 36] = z at HZ HK2
    generalize hz1 : entryI n m = z1 at hz
    generalize hz2 : withinI (k : Int) 2 36 = z2 at hz
    have HZE := Lib.hid hz
    have HZ1 := Lib.hid hz1
    have HZ2 := Lib.hid hz2
    clear hz hz1 hz2
    go_enter Tryz.func126, Tryz.ntmps126
    go_wp2_with fail
    refine HC.out.mono ?_
    rintro e w0 ⟨rfl, n0, hw0⟩
    have HB0 : Hid (Below w.heap.size w w0) := Lib.hid (by rw [hw0]; exact ⟨rfl, rfl, rfl, Nat.le_refl _, fun _ _ => rfl⟩)
    clear hw0
    rw [HCUT.out]
    go_wp2_with fail
    refine (HI.out _).mono ?_
    rintro e w1 ⟨rfl, hb1⟩
    have HB1 := Lib.hid (HB0.out.trans (hb1.mono HB0.out.size))
    clear hb1
    go_wp2_with fail
    refine (HE.out _).mono ?_
    rintro e w2 ⟨rfl, hb2⟩
    have HB2 := Lib.hid (HB1.out.trans (hb2.mono HB1.out.size))
    clear hb2
    go_wp2_with fail
    refine (checkEntry_any n m _).mono ?_
    rintro e w3 ⟨rfl, hb3⟩
    have hblk : BlkV w3 w2.heap.size 73 #[.int .i64 n, .string m] := (BlkV.new w2 73 #[.int .i64 n, .string m]).below hb3 (by simp)
    have HB3 := Lib.hid ((HB2.out.alloc HB2.out.size _).trans (hb3.mono (by have := HB2.out.size; simp; omega)))
    have HBLK := Lib.hid hblk
    clear hblk hb3
    go_wp2_with fail
    refine (within_any _ _ _ _).mono ?_
    rintro e w4 ⟨rfl, rfl⟩
    rw [HZ1.out, HZ2.out]
    go_wp2_with fail
    have HB4 := Lib.hid (HB3.out.alloc HB3.out.size (.cells #[.int .i64 z1, .int .i64 z2] 36))
    have hblk := HBLK.out.alloc (.cells #[.int .i64 z1, .int .i64 z2] 36)
    have c0 := hblk.cell 0
    have c1 := hblk.cell 1
    clear hblk
    refine (first_any _ _ [z1, z2] _ (by simp) (Ints.two _ _ _ _ _ rfl)).mono ?_
    rintro e w5 ⟨rfl, rfl⟩
    rw [HZE.out]
    by_cases h0 : z = 0
    · have hk36 := HK2.out h0
      subst h0
      have hx : 36 < l.length + k := by
        have := HZ.out
        rw [if_pos rfl, addE] at this
        by_cases g : 36 < l.length + k
        · exact g
        · rw [if_neg g] at this; exact absurd rfl this
      go_wp2_with fail
      refine (add_no b base v l q n m k _ (HR.out.below HB4.out) hl hk36 hx).mono ?_
      rintro e w6 ⟨rfl, hb6⟩
      have HB6 := Lib.hid (HB4.out.trans (hb6.mono HB4.out.size))
      clear hb6
      go_wp2
      go_ret
      exact ⟨⟨5, by decide, rfl⟩, HB6.out⟩
    · have hzb : (z != 0) = true := by rw [bne_iff_ne]; exact h0
      have HZ0 := Lib.hid h0
      clear h0
      go_wp2
      go_ret
      exact ⟨⟨z, HZ0.out, rfl⟩, HB4.out⟩
end Go.Proofs.YtbckfkopdojggaaGreatDoor
