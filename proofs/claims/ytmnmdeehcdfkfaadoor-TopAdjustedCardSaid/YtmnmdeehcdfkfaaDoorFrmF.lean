/- roundOf. -/
import Derived.Test.YtmnmdeehcdfkfaaDoorFrmD
import Derived.Test.YtmnmdeehcdfkfaaDoorFrmE
import Derived.Outline
namespace Go.Proofs.YtmnmdeehcdfkfaaDoor
open Go.RowKit

/-- The net strokes of entries on holes where so many strokes are given. -/
def netsL (gs : List Int) (l : List (Int × ByteArray)) : List (Int × ByteArray) := (gs.zip l).map fun x => netV x.1 x.2
def netsOf (hs : List (Int × Int)) (h : Int) (l : List (Int × ByteArray)) : List (Int × ByteArray) := netsL (givenL (h / (hs.length : Int)) (h % (hs.length : Int)) hs) l
theorem netsL_len (gs : List Int) (l : List (Int × ByteArray)) (h : gs.length = l.length) : (netsL gs l).length = l.length := by simp [netsL, h]
theorem netsL_snoc (gs : List Int) (l : List (Int × ByteArray)) (k : Nat) (h1 : k < gs.length) (h2 : k < l.length) :
    (netsL gs l).take (k + 1) = (netsL gs l).take k ++ [netV (gs.getD k 0) (l.getD k (0, ByteArray.empty))] := by
  rw [List.take_succ_eq_append_getElem (by simp [netsL]; omega)]
  simp [netsL, List.getD, List.getElem?_eq_getElem h1, List.getElem?_eq_getElem h2]

/-- A round: the entries and their net strokes. -/
def RoundOut (B : Option Addr) (d : Nat) (l nets : List (Int × ByteArray)) (w : World) (e : Ending) (w' : World) : Prop :=
  ∃ A c, e = .returned (.agg #[.slice B l.length d, .slice A nets.length c]) ∧ EntriesR w' A nets ∧ (∀ a, A = some a → w.heap.size ≤ a.block) ∧ Below w.heap.size w w'

def Strokes (l : List (Int × ByteArray)) : Prop := ∀ e ∈ l, 0 ≤ e.1 ∧ e.1 ≤ 99

set_option maxRecDepth 100000 in
set_option maxHeartbeats 4000000 in
theorem roundOf_any (A B : Option Addr) (c d : Nat) (hs : List (Int × Int)) (nm : ByteArray) (l : List (Int × ByteArray)) (h : Int) (w : World) (hr : HolesR w A hs) (hbl : ∀ a, A = some a → a.block < w.heap.size)
    (he : EntriesR w B l) (hl0 : 0 < hs.length) (hl : hs.length ≤ 1000) (hll : l.length = hs.length) (hst : Strokes l) (h1 : -99 ≤ h) (h2 : h ≤ 99) :
    Calls Tryd.prog 39 #[.slice A hs.length c, .agg #[.string nm, .slice B l.length d, .int .i64 h]] w (RoundOut B d l (netsOf hs h l) w) := by
  have HG := Lib.hid (fun (W : World) (hb : Below w.heap.size w W) => given_any A c hs h W (hr.keep hbl hb) (fun a ha => Nat.lt_of_lt_of_le (hbl a ha) hb.size) hl0 hl h1 h2)
  have HE := Lib.hid he
  have HST := Lib.hid hst
  have HLL := Lib.hid hll
  clear hr hbl he hst hll
  go_enter Tryd.func39, Tryd.ntmps39
  go_wp2_with fail
  generalize hW0 : (((w.alloc (.cells #[.string nm, .slice B l.length d, .int .i64 h] 34)).alloc (.cells #[.slice none 0 0, .slice none 0 0] 55)).alloc (.cells #[.slice B l.length d, .slice none 0 0] 55)) = W0
  have HB0 : Hid (Below w.heap.size w W0) := by
    show Below _ _ _
    subst hW0
    exact ((((Below.refl _ _).alloc (Nat.le_refl _) _).alloc (by simp) _).alloc (by simp; omega) _)
  have hblk : BlkV W0 (w.heap.size + 1 + 1) 55 #[.slice B l.length d, .slice none 0 0] := by
    subst hW0
    have := BlkV.new ((w.alloc (.cells #[.string nm, .slice B l.length d, .int .i64 h] 34)).alloc (.cells #[.slice none 0 0, .slice none 0 0] 55)) 55 #[.slice B l.length d, .slice none 0 0]
    simpa using this
  have hres : BlkV W0 (w.heap.size + 1) 55 #[.slice none 0 0, .slice none 0 0] := by
    subst hW0
    have := (BlkV.new (w.alloc (.cells #[.string nm, .slice B l.length d, .int .i64 h] 34)) 55 #[.slice none 0 0, .slice none 0 0]).alloc (.cells #[.slice B l.length d, .slice none 0 0] 55)
    simpa using this
  have hsz : W0.heap.size = w.heap.size + 1 + 1 + 1 := by subst hW0; simp
  have HBLK := Lib.hid hblk
  have HRES := Lib.hid hres
  have HSZ := Lib.hid hsz
  clear hW0 hblk hres hsz
  refine (HG.out W0 HB0.out).mono ?_
  rintro e w1 ⟨g, rfl, hrow, hg, hb1⟩
  have HROW := Lib.hid hrow
  have HGS := Lib.hid (givenL_len (h / (hs.length : Int)) (h % (hs.length : Int)) hs)
  have HGG := Lib.hid hg
  have HB1 := Lib.hid (HB0.out.trans (hb1.mono HB0.out.size))
  have HBLK1 := Lib.hid (HBLK.out.below hb1 (by rw [HSZ.out]; omega))
  have HRES1 := Lib.hid (HRES.out.below hb1 (by rw [HSZ.out]; omega))
  have HS1 : Hid (w.heap.size + 1 + 1 < w1.heap.size) := Lib.hid (by have := hb1.size; have := HSZ.out; omega)
  clear hrow hg hb1 HBLK HRES HG
  have HNL : Hid (netsOf hs h l = netsL (givenL (h / (hs.length : Int)) (h % (hs.length : Int)) hs) l) := rfl
  have HGB : Hid (∀ k, k < (givenL (h / (hs.length : Int)) (h % (hs.length : Int)) hs).length → -10000 ≤ (givenL (h / (hs.length : Int)) (h % (hs.length : Int)) hs).getD k 0 ∧ (givenL (h / (hs.length : Int)) (h % (hs.length : Int)) hs).getD k 0 ≤ 10000) := Lib.hid (fun k hk => by
    have hq := div_small h hs.length h1 h2 hl0
    rw [givenL_len] at hk
    rw [givenL_at _ _ _ _ hk]
    unfold addI
    split <;> omega)
  generalize givenL (h / (hs.length : Int)) (h % (hs.length : Int)) hs = gs at HROW HGS HNL HGB
  have hgl : gs.length ≤ 1000 := by have := HGS.out; omega
  go_wp2
  go_loopw [17] (fun i w' => ∃ (k : Nat) (v : Value), k ≤ gs.length ∧ i = .int .i64 k ∧ BlkV w' (w.heap.size + 1 + 1) 55 #[.slice B l.length d, v] ∧ PairsOwn w' w1.heap.size 68 v ((netsL gs l).take k) ∧
    BlkV w' (w.heap.size + 1) 55 #[.slice none 0 0, .slice none 0 0] ∧ RowI w' g gs ∧ Below w.heap.size w w' ∧ w1.heap.size ≤ w'.heap.size) (fun i _ => gs.length - (intOf i).toNat)
  case atStart => exact ⟨0, _, Nat.zero_le _, rfl, HBLK1.out, PairsOwn.nil _ _ _, HRES1.out, HROW.out, HB1.out, Nat.le_refl _⟩
  case round =>
    obtain ⟨k, v, hk, rfl, hblk, hown, hres, hrow, hb, hsz⟩ := hrel
    have HBLK2 := Lib.hid hblk
    have HOWN2 := Lib.hid hown
    have HRES2 := Lib.hid hres
    have HROW2 := Lib.hid hrow
    have HB2 := Lib.hid hb
    have HS2 := Lib.hid hsz
    clear hblk hown hres hrow hb hsz
    by_cases hlt : k < gs.length
    · have hkl : Hid (k < l.length) := Lib.hid (by have := HLL.out; have := HGS.out; omega)
      obtain ⟨ea, rfl, d0, d1, d2⟩ := HE.out k hkl.out
      have hba : (ea.add (k * 2)).block < wr.heap.size := Nat.lt_of_lt_of_le d2 HB2.out.size
      have e0 := (HB2.out.cell d2).trans d0
      have e1 := (HB2.out.cell (p := ⟨_, _, none⟩) d2).trans d1
      have hst : Hid (0 ≤ (l.getD k (0, ByteArray.empty)).1 ∧ (l.getD k (0, ByteArray.empty)).1 ≤ 99) := Lib.hid (by
        have := HST.out (l[k]'hkl.out) (List.getElem_mem hkl.out)
        simpa [List.getD, List.getElem?_eq_getElem hkl.out] using this)
      have hgk := HROW2.out.cell hlt
      have hgb : Hid (-10000 ≤ gs.getD k 0 ∧ gs.getD k 0 ≤ 10000) := Lib.hid (HGB.out k hlt)
      have HSN := Lib.hid (netsL_snoc gs l k hlt hkl.out)
      clear d0 d1
      have HLEN : Hid (((netsL gs l).take k).length ≤ 1000) := Lib.hid (by have := List.length_take_le k (netsL gs l); have := HGS.out; omega)
      generalize (netsL gs l).take k = tk at HOWN2 HSN HLEN
      generalize l.getD k (0, ByteArray.empty) = en at e0 e1 hst HSN
      obtain ⟨s, m⟩ := en
      simp only at e0 e1 hst HSN
      generalize gs.getD k 0 = gk at hgk hgb HSN
      have c0 : wr.cell? ⟨w.heap.size + 1 + 1, 0, none⟩ = some (.slice (some ea) l.length d) := HBLK2.out.cell 0
      have c1 : wr.cell? ⟨w.heap.size + 1 + 1, 1, none⟩ = some v := HBLK2.out.cell 1
      have hk0 : (0 : Int) ≤ (k : Int) := Int.natCast_nonneg _
      have hk1 : (k : Int) < (l.length : Int) := by have := hkl.out; omega
      go_wp2
      have hbb : w.heap.size + 1 + 1 < w1.heap.size := HS1.out
      have hbw : w.heap.size + 1 + 1 < wr.heap.size := by have := HS2.out; omega
      have DR := Lib.hid (Below.drew (Below.refl wr.heap.size wr))
      go_region_law (first
        | (refine step_pairs (TE := 68) (v := v) (base := w1.heap.size) (l := tk) rfl (.tmp 23) (.tmp 31) 53 rfl Tryd.underlying53 info_net (by rfl) (HOWN2.out.below (HBX.out.alloc HBX.out.size _)) HLEN.out w2.heap.size 1 (by rfl) (netV gk (s, m)) ⟨_, _, heap_alloc_new _ _⟩ (by have := HBX.out.size; have := HS2.out; simp; omega) ?_
           intro g2 cap w3 ho hgr hlt2
           have hf3 : BlkV w3 (w.heap.size + 1 + 1) 55 #[.slice (some ea) l.length d, v] := (((HBLK2.out.below HBX.out hbw).alloc _).grown hgr.out (fun e => by have := HOWN2.out.block _ e.symm; omega))
           have c3 := hf3.cell 1
           have f3 := hf3.frozen 1
           have HF3 := Lib.hid hf3
           clear hf3)
        | (go_simp; go_at_call 55; refine (netOf_any _ _ _ _ (by have := hst.out; omega) hgb.out).mono ?_; rintro e w2 ⟨rfl, hb2⟩
           have HBX : Hid (Below wr.heap.size wr w2) := Lib.hid (DR.out.trans hb2)
           have c02 := (HBX.out.cell (p := ⟨w.heap.size + 1 + 1, 1, none⟩) hbw).trans c1
           have hs2 : w.heap.size + 1 + 1 < w2.heap.size := Nat.lt_of_lt_of_le hbw HBX.out.size
           clear hb2))
      all_goals
        go_wp2
        go_roundw
        case rel =>
          have hrow3 := (((HROW2.out.below HBX.out HROW2.out.lt).alloc (.cells #[.int .i64 (netV gk (s, m)).1, .string (netV gk (s, m)).2] 68)).grown hgr.out (fun e => by have := HOWN2.out.block _ e.symm; have := HROW.out.lt; omega))
          have hres3 := (((HRES2.out.below HBX.out (by omega)).alloc (.cells #[.int .i64 (netV gk (s, m)).1, .string (netV gk (s, m)).2] 68)).grown hgr.out (fun e => by have := HOWN2.out.block _ e.symm; omega))
          have hb3 : Below w.heap.size w w3 := ((HB2.out.trans (HBX.out.mono HB2.out.size)).alloc (by have := HB2.out.size; have := HBX.out.size; omega) _).grown hgr.out (by have := HB2.out.size; have := HBX.out.size; simp; omega) (fun b e => by have := HOWN2.out.block _ e; have := HB1.out.size; omega)
          refine ⟨k + 1, _, by omega, by go_num, HF3.out.set 1 _, ?_, hres3.far (by simp) _, hrow3.far (by have := HGG.out; have := HSZ.out; simp; omega) _, hb3.setCell (by simp; omega) _, ?_⟩
          · rw [HSN.out]
            exact ho.out.far (p := ⟨w.heap.size + 1 + 1, 1, none⟩) hbb _
          · have := hgr.out.size; have := HBX.out.size; have := HS2.out
            simp at *; omega
        case measure => simp [intOf]; omega
    · have hfull : (netsL gs l).take k = netsL gs l := List.take_of_length_le (by rw [netsL_len _ _ (by have := HLL.out; have := HGS.out; omega)]; have := HLL.out; have := HGS.out; omega)
      have ho := HOWN2.out
      rw [hfull] at ho
      clear hfull HOWN2
      obtain ⟨A', c', rfl, hent⟩ := ho.entries
      have HENT := Lib.hid hent
      have HOWN := Lib.hid ho
      clear hent ho
      have HN2 := HNL.out
      generalize netsL gs l = nl at HENT HBLK2 HOWN HN2
      have HN3 := Lib.hid HN2
      clear HN2 HNL
      have c0 := HBLK2.out.cell 0
      have c1 := HBLK2.out.cell 1
      have r0 := HRES2.out.cell 0
      have r1 := HRES2.out.cell 1
      have f0 := HRES2.out.frozen 0
      have f1 := HRES2.out.frozen 1
      go_wp2
      refine bodyPost_ret (v := .agg #[.slice B l.length d, .slice A' nl.length c']) ?_ rfl ⟨A', c', by rw [HN3.out], ?_, (fun a ha => by subst ha; have := HOWN.out.block a.block rfl; have := HB1.out.size; omega), (HB2.out.setCell (by simp) _).setCell (by simp) _⟩
      · have q := HRES2.out.set 0 (.slice B l.length d)
        have q2 := q.set 1 (.slice A' nl.length c')
        have q3 := q2.cell 0
        have q4 := q2.cell 1
        simp [results, Tryd.results39, go_sem, q3, q4]
      · rw [HN3.out]
        have ho3 := (HOWN.out.far (p := ⟨w.heap.size + 1, 0, none⟩) (show w.heap.size + 1 < w1.heap.size by have := HS1.out; omega) (.slice B l.length d)).far (p := ⟨w.heap.size + 1, 1, none⟩) (show w.heap.size + 1 < w1.heap.size by have := HS1.out; omega) (.slice A' nl.length c')
        obtain ⟨A2, c2, e2, h2'⟩ := ho3.entries
        injection e2 with e3 e4 e5
        subst e3
        exact h2'

end Go.Proofs.YtmnmdeehcdfkfaaDoor
