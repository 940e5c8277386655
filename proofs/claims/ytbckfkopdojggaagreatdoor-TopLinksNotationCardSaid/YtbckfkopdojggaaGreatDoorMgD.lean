/- Merged: FrmF FrmG FrmH FrmI FrmJ. -/
import Derived.Test.YtbckfkopdojggaaGreatDoorMgC
import Derived.Outline
import Derived.Test.YtbckfkopdojggaaGreatDoorMgB
/- roundOf. -/
set_option linter.unusedVariables false
set_option linter.unusedSimpArgs false
namespace Go.Proofs.YtbckfkopdojggaaGreatDoor
open Go.RowKit

/-- The net strokes of entries on holes where so many strokes are given. -/
def netsL (gs : List Int) (l : List (Int × ByteArray)) : List (Int × ByteArray) := (gs.zip l).map fun x => netV x.1 x.2
def netsOf (hs : List (Int × Int)) (h : Int) (l : List (Int × ByteArray)) : List (Int × ByteArray) := netsL (givenL (h / (hs.length : Int)) (h % (hs.length : Int)) hs) l
theorem netsL_len (gs : List Int) (l : List (Int × ByteArray)) (h : gs.length = l.length) : (netsL gs l).length = l.length := by simp [netsL, h]
theorem netsL_snoc (gs : List Int) (l : List (Int × ByteArray)) (k : Nat) (h1 : k < gs.length) (h2 : k < l.length) :
    (netsL gs l).take (k + 1) = (netsL gs l).take k ++ [netV (gs.getD k 0) (l.getD k (0, ByteArray.empty))] := by
  rw [List.take_succ_eq_append_getElem (by simp [netsL]; omega)]
  simp [netsL, List.getD, List.getElem?_eq_getElem h1, List.getElem?_eq_getElem h2]

/-- A round: the entries and their net strokes. -/
def RoundOut (B : Option Addr) (d : Nat) (l nets : List (Int × ByteArray)) (w : World) (e : Ending) (w' : World) : Prop :=
  ∃ A c, e = .returned (.agg #[.slice B l.length d, .slice A nets.length c]) ∧ EntriesR w' A nets ∧ (∀ a, A = some a → w.heap.size ≤ a.block) ∧ Below w.heap.size w w'

def Strokes (l : List (Int × ByteArray)) : Prop := ∀ e ∈ l, 0 ≤ e.1 ∧ e.1 ≤ 99

set_option maxRecDepth 100000 in
set_option maxHeartbeats 4000000 in
theorem roundOf_any (A B : Option Addr) (c d : Nat) (hs : List (Int × Int)) (nm : ByteArray) (l : List (Int × ByteArray)) (h : Int) (w : World) (hr : HolesR w A hs) (hbl : ∀ a, A = some a → a.block < w.heap.size)
    (he : EntriesR w B l) (hl0 : 0 < hs.length) (hl : hs.length ≤ 1000) (hll : l.length = hs.length) (hst : Strokes l) (h1 : -99 ≤ h) (h2 : h ≤ 99) :
    Calls Tryz.prog 78 #[.slice A hs.length c, .agg #[.string nm, .slice B l.length d, .int .i64 h]] w (RoundOut B d l (netsOf hs h l) w) := by
  have HG := Lib.hid (fun (W : World) (hb : Below w.heap.size w W) => given_any A c hs h W (hr.keep hbl hb) (fun a ha => Nat.lt_of_lt_of_le (hbl a ha) hb.size) hl0 hl h1 h2)
  have HE := Lib.hid he
  have HST := Lib.hid hst
  have HLL := Lib.hid hll
  clear hr hbl he hst hll
  go_enter Tryz.func78, Tryz.ntmps78
  go_wp2_with fail
  generalize hW0 : (((w.alloc (.cells #[.string nm, .slice B l.length d, .int .i64 h] 55)).alloc (.cells #[.slice none 0 0, .slice none 0 0] 135)).alloc (.cells #[.slice B l.length d, .slice none 0 0] 135)) = W0
  have HB0 : Hid (Below w.heap.size w W0) := by
    show Below _ _ _
    subst hW0
    exact ((((Below.refl _ _).alloc (Nat.le_refl _) _).alloc (by simp) _).alloc (by simp; omega) _)
  have hblk : BlkV W0 (w.heap.size + 1 + 1) 135 #[.slice B l.length d, .slice none 0 0] := by
    subst hW0
    have := BlkV.new ((w.alloc (.cells #[.string nm, .slice B l.length d, .int .i64 h] 55)).alloc (.cells #[.slice none 0 0, .slice none 0 0] 135)) 135 #[.slice B l.length d, .slice none 0 0]
    simpa using this
  have hres : BlkV W0 (w.heap.size + 1) 135 #[.slice none 0 0, .slice none 0 0] := by
    subst hW0
    have := (BlkV.new (w.alloc (.cells #[.string nm, .slice B l.length d, .int .i64 h] 55)) 135 #[.slice none 0 0, .slice none 0 0]).alloc (.cells #[.slice B l.length d, .slice none 0 0] 135)
    simpa using this
  have hsz : W0.heap.size = w.heap.size + 1 + 1 + 1 := by subst hW0; simp
  have HBLK := Lib.hid hblk
  have HRES := Lib.hid hres
  have HSZ := Lib.hid hsz
  clear hW0 hblk hres hsz
  refine (HG.out W0 HB0.out).mono ?_
  rintro e w1 ⟨g, rfl, hrow, hg, hb1⟩
  have HROW := Lib.hid hrow
  have HGS := Lib.hid (givenL_len (h / (hs.length : Int)) (h % (hs.length : Int)) hs)
  have HGG := Lib.hid hg
  have HB1 := Lib.hid (HB0.out.trans (hb1.mono HB0.out.size))
  have HBLK1 := Lib.hid (HBLK.out.below hb1 (by rw [HSZ.out]; omega))
  have HRES1 := Lib.hid (HRES.out.below hb1 (by rw [HSZ.out]; omega))
  have HS1 : Hid (w.heap.size + 1 + 1 < w1.heap.size) := Lib.hid (by have := hb1.size; have := HSZ.out; omega)
  clear hrow hg hb1 HBLK HRES HG
  have HNL : Hid (netsOf hs h l = netsL (givenL (h / (hs.length : Int)) (h % (hs.length : Int)) hs) l) := rfl
  have HGB : Hid (∀ k, k < (givenL (h / (hs.length : Int)) (h % (hs.length : Int)) hs).length → -10000 ≤ (givenL (h / (hs.length : Int)) (h % (hs.length : Int)) hs).getD k 0 ∧ (givenL (h / (hs.length : Int)) (h % (hs.length : Int)) hs).getD k 0 ≤ 10000) := Lib.hid (fun k hk => by
    have hq := div_small h hs.length h1 h2 hl0
    rw [givenL_len] at hk
    rw [givenL_at _ _ _ _ hk]
    unfold addI
    split <;> omega)
  generalize givenL (h / (hs.length : Int)) (h % (hs.length : Int)) hs = gs at HROW HGS HNL HGB
  have hgl : gs.length ≤ 1000 := by have := HGS.out; omega
  go_wp2
  go_loopw [17] (fun i w' => ∃ (k : Nat) (v : Value), k ≤ gs.length ∧ i = .int .i64 k ∧ BlkV w' (w.heap.size + 1 + 1) 135 #[.slice B l.length d, v] ∧ PairsOwn w' w1.heap.size 83 v ((netsL gs l).take k) ∧
    BlkV w' (w.heap.size + 1) 135 #[.slice none 0 0, .slice none 0 0] ∧ RowI w' g gs ∧ Below w.heap.size w w' ∧ w1.heap.size ≤ w'.heap.size) (fun i _ => gs.length - (intOf i).toNat)
  case atStart => exact ⟨0, _, Nat.zero_le _, rfl, HBLK1.out, PairsOwn.nil _ _ _, HRES1.out, HROW.out, HB1.out, Nat.le_refl _⟩
  case round =>
    obtain ⟨k, v, hk, rfl, hblk, hown, hres, hrow, hb, hsz⟩ := hrel
    have HBLK2 := Lib.hid hblk
    have HOWN2 := Lib.hid hown
    have HRES2 := Lib.hid hres
    have HROW2 := Lib.hid hrow
    have HB2 := Lib.hid hb
    have HS2 := Lib.hid hsz
    clear hblk hown hres hrow hb hsz
    by_cases hlt : k < gs.length
    · have hkl : Hid (k < l.length) := Lib.hid (by have := HLL.out; have := HGS.out; omega)
      obtain ⟨ea, rfl, d0, d1, d2⟩ := HE.out k hkl.out
      have hba : (ea.add (k * 2)).block < wr.heap.size := Nat.lt_of_lt_of_le d2 HB2.out.size
      have e0 := (HB2.out.cell d2).trans d0
      have e1 := (HB2.out.cell (p := ⟨_, _, none⟩) d2).trans d1
      have hst : Hid (0 ≤ (l.getD k (0, ByteArray.empty)).1 ∧ (l.getD k (0, ByteArray.empty)).1 ≤ 99) := Lib.hid (by
        have := HST.out (l[k]'hkl.out) (List.getElem_mem hkl.out)
        simpa [List.getD, List.getElem?_eq_getElem hkl.out] using this)
      have hgk := HROW2.out.cell hlt
      have hgb : Hid (-10000 ≤ gs.getD k 0 ∧ gs.getD k 0 ≤ 10000) := Lib.hid (HGB.out k hlt)
      have HSN := Lib.hid (netsL_snoc gs l k hlt hkl.out)
      clear d0 d1
      have HLEN : Hid (((netsL gs l).take k).length ≤ 1000) := Lib.hid (by have := List.length_take_le k (netsL gs l); have := HGS.out; omega)
      generalize (netsL gs l).take k = tk at HOWN2 HSN HLEN
      generalize l.getD k (0, ByteArray.empty) = en at e0 e1 hst HSN
      obtain ⟨s, m⟩ := en
      simp only at e0 e1 hst HSN
      generalize gs.getD k 0 = gk at hgk hgb HSN
      have c0 : wr.cell? ⟨w.heap.size + 1 + 1, 0, none⟩ = some (.slice (some ea) l.length d) := HBLK2.out.cell 0
      have c1 : wr.cell? ⟨w.heap.size + 1 + 1, 1, none⟩ = some v := HBLK2.out.cell 1
      have hk0 : (0 : Int) ≤ (k : Int) := Int.natCast_nonneg _
      have hk1 : (k : Int) < (l.length : Int) := by have := hkl.out; omega
      go_wp2
      have hbb : w.heap.size + 1 + 1 < w1.heap.size := HS1.out
      have hbw : w.heap.size + 1 + 1 < wr.heap.size := by have := HS2.out; omega
      have DR := Lib.hid (Below.drew (Below.refl wr.heap.size wr))
      go_region_law (first
        | (refine step_pairs (TE := 83) (v := v) (base := w1.heap.size) (l := tk) rfl (.tmp 23) (.tmp 31) 77 rfl Tryz.underlying77 info_net (by rfl) (HOWN2.out.below (HBX.out.alloc HBX.out.size _)) HLEN.out w2.heap.size 1 (by rfl) (netV gk (s, m)) ⟨_, _, heap_alloc_new _ _⟩ (by have := HBX.out.size; have := HS2.out; simp; omega) ?_
           intro g2 cap w3 ho hgr hlt2
           have hf3 : BlkV w3 (w.heap.size + 1 + 1) 135 #[.slice (some ea) l.length d, v] := (((HBLK2.out.below HBX.out hbw).alloc _).grown hgr.out (fun e => by have := HOWN2.out.block _ e.symm; omega))
           have c3 := hf3.cell 1
           have f3 := hf3.frozen 1
           have HF3 := Lib.hid hf3
           clear hf3)
        | (go_simp; go_at_call 136; refine (netOf_any _ _ _ _ (by have := hst.out; omega) hgb.out).mono ?_; rintro e w2 ⟨rfl, hb2⟩
           have HBX : Hid (Below wr.heap.size wr w2) := Lib.hid (DR.out.trans hb2)
           have c02 := (HBX.out.cell (p := ⟨w.heap.size + 1 + 1, 1, none⟩) hbw).trans c1
           have hs2 : w.heap.size + 1 + 1 < w2.heap.size := Nat.lt_of_lt_of_le hbw HBX.out.size
           clear hb2))
      all_goals
        go_wp2
        go_roundw
        case rel =>
          have hrow3 := (((HROW2.out.below HBX.out HROW2.out.lt).alloc (.cells #[.int .i64 (netV gk (s, m)).1, .string (netV gk (s, m)).2] 83)).grown hgr.out (fun e => by have := HOWN2.out.block _ e.symm; have := HROW.out.lt; omega))
          have hres3 := (((HRES2.out.below HBX.out (by omega)).alloc (.cells #[.int .i64 (netV gk (s, m)).1, .string (netV gk (s, m)).2] 83)).grown hgr.out (fun e => by have := HOWN2.out.block _ e.symm; omega))
          have hb3 : Below w.heap.size w w3 := ((HB2.out.trans (HBX.out.mono HB2.out.size)).alloc (by have := HB2.out.size; have := HBX.out.size; omega) _).grown hgr.out (by have := HB2.out.size; have := HBX.out.size; simp; omega) (fun b e => by have := HOWN2.out.block _ e; have := HB1.out.size; omega)
          refine ⟨k + 1, _, by omega, by go_num, HF3.out.set 1 _, ?_, hres3.far (by simp) _, hrow3.far (by have := HGG.out; have := HSZ.out; simp; omega) _, hb3.setCell (by simp; omega) _, ?_⟩
          · rw [HSN.out]
            exact ho.out.far (p := ⟨w.heap.size + 1 + 1, 1, none⟩) hbb _
          · have := hgr.out.size; have := HBX.out.size; have := HS2.out
            simp at *; omega
        case measure => simp [intOf]; omega
    · have hfull : (netsL gs l).take k = netsL gs l := List.take_of_length_le (by rw [netsL_len _ _ (by have := HLL.out; have := HGS.out; omega)]; have := HLL.out; have := HGS.out; omega)
      have ho := HOWN2.out
      rw [hfull] at ho
      clear hfull HOWN2
      obtain ⟨A', c', rfl, hent⟩ := ho.entries
      have HENT := Lib.hid hent
      have HOWN := Lib.hid ho
      clear hent ho
      have HN2 := HNL.out
      generalize netsL gs l = nl at HENT HBLK2 HOWN HN2
      have HN3 := Lib.hid HN2
      clear HN2 HNL
      have c0 := HBLK2.out.cell 0
      have c1 := HBLK2.out.cell 1
      have r0 := HRES2.out.cell 0
      have r1 := HRES2.out.cell 1
      have f0 := HRES2.out.frozen 0
      have f1 := HRES2.out.frozen 1
      go_wp2
      refine bodyPost_ret (v := .agg #[.slice B l.length d, .slice A' nl.length c']) ?_ rfl ⟨A', c', by rw [HN3.out], ?_, (fun a ha => by subst ha; have := HOWN.out.block a.block rfl; have := HB1.out.size; omega), (HB2.out.setCell (by simp) _).setCell (by simp) _⟩
      · have q := HRES2.out.set 0 (.slice B l.length d)
        have q2 := q.set 1 (.slice A' nl.length c')
        have q3 := q2.cell 0
        have q4 := q2.cell 1
        simp [results, Tryz.results78, go_sem, q3, q4]
      · rw [HN3.out]
        have ho3 := (HOWN.out.far (p := ⟨w.heap.size + 1, 0, none⟩) (show w.heap.size + 1 < w1.heap.size by have := HS1.out; omega) (.slice B l.length d)).far (p := ⟨w.heap.size + 1, 1, none⟩) (show w.heap.size + 1 < w1.heap.size by have := HS1.out; omega) (.slice A' nl.length c')
        obtain ⟨A2, c2, e2, h2'⟩ := ho3.entries
        injection e2 with e3 e4 e5
        subst e3
        exact h2'

end Go.Proofs.YtbckfkopdojggaaGreatDoor

/- Sums over entries and net strokes; whether all holes count. -/
namespace Go.Proofs.YtbckfkopdojggaaGreatDoor
open Go.RowKit

theorem sumI_snoc (l : List Int) (x : Int) : ForMath.sumI (l ++ [x]) = ForMath.sumI l + x := by
  induction l with
  | nil => simp [ForMath.sumI]
  | cons y l ih => simp only [List.cons_append, ForMath.sumI_cons, ih]; omega
theorem sumI_take (l : List Int) (k : Nat) (h : k < l.length) : ForMath.sumI (l.take (k + 1)) = ForMath.sumI (l.take k) + l.getD k 0 := by
  rw [List.take_succ_eq_append_getElem h, sumI_snoc]
  simp [List.getD, List.getElem?_eq_getElem h]
theorem sumI_bound (b : Int) : ∀ l : List Int, (∀ x ∈ l, -b ≤ x ∧ x ≤ b) → -(b * l.length) ≤ ForMath.sumI l ∧ ForMath.sumI l ≤ b * l.length
  | [], _ => by simp [ForMath.sumI]
  | x :: l, h => by
    have h1 := h x (by simp)
    have h2 := sumI_bound b l (fun y hy => h y (by simp [hy]))
    rw [ForMath.sumI_cons, List.length_cons]
    have : b * ((l.length + 1 : Nat) : Int) = b * l.length + b := by rw [Int.natCast_add, Int.mul_add]; simp
    omega
theorem sumI_take_bound (l : List Int) (k : Nat) (hl : l.length ≤ 1000) (h : ∀ x ∈ l, -10000 ≤ x ∧ x ≤ 10000) : -10000000 ≤ ForMath.sumI (l.take k) ∧ ForMath.sumI (l.take k) ≤ 10000000 := by
  have h1 := sumI_bound 10000 (l.take k) (fun x hx => h x (List.mem_of_mem_take hx))
  have h2 := List.length_take_le' k l
  omega

def firsts (l : List (Int × ByteArray)) : List Int := l.map (·.1)
theorem firsts_len (l : List (Int × ByteArray)) : (firsts l).length = l.length := by simp [firsts]
theorem firsts_at (l : List (Int × ByteArray)) (k : Nat) (h : k < l.length) : (firsts l).getD k 0 = (l.getD k (0, ByteArray.empty)).1 := by
  simp [firsts, List.getD, List.getElem?_eq_getElem h]
def Small (l : List (Int × ByteArray)) : Prop := ∀ x ∈ firsts l, -10000 ≤ x ∧ x ≤ 10000
theorem Small.at {l : List (Int × ByteArray)} (h : Small l) (k : Nat) (hk : k < l.length) : -10000 ≤ (l.getD k (0, ByteArray.empty)).1 ∧ (l.getD k (0, ByteArray.empty)).1 ≤ 10000 := by
  rw [← firsts_at l k hk]
  have hk2 : k < (firsts l).length := by rw [firsts_len]; exact hk
  have := h ((firsts l)[k]) (List.getElem_mem hk2)
  simpa [List.getD, List.getElem?_eq_getElem hk2] using this
def sumS (l : List (Int × ByteArray)) : Int := ForMath.sumI (firsts l)

set_option maxHeartbeats 400000 in
theorem gross1_any (s : Int) (m : ByteArray) (w : World) :
    Calls Tryz.prog 149 #[.agg #[.int .i64 s, .string m]] w fun e w' => e = .returned (.int .i64 s) ∧ Below w.heap.size w w' := by
  go_enter Tryz.func149, Tryz.ntmps149
  go_wp2
  go_ret
  exact ⟨rfl, (Below.refl _ _).alloc (Nat.le_refl _) _⟩
set_option maxHeartbeats 400000 in
theorem netStrokes_any (s : Int) (m : ByteArray) (w : World) :
    Calls Tryz.prog 99 #[.agg #[.int .i64 s, .string m]] w fun e w' => e = .returned (.int .i64 s) ∧ Below w.heap.size w w' := by
  go_enter Tryz.func99, Tryz.ntmps99
  go_wp2
  go_ret
  exact ⟨rfl, (Below.refl _ _).alloc (Nat.le_refl _) _⟩
def countsB (m : ByteArray) : Bool := m.toList.isEmpty
set_option maxHeartbeats 400000 in
theorem netCounts_any (s : Int) (m : ByteArray) (w : World) :
    Calls Tryz.prog 129 #[.agg #[.int .i64 s, .string m]] w fun e w' => e = .returned (.bool (countsB m)) ∧ Below w.heap.size w w' := by
  cases h : m.toList.isEmpty
  all_goals
    have H := Lib.hid h
    go_enter Tryz.func129, Tryz.ntmps129
    go_wp2
    go_ret
    exact ⟨by rw [countsB, H.out]; rfl, (Below.refl _ _).alloc (Nat.le_refl _) _⟩
set_option maxHeartbeats 400000 in
theorem isWhole1_any (s : Int) (m : ByteArray) (w : World) :
    Calls Tryz.prog 160 #[.agg #[.int .i64 s, .string m]] w fun e w' => e = .returned (.bool (!countsB m)) ∧ Below w.heap.size w w' := by
  go_enter Tryz.func160, Tryz.ntmps160
  go_wp2_with fail
  refine (netCounts_any _ _ _).mono ?_; rintro e w1 ⟨rfl, hb1⟩
  have HB := Lib.hid hb1
  clear hb1
  go_wp2
  go_ret
  exact ⟨rfl, ((Below.refl _ _).alloc (Nat.le_refl _) _).trans (HB.out.mono (by simp))⟩

set_option maxRecDepth 100000 in
set_option maxHeartbeats 1000000 in
theorem sumEntries_any (A : Option Addr) (c : Nat) (l : List (Int × ByteArray)) (w : World) (he : EntriesR w A l) (hs : Small l) (hl : l.length ≤ 1000) :
    Calls Tryz.prog 148 #[.slice A l.length c, .func (.func 149) #[] #[]] w fun e w' => e = .returned (.int .i64 (sumS l)) ∧ Below w.heap.size w w' := by
  have HE := Lib.hid he
  have HS := Lib.hid hs
  clear he hs
  go_enter Tryz.func148, Tryz.ntmps148
  go_wp2
  go_loopw [5, 10] (fun t i w' => ∃ k : Nat, k ≤ l.length ∧ i = .int .i64 k ∧ t = .int .i64 (ForMath.sumI ((firsts l).take k)) ∧ Below w.heap.size w w') (fun _ i _ => l.length - (intOf i).toNat)
  case atStart => exact ⟨0, Nat.zero_le _, rfl, by simp [ForMath.sumI], Below.refl _ _⟩
  case round =>
    obtain ⟨k, hk, rfl, rfl, hb⟩ := hrel
    have HB := Lib.hid hb
    clear hb
    by_cases hlt : k < l.length
    · obtain ⟨a, rfl, d0, d1, _⟩ := (HE.out.keep HB.out) k hlt
      have HK := Lib.hid (HS.out.at k hlt)
      have HT := Lib.hid (sumI_take (firsts l) k (by rw [firsts_len]; exact hlt))
      rw [firsts_at l k hlt] at HT
      generalize l.getD k (0, ByteArray.empty) = en at d0 d1 HK HT
      obtain ⟨s, m⟩ := en
      simp only at d0 d1 HK HT
      have hsb := sumI_take_bound (firsts l) k (by rw [firsts_len]; exact hl) HS.out
      have hkb := HK.out
      generalize ForMath.sumI ((firsts l).take k) = t at hsb HT
      go_wp2_with fail
      refine (gross1_any _ _ _).mono ?_; rintro e w2 ⟨rfl, hb2⟩
      have HB2 := Lib.hid hb2
      clear hb2
      go_wp2
      go_roundw
      case rel => exact ⟨k + 1, by omega, by go_num, by rw [HT.out], (HB.out.alloc HB.out.size _).trans (HB2.out.mono (by have := HB.out.size; simp; omega))⟩
      case measure => simp [intOf]; omega
    · have hk2 : (firsts l).take k = firsts l := List.take_of_length_le (by rw [firsts_len]; omega)
      have HK := Lib.hid hk2
      clear hk2
      go_wp2
      go_ret
      exact ⟨by show Ending.returned (.int .i64 (ForMath.sumI ((firsts l).take k))) = _; rw [HK.out]; rfl, HB.out⟩

set_option maxRecDepth 100000 in
set_option maxHeartbeats 1000000 in
theorem sumNets_any (A : Option Addr) (c : Nat) (l : List (Int × ByteArray)) (w : World) (he : EntriesR w A l) (hs : Small l) (hl : l.length ≤ 1000) :
    Calls Tryz.prog 128 #[.slice A l.length c, .func (.func 99) #[] #[]] w fun e w' => e = .returned (.int .i64 (sumS l)) ∧ Below w.heap.size w w' := by
  have HE := Lib.hid he
  have HS := Lib.hid hs
  clear he hs
  go_enter Tryz.func128, Tryz.ntmps128
  go_wp2
  go_loopw [5, 10] (fun t i w' => ∃ k : Nat, k ≤ l.length ∧ i = .int .i64 k ∧ t = .int .i64 (ForMath.sumI ((firsts l).take k)) ∧ Below w.heap.size w w') (fun _ i _ => l.length - (intOf i).toNat)
  case atStart => exact ⟨0, Nat.zero_le _, rfl, by simp [ForMath.sumI], Below.refl _ _⟩
  case round =>
    obtain ⟨k, hk, rfl, rfl, hb⟩ := hrel
    have HB := Lib.hid hb
    clear hb
    by_cases hlt : k < l.length
    · obtain ⟨a, rfl, d0, d1, _⟩ := (HE.out.keep HB.out) k hlt
      have HK := Lib.hid (HS.out.at k hlt)
      have HT := Lib.hid (sumI_take (firsts l) k (by rw [firsts_len]; exact hlt))
      rw [firsts_at l k hlt] at HT
      generalize l.getD k (0, ByteArray.empty) = en at d0 d1 HK HT
      obtain ⟨s, m⟩ := en
      simp only at d0 d1 HK HT
      have hsb := sumI_take_bound (firsts l) k (by rw [firsts_len]; exact hl) HS.out
      have hkb := HK.out
      generalize ForMath.sumI ((firsts l).take k) = t at hsb HT
      go_wp2_with fail
      refine (netStrokes_any _ _ _).mono ?_; rintro e w2 ⟨rfl, hb2⟩
      have HB2 := Lib.hid hb2
      clear hb2
      go_wp2
      go_roundw
      case rel => exact ⟨k + 1, by omega, by go_num, by rw [HT.out], (HB.out.alloc HB.out.size _).trans (HB2.out.mono (by have := HB.out.size; simp; omega))⟩
      case measure => simp [intOf]; omega
    · have hk2 : (firsts l).take k = firsts l := List.take_of_length_le (by rw [firsts_len]; omega)
      have HK := Lib.hid hk2
      clear hk2
      go_wp2
      go_ret
      exact ⟨by show Ending.returned (.int .i64 (ForMath.sumI ((firsts l).take k))) = _; rw [HK.out]; rfl, HB.out⟩

def allCount (l : List (Int × ByteArray)) : Bool := l.all fun e => countsB e.2
/-- An index of the first that is so, or -1. -/
def IdxOut (b : Bool) (w : World) (e : Ending) (w' : World) : Prop := ∃ i : Int, e = .returned (.int .i64 i) ∧ decide (0 ≤ i) = b ∧ Below w.heap.size w w'

set_option maxRecDepth 100000 in
set_option maxHeartbeats 1000000 in
theorem indexNets_any (A : Option Addr) (c : Nat) (l : List (Int × ByteArray)) (w : World) (he : EntriesR w A l) (hl : l.length ≤ 1000) :
    Calls Tryz.prog 189 #[.slice A l.length c, .func (.func 160) #[] #[]] w (IdxOut (!allCount l) w) := by
  have HE := Lib.hid he
  clear he
  go_enter Tryz.func189, Tryz.ntmps189
  go_wp2
  go_loopw [8] (fun i w' => ∃ k : Nat, k ≤ l.length ∧ i = .int .i64 k ∧ allCount (l.take k) = true ∧ Below w.heap.size w w') (fun i _ => l.length - (intOf i).toNat)
  case atStart => exact ⟨0, Nat.zero_le _, rfl, rfl, Below.refl _ _⟩
  case round =>
    obtain ⟨k, hk, rfl, hall, hb⟩ := hrel
    have HALL := Lib.hid hall
    have HB := Lib.hid hb
    clear hb hall
    by_cases hlt : k < l.length
    · obtain ⟨a, rfl, d0, d1, _⟩ := (HE.out.keep HB.out) k hlt
      have HTK : Hid (l.take (k + 1) = l.take k ++ [l.getD k (0, ByteArray.empty)]) := Lib.hid (by
        rw [List.take_succ_eq_append_getElem hlt]; simp [List.getD, List.getElem?_eq_getElem hlt])
      have HMEM : Hid (l.getD k (0, ByteArray.empty) ∈ l) := Lib.hid (by
        simp [List.getD, List.getElem?_eq_getElem hlt])
      generalize l.getD k (0, ByteArray.empty) = en at d0 d1 HTK HMEM
      obtain ⟨s, m⟩ := en
      simp only at d0 d1 HTK HMEM
      have hk0 : (0 : Int) ≤ (k : Int) := Int.natCast_nonneg _
      have hk1 : (k : Int) < (l.length : Int) := by omega
      cases hc : countsB m
      all_goals
        have HC := Lib.hid hc
        go_wp2_with fail
        refine (isWhole1_any _ _ _).mono ?_; rintro e w2 ⟨rfl, hb2⟩
        have HB2 := Lib.hid hb2
        clear hb2
        rw [HC.out]
        clear hc
      · go_wp2
        go_ret
        exact ⟨(k : Int), rfl, by rw [decide_eq_true hk0]; unfold allCount; rw [List.all_eq_false.2 ⟨_, HMEM.out, by simp [HC.out]⟩]; rfl, HB.out.trans (HB2.out.mono HB.out.size)⟩
      · go_wp2
        go_roundw
        case rel => exact ⟨k + 1, by omega, by go_num, by rw [HTK.out]; unfold allCount at HALL ⊢; rw [List.all_append, HALL.out]; simp [HC.out], HB.out.trans (HB2.out.mono HB.out.size)⟩
        case measure => simp [intOf]; omega
    · have hk2 : l.take k = l := List.take_of_length_le (by omega)
      have HK := Lib.hid hk2
      clear hk2
      go_wp2
      go_ret
      exact ⟨-1, rfl, by have := HALL.out; rw [HK.out] at this; rw [this]; rfl, HB.out⟩

set_option maxHeartbeats 400000 in
theorem containsNets_any (A : Option Addr) (c : Nat) (l : List (Int × ByteArray)) (w : World) (he : EntriesR w A l) (hl : l.length ≤ 1000) :
    Calls Tryz.prog 159 #[.slice A l.length c, .func (.func 160) #[] #[]] w fun e w' => e = .returned (.bool (!allCount l)) ∧ Below w.heap.size w w' := by
  have HI := Lib.hid (indexNets_any A c l w he hl)
  clear he
  go_enter Tryz.func159, Tryz.ntmps159
  go_wp2_with fail
  refine HI.out.mono ?_; rintro e w1 ⟨i, rfl, hi, hb⟩
  have HII := Lib.hid hi
  have HB := Lib.hid hb
  clear hi hb HI
  go_wp2
  go_ret
  exact ⟨by rw [← HII.out]; rfl, HB.out⟩

set_option maxHeartbeats 400000 in
theorem isWhole_any (A B : Option Addr) (c d m : Nat) (l : List (Int × ByteArray)) (w : World) (he : EntriesR w A l) (hl : l.length ≤ 1000) :
    Calls Tryz.prog 97 #[.agg #[.slice B m d, .slice A l.length c]] w fun e w' => e = .returned (.bool (allCount l)) ∧ Below w.heap.size w w' := by
  have HI := Lib.hid (fun o => containsNets_any A c l (w.alloc o) (he.keep ((Below.refl _ _).alloc (Nat.le_refl _) o)) hl)
  clear he
  go_enter Tryz.func97, Tryz.ntmps97
  go_wp2_with fail
  refine (HI.out _).mono ?_; rintro e w1 ⟨rfl, hb⟩
  have HB := Lib.hid hb
  clear hb HI
  go_wp2
  go_ret
  exact ⟨by cases allCount l <;> rfl, ((Below.refl _ _).alloc (Nat.le_refl _) _).trans (HB.out.mono (by simp))⟩

set_option maxHeartbeats 400000 in
theorem gross_any (A B : Option Addr) (c d m : Nat) (l : List (Int × ByteArray)) (w : World) (he : EntriesR w B l) (hs : Small l) (hl : l.length ≤ 1000) :
    Calls Tryz.prog 82 #[.agg #[.slice B l.length d, .slice A m c]] w fun e w' => e = .returned (.int .i64 (sumS l)) ∧ Below w.heap.size w w' := by
  have HI := Lib.hid (fun o => sumEntries_any B d l (w.alloc o) (he.keep ((Below.refl _ _).alloc (Nat.le_refl _) o)) hs hl)
  clear he
  go_enter Tryz.func82, Tryz.ntmps82
  go_wp2_with fail
  refine (HI.out _).mono ?_; rintro e w1 ⟨rfl, hb⟩
  have HB := Lib.hid hb
  clear hb HI
  go_wp2
  go_ret
  exact ⟨rfl, ((Below.refl _ _).alloc (Nat.le_refl _) _).trans (HB.out.mono (by simp))⟩
set_option maxHeartbeats 400000 in
theorem net_any (A B : Option Addr) (c d m : Nat) (l : List (Int × ByteArray)) (w : World) (he : EntriesR w A l) (hs : Small l) (hl : l.length ≤ 1000) :
    Calls Tryz.prog 72 #[.agg #[.slice B m d, .slice A l.length c]] w fun e w' => e = .returned (.int .i64 (sumS l)) ∧ Below w.heap.size w w' := by
  have HI := Lib.hid (fun o => sumNets_any A c l (w.alloc o) (he.keep ((Below.refl _ _).alloc (Nat.le_refl _) o)) hs hl)
  clear he
  go_enter Tryz.func72, Tryz.ntmps72
  go_wp2_with fail
  refine (HI.out _).mono ?_; rintro e w1 ⟨rfl, hb⟩
  have HB := Lib.hid hb
  clear hb HI
  go_wp2
  go_ret
  exact ⟨rfl, ((Below.refl _ _).alloc (Nat.le_refl _) _).trans (HB.out.mono (by simp))⟩

end Go.Proofs.YtbckfkopdojggaaGreatDoor

/- CheckPlayer, readRound. -/
namespace Go.Proofs.YtbckfkopdojggaaGreatDoor
open Go.RowKit

def playerI (hs : List (Int × Int)) (nm : ByteArray) (l : List (Int × ByteArray)) (h : Int) : Int := firstI [holesI hs, cardI hs nm l, withinI h (-99) 99]

theorem keep3 {w W w1 : World} {B g : Nat} {u v x : Value} (hb : Below W.heap.size W w1) (h : W.cell? ⟨g, 0, none⟩ = some u ∧ W.cell? ⟨g, 1, none⟩ = some v ∧ W.cell? ⟨g, 2, none⟩ = some x ∧ Hid (Below B w W)) (hB : B ≤ w.heap.size) :
    w1.cell? ⟨g, 0, none⟩ = some u ∧ w1.cell? ⟨g, 1, none⟩ = some v ∧ w1.cell? ⟨g, 2, none⟩ = some x ∧ Hid (Below B w w1) :=
  ⟨(hb.cell (p := ⟨_, _, none⟩) (cell_lt h.1)).trans h.1, (hb.cell (p := ⟨_, _, none⟩) (cell_lt h.1)).trans h.2.1, (hb.cell (p := ⟨_, _, none⟩) (cell_lt h.1)).trans h.2.2.1, h.2.2.2.out.trans (hb.mono (Nat.le_trans hB h.2.2.2.out.size))⟩
theorem keep3_alloc {w W : World} {B g : Nat} {u v x : Value} (o : Obj) (h : W.cell? ⟨g, 0, none⟩ = some u ∧ W.cell? ⟨g, 1, none⟩ = some v ∧ W.cell? ⟨g, 2, none⟩ = some x ∧ Hid (Below B w W)) (hB : B ≤ w.heap.size) :
    (W.alloc o).cell? ⟨g, 0, none⟩ = some u ∧ (W.alloc o).cell? ⟨g, 1, none⟩ = some v ∧ (W.alloc o).cell? ⟨g, 2, none⟩ = some x ∧ Hid (Below B w (W.alloc o)) :=
  keep3 ((Below.refl _ _).alloc (Nat.le_refl _) _) h hB
theorem heldC {C D E : Prop} {B : Nat} {w W : World} (h : C ∧ D ∧ E ∧ Hid (Below B w W)) : Below B w W := h.2.2.2

set_option maxRecDepth 100000 in
set_option maxHeartbeats 4000000 in
theorem fmCheckPlayer_any (A B : Option Addr) (c d : Nat) (hs : List (Int × Int)) (nm : ByteArray) (l : List (Int × ByteArray)) (h : Int) (w : World) (hr : HolesR w A hs) (hbl : ∀ a, A = some a → a.block < w.heap.size)
    (hl : hs.length ≤ 4611686018427387904) (he : EntriesR w B l) (hl2 : l.length ≤ 4611686018427387904) :
    Calls Tryz.prog 106 #[.slice A hs.length c, .agg #[.string nm, .slice B l.length d, .int .i64 h]] w fun e w' => e = .returned (.int .i64 (playerI hs nm l h)) ∧ Below w.heap.size w w' := by
  have HR := Lib.hid hr
  have HB := Lib.hid hbl
  have HE := Lib.hid he
  have HS0 := Lib.hid (fun o => below_drewN ((Below.refl w.heap.size w).alloc (Nat.le_refl _) o) 1)
  clear hr he hbl
  go_enter Tryz.func106, Tryz.ntmps106
  go_wp2
  go_region_held3 (fun w' => w'.cell? ⟨w.heap.size, 0, none⟩ = some (.string nm) ∧ w'.cell? ⟨w.heap.size, 1, none⟩ = some (.slice B l.length d) ∧ w'.cell? ⟨w.heap.size, 2, none⟩ = some (.int .i64 h) ∧ Hid (Below w.heap.size w w'))
    ((first | assumption | exact keep3 hb1 (by assumption) (Nat.le_refl _) | exact keep3_alloc _ (by assumption) (Nat.le_refl _) | exact ⟨by go_simp, by go_simp, by go_simp, HS0.out _⟩))
    (first
      | (go_at_call 50; refine (checkHoles_any _ _ hs _ (HR.out.keep HB.out (heldC (by assumption))) (fun a h => Nat.lt_of_lt_of_le (HB.out a h) (heldC (B := w.heap.size) (w := w) (by assumption)).size) hl).mono ?_; rintro e w1 ⟨rfl, hb1⟩)
      | (go_at_call 163; refine (checkCard_any _ _ _ _ hs _ l _ (HR.out.keep HB.out (heldC (by assumption))) (fun a h => Nat.lt_of_lt_of_le (HB.out a h) (heldC (B := w.heap.size) (w := w) (by assumption)).size) hl (HE.out.keep (heldC (by assumption))) hl2).mono ?_; rintro e w1 ⟨rfl, hb1⟩)
      | (go_at_call 75; refine (fmCheckHandicap_any _ _).mono ?_; rintro e w1 ⟨rfl, rfl⟩)
      | (go_at_call 49; refine (fmFirst_any _ _ [_, _, _] _ (by simp) (Ints.three _ _ _ _ _ _ rfl)).mono ?_; rintro e w1 ⟨rfl, rfl⟩))
  all_goals go_wp2
  all_goals go_ret
  all_goals exact ⟨rfl, by first | exact heldC (by assumption) | exact (heldC (by assumption)).alloc (heldC (B := w.heap.size) (w := w) (by assumption)).size _⟩

end Go.Proofs.YtbckfkopdojggaaGreatDoor

/- readRound, whole, Gross, Score, Nets, Given. -/
namespace Go.Proofs.YtbckfkopdojggaaGreatDoor
open Go.RowKit

theorem firstI_zero : ∀ l : List Int, firstI l = 0 → ∀ x ∈ l, x = 0
  | [], _, x, hx => by cases hx
  | y :: l, h, x, hx => by
    unfold firstI at h
    by_cases hy : y = 0
    · rw [if_pos hy] at h
      rcases List.mem_cons.1 hx with rfl | hx
      · exact hy
      · exact firstI_zero l h x hx
    · rw [if_neg hy] at h; exact absurd h hy
theorem entriesI_zero : ∀ l : List (Int × ByteArray), entriesI l = 0 → ∀ e ∈ l, entryI e.1 e.2 = 0
  | [], _, x, hx => by cases hx
  | (n, m) :: l, h, x, hx => by
    unfold entriesI at h
    by_cases hy : entryI n m = 0
    · rw [if_pos hy] at h
      rcases List.mem_cons.1 hx with rfl | hx
      · exact hy
      · exact entriesI_zero l h x hx
    · rw [if_neg hy] at h; exact absurd h hy
theorem entryI_bound {n : Int} {m : ByteArray} (h : entryI n m = 0) : 0 ≤ n ∧ n ≤ 99 := by
  unfold entryI at h
  split at h <;> first | (split at h <;> omega) | omega
/-- A player without an error. -/
structure Fit (hs : List (Int × Int)) (l : List (Int × ByteArray)) (h : Int) : Prop where
  pos : 0 < hs.length
  most : hs.length ≤ 36
  len : l.length = hs.length
  strokes : Strokes l
  lo : -99 ≤ h
  hi : h ≤ 99
theorem fit_of {hs : List (Int × Int)} {nm : ByteArray} {l : List (Int × ByteArray)} {h : Int} (e : playerI hs nm l h = 0) : Fit hs l h := by
  have h1 := firstI_zero _ e (holesI hs) (by simp)
  have h2 := firstI_zero _ e (cardI hs nm l) (by simp)
  have h3 := firstI_zero _ e (withinI h (-99) 99) (by simp)
  have h4 := firstI_zero _ h2 (pairedI l.length hs.length) (by simp)
  have h5 := firstI_zero _ h2 (entriesI l) (by simp)
  unfold holesI at h1
  unfold withinI at h3
  unfold pairedI at h4
  split at h1
  · omega
  · split at h1
    · omega
    · split at h3
      · split at h4
        · exact ⟨by omega, by omega, by omega, fun e he => entryI_bound (entriesI_zero l h5 e he), by omega, by omega⟩
        · omega
      · omega
theorem Fit.small {hs : List (Int × Int)} {l : List (Int × ByteArray)} {h : Int} (f : Fit hs l h) : Small l := fun x hx => by
  unfold firsts at hx
  obtain ⟨e, he, rfl⟩ := List.mem_map.1 hx
  have := f.strokes e he
  omega
theorem netV_small (g : Int) (e : Int × ByteArray) (h1 : 0 ≤ e.1 ∧ e.1 ≤ 99) (h2 : -1001 ≤ g ∧ g ≤ 1001) : -10000 ≤ (netV g e).1 ∧ (netV g e).1 ≤ 10000 := by
  unfold netV
  split
  · simp
  · simp only; omega
theorem Fit.netsLen {hs : List (Int × Int)} {l : List (Int × ByteArray)} {h : Int} (f : Fit hs l h) : (netsOf hs h l).length = hs.length := by
  unfold netsOf
  rw [netsL_len _ _ (by rw [givenL_len, f.len]), f.len]
theorem Fit.netsSmall {hs : List (Int × Int)} {l : List (Int × ByteArray)} {h : Int} (f : Fit hs l h) : Small (netsOf hs h l) := fun x hx => by
  unfold firsts netsOf netsL at hx
  obtain ⟨e, he, rfl⟩ := List.mem_map.1 hx
  obtain ⟨⟨g, n⟩, hz, rfl⟩ := List.mem_map.1 he
  have h1 := List.of_mem_zip hz
  refine netV_small g n (f.strokes n h1.2) ?_
  obtain ⟨y, _, rfl⟩ := List.mem_map.1 h1.1
  have hq := div_small h hs.length f.lo f.hi f.pos
  unfold addI
  split <;> omega

set_option maxRecDepth 100000 in
set_option maxHeartbeats 1000000 in
theorem readRound_no (A B : Option Addr) (c d : Nat) (hs : List (Int × Int)) (nm : ByteArray) (l : List (Int × ByteArray)) (h : Int) (w : World) (hr : HolesR w A hs) (hbl : ∀ a, A = some a → a.block < w.heap.size)
    (hl : hs.length ≤ 4611686018427387904) (he : EntriesR w B l) (hl2 : l.length ≤ 4611686018427387904) (hn : playerI hs nm l h ≠ 0) :
    Calls Tryz.prog 70 #[.slice A hs.length c, .agg #[.string nm, .slice B l.length d, .int .i64 h]] w fun e w' => e = .returned (.tuple #[.agg #[.slice none 0 0, .slice none 0 0], .int .i64 (playerI hs nm l h)]) ∧ Below w.heap.size w w' := by
  have HC := Lib.hid (fun W (hb : Below w.heap.size w W) => fmCheckPlayer_any A B c d hs nm l h W (hr.keep hbl hb) (fun a ha => Nat.lt_of_lt_of_le (hbl a ha) hb.size) hl (he.keep hb) hl2)
  have hnb : (playerI hs nm l h != 0) = true := by simpa using hn
  clear hr hbl he hn
  generalize playerI hs nm l h = q at HC hnb
  go_enter Tryz.func70, Tryz.ntmps70
  go_wp2_with fail
  generalize hW0 : (w.alloc (.cells #[.string nm, .slice B l.length d, .int .i64 h] 55)).alloc (.cells #[.slice none 0 0, .slice none 0 0] 135) = W0
  obtain ⟨_, hb, hB, hsz⟩ := two_allocs w _ _ _ _ hW0
  have HB0 := Lib.hid hB
  have HBL := Lib.hid hb
  have HSZ := Lib.hid hsz
  clear hW0 hb hB hsz
  refine (HC.out W0 HB0.out).mono ?_
  rintro e w1 ⟨rfl, hb1⟩
  have HB := Lib.hid (HB0.out.trans (hb1.mono HB0.out.size))
  have hbl := HBL.out.below hb1 (by rw [HSZ.out]; omega)
  have c0 := hbl.cell 0
  have c1 := hbl.cell 1
  have f0 := hbl.frozen 0
  have f1 := hbl.frozen 1
  have HBL1 := Lib.hid hbl
  clear hb1 hbl HC
  go_wp2
  refine bodyPost_ret (v := .tuple #[.agg #[.slice none 0 0, .slice none 0 0], .int .i64 q]) ?_ rfl ⟨rfl, (HB.out.setCell (by simp) _).setCell (by simp) _⟩
  have q2 := (HBL1.out.set 0 (.slice none 0 0)).set 1 (.slice none 0 0)
  have q3 := q2.cell 0
  have q4 := q2.cell 1
  simp [results, Tryz.results70, go_sem, q3, q4]

/-- A round without an error. -/
def ReadOut (B : Option Addr) (d : Nat) (l nets : List (Int × ByteArray)) (w : World) (e : Ending) (w' : World) : Prop :=
  ∃ A c, e = .returned (.tuple #[.agg #[.slice B l.length d, .slice A nets.length c], .int .i64 0]) ∧ EntriesR w' A nets ∧ (∀ a, A = some a → w.heap.size ≤ a.block) ∧ Below w.heap.size w w'

set_option maxRecDepth 100000 in
set_option maxHeartbeats 1000000 in
theorem readRound_yes (A B : Option Addr) (c d : Nat) (hs : List (Int × Int)) (nm : ByteArray) (l : List (Int × ByteArray)) (h : Int) (w : World) (hr : HolesR w A hs) (hbl : ∀ a, A = some a → a.block < w.heap.size)
    (he : EntriesR w B l) (hn : playerI hs nm l h = 0) :
    Calls Tryz.prog 70 #[.slice A hs.length c, .agg #[.string nm, .slice B l.length d, .int .i64 h]] w (ReadOut B d l (netsOf hs h l) w) := by
  have F := fit_of hn
  have HC := Lib.hid (fun W (hb : Below w.heap.size w W) => fmCheckPlayer_any A B c d hs nm l h W (hr.keep hbl hb) (fun a ha => Nat.lt_of_lt_of_le (hbl a ha) hb.size) (by have := F.most; omega) (he.keep hb) (by have := F.most; have := F.len; omega))
  have HD := Lib.hid (fun W (hb : Below w.heap.size w W) => roundOf_any A B c d hs nm l h W (hr.keep hbl hb) (fun a ha => Nat.lt_of_lt_of_le (hbl a ha) hb.size) (he.keep hb) F.pos (by have := F.most; omega) F.len F.strokes F.lo F.hi)
  rw [hn] at HC
  clear hr hbl he hn F
  generalize netsOf hs h l = nl at HD ⊢
  go_enter Tryz.func70, Tryz.ntmps70
  go_wp2_with fail
  generalize hW0 : (w.alloc (.cells #[.string nm, .slice B l.length d, .int .i64 h] 55)).alloc (.cells #[.slice none 0 0, .slice none 0 0] 135) = W0
  obtain ⟨hp, hb, hB, hsz⟩ := two_allocs w _ _ _ _ hW0
  have HB0 := Lib.hid hB
  have HBL := Lib.hid hb
  have HP := Lib.hid hp
  have HSZ := Lib.hid hsz
  clear hW0 hb hB hsz hp
  refine (HC.out W0 HB0.out).mono ?_
  rintro e w1 ⟨rfl, hb1⟩
  have HB1 := Lib.hid (HB0.out.trans (hb1.mono HB0.out.size))
  have HBL1 := Lib.hid (HBL.out.below hb1 (by rw [HSZ.out]; omega))
  have hp1 := HP.out.below hb1 (by rw [HSZ.out]; omega)
  have HS1 : Hid (w.heap.size + 1 < w1.heap.size) := Lib.hid (by have := hb1.size; have := HSZ.out; omega)
  have p0 := hp1.cell 0
  have p1 := hp1.cell 1
  have p2 := hp1.cell 2
  clear hb1 HC hp1
  go_wp2_with fail
  clear p0 p1 p2
  refine (HD.out w1 HB1.out).mono ?_
  rintro e w2 ⟨A', c', rfl, hent, hge, hb2⟩
  have HB2 := Lib.hid (HB1.out.trans (hb2.mono HB1.out.size))
  have hbl2 := HBL1.out.below hb2 (by have := HS1.out; omega)
  have c0 := hbl2.cell 0
  have c1 := hbl2.cell 1
  have f0 := hbl2.frozen 0
  have f1 := hbl2.frozen 1
  have HBL2 := Lib.hid hbl2
  have HENT := Lib.hid hent
  have HGE := Lib.hid hge
  clear hb2 hbl2 HD hent hge
  go_wp2
  refine bodyPost_ret (v := .tuple #[.agg #[.slice B l.length d, .slice A' nl.length c'], .int .i64 0]) ?_ rfl ⟨A', c', rfl, ?_, fun a ha => by have := HGE.out a ha; have := HB1.out.size; omega, (HB2.out.setCell (by simp) _).setCell (by simp) _⟩
  · have q2 := (HBL2.out.set 0 (.slice B l.length d)).set 1 (.slice A' nl.length c')
    have q3 := q2.cell 0
    have q4 := q2.cell 1
    simp [results, Tryz.results70, go_sem, q3, q4]
  · have hne : ∀ a, A' = some a → a.block ≠ w.heap.size + 1 := fun a ha => by have := HGE.out a ha; have := HS1.out; omega
    exact (HENT.out.far (p := ⟨w.heap.size + 1, 0, none⟩) hne _).far (p := ⟨w.heap.size + 1, 1, none⟩) hne _

end Go.Proofs.YtbckfkopdojggaaGreatDoor

/- whole, Gross, Score. -/
namespace Go.Proofs.YtbckfkopdojggaaGreatDoor
open Go.RowKit

/-- A score, where all holes count. -/
def wholeR (nl : List (Int × ByteArray)) (s : Int) : Int × Int := if allCount nl then (s, 0) else (0, 7)
def grossR (hs : List (Int × Int)) (nm : ByteArray) (l : List (Int × ByteArray)) (h : Int) : Int × Int := if playerI hs nm l h = 0 then wholeR (netsOf hs h l) (sumS l) else (0, playerI hs nm l h)
def scoreR (hs : List (Int × Int)) (nm : ByteArray) (l : List (Int × ByteArray)) (h : Int) : Int × Int := if playerI hs nm l h = 0 then wholeR (netsOf hs h l) (sumS (netsOf hs h l)) else (0, playerI hs nm l h)

set_option maxRecDepth 100000 in
set_option maxHeartbeats 1000000 in
theorem wholeGross_any (A B : Option Addr) (c d : Nat) (l nl : List (Int × ByteArray)) (w : World) (he : EntriesR w B l) (hn : EntriesR w A nl) (hs : Small l) (hl : l.length ≤ 1000) (hl2 : nl.length ≤ 1000) :
    Calls Tryz.prog 71 #[.agg #[.slice B l.length d, .slice A nl.length c], .func (.func 82) #[.agg #[.slice B l.length d, .slice A nl.length c]] #[]] w fun e w' =>
      e = .returned (.tuple #[.int .i64 (wholeR nl (sumS l)).1, .int .i64 (wholeR nl (sumS l)).2]) ∧ Below w.heap.size w w' := by
  have HI := Lib.hid (fun W (hb : Below w.heap.size w W) => isWhole_any A B c d l.length nl W (hn.keep hb) hl2)
  have HG := Lib.hid (fun W (hb : Below w.heap.size w W) => gross_any A B c d nl.length l W (he.keep hb) hs hl)
  clear he hn hs
  cases ha : allCount nl
  all_goals
    have HA := Lib.hid ha
    rw [ha] at HI
    clear ha
    go_enter Tryz.func71, Tryz.ntmps71
    go_wp2_with fail
    refine (HI.out _ ((Below.refl _ _).alloc (Nat.le_refl _) _)).mono ?_
    rintro e w1 ⟨rfl, hb1⟩
    have HB1 := Lib.hid (((Below.refl w.heap.size w).alloc (Nat.le_refl _) (.cells #[.slice B l.length d, .slice A nl.length c] 135)).trans (hb1.mono (by simp)))
    clear hb1 HI
  · go_wp2
    go_ret2
    exact ⟨by unfold wholeR; rw [HA.out]; rfl, HB1.out⟩
  · go_wp2_with fail
    refine (HG.out w1 HB1.out).mono ?_
    rintro e w2 ⟨rfl, hb2⟩
    have HB2 := Lib.hid (HB1.out.trans (hb2.mono HB1.out.size))
    clear hb2 HG
    go_wp2
    go_ret2
    exact ⟨by unfold wholeR; rw [HA.out]; rfl, HB2.out⟩

set_option maxRecDepth 100000 in
set_option maxHeartbeats 1000000 in
theorem wholeScore_any (A B : Option Addr) (c d : Nat) (l nl : List (Int × ByteArray)) (w : World) (he : EntriesR w B l) (hn : EntriesR w A nl) (hs : Small nl) (hl : l.length ≤ 1000) (hl2 : nl.length ≤ 1000) :
    Calls Tryz.prog 71 #[.agg #[.slice B l.length d, .slice A nl.length c], .func (.func 72) #[.agg #[.slice B l.length d, .slice A nl.length c]] #[]] w fun e w' =>
      e = .returned (.tuple #[.int .i64 (wholeR nl (sumS nl)).1, .int .i64 (wholeR nl (sumS nl)).2]) ∧ Below w.heap.size w w' := by
  have HI := Lib.hid (fun W (hb : Below w.heap.size w W) => isWhole_any A B c d l.length nl W (hn.keep hb) hl2)
  have HG := Lib.hid (fun W (hb : Below w.heap.size w W) => net_any A B c d l.length nl W (hn.keep hb) hs hl2)
  clear he hn hs
  cases ha : allCount nl
  all_goals
    have HA := Lib.hid ha
    rw [ha] at HI
    clear ha
    go_enter Tryz.func71, Tryz.ntmps71
    go_wp2_with fail
    refine (HI.out _ ((Below.refl _ _).alloc (Nat.le_refl _) _)).mono ?_
    rintro e w1 ⟨rfl, hb1⟩
    have HB1 := Lib.hid (((Below.refl w.heap.size w).alloc (Nat.le_refl _) (.cells #[.slice B l.length d, .slice A nl.length c] 135)).trans (hb1.mono (by simp)))
    clear hb1 HI
  · go_wp2
    go_ret2
    exact ⟨by unfold wholeR; rw [HA.out]; rfl, HB1.out⟩
  · go_wp2_with fail
    refine (HG.out w1 HB1.out).mono ?_
    rintro e w2 ⟨rfl, hb2⟩
    have HB2 := Lib.hid (HB1.out.trans (hb2.mono HB1.out.size))
    clear hb2 HG
    go_wp2
    go_ret2
    exact ⟨by unfold wholeR; rw [HA.out]; rfl, HB2.out⟩

set_option maxRecDepth 100000 in
set_option maxHeartbeats 1000000 in
theorem fmGross_any (A B : Option Addr) (c d : Nat) (hs : List (Int × Int)) (nm : ByteArray) (l : List (Int × ByteArray)) (h : Int) (w : World) (hr : HolesR w A hs) (hbl : ∀ a, A = some a → a.block < w.heap.size)
    (hl : hs.length ≤ 4611686018427387904) (he : EntriesR w B l) (hl2 : l.length ≤ 4611686018427387904) :
    Calls Tryz.prog 36 #[.slice A hs.length c, .agg #[.string nm, .slice B l.length d, .int .i64 h]] w fun e w' =>
      e = .returned (.tuple #[.int .i64 (grossR hs nm l h).1, .int .i64 (grossR hs nm l h).2]) ∧ Below w.heap.size w w' := by
  have HE := Lib.hid he
  by_cases hn : playerI hs nm l h = 0
  · have HC := Lib.hid (fun W (hb : Below w.heap.size w W) => readRound_yes A B c d hs nm l h W (hr.keep hbl hb) (fun a ha => Nat.lt_of_lt_of_le (hbl a ha) hb.size) (he.keep hb) hn)
    have F := Lib.hid (fit_of hn)
    have HN := Lib.hid hn
    clear hr hbl hn he
    go_enter Tryz.func36, Tryz.ntmps36
    go_wp2_with fail
    refine (HC.out _ ((Below.refl _ _).alloc (Nat.le_refl _) _)).mono ?_
    rintro e w1 ⟨A', c', rfl, hent, hge, hb1⟩
    have HENT := Lib.hid hent
    have HB1 := Lib.hid (((Below.refl w.heap.size w).alloc (Nat.le_refl _) (.cells #[.string nm, .slice B l.length d, .int .i64 h] 55)).trans (hb1.mono (by simp)))
    clear hb1 HC hent hge
    have HNL := Lib.hid F.out.netsLen
    have HNS := Lib.hid F.out.netsSmall
    have HR : Hid (grossR hs nm l h = wholeR (netsOf hs h l) (sumS l)) := Lib.hid (by unfold grossR; rw [if_pos HN.out])
    generalize netsOf hs h l = nl at HENT HNL HNS HR
    go_wp2_with fail
    refine (wholeGross_any A' B c' d l nl _ (HE.out.keep (HB1.out.alloc HB1.out.size _)) (HENT.out.keep ((Below.refl _ _).alloc (Nat.le_refl _) _)) F.out.small (by have := F.out.most; have := F.out.len; omega) (by have := HNL.out; have := F.out.most; omega)).mono ?_
    rintro e w2 ⟨rfl, hb2⟩
    have HB2 := Lib.hid ((HB1.out.alloc HB1.out.size (.cells #[.slice B l.length d, .slice A' nl.length c'] 135)).trans (hb2.mono (by have := HB1.out.size; simp; omega)))
    clear hb2
    go_wp2
    go_ret2
    exact ⟨by rw [HR.out]; rfl, HB2.out⟩
  · have HC := Lib.hid (fun W (hb : Below w.heap.size w W) => readRound_no A B c d hs nm l h W (hr.keep hbl hb) (fun a ha => Nat.lt_of_lt_of_le (hbl a ha) hb.size) hl (he.keep hb) hl2 hn)
    have hnb : (playerI hs nm l h != 0) = true := by simpa using hn
    have HR : Hid (grossR hs nm l h = (0, playerI hs nm l h)) := Lib.hid (by unfold grossR; rw [if_neg hn])
    clear hr hbl hn he
    generalize playerI hs nm l h = q at HC hnb HR
    go_enter Tryz.func36, Tryz.ntmps36
    go_wp2_with fail
    refine (HC.out _ ((Below.refl _ _).alloc (Nat.le_refl _) _)).mono ?_
    rintro e w1 ⟨rfl, hb1⟩
    have HB1 := Lib.hid (((Below.refl w.heap.size w).alloc (Nat.le_refl _) (.cells #[.string nm, .slice B l.length d, .int .i64 h] 55)).trans (hb1.mono (by simp)))
    clear hb1 HC
    go_wp2
    go_ret2
    exact ⟨by rw [HR.out]; rfl, HB1.out.alloc HB1.out.size _⟩

set_option maxRecDepth 100000 in
set_option maxHeartbeats 1000000 in
theorem fmScore_any (A B : Option Addr) (c d : Nat) (hs : List (Int × Int)) (nm : ByteArray) (l : List (Int × ByteArray)) (h : Int) (w : World) (hr : HolesR w A hs) (hbl : ∀ a, A = some a → a.block < w.heap.size)
    (hl : hs.length ≤ 4611686018427387904) (he : EntriesR w B l) (hl2 : l.length ≤ 4611686018427387904) :
    Calls Tryz.prog 24 #[.slice A hs.length c, .agg #[.string nm, .slice B l.length d, .int .i64 h]] w fun e w' =>
      e = .returned (.tuple #[.int .i64 (scoreR hs nm l h).1, .int .i64 (scoreR hs nm l h).2]) ∧ Below w.heap.size w w' := by
  have HE := Lib.hid he
  by_cases hn : playerI hs nm l h = 0
  · have HC := Lib.hid (fun W (hb : Below w.heap.size w W) => readRound_yes A B c d hs nm l h W (hr.keep hbl hb) (fun a ha => Nat.lt_of_lt_of_le (hbl a ha) hb.size) (he.keep hb) hn)
    have F := Lib.hid (fit_of hn)
    have HN := Lib.hid hn
    clear hr hbl hn he
    go_enter Tryz.func24, Tryz.ntmps24
    go_wp2_with fail
    refine (HC.out _ ((Below.refl _ _).alloc (Nat.le_refl _) _)).mono ?_
    rintro e w1 ⟨A', c', rfl, hent, hge, hb1⟩
    have HENT := Lib.hid hent
    have HB1 := Lib.hid (((Below.refl w.heap.size w).alloc (Nat.le_refl _) (.cells #[.string nm, .slice B l.length d, .int .i64 h] 55)).trans (hb1.mono (by simp)))
    clear hb1 HC hent hge
    have HNL := Lib.hid F.out.netsLen
    have HNS := Lib.hid F.out.netsSmall
    have HR : Hid (scoreR hs nm l h = wholeR (netsOf hs h l) (sumS (netsOf hs h l))) := Lib.hid (by unfold scoreR; rw [if_pos HN.out])
    generalize netsOf hs h l = nl at HENT HNL HNS HR
    go_wp2_with fail
    refine (wholeScore_any A' B c' d l nl _ (HE.out.keep (HB1.out.alloc HB1.out.size _)) (HENT.out.keep ((Below.refl _ _).alloc (Nat.le_refl _) _)) HNS.out (by have := F.out.most; have := F.out.len; omega) (by have := HNL.out; have := F.out.most; omega)).mono ?_
    rintro e w2 ⟨rfl, hb2⟩
    have HB2 := Lib.hid ((HB1.out.alloc HB1.out.size (.cells #[.slice B l.length d, .slice A' nl.length c'] 135)).trans (hb2.mono (by have := HB1.out.size; simp; omega)))
    clear hb2
    go_wp2
    go_ret2
    exact ⟨by rw [HR.out]; rfl, HB2.out⟩
  · have HC := Lib.hid (fun W (hb : Below w.heap.size w W) => readRound_no A B c d hs nm l h W (hr.keep hbl hb) (fun a ha => Nat.lt_of_lt_of_le (hbl a ha) hb.size) hl (he.keep hb) hl2 hn)
    have hnb : (playerI hs nm l h != 0) = true := by simpa using hn
    have HR : Hid (scoreR hs nm l h = (0, playerI hs nm l h)) := Lib.hid (by unfold scoreR; rw [if_neg hn])
    clear hr hbl hn he
    generalize playerI hs nm l h = q at HC hnb HR
    go_enter Tryz.func24, Tryz.ntmps24
    go_wp2_with fail
    refine (HC.out _ ((Below.refl _ _).alloc (Nat.le_refl _) _)).mono ?_
    rintro e w1 ⟨rfl, hb1⟩
    have HB1 := Lib.hid (((Below.refl w.heap.size w).alloc (Nat.le_refl _) (.cells #[.string nm, .slice B l.length d, .int .i64 h] 55)).trans (hb1.mono (by simp)))
    clear hb1 HC
    go_wp2
    go_ret2
    exact ⟨by rw [HR.out]; rfl, HB1.out.alloc HB1.out.size _⟩

end Go.Proofs.YtbckfkopdojggaaGreatDoor
