/- readRound, whole, Gross, Score, Nets, Given. -/
import Derived.Test.YtmnmdeehcdfkfaaDoorFrmH
import Derived.Outline
namespace Go.Proofs.YtmnmdeehcdfkfaaDoor
open Go.RowKit

theorem firstI_zero : ∀ l : List Int, firstI l = 0 → ∀ x ∈ l, x = 0
  | [], _, x, hx => by cases hx
  | y :: l, h, x, hx => by
    unfold firstI at h
    by_cases hy : y = 0
    · rw [if_pos hy] at h
      rcases List.mem_cons.1 hx with rfl | hx
      · exact hy
      · exact firstI_zero l h x hx
    · rw [if_neg hy] at h; exact absurd h hy
theorem entriesI_zero : ∀ l : List (Int × ByteArray), entriesI l = 0 → ∀ e ∈ l, entryI e.1 e.2 = 0
  | [], _, x, hx => by cases hx
  | (n, m) :: l, h, x, hx => by
    unfold entriesI at h
    by_cases hy : entryI n m = 0
    · rw [if_pos hy] at h
      rcases List.mem_cons.1 hx with rfl | hx
      · exact hy
      · exact entriesI_zero l h x hx
    · rw [if_neg hy] at h; exact absurd h hy
theorem entryI_bound {n : Int} {m : ByteArray} (h : entryI n m = 0) : 0 ≤ n ∧ n ≤ 99 := by
  unfold entryI at h
  split at h <;> first | (split at h <;> omega) | omega
/-- A player without an error. -/
structure Fit (hs : List (Int × Int)) (l : List (Int × ByteArray)) (h : Int) : Prop where
  pos : 0 < hs.length
  most : hs.length ≤ 36
  len : l.length = hs.length
  strokes : Strokes l
  lo : -99 ≤ h
  hi : h ≤ 99
theorem fit_of {hs : List (Int × Int)} {nm : ByteArray} {l : List (Int × ByteArray)} {h : Int} (e : playerI hs nm l h = 0) : Fit hs l h := by
  have h1 := firstI_zero _ e (holesI hs) (by simp)
  have h2 := firstI_zero _ e (cardI hs nm l) (by simp)
  have h3 := firstI_zero _ e (withinI h (-99) 99) (by simp)
  have h4 := firstI_zero _ h2 (pairedI l.length hs.length) (by simp)
  have h5 := firstI_zero _ h2 (entriesI l) (by simp)
  unfold holesI at h1
  unfold withinI at h3
  unfold pairedI at h4
  split at h1
  · omega
  · split at h1
    · omega
    · split at h3
      · split at h4
        · exact ⟨by omega, by omega, by omega, fun e he => entryI_bound (entriesI_zero l h5 e he), by omega, by omega⟩
        · omega
      · omega
theorem Fit.small {hs : List (Int × Int)} {l : List (Int × ByteArray)} {h : Int} (f : Fit hs l h) : Small l := fun x hx => by
  unfold firsts at hx
  obtain ⟨e, he, rfl⟩ := List.mem_map.1 hx
  have := f.strokes e he
  omega
theorem netV_small (g : Int) (e : Int × ByteArray) (h1 : 0 ≤ e.1 ∧ e.1 ≤ 99) (h2 : -1001 ≤ g ∧ g ≤ 1001) : -10000 ≤ (netV g e).1 ∧ (netV g e).1 ≤ 10000 := by
  unfold netV
  split
  · simp
  · simp only; omega
theorem Fit.netsLen {hs : List (Int × Int)} {l : List (Int × ByteArray)} {h : Int} (f : Fit hs l h) : (netsOf hs h l).length = hs.length := by
  unfold netsOf
  rw [netsL_len _ _ (by rw [givenL_len, f.len]), f.len]
theorem Fit.netsSmall {hs : List (Int × Int)} {l : List (Int × ByteArray)} {h : Int} (f : Fit hs l h) : Small (netsOf hs h l) := fun x hx => by
  unfold firsts netsOf netsL at hx
  obtain ⟨e, he, rfl⟩ := List.mem_map.1 hx
  obtain ⟨⟨g, n⟩, hz, rfl⟩ := List.mem_map.1 he
  have h1 := List.of_mem_zip hz
  refine netV_small g n (f.strokes n h1.2) ?_
  obtain ⟨y, _, rfl⟩ := List.mem_map.1 h1.1
  have hq := div_small h hs.length f.lo f.hi f.pos
  unfold addI
  split <;> omega

set_option maxRecDepth 100000 in
set_option maxHeartbeats 1000000 in
theorem readRound_no (A B : Option Addr) (c d : Nat) (hs : List (Int × Int)) (nm : ByteArray) (l : List (Int × ByteArray)) (h : Int) (w : World) (hr : HolesR w A hs) (hbl : ∀ a, A = some a → a.block < w.heap.size)
    (hl : hs.length ≤ 4611686018427387904) (he : EntriesR w B l) (hl2 : l.length ≤ 4611686018427387904) (hn : playerI hs nm l h ≠ 0) :
    Calls Tryd.prog 22 #[.slice A hs.length c, .agg #[.string nm, .slice B l.length d, .int .i64 h]] w fun e w' => e = .returned (.tuple #[.agg #[.slice none 0 0, .slice none 0 0], .int .i64 (playerI hs nm l h)]) ∧ Below w.heap.size w w' := by
  have HC := Lib.hid (fun W (hb : Below w.heap.size w W) => fmCheckPlayer_any A B c d hs nm l h W (hr.keep hbl hb) (fun a ha => Nat.lt_of_lt_of_le (hbl a ha) hb.size) hl (he.keep hb) hl2)
  have hnb : (playerI hs nm l h != 0) = true := by simpa using hn
  clear hr hbl he hn
  generalize playerI hs nm l h = q at HC hnb
  go_enter Tryd.func22, Tryd.ntmps22
  go_wp2_with fail
  generalize hW0 : (w.alloc (.cells #[.string nm, .slice B l.length d, .int .i64 h] 34)).alloc (.cells #[.slice none 0 0, .slice none 0 0] 55) = W0
  obtain ⟨_, hb, hB, hsz⟩ := two_allocs w _ _ _ _ hW0
  have HB0 := Lib.hid hB
  have HBL := Lib.hid hb
  have HSZ := Lib.hid hsz
  clear hW0 hb hB hsz
  refine (HC.out W0 HB0.out).mono ?_
  rintro e w1 ⟨rfl, hb1⟩
  have HB := Lib.hid (HB0.out.trans (hb1.mono HB0.out.size))
  have hbl := HBL.out.below hb1 (by rw [HSZ.out]; omega)
  have c0 := hbl.cell 0
  have c1 := hbl.cell 1
  have f0 := hbl.frozen 0
  have f1 := hbl.frozen 1
  have HBL1 := Lib.hid hbl
  clear hb1 hbl HC
  go_wp2
  refine bodyPost_ret (v := .tuple #[.agg #[.slice none 0 0, .slice none 0 0], .int .i64 q]) ?_ rfl ⟨rfl, (HB.out.setCell (by simp) _).setCell (by simp) _⟩
  have q2 := (HBL1.out.set 0 (.slice none 0 0)).set 1 (.slice none 0 0)
  have q3 := q2.cell 0
  have q4 := q2.cell 1
  simp [results, Tryd.results22, go_sem, q3, q4]

/-- A round without an error. -/
def ReadOut (B : Option Addr) (d : Nat) (l nets : List (Int × ByteArray)) (w : World) (e : Ending) (w' : World) : Prop :=
  ∃ A c, e = .returned (.tuple #[.agg #[.slice B l.length d, .slice A nets.length c], .int .i64 0]) ∧ EntriesR w' A nets ∧ (∀ a, A = some a → w.heap.size ≤ a.block) ∧ Below w.heap.size w w'

set_option maxRecDepth 100000 in
set_option maxHeartbeats 1000000 in
theorem readRound_yes (A B : Option Addr) (c d : Nat) (hs : List (Int × Int)) (nm : ByteArray) (l : List (Int × ByteArray)) (h : Int) (w : World) (hr : HolesR w A hs) (hbl : ∀ a, A = some a → a.block < w.heap.size)
    (he : EntriesR w B l) (hn : playerI hs nm l h = 0) :
    Calls Tryd.prog 22 #[.slice A hs.length c, .agg #[.string nm, .slice B l.length d, .int .i64 h]] w (ReadOut B d l (netsOf hs h l) w) := by
  have F := fit_of hn
  have HC := Lib.hid (fun W (hb : Below w.heap.size w W) => fmCheckPlayer_any A B c d hs nm l h W (hr.keep hbl hb) (fun a ha => Nat.lt_of_lt_of_le (hbl a ha) hb.size) (by have := F.most; omega) (he.keep hb) (by have := F.most; have := F.len; omega))
  have HD := Lib.hid (fun W (hb : Below w.heap.size w W) => roundOf_any A B c d hs nm l h W (hr.keep hbl hb) (fun a ha => Nat.lt_of_lt_of_le (hbl a ha) hb.size) (he.keep hb) F.pos (by have := F.most; omega) F.len F.strokes F.lo F.hi)
  rw [hn] at HC
  clear hr hbl he hn F
  generalize netsOf hs h l = nl at HD ⊢
  go_enter Tryd.func22, Tryd.ntmps22
  go_wp2_with fail
  generalize hW0 : (w.alloc (.cells #[.string nm, .slice B l.length d, .int .i64 h] 34)).alloc (.cells #[.slice none 0 0, .slice none 0 0] 55) = W0
  obtain ⟨hp, hb, hB, hsz⟩ := two_allocs w _ _ _ _ hW0
  have HB0 := Lib.hid hB
  have HBL := Lib.hid hb
  have HP := Lib.hid hp
  have HSZ := Lib.hid hsz
  clear hW0 hb hB hsz hp
  refine (HC.out W0 HB0.out).mono ?_
  rintro e w1 ⟨rfl, hb1⟩
  have HB1 := Lib.hid (HB0.out.trans (hb1.mono HB0.out.size))
  have HBL1 := Lib.hid (HBL.out.below hb1 (by rw [HSZ.out]; omega))
  have hp1 := HP.out.below hb1 (by rw [HSZ.out]; omega)
  have HS1 : Hid (w.heap.size + 1 < w1.heap.size) := Lib.hid (by have := hb1.size; have := HSZ.out; omega)
  have p0 := hp1.cell 0
  have p1 := hp1.cell 1
  have p2 := hp1.cell 2
  clear hb1 HC hp1
  go_wp2_with fail
  clear p0 p1 p2
  refine (HD.out w1 HB1.out).mono ?_
  rintro e w2 ⟨A', c', rfl, hent, hge, hb2⟩
  have HB2 := Lib.hid (HB1.out.trans (hb2.mono HB1.out.size))
  have hbl2 := HBL1.out.below hb2 (by have := HS1.out; omega)
  have c0 := hbl2.cell 0
  have c1 := hbl2.cell 1
  have f0 := hbl2.frozen 0
  have f1 := hbl2.frozen 1
  have HBL2 := Lib.hid hbl2
  have HENT := Lib.hid hent
  have HGE := Lib.hid hge
  clear hb2 hbl2 HD hent hge
  go_wp2
  refine bodyPost_ret (v := .tuple #[.agg #[.slice B l.length d, .slice A' nl.length c'], .int .i64 0]) ?_ rfl ⟨A', c', rfl, ?_, fun a ha => by have := HGE.out a ha; have := HB1.out.size; omega, (HB2.out.setCell (by simp) _).setCell (by simp) _⟩
  · have q2 := (HBL2.out.set 0 (.slice B l.length d)).set 1 (.slice A' nl.length c')
    have q3 := q2.cell 0
    have q4 := q2.cell 1
    simp [results, Tryd.results22, go_sem, q3, q4]
  · have hne : ∀ a, A' = some a → a.block ≠ w.heap.size + 1 := fun a ha => by have := HGE.out a ha; have := HS1.out; omega
    exact (HENT.out.far (p := ⟨w.heap.size + 1, 0, none⟩) hne _).far (p := ⟨w.heap.size + 1, 1, none⟩) hne _

end Go.Proofs.YtmnmdeehcdfkfaaDoor
