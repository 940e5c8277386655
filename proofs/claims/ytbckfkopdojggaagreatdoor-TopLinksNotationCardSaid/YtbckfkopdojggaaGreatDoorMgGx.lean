/- Merged: FrmX FrmY FrmZ. -/
import Derived.Test.YtbckfkopdojggaaGreatDoorMgG
import Derived.Outline
import Derived.Test.YtbckfkopdojggaaGreatDoorMgB
import Derived.Test.YtbckfkopdojggaaGreatDoorMgE
/- ranks. -/
set_option linter.unusedVariables false
set_option linter.unusedSimpArgs false
namespace Go.Proofs.YtbckfkopdojggaaGreatDoor
open Go.RowKit

def one (y x : List Int) : Int := if ForMath.cback y x < 0 then 1 else 0
structure Alike (n : Nat) (ls : List (List Int)) : Prop where
  len : ∀ y ∈ ls, y.length = n
  small : ∀ y ∈ ls, SmallI y
  pos : 0 < n
  most : n ≤ 1000

set_option maxRecDepth 100000 in
set_option maxHeartbeats 1000000 in
theorem ranks11_any (A B : Option Addr) (c d b : Nat) (y x : List Int) (w : World) (hy : IntsAt w w.heap.size A y) (hx : IntsAt w w.heap.size B x) (hb : w.cell? ⟨b, 0, none⟩ = some (.slice B x.length d)) (hl : y.length = x.length) (h0 : 0 < x.length) (hm : x.length ≤ 1000) (hc : y.length ≤ c) (hd : x.length ≤ d) (sy : SmallI y) (sx : SmallI x) :
    Calls Tryz.prog 153 #[.slice A y.length c, .pointer (some ⟨b, 0, none⟩)] w fun e w' => e = .returned (.int .i64 (one y x)) ∧ Below w.heap.size w w' := by
  have HC := Lib.hid (countback_any A B c d y x w hy hx hl (by omega) (by omega) hc hd sy sx)
  have HO : Hid (one y x = if ForMath.cback y x < 0 then 1 else 0) := Lib.hid rfl
  clear hy hx hl sy sx
  generalize ForMath.cback y x = q at HC HO
  by_cases hq : q < 0
  all_goals
    go_enter Tryz.func153, Tryz.ntmps153
    go_wp2_with fail
    refine HC.out.mono ?_; rintro e w1 ⟨rfl, hb1⟩
    have HB := Lib.hid hb1
    clear hb1
    go_wp2
    go_ret
    first
      | exact ⟨by rw [HO.out, if_pos hq]; rfl, HB.out⟩
      | exact ⟨by rw [HO.out, if_neg (by omega)]; rfl, HB.out⟩

def aheadK (ls : List (List Int)) (x : List Int) (k : Nat) : Int := ((ForMath.ahead (ls.take k) x : Nat) : Int)
theorem aheadK_succ (ls : List (List Int)) (x : List Int) (k : Nat) (h : k < ls.length) : aheadK ls x (k + 1) = aheadK ls x k + one (ls.getD k []) x := by
  unfold aheadK ForMath.ahead one
  rw [List.take_succ_eq_append_getElem h]
  have e : ls.getD k [] = ls[k] := by simp [List.getD, List.getElem?_eq_getElem h]
  rw [e, List.filter_append, List.length_append]
  by_cases g : ForMath.cback ls[k] x < 0
  · simp [g]
  · simp [g]
theorem aheadK_bound (ls : List (List Int)) (x : List Int) (k : Nat) : 0 ≤ aheadK ls x k ∧ aheadK ls x k ≤ ls.length := by
  unfold aheadK ForMath.ahead
  have h1 := List.length_filter_le (fun y => decide (ForMath.cback y x < 0)) (ls.take k)
  have h2 := List.length_take_le' k ls
  omega

set_option maxRecDepth 100000 in
set_option maxHeartbeats 1000000 in
theorem sumLists_any (A B : Option Addr) (c d b n : Nat) (ls : List (List Int)) (x : List Int) (w : World) (hls : ListsR w A ls) (hx : IntsAt w w.heap.size B x) (hb : w.cell? ⟨b, 0, none⟩ = some (.slice B x.length d)) (al : Alike n ls) (hxn : x.length = n) (hd : x.length ≤ d) (sx : SmallI x) (hl : ls.length ≤ 100000) :
    Calls Tryz.prog 152 #[.slice A ls.length c, .func (.func 153) #[] #[.pointer (some ⟨b, 0, none⟩)]] w fun e w' => e = .returned (.int .i64 ((ForMath.ahead ls x : Nat) : Int)) ∧ Below w.heap.size w w' := by
  have HLS := Lib.hid hls
  have HF := Lib.hid (fun (W : World) (hW : Below w.heap.size w W) (Y : Option Addr) (cy : Nat) (y : List Int) (hy : IntsAt W W.heap.size Y y) (hl : y.length = n) (hc : y.length ≤ cy) (sy : SmallI y) =>
    ranks11_any Y B cy d b y x W hy ((hx.below hW).mono hW.size) ((hW.cell (p := ⟨b, 0, none⟩) (cell_lt hb)).trans hb) (by omega) (by have := al.pos; omega) (by have := al.most; omega) hc hd sy sx)
  have HAL := Lib.hid al
  clear hls hx hb al sx hxn
  go_enter Tryz.func152, Tryz.ntmps152
  go_wp2
  go_loopw [5, 10] (fun t i w' => ∃ k : Nat, k ≤ ls.length ∧ i = .int .i64 k ∧ t = .int .i64 (aheadK ls x k) ∧ Below w.heap.size w w') (fun _ i _ => ls.length - (intOf i).toNat)
  case atStart => exact ⟨0, Nat.zero_le _, rfl, by simp [aheadK, ForMath.ahead], Below.refl _ _⟩
  case round =>
    obtain ⟨k, hk, rfl, rfl, hbel⟩ := hrel
    have HBEL := Lib.hid hbel
    clear hbel
    by_cases hlt : k < ls.length
    · obtain ⟨a, Y, cy, rfl, d0, _, d2, d3⟩ := (HLS.out.keep HBEL.out) k hlt
      have HT := Lib.hid (aheadK_succ ls x k hlt)
      have hmem : ls.getD k [] ∈ ls := by simp [List.getD, List.getElem?_eq_getElem hlt]
      have HY := Lib.hid (HF.out wr HBEL.out Y cy (ls.getD k []) d3 (HAL.out.len _ hmem) d2 (HAL.out.small _ hmem))
      have hab := aheadK_bound ls x k
      have ho : 0 ≤ one (ls.getD k []) x ∧ one (ls.getD k []) x ≤ 1 := by unfold one; split <;> omega
      clear hmem d2 d3
      generalize one (ls.getD k []) x = o at HT HY ho
      generalize ls.getD k [] = y at d0 HY
      generalize aheadK ls x k = t at HT hab
      go_wp2_with fail
      refine HY.out.mono ?_; rintro e w2 ⟨rfl, hb2⟩
      have HB2 := Lib.hid hb2
      clear hb2
      go_wp2
      go_roundw
      case rel => exact ⟨k + 1, by omega, by go_num, by rw [HT.out], HBEL.out.trans (HB2.out.mono HBEL.out.size)⟩
      case measure => simp [intOf]; omega
    · have hk2 : aheadK ls x k = ((ForMath.ahead ls x : Nat) : Int) := by unfold aheadK; rw [List.take_of_length_le (by omega)]
      have HK := Lib.hid hk2
      clear hk2
      go_wp2
      go_ret
      exact ⟨by show Ending.returned (.int .i64 (aheadK ls x k)) = _; rw [HK.out], HBEL.out⟩

def rankOf (ls : List (List Int)) (x : List Int) : Int := 1 + ((ForMath.ahead ls x : Nat) : Int)

set_option maxRecDepth 100000 in
set_option maxHeartbeats 1000000 in
theorem ranks1_any (A B : Option Addr) (c d b n : Nat) (ls : List (List Int)) (x : List Int) (w : World) (hls : ListsR w A ls) (hx : IntsAt w w.heap.size B x) (hb : w.cell? ⟨b, 0, none⟩ = some (.slice A ls.length c)) (al : Alike n ls) (hxn : x.length = n) (hd : x.length ≤ d) (sx : SmallI x) (hl : ls.length ≤ 100000) :
    Calls Tryz.prog 151 #[.slice B x.length d, .pointer (some ⟨b, 0, none⟩)] w fun e w' => e = .returned (.int .i64 (rankOf ls x)) ∧ Below w.heap.size w w' := by
  have hbt := cell_lt hb
  have HS := Lib.hid (by
    have hB := (Below.refl w.heap.size w).alloc (Nat.le_refl _) (.cells #[.slice B x.length d] 35)
    exact sumLists_any A B c d w.heap.size n ls x (w.alloc (.cells #[.slice B x.length d] 35)) (hls.keep hB) ((hx.below hB).mono hB.size) ((BlkV.new w 35 #[.slice B x.length d]).cell 0) al hxn hd sx hl)
  have HR : Hid (rankOf ls x = 1 + ((ForMath.ahead ls x : Nat) : Int)) := Lib.hid rfl
  have hab := aheadK_bound ls x ls.length
  rw [aheadK, List.take_of_length_le (Nat.le_refl _)] at hab
  clear hls hx al sx hxn
  generalize ((ForMath.ahead ls x : Nat) : Int) = q at HS HR hab
  go_enter Tryz.func151, Tryz.ntmps151
  go_wp2_with fail
  refine HS.out.mono ?_; rintro e w1 ⟨rfl, hb1⟩
  have HB := Lib.hid hb1
  clear hb1
  go_wp2
  go_ret
  exact ⟨by rw [HR.out]; rfl, ((Below.refl _ _).alloc (Nat.le_refl _) _).trans (HB.out.mono (by simp))⟩

theorem ranks_len (ls : List (List Int)) : (ForMath.ranks ls).length = ls.length := by simp [ForMath.ranks]
theorem ranks_at (ls : List (List Int)) (k : Nat) (h : k < ls.length) : (ForMath.ranks ls).getD k 0 = rankOf ls (ls.getD k []) := by
  simp [ForMath.ranks, rankOf, ForMath.ahead, List.getD, List.getElem?_eq_getElem h]

set_option maxRecDepth 100000 in
set_option maxHeartbeats 2000000 in
theorem eachLists_any (A : Option Addr) (c b n : Nat) (ls : List (List Int)) (w : World) (hls : ListsR w A ls) (hb : w.cell? ⟨b, 0, none⟩ = some (.slice A ls.length c)) (al : Alike n ls) (hl : ls.length ≤ 100000) :
    Calls Tryz.prog 150 #[.slice A ls.length c, .func (.func 151) #[] #[.pointer (some ⟨b, 0, none⟩)]] w fun e w' =>
      e = .returned (.slice (some ⟨w.heap.size, 0, none⟩) ls.length ls.length) ∧ RowI w' w.heap.size (ForMath.ranks ls) ∧ Below w.heap.size w w' := by
  have hmk := make_ints ls.length (by omega)
  have HLS := Lib.hid hls
  have HAL := Lib.hid al
  have HG := Lib.hid (fun (W : World) (hW : Below w.heap.size w W) (Y : Option Addr) (cy : Nat) (y : List Int) (hy : IntsAt W W.heap.size Y y) (hyn : y.length = n) (hc : y.length ≤ cy) (sy : SmallI y) =>
    ranks1_any A Y c cy b n ls y W (hls.keep hW) hy ((hW.cell (p := ⟨b, 0, none⟩) (cell_lt hb)).trans hb) al hyn hc sy hl)
  clear hls hb al
  have HNL := Lib.hid (ranks_len ls)
  go_enter Tryz.func150, Tryz.ntmps150
  go_wp2
  go_loopw [13] (fun i w' => ∃ k : Nat, k ≤ ls.length ∧ i = .int .i64 k ∧ RowI w' w.heap.size (partI (ForMath.ranks ls) k) ∧ Below w.heap.size w w') (fun i _ => ls.length - (intOf i).toNat)
  case atStart => exact ⟨0, Nat.zero_le _, rfl, by rw [partI_zero, ranks_len]; exact RowI.new _ _, (Below.refl _ _).alloc (Nat.le_refl _) _⟩
  case round =>
    obtain ⟨k, hk, rfl, hrow, hbel⟩ := hrel
    have HROW := Lib.hid hrow
    have HBEL := Lib.hid hbel
    clear hrow hbel
    by_cases hlt : k < ls.length
    · obtain ⟨a, Y, cy, rfl, d0, _, d2, d3⟩ := (HLS.out.keep HBEL.out) k hlt
      have hmem : ls.getD k [] ∈ ls := by simp [List.getD, List.getElem?_eq_getElem hlt]
      have HY := Lib.hid (HG.out wr HBEL.out Y cy (ls.getD k []) d3 (HAL.out.len _ hmem) d2 (HAL.out.small _ hmem))
      have HS := Lib.hid (ranks_at ls k hlt)
      clear hmem d2 d3
      generalize rankOf ls (ls.getD k []) = q at HY HS
      generalize ls.getD k [] = y at d0 HY
      go_wp2_with fail
      refine HY.out.mono ?_
      rintro e w2 ⟨rfl, hb2⟩
      have hrow2 := HROW.out.below hb2 HROW.out.lt
      have HB2 := Lib.hid (HBEL.out.trans (hb2.mono HBEL.out.size))
      have hcell := hrow2.cell (j := k) (by rw [partI_len, HNL.out]; exact hlt)
      have hfr := hrow2.frozen k
      have HROW2 := Lib.hid hrow2
      clear hrow2 hb2
      go_wp2
      go_roundw
      case rel =>
        refine ⟨k + 1, by omega, by go_num, ?_, HB2.out.setCell (Nat.le_refl _) _⟩
        exact (HROW2.out.set k q).eq_ (by rw [← partI_set _ _ (by rw [HNL.out]; exact hlt), HS.out])
      case measure => simp [intOf]; omega
    · go_wp2
      go_ret
      exact ⟨rfl, by have := HROW.out; rwa [partI_all _ _ (by rw [HNL.out]; omega)] at this, HBEL.out⟩

set_option maxRecDepth 100000 in
set_option maxHeartbeats 1000000 in
theorem ranks_any (A : Option Addr) (c n : Nat) (ls : List (List Int)) (w : World) (hls : ListsR w A ls) (al : Alike n ls) (hl : ls.length ≤ 100000) :
    Calls Tryz.prog 88 #[.slice A ls.length c] w (IntsOut (ForMath.ranks ls) w) := by
  have hB := (Below.refl w.heap.size w).alloc (Nat.le_refl _) (.cells #[.slice A ls.length c] 26)
  have HS := Lib.hid (eachLists_any A c w.heap.size n ls (w.alloc (.cells #[.slice A ls.length c] 26)) (hls.keep hB) ((BlkV.new w 26 #[.slice A ls.length c]).cell 0) al hl)
  clear hls al hB
  go_enter Tryz.func88, Tryz.ntmps88
  go_wp2_with fail
  refine HS.out.mono ?_; rintro e w1 ⟨rfl, hrow, hb1⟩
  have HROW : Hid (RowI w1 (w.heap.size + 1) (ForMath.ranks ls)) := Lib.hid (by simpa using hrow)
  have HB := Lib.hid hb1
  clear hb1 hrow
  go_wp2
  go_ret
  exact ⟨w.heap.size + 1, by rw [ranks_len]; rfl, HROW.out, by omega, ((Below.refl _ _).alloc (Nat.le_refl _) _).trans (HB.out.mono (by simp))⟩

end Go.Proofs.YtbckfkopdojggaaGreatDoor

/- checkLists, Ranks. -/
namespace Go.Proofs.YtbckfkopdojggaaGreatDoor
open Go.RowKit

set_option maxHeartbeats 400000 in
theorem sizedLists_any (A : Option Addr) (n c : Nat) (m : Int) (w : World) (hn : n ≤ 4611686018427387904) :
    Calls Tryz.prog 86 #[.slice A n c, .int .i64 m] w fun e w' => e = .returned (.int .i64 (sizedI n m)) ∧ Below w.heap.size w w' := by
  by_cases h1 : 0 < n <;> by_cases h2 : (n : Int) ≤ m
  all_goals
    go_enter Tryz.func86, Tryz.ntmps86
    go_wp2_with fail
    refine (fmUnless_any _ _ _).mono ?_; rintro e w' ⟨rfl, rfl⟩
    go_wp2_with fail
    refine (fmUnless_any _ _ _).mono ?_; rintro e w' ⟨rfl, rfl⟩
    go_wp2_with fail
    refine (fmFirst_any _ _ [_, _] _ (by simp) (Ints.two _ _ _ _ _ rfl)).mono ?_; rintro e w' ⟨rfl, rfl⟩
    go_wp2
    go_ret
    exact ⟨by simp [sizedI, firstI, unlessI, h2]; omega, (Below.refl _ _).alloc (Nat.le_refl _) _⟩

def numsC (y : List Int) : Int := numsI y 36
set_option maxHeartbeats 400000 in
theorem ranksC_any (A : Option Addr) (c : Nat) (xs : List Int) (w : World) (hl : xs.length ≤ 4611686018427387904) (h : IntsAt w w.heap.size A xs) :
    Calls Tryz.prog 87 #[.slice A xs.length c] w fun e w' => e = .returned (.int .i64 (numsC xs)) ∧ Below w.heap.size w w' := by
  have H := Lib.hid (checkNumbers_any A c xs 36 w hl h)
  clear h
  go_enter Tryz.func87, Tryz.ntmps87
  go_wp2_with fail
  refine H.out.mono ?_; rintro e w1 ⟨rfl, hb1⟩
  go_wp2
  go_ret
  exact ⟨rfl, hb1⟩

def lineI (chk : List Int → Int) (n : Nat) (y : List Int) : Int := firstI [chk y, unlessI (decide (y.length = n)) 2]
/-- The first error of lists. -/
def listsI (chk : List Int → Int) (ls : List (List Int)) : Int := firstI (ls.map (lineI chk (ls.getD 0 []).length))
theorem lines_drop (f : List Int → Int) (ls : List (List Int)) (k : Nat) (h : k < ls.length) : firstI ((ls.drop k).map f) = if f (ls.getD k []) = 0 then firstI ((ls.drop (k + 1)).map f) else f (ls.getD k []) := by
  rw [List.drop_eq_getElem_cons h]
  have e : ls.getD k [] = ls[k] := by simp [List.getD, List.getElem?_eq_getElem h]
  rw [e]
  simp only [List.map_cons, firstI]

theorem held1 {C1 C2 : Prop} {w W : World} {B : Nat} (h : C1 ∧ C2 ∧ Hid (Below B w W)) : Below B w W := h.2.2.out
theorem keep1 {w W w1 : World} {a : Addr} {v : Value} {B : Nat} (hb : Below W.heap.size W w1) (h : W.cell? a = some v ∧ Hid (a.block < W.heap.size) ∧ Hid (Below B w W)) (hB : B ≤ W.heap.size) : w1.cell? a = some v ∧ Hid (a.block < w1.heap.size) ∧ Hid (Below B w w1) :=
  ⟨(hb.cell h.2.1.out).trans h.1, Lib.hid (Nat.lt_of_lt_of_le h.2.1.out hb.size), Lib.hid (h.2.2.out.trans (hb.mono hB))⟩

set_option maxRecDepth 100000 in
set_option maxHeartbeats 4000000 in
theorem checkLists_ranks (A : Option Addr) (c : Nat) (ls : List (List Int)) (w : World) (hls : ListsR w A ls) (hl : ls.length ≤ 4611686018427387904) (hll : ∀ y ∈ ls, y.length ≤ 4611686018427387904) :
    Calls Tryz.prog 56 #[.slice A ls.length c, .func (.func 87) #[] #[]] w fun e w' => e = .returned (.int .i64 (listsI numsC ls)) ∧ Below w.heap.size w w' := by
  have HLS := Lib.hid hls
  have HLL := Lib.hid hll
  have HV : Hid (firstI (ls.map (lineI numsC (ls.getD 0 []).length)) = listsI numsC ls) := Lib.hid rfl
  clear hls hll
  go_enter Tryz.func56, Tryz.ntmps56
  go_wp2
  go_loopw [10] (fun i w' => ∃ k : Nat, k ≤ ls.length ∧ i = .int .i64 k ∧ firstI ((ls.drop k).map (lineI numsC (ls.getD 0 []).length)) = listsI numsC ls ∧ Below w.heap.size w w') (fun i _ => ls.length - (intOf i).toNat)
  case atStart => exact ⟨0, Nat.zero_le _, rfl, rfl, Below.refl _ _⟩
  case round =>
    obtain ⟨k, hk, rfl, hg, hbel⟩ := hrel
    have HG := Lib.hid hg
    have HBEL := Lib.hid hbel
    clear hg hbel
    by_cases hlt : k < ls.length
    · obtain ⟨a, Y, cy, rfl, d0, d1, d2, d3⟩ := (HLS.out.keep HBEL.out) k hlt
      obtain ⟨a', Z, cz, ha', e0, e1, _, _⟩ := (HLS.out.keep HBEL.out) 0 (by omega)
      obtain rfl : a = a' := by injection ha'
      have hpos : (0 : Int) < (ls.length : Int) := by omega
      have hpos2 : 0 < ls.length := by omega
      have HS := Lib.hid (lines_drop (lineI numsC (ls.getD 0 []).length) ls k hlt)
      have hyl : (ls.getD k []).length ≤ 4611686018427387904 := HLL.out _ (by simp [List.getD, List.getElem?_eq_getElem hlt])
      have HY := Lib.hid d3
      clear d3 ha'
      generalize hy : ls.getD k [] = y at d0 d2 hyl HY HS
      generalize hz : (ls.getD 0 []).length = n at e0 HS
      have HN := Lib.hid hz
      clear hy hz
      have he : ((y.length : Int) == (n : Int)) = decide (y.length = n) := by
        by_cases g : y.length = n
        · rw [decide_eq_true g, g]; simp
        · rw [decide_eq_false g, beq_eq_false_iff_ne]; omega
      have HLI : Hid (firstI [numsC y, unlessI (decide (y.length = n)) 2] = lineI numsC n y) := Lib.hid rfl
      generalize decide (y.length = n) = eq at he HLI
      have HC := Lib.hid (fun (W : World) (hW : Below wr.heap.size wr W) => ranksC_any Y cy y W hyl ((HY.out.below hW).mono hW.size))
      have e0' : wr.cell? a = some (.slice Z n cz) := e0
      have hab : a.block < wr.heap.size := by rw [← block_of_add a 0]; exact e1
      have HS0 : Hid (wr.drew.cell? a = some (.slice Z n cz) ∧ Hid (a.block < wr.drew.heap.size) ∧ Hid (Below wr.heap.size wr wr.drew)) := Lib.hid ⟨e0', Lib.hid hab, Lib.hid (Below.refl _ _).drew⟩
      have HLN : Hid (lineI numsC n y = firstI [numsC y, unlessI eq 2]) := Lib.hid HLI.out.symm
      clear HLI e0 e1 hab
      by_cases hz : firstI [numsC y, unlessI eq 2] = 0
      · have hzb : (firstI [numsC y, unlessI eq 2] != 0) = false := by rw [hz]; rfl
        have HZ := Lib.hid hz
        clear hz
        go_wp2
        go_region_held3 (fun W => W.cell? a = some (.slice Z n cz) ∧ Hid (a.block < W.heap.size) ∧ Hid (Below wr.heap.size wr W))
          ((first | with_reducible assumption | exact keep1 hb1 (by with_reducible assumption) (held1 (by with_reducible assumption)).size | exact keep1 ((Below.refl _ _).alloc (Nat.le_refl _) _) (by with_reducible assumption) (held1 (by with_reducible assumption)).size | exact keep1 ((Below.refl _ _).alloc (Nat.le_refl _) _) HS0.out (Nat.le_refl _) | exact HS0.out))
          (first
            | (go_at_call 87; refine (HC.out _ (held1 (by assumption))).mono ?_; rintro e w1 ⟨rfl, hb1⟩)
            | (go_at_call 51; (with_reducible refine (fmUnless_any _ _ _).mono ?_); rintro e w1 ⟨rfl, rfl⟩)
            | (go_at_call 49; refine (fmFirst_any _ _ [_, _] _ (by simp) (Ints.two _ _ _ _ _ rfl)).mono ?_; rintro e w1 ⟨rfl, rfl⟩))
        all_goals
          go_wp2
          go_roundw
          case rel => exact ⟨k + 1, by omega, by go_num, by rw [← HG.out, HN.out, HS.out, if_pos (by rw [HLN.out]; exact HZ.out)], HBEL.out.trans ((held1 (by assumption)).mono HBEL.out.size)⟩
          case measure => simp [intOf]; omega
      · have hzb : (firstI [numsC y, unlessI eq 2] != 0) = true := by simpa using hz
        have HZ := Lib.hid hz
        clear hz
        go_wp2
        go_region_held3 (fun W => W.cell? a = some (.slice Z n cz) ∧ Hid (a.block < W.heap.size) ∧ Hid (Below wr.heap.size wr W))
          ((first | with_reducible assumption | exact keep1 hb1 (by with_reducible assumption) (held1 (by with_reducible assumption)).size | exact keep1 ((Below.refl _ _).alloc (Nat.le_refl _) _) (by with_reducible assumption) (held1 (by with_reducible assumption)).size | exact keep1 ((Below.refl _ _).alloc (Nat.le_refl _) _) HS0.out (Nat.le_refl _) | exact HS0.out))
          (first
            | (go_at_call 87; refine (HC.out _ (held1 (by assumption))).mono ?_; rintro e w1 ⟨rfl, hb1⟩)
            | (go_at_call 51; (with_reducible refine (fmUnless_any _ _ _).mono ?_); rintro e w1 ⟨rfl, rfl⟩)
            | (go_at_call 49; refine (fmFirst_any _ _ [_, _] _ (by simp) (Ints.two _ _ _ _ _ rfl)).mono ?_; rintro e w1 ⟨rfl, rfl⟩))
        all_goals
          go_wp2
          go_ret
          exact ⟨by rw [← HG.out, HN.out, HS.out, if_neg (by rw [HLN.out]; exact HZ.out), HLN.out]; rfl, HBEL.out.trans ((held1 (by assumption)).mono HBEL.out.size)⟩
    · have HZ : Hid (listsI numsC ls = 0) := Lib.hid (by rw [← HG.out, List.drop_eq_nil_of_le (by omega)]; rfl)
      go_wp2
      go_ret
      exact ⟨by rw [HZ.out]; rfl, HBEL.out⟩

theorem listsI_zero {chk : List Int → Int} {ls : List (List Int)} (h : listsI chk ls = 0) : ∀ y ∈ ls, chk y = 0 ∧ y.length = (ls.getD 0 []).length := fun y hy => by
  have h1 := firstI_zero _ h (lineI chk (ls.getD 0 []).length y) (List.mem_map.2 ⟨y, hy, rfl⟩)
  refine ⟨firstI_zero _ h1 _ (by simp), ?_⟩
  have h2 := firstI_zero _ h1 (unlessI (decide (y.length = (ls.getD 0 []).length)) 2) (by simp)
  by_cases g : y.length = (ls.getD 0 []).length
  · exact g
  · rw [decide_eq_false g] at h2; simp [unlessI] at h2

/-- The error of lists that are ranked. -/
def ranksE (ls : List (List Int)) : Int := firstI [sizedI ls.length 200, listsI numsC ls]
theorem ranksE_zero {ls : List (List Int)} (h : ranksE ls = 0) : 0 < ls.length ∧ ls.length ≤ 200 ∧ Alike (ls.getD 0 []).length ls ∧ (ls.getD 0 []).length ≤ 36 := by
  have h1 := firstI_zero _ h (sizedI ls.length 200) (by simp)
  have h2 := firstI_zero _ h (listsI numsC ls) (by simp)
  unfold sizedI at h1
  by_cases g1 : ls.length = 0
  · rw [if_pos g1] at h1; omega
  · rw [if_neg g1] at h1
    by_cases g2 : (ls.length : Int) ≤ 200
    · have hm : ls.getD 0 [] ∈ ls := by simp [List.getD, List.getElem?_eq_getElem (show 0 < ls.length by omega)]
      have h3 := numsI_zero (listsI_zero h2 _ hm).1
      exact ⟨by omega, by omega, ⟨fun y hy => (listsI_zero h2 y hy).2, fun y hy => (numsI_zero (listsI_zero h2 y hy).1).2.2, h3.1, by omega⟩, by omega⟩
    · rw [if_neg g2] at h1; omega

set_option maxRecDepth 100000 in
set_option maxHeartbeats 1000000 in
theorem fmRanks_yes (A : Option Addr) (c : Nat) (ls : List (List Int)) (w : World) (hls : ListsR w A ls) (hn : ranksE ls = 0) :
    Calls Tryz.prog 40 #[.slice A ls.length c] w (RowOut (ForMath.ranks ls) w) := by
  obtain ⟨z1, z2, z3, z4⟩ := ranksE_zero hn
  have HC := Lib.hid (fun W (hb : Below w.heap.size w W) => checkLists_ranks A c ls W (hls.keep hb) (by omega) (fun y hy => by have := z3.len y hy; omega))
  have HR := Lib.hid (fun W (hb : Below w.heap.size w W) => ranks_any A c _ ls W (hls.keep hb) z3 (by omega))
  have HN : Hid (firstI [sizedI ls.length 200, listsI numsC ls] = 0) := Lib.hid hn
  clear hls hn z3
  generalize ForMath.ranks ls = q at HR ⊢
  go_enter Tryz.func40, Tryz.ntmps40
  go_wp2_with fail
  refine (sizedLists_any _ _ _ _ _ (by omega)).mono ?_; rintro e w1 ⟨rfl, hb1⟩
  have HB1 := Lib.hid hb1
  clear hb1
  go_wp2_with fail
  refine (HC.out _ HB1.out).mono ?_; rintro e w2 ⟨rfl, hb2⟩
  have HB2 := Lib.hid (HB1.out.trans (hb2.mono HB1.out.size))
  clear hb2
  go_wp2_with fail
  refine (fmFirst_any _ _ [_, _] _ (by simp) (Ints.two _ _ _ _ _ rfl)).mono ?_; rintro e w3 ⟨rfl, rfl⟩
  rw [HN.out]
  go_wp2_with fail
  refine (HR.out _ (HB2.out.alloc HB2.out.size _)).mono ?_
  rintro e w3 ⟨g, rfl, hrow, hg, hb3⟩
  have HROW := Lib.hid hrow
  have HG : Hid (w.heap.size ≤ g) := Lib.hid (by have := HB2.out.size; simp at hg; omega)
  have HB3 := Lib.hid ((HB2.out.alloc HB2.out.size (.cells #[.int .i64 (sizedI ls.length 200), .int .i64 (listsI numsC ls)] 36)).trans (hb3.mono (by have := HB2.out.size; simp; omega)))
  clear hb3 hrow hg HC HR
  go_wp2
  go_ret2
  exact ⟨g, rfl, HROW.out, HG.out, HB3.out⟩

set_option maxRecDepth 100000 in
set_option maxHeartbeats 1000000 in
theorem fmRanks_no (A : Option Addr) (c : Nat) (ls : List (List Int)) (w : World) (hls : ListsR w A ls) (hl : ls.length ≤ 4611686018427387904) (hll : ∀ y ∈ ls, y.length ≤ 4611686018427387904) (hn : ranksE ls ≠ 0) :
    Calls Tryz.prog 40 #[.slice A ls.length c] w fun e w' => e = .returned (.tuple #[.slice none 0 0, .int .i64 (ranksE ls)]) ∧ Below w.heap.size w w' := by
  have HC := Lib.hid (fun W (hb : Below w.heap.size w W) => checkLists_ranks A c ls W (hls.keep hb) hl hll)
  have HQ : Hid (firstI [sizedI ls.length 200, listsI numsC ls] = ranksE ls) := Lib.hid rfl
  have hnb : (ranksE ls != 0) = true := by simpa using hn
  clear hls hn hll
  generalize ranksE ls = q at HQ hnb ⊢
  go_enter Tryz.func40, Tryz.ntmps40
  go_wp2_with fail
  refine (sizedLists_any _ _ _ _ _ hl).mono ?_; rintro e w1 ⟨rfl, hb1⟩
  have HB1 := Lib.hid hb1
  clear hb1
  go_wp2_with fail
  refine (HC.out _ HB1.out).mono ?_; rintro e w2 ⟨rfl, hb2⟩
  have HB2 := Lib.hid (HB1.out.trans (hb2.mono HB1.out.size))
  clear hb2
  go_wp2_with fail
  refine (fmFirst_any _ _ [_, _] _ (by simp) (Ints.two _ _ _ _ _ rfl)).mono ?_; rintro e w3 ⟨rfl, rfl⟩
  rw [HQ.out]
  go_wp2
  go_ret2
  exact ⟨rfl, HB2.out.alloc HB2.out.size _⟩

end Go.Proofs.YtbckfkopdojggaaGreatDoor

/- checkLists of a play-off. -/
namespace Go.Proofs.YtbckfkopdojggaaGreatDoor
open Go.RowKit

def playC (y : List Int) : Int := firstI [sizedI y.length 36, eachI y 1 99]
set_option maxHeartbeats 400000 in
theorem playC_any (A : Option Addr) (c : Nat) (xs : List Int) (w : World) (hl : xs.length ≤ 4611686018427387904) (h : IntsAt w w.heap.size A xs) :
    Calls Tryz.prog 57 #[.slice A xs.length c] w fun e w' => e = .returned (.int .i64 (playC xs)) ∧ Below w.heap.size w w' := by
  have H := Lib.hid h
  clear h
  go_enter Tryz.func57, Tryz.ntmps57
  go_wp2_with fail
  refine (sizedInt_any _ _ _ _ _ hl).mono ?_; rintro e w1 ⟨rfl, hb1⟩
  have HB := Lib.hid hb1
  clear hb1
  go_wp2_with fail
  refine (eachWithin_any _ _ xs _ _ _ hl (H.out.below HB.out).ints).mono ?_; rintro e w2 ⟨rfl, rfl⟩
  go_wp2_with fail
  refine (fmFirst_any _ _ [_, _] _ (by simp) (Ints.two _ _ _ _ _ rfl)).mono ?_; rintro e w2 ⟨rfl, rfl⟩
  go_wp2
  go_ret
  exact ⟨rfl, HB.out.alloc HB.out.size _⟩

set_option maxRecDepth 100000 in
set_option maxHeartbeats 4000000 in
theorem checkLists_play (A : Option Addr) (c : Nat) (ls : List (List Int)) (w : World) (hls : ListsR w A ls) (hl : ls.length ≤ 4611686018427387904) (hll : ∀ y ∈ ls, y.length ≤ 4611686018427387904) :
    Calls Tryz.prog 56 #[.slice A ls.length c, .func (.func 57) #[] #[]] w fun e w' => e = .returned (.int .i64 (listsI playC ls)) ∧ Below w.heap.size w w' := by
  have HLS := Lib.hid hls
  have HLL := Lib.hid hll
  have HV : Hid (firstI (ls.map (lineI playC (ls.getD 0 []).length)) = listsI playC ls) := Lib.hid rfl
  clear hls hll
  go_enter Tryz.func56, Tryz.ntmps56
  go_wp2
  go_loopw [10] (fun i w' => ∃ k : Nat, k ≤ ls.length ∧ i = .int .i64 k ∧ firstI ((ls.drop k).map (lineI playC (ls.getD 0 []).length)) = listsI playC ls ∧ Below w.heap.size w w') (fun i _ => ls.length - (intOf i).toNat)
  case atStart => exact ⟨0, Nat.zero_le _, rfl, rfl, Below.refl _ _⟩
  case round =>
    obtain ⟨k, hk, rfl, hg, hbel⟩ := hrel
    have HG := Lib.hid hg
    have HBEL := Lib.hid hbel
    clear hg hbel
    by_cases hlt : k < ls.length
    · obtain ⟨a, Y, cy, rfl, d0, d1, d2, d3⟩ := (HLS.out.keep HBEL.out) k hlt
      obtain ⟨a', Z, cz, ha', e0, e1, _, _⟩ := (HLS.out.keep HBEL.out) 0 (by omega)
      obtain rfl : a = a' := by injection ha'
      have hpos : (0 : Int) < (ls.length : Int) := by omega
      have hpos2 : 0 < ls.length := by omega
      have HS := Lib.hid (lines_drop (lineI playC (ls.getD 0 []).length) ls k hlt)
      have hyl : (ls.getD k []).length ≤ 4611686018427387904 := HLL.out _ (by simp [List.getD, List.getElem?_eq_getElem hlt])
      have HY := Lib.hid d3
      clear d3 ha'
      generalize hy : ls.getD k [] = y at d0 d2 hyl HY HS
      generalize hz : (ls.getD 0 []).length = n at e0 HS
      have HN := Lib.hid hz
      clear hy hz
      have he : ((y.length : Int) == (n : Int)) = decide (y.length = n) := by
        by_cases g : y.length = n
        · rw [decide_eq_true g, g]; simp
        · rw [decide_eq_false g, beq_eq_false_iff_ne]; omega
      have HLI : Hid (firstI [playC y, unlessI (decide (y.length = n)) 2] = lineI playC n y) := Lib.hid rfl
      generalize decide (y.length = n) = eq at he HLI
      have HC := Lib.hid (fun (W : World) (hW : Below wr.heap.size wr W) => playC_any Y cy y W hyl ((HY.out.below hW).mono hW.size))
      have e0' : wr.cell? a = some (.slice Z n cz) := e0
      have hab : a.block < wr.heap.size := by rw [← block_of_add a 0]; exact e1
      have HS0 : Hid (wr.drew.cell? a = some (.slice Z n cz) ∧ Hid (a.block < wr.drew.heap.size) ∧ Hid (Below wr.heap.size wr wr.drew)) := Lib.hid ⟨e0', Lib.hid hab, Lib.hid (Below.refl _ _).drew⟩
      have HLN : Hid (lineI playC n y = firstI [playC y, unlessI eq 2]) := Lib.hid HLI.out.symm
      clear HLI e0 e1 hab
      by_cases hz : firstI [playC y, unlessI eq 2] = 0
      · have hzb : (firstI [playC y, unlessI eq 2] != 0) = false := by rw [hz]; rfl
        have HZ := Lib.hid hz
        clear hz
        go_wp2
        go_region_held3 (fun W => W.cell? a = some (.slice Z n cz) ∧ Hid (a.block < W.heap.size) ∧ Hid (Below wr.heap.size wr W))
          ((first | with_reducible assumption | exact keep1 hb1 (by with_reducible assumption) (held1 (by with_reducible assumption)).size | exact keep1 ((Below.refl _ _).alloc (Nat.le_refl _) _) (by with_reducible assumption) (held1 (by with_reducible assumption)).size | exact keep1 ((Below.refl _ _).alloc (Nat.le_refl _) _) HS0.out (Nat.le_refl _) | exact HS0.out))
          (first
            | (go_at_call 57; refine (HC.out _ (held1 (by assumption))).mono ?_; rintro e w1 ⟨rfl, hb1⟩)
            | (go_at_call 51; (with_reducible refine (fmUnless_any _ _ _).mono ?_); rintro e w1 ⟨rfl, rfl⟩)
            | (go_at_call 49; refine (fmFirst_any _ _ [_, _] _ (by simp) (Ints.two _ _ _ _ _ rfl)).mono ?_; rintro e w1 ⟨rfl, rfl⟩))
        all_goals
          go_wp2
          go_roundw
          case rel => exact ⟨k + 1, by omega, by go_num, by rw [← HG.out, HN.out, HS.out, if_pos (by rw [HLN.out]; exact HZ.out)], HBEL.out.trans ((held1 (by assumption)).mono HBEL.out.size)⟩
          case measure => simp [intOf]; omega
      · have hzb : (firstI [playC y, unlessI eq 2] != 0) = true := by simpa using hz
        have HZ := Lib.hid hz
        clear hz
        go_wp2
        go_region_held3 (fun W => W.cell? a = some (.slice Z n cz) ∧ Hid (a.block < W.heap.size) ∧ Hid (Below wr.heap.size wr W))
          ((first | with_reducible assumption | exact keep1 hb1 (by with_reducible assumption) (held1 (by with_reducible assumption)).size | exact keep1 ((Below.refl _ _).alloc (Nat.le_refl _) _) (by with_reducible assumption) (held1 (by with_reducible assumption)).size | exact keep1 ((Below.refl _ _).alloc (Nat.le_refl _) _) HS0.out (Nat.le_refl _) | exact HS0.out))
          (first
            | (go_at_call 57; refine (HC.out _ (held1 (by assumption))).mono ?_; rintro e w1 ⟨rfl, hb1⟩)
            | (go_at_call 51; (with_reducible refine (fmUnless_any _ _ _).mono ?_); rintro e w1 ⟨rfl, rfl⟩)
            | (go_at_call 49; refine (fmFirst_any _ _ [_, _] _ (by simp) (Ints.two _ _ _ _ _ rfl)).mono ?_; rintro e w1 ⟨rfl, rfl⟩))
        all_goals
          go_wp2
          go_ret
          exact ⟨by rw [← HG.out, HN.out, HS.out, if_neg (by rw [HLN.out]; exact HZ.out), HLN.out]; rfl, HBEL.out.trans ((held1 (by assumption)).mono HBEL.out.size)⟩
    · have HZ : Hid (listsI playC ls = 0) := Lib.hid (by rw [← HG.out, List.drop_eq_nil_of_le (by omega)]; rfl)
      go_wp2
      go_ret
      exact ⟨by rw [HZ.out]; rfl, HBEL.out⟩

end Go.Proofs.YtbckfkopdojggaaGreatDoor
