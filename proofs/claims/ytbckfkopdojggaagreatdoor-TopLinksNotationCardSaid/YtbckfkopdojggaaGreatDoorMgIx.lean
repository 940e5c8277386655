/- Merged: FrDJ FrDL FrDM. -/
import Derived.Test.YtbckfkopdojggaaGreatDoorMgE
import Derived.Test.YtbckfkopdojggaaGreatDoorMgD
import Derived.Deep.RegionHeld3
import Derived.Outline
import Derived.Test.YtbckfkopdojggaaGreatDoorMgF
/- slices.MinFunc and MaxFunc of net strokes by merit; best and total. -/
set_option linter.unusedVariables false
set_option linter.unusedSimpArgs false
namespace Go.Proofs.YtbckfkopdojggaaGreatDoor
open Go.RowKit

def enD : Int × ByteArray := (0, ByteArray.empty)
def minM : List (Int × ByteArray) → Int × ByteArray
  | [] => enD
  | x :: l => l.foldl (fun a e => if meritI e a < 0 then e else a) x
def maxM : List (Int × ByteArray) → Int × ByteArray
  | [] => enD
  | x :: l => l.foldl (fun a e => if 0 < meritI e a then e else a) x
theorem minM_one (x : Int × ByteArray) (l : List (Int × ByteArray)) : minM ((x :: l).take 1) = x := rfl
theorem maxM_one (x : Int × ByteArray) (l : List (Int × ByteArray)) : maxM ((x :: l).take 1) = x := rfl
theorem minM_take (l : List (Int × ByteArray)) (k : Nat) (h0 : 1 ≤ k) (h : k < l.length) :
    minM (l.take (k + 1)) = if meritI (l.getD k enD) (minM (l.take k)) < 0 then l.getD k enD else minM (l.take k) := by
  rw [List.take_succ_eq_append_getElem h]
  have e : l.getD k enD = l[k] := by simp [List.getD, List.getElem?_eq_getElem h]
  rw [e]
  match l, k, h0 with
  | x :: l', k + 1, _ =>
    simp only [List.take_succ_cons, List.cons_append, minM, List.foldl_append, List.foldl_cons, List.foldl_nil] <;> rfl
theorem maxM_take (l : List (Int × ByteArray)) (k : Nat) (h0 : 1 ≤ k) (h : k < l.length) :
    maxM (l.take (k + 1)) = if 0 < meritI (l.getD k enD) (maxM (l.take k)) then l.getD k enD else maxM (l.take k) := by
  rw [List.take_succ_eq_append_getElem h]
  have e : l.getD k enD = l[k] := by simp [List.getD, List.getElem?_eq_getElem h]
  rw [e]
  match l, k, h0 with
  | x :: l', k + 1, _ =>
    simp only [List.take_succ_cons, List.cons_append, maxM, List.foldl_append, List.foldl_cons, List.foldl_nil] <;> rfl
theorem keepQ {w W w1 : World} {B : Nat} {p1 p2 p3 p4 : Addr} {u v x y : Value} (hb : Below W.heap.size W w1) (h : W.cell? p1 = some u ∧ W.cell? p2 = some v ∧ W.cell? p3 = some x ∧ W.cell? p4 = some y ∧ Hid (Below B w W)) (hB : B ≤ w.heap.size) :
    w1.cell? p1 = some u ∧ w1.cell? p2 = some v ∧ w1.cell? p3 = some x ∧ w1.cell? p4 = some y ∧ Hid (Below B w w1) :=
  ⟨(hb.cell (World.block_lt_of_cell? _ _ h.1)).trans h.1, (hb.cell (World.block_lt_of_cell? _ _ h.2.1)).trans h.2.1, (hb.cell (World.block_lt_of_cell? _ _ h.2.2.1)).trans h.2.2.1, (hb.cell (World.block_lt_of_cell? _ _ h.2.2.2.1)).trans h.2.2.2.1, h.2.2.2.2.out.trans (hb.mono (Nat.le_trans hB h.2.2.2.2.out.size))⟩
theorem heldQ {C D E F : Prop} {B : Nat} {w W : World} (h : C ∧ D ∧ E ∧ F ∧ Hid (Below B w W)) : Below B w W := h.2.2.2.2.out

set_option maxRecDepth 100000 in
set_option maxHeartbeats 4000000 in
theorem minFunc_any (A : Option Addr) (c : Nat) (l : List (Int × ByteArray)) (w : World) (he : EntriesR w A l) (h0 : 0 < l.length) (hl : l.length ≤ 1000) :
    Calls Tryz.prog 182 #[.slice A l.length c, .func (.func 134) #[] #[]] w fun e w' => e = .returned (.agg #[.int .i64 (minM l).1, .string (minM l).2]) ∧ Below w.heap.size w w' := by
  obtain ⟨a, rfl, z0, z1, _⟩ := he 0 h0
  have HE := Lib.hid he
  have h0i : (0 : Int) < (l.length : Int) := by omega
  have HONE : Hid (minM (l.take 1) = l.getD 0 (0, ByteArray.empty)) := Lib.hid (by
    match l, h0 with
    | x :: l', _ => rfl)
  generalize l.getD 0 (0, ByteArray.empty) = en0 at z0 z1 HONE
  obtain ⟨s0, m0⟩ := en0
  simp only [Nat.zero_mul] at z0 z1
  have ha0 : a.add 0 = a := Addr.add_zero' a
  rw [ha0] at z0 z1
  have hlt := World.block_lt_of_cell? _ _ z0
  clear he ha0
  go_enter Tryz.func182, Tryz.ntmps182
  have y0 : (w.alloc (.cells #[.int .i64 0, .string ⟨#[]⟩] 83)).cell? a = some (.int .i64 s0) := (((Below.refl w.heap.size w).alloc (Nat.le_refl _) _).cell hlt).trans z0
  have y1 : (w.alloc (.cells #[.int .i64 0, .string ⟨#[]⟩] 83)).cell? ⟨a.block, a.off + 1, none⟩ = some (.string m0) := (((Below.refl w.heap.size w).alloc (Nat.le_refl _) _).cell (p := ⟨a.block, a.off + 1, none⟩) hlt).trans z1
  go_wp2
  generalize hW0 : (w.alloc (.cells #[.int .i64 0, .string ⟨#[]⟩] 83)).alloc (.cells #[.int .i64 s0, .string m0] 83) = W0
  obtain ⟨a1, a2, a3, a4⟩ := two_allocs w _ _ _ _ hW0
  have HA1 := Lib.hid a1
  have HA2 := Lib.hid a2
  have HA3 := Lib.hid a3
  have HSZ := Lib.hid a4
  clear hW0 a1 a2 a3 a4 y0 y1 z0 z1 hlt
  go_loopw [6] (fun i w' => ∃ k : Nat, 1 ≤ k ∧ k ≤ l.length ∧ i = .int .i64 k ∧ BlkV w' w.heap.size 83 #[.int .i64 0, .string ⟨#[]⟩] ∧ BlkV w' (w.heap.size + 1) 83 #[.int .i64 (minM (l.take k)).1, .string (minM (l.take k)).2] ∧ Below w.heap.size w w' ∧ w.heap.size + 2 ≤ w'.heap.size) (fun i _ => l.length - (intOf i).toNat)
  case atStart => exact ⟨1, Nat.le_refl _, h0, rfl, HA1.out, by rw [HONE.out]; exact HA2.out, HA3.out, by have := HSZ.out; omega⟩
  case round =>
    obtain ⟨k, hk1, hk, rfl, hr4, hr5, hb, hsz⟩ := hrel
    have HR4 := Lib.hid hr4
    have HR5 := Lib.hid hr5
    have HB := Lib.hid hb
    have HZ := Lib.hid hsz
    clear hr4 hr5 hb hsz
    by_cases hlt : k < l.length
    · obtain ⟨a', ha', d0, d1, _⟩ := (HE.out.keep HB.out) k hlt
      obtain rfl : a = a' := by injection ha'
      clear ha'
      have HT := Lib.hid (minM_take l k hk1 hlt)
      rw [show l.getD k enD = l.getD k (0, ByteArray.empty) from rfl] at HT
      generalize minM (l.take k) = mn at HR5 HT
      generalize l.getD k (0, ByteArray.empty) = en at d0 d1 HT
      obtain ⟨s, m⟩ := en
      obtain ⟨s5, m5⟩ := mn
      simp only at d0 d1 HT
      have HCALL := Lib.hid (fun W => byMerit_any s s5 m m5 W)
      generalize meritI (s, m) (s5, m5) = z at HCALL HT
      have e0 := HR5.out.cell 0
      have e1 := HR5.out.cell 1
      simp only [List.getElem?_toArray, List.getElem?_cons_zero, List.getElem?_cons_succ] at e0 e1
      have HS0 := Lib.hid (show wr.drew.cell? (a.add (k * 2)) = some (.int .i64 s) ∧ wr.drew.cell? ⟨(a.add (k * 2)).block, (a.add (k * 2)).off + 1, none⟩ = some (.string m) ∧ wr.drew.cell? ⟨w.heap.size + 1, 0, none⟩ = some (.int .i64 s5) ∧ wr.drew.cell? ⟨w.heap.size + 1, 1, none⟩ = some (.string m5) ∧ Hid (Below wr.heap.size wr wr.drew) from ⟨d0, d1, e0, e1, Lib.hid ((Below.refl _ _).drew)⟩)
      have hk0 : (0 : Int) ≤ (k : Int) := Int.natCast_nonneg _
      have hk2 : (k : Int) < (l.length : Int) := by omega
      clear d0 d1 e0 e1
      by_cases hz : z < 0
      all_goals
        have HZZ := Lib.hid hz
        go_wp2_with fail
        go_region_held3 (fun W => W.cell? (a.add (k * 2)) = some (.int .i64 s) ∧ W.cell? ⟨(a.add (k * 2)).block, (a.add (k * 2)).off + 1, none⟩ = some (.string m) ∧ W.cell? ⟨w.heap.size + 1, 0, none⟩ = some (.int .i64 s5) ∧ W.cell? ⟨w.heap.size + 1, 1, none⟩ = some (.string m5) ∧ Hid (Below wr.heap.size wr W))
          ((first | assumption | exact keepQ hb1 (by assumption) (Nat.le_refl _) | exact HS0.out))
          (first
            | (go_at_call 134; refine (HCALL.out _).mono ?_; rintro e w1 ⟨rfl, hb1⟩))
        all_goals
          have hS := (by assumption : w1.cell? (a.add (k * 2)) = some (.int .i64 s) ∧ w1.cell? ⟨(a.add (k * 2)).block, (a.add (k * 2)).off + 1, none⟩ = some (.string m) ∧ w1.cell? ⟨w.heap.size + 1, 0, none⟩ = some (.int .i64 s5) ∧ w1.cell? ⟨w.heap.size + 1, 1, none⟩ = some (.string m5) ∧ Hid (Below wr.heap.size wr w1))
          have hbw := hS.2.2.2.2.out
          have HBW := Lib.hid hbw
          have HR4' := Lib.hid (HR4.out.below hbw HR4.out.lt)
          have HR5' := Lib.hid (HR5.out.below hbw HR5.out.lt)
          have q0 := hS.1
          have q1 := hS.2.1
          have f0 := HR5'.out.frozen 0
          have f1 := HR5'.out.frozen 1
          clear hS hbw hb1
      · go_wp2
        go_roundw
        case rel =>
          have q := (HR5'.out.set 0 (.int .i64 s)).set 1 (.string m)
          refine ⟨k + 1, by omega, by omega, by go_num, (HR4'.out.far (p := ⟨w.heap.size + 1, 0, none⟩) (by simp) _).far (p := ⟨w.heap.size + 1, 1, none⟩) (by simp) _, by rw [HT.out, if_pos (by have := HZZ.out; omega)]; simpa using q, ((HB.out.trans (HBW.out.mono HB.out.size)).setCell (by simp) _).setCell (by simp) _, ?_⟩
          have := HZ.out
          have := HBW.out.size
          simp
          omega
        case measure => simp [intOf]; omega
      · go_wp2
        go_roundw
        case rel => exact ⟨k + 1, by omega, by omega, by go_num, HR4'.out, by rw [HT.out, if_neg (by have := HZZ.out; omega)]; exact HR5'.out, HB.out.trans (HBW.out.mono HB.out.size), by have := HZ.out; have := HBW.out.size; omega⟩
        case measure => simp [intOf]; omega
    · have hlk : l.take k = l := List.take_of_length_le (by omega)
      rw [hlk] at HR5
      clear hlk
      have e0 := HR5.out.cell 0
      have e1 := HR5.out.cell 1
      simp only [List.getElem?_toArray, List.getElem?_cons_zero, List.getElem?_cons_succ] at e0 e1
      have f0 := HR4.out.frozen 0
      have f1 := HR4.out.frozen 1
      have c0 := HR4.out.cell 0
      have c1 := HR4.out.cell 1
      simp only [List.getElem?_toArray, List.getElem?_cons_zero, List.getElem?_cons_succ] at c0 c1
      go_wp2
      refine bodyPost_ret (v := .agg #[.int .i64 (minM l).1, .string (minM l).2]) ?_ rfl ⟨rfl, (HB.out.setCell (by simp) _).setCell (by simp) _⟩
      have q := (HR4.out.set 0 (.int .i64 (minM l).1)).set 1 (.string (minM l).2)
      have q3 := q.cell 0
      have q4 := q.cell 1
      simp [results, Tryz.results182, go_sem, q3, q4]

set_option maxRecDepth 100000 in
set_option maxHeartbeats 4000000 in
theorem maxFunc_any (A : Option Addr) (c : Nat) (l : List (Int × ByteArray)) (w : World) (he : EntriesR w A l) (h0 : 0 < l.length) (hl : l.length ≤ 1000) :
    Calls Tryz.prog 183 #[.slice A l.length c, .func (.func 134) #[] #[]] w fun e w' => e = .returned (.agg #[.int .i64 (maxM l).1, .string (maxM l).2]) ∧ Below w.heap.size w w' := by
  obtain ⟨a, rfl, z0, z1, _⟩ := he 0 h0
  have HE := Lib.hid he
  have h0i : (0 : Int) < (l.length : Int) := by omega
  have HONE : Hid (maxM (l.take 1) = l.getD 0 (0, ByteArray.empty)) := Lib.hid (by
    match l, h0 with
    | x :: l', _ => rfl)
  generalize l.getD 0 (0, ByteArray.empty) = en0 at z0 z1 HONE
  obtain ⟨s0, m0⟩ := en0
  simp only [Nat.zero_mul] at z0 z1
  have ha0 : a.add 0 = a := Addr.add_zero' a
  rw [ha0] at z0 z1
  have hlt := World.block_lt_of_cell? _ _ z0
  clear he ha0
  go_enter Tryz.func183, Tryz.ntmps183
  have y0 : (w.alloc (.cells #[.int .i64 0, .string ⟨#[]⟩] 83)).cell? a = some (.int .i64 s0) := (((Below.refl w.heap.size w).alloc (Nat.le_refl _) _).cell hlt).trans z0
  have y1 : (w.alloc (.cells #[.int .i64 0, .string ⟨#[]⟩] 83)).cell? ⟨a.block, a.off + 1, none⟩ = some (.string m0) := (((Below.refl w.heap.size w).alloc (Nat.le_refl _) _).cell (p := ⟨a.block, a.off + 1, none⟩) hlt).trans z1
  go_wp2
  generalize hW0 : (w.alloc (.cells #[.int .i64 0, .string ⟨#[]⟩] 83)).alloc (.cells #[.int .i64 s0, .string m0] 83) = W0
  obtain ⟨a1, a2, a3, a4⟩ := two_allocs w _ _ _ _ hW0
  have HA1 := Lib.hid a1
  have HA2 := Lib.hid a2
  have HA3 := Lib.hid a3
  have HSZ := Lib.hid a4
  clear hW0 a1 a2 a3 a4 y0 y1 z0 z1 hlt
  go_loopw [6] (fun i w' => ∃ k : Nat, 1 ≤ k ∧ k ≤ l.length ∧ i = .int .i64 k ∧ BlkV w' w.heap.size 83 #[.int .i64 0, .string ⟨#[]⟩] ∧ BlkV w' (w.heap.size + 1) 83 #[.int .i64 (maxM (l.take k)).1, .string (maxM (l.take k)).2] ∧ Below w.heap.size w w' ∧ w.heap.size + 2 ≤ w'.heap.size) (fun i _ => l.length - (intOf i).toNat)
  case atStart => exact ⟨1, Nat.le_refl _, h0, rfl, HA1.out, by rw [HONE.out]; exact HA2.out, HA3.out, by have := HSZ.out; omega⟩
  case round =>
    obtain ⟨k, hk1, hk, rfl, hr4, hr5, hb, hsz⟩ := hrel
    have HR4 := Lib.hid hr4
    have HR5 := Lib.hid hr5
    have HB := Lib.hid hb
    have HZ := Lib.hid hsz
    clear hr4 hr5 hb hsz
    by_cases hlt : k < l.length
    · obtain ⟨a', ha', d0, d1, _⟩ := (HE.out.keep HB.out) k hlt
      obtain rfl : a = a' := by injection ha'
      clear ha'
      have HT := Lib.hid (maxM_take l k hk1 hlt)
      rw [show l.getD k enD = l.getD k (0, ByteArray.empty) from rfl] at HT
      generalize maxM (l.take k) = mn at HR5 HT
      generalize l.getD k (0, ByteArray.empty) = en at d0 d1 HT
      obtain ⟨s, m⟩ := en
      obtain ⟨s5, m5⟩ := mn
      simp only at d0 d1 HT
      have HCALL := Lib.hid (fun W => byMerit_any s s5 m m5 W)
      generalize meritI (s, m) (s5, m5) = z at HCALL HT
      have e0 := HR5.out.cell 0
      have e1 := HR5.out.cell 1
      simp only [List.getElem?_toArray, List.getElem?_cons_zero, List.getElem?_cons_succ] at e0 e1
      have HS0 := Lib.hid (show wr.drew.cell? (a.add (k * 2)) = some (.int .i64 s) ∧ wr.drew.cell? ⟨(a.add (k * 2)).block, (a.add (k * 2)).off + 1, none⟩ = some (.string m) ∧ wr.drew.cell? ⟨w.heap.size + 1, 0, none⟩ = some (.int .i64 s5) ∧ wr.drew.cell? ⟨w.heap.size + 1, 1, none⟩ = some (.string m5) ∧ Hid (Below wr.heap.size wr wr.drew) from ⟨d0, d1, e0, e1, Lib.hid ((Below.refl _ _).drew)⟩)
      have hk0 : (0 : Int) ≤ (k : Int) := Int.natCast_nonneg _
      have hk2 : (k : Int) < (l.length : Int) := by omega
      clear d0 d1 e0 e1
      by_cases hz : 0 < z
      all_goals
        have HZZ := Lib.hid hz
        go_wp2_with fail
        go_region_held3 (fun W => W.cell? (a.add (k * 2)) = some (.int .i64 s) ∧ W.cell? ⟨(a.add (k * 2)).block, (a.add (k * 2)).off + 1, none⟩ = some (.string m) ∧ W.cell? ⟨w.heap.size + 1, 0, none⟩ = some (.int .i64 s5) ∧ W.cell? ⟨w.heap.size + 1, 1, none⟩ = some (.string m5) ∧ Hid (Below wr.heap.size wr W))
          ((first | assumption | exact keepQ hb1 (by assumption) (Nat.le_refl _) | exact HS0.out))
          (first
            | (go_at_call 134; refine (HCALL.out _).mono ?_; rintro e w1 ⟨rfl, hb1⟩))
        all_goals
          have hS := (by assumption : w1.cell? (a.add (k * 2)) = some (.int .i64 s) ∧ w1.cell? ⟨(a.add (k * 2)).block, (a.add (k * 2)).off + 1, none⟩ = some (.string m) ∧ w1.cell? ⟨w.heap.size + 1, 0, none⟩ = some (.int .i64 s5) ∧ w1.cell? ⟨w.heap.size + 1, 1, none⟩ = some (.string m5) ∧ Hid (Below wr.heap.size wr w1))
          have hbw := hS.2.2.2.2.out
          have HBW := Lib.hid hbw
          have HR4' := Lib.hid (HR4.out.below hbw HR4.out.lt)
          have HR5' := Lib.hid (HR5.out.below hbw HR5.out.lt)
          have q0 := hS.1
          have q1 := hS.2.1
          have f0 := HR5'.out.frozen 0
          have f1 := HR5'.out.frozen 1
          clear hS hbw hb1
      · go_wp2
        go_roundw
        case rel =>
          have q := (HR5'.out.set 0 (.int .i64 s)).set 1 (.string m)
          refine ⟨k + 1, by omega, by omega, by go_num, (HR4'.out.far (p := ⟨w.heap.size + 1, 0, none⟩) (by simp) _).far (p := ⟨w.heap.size + 1, 1, none⟩) (by simp) _, by rw [HT.out, if_pos (by have := HZZ.out; omega)]; simpa using q, ((HB.out.trans (HBW.out.mono HB.out.size)).setCell (by simp) _).setCell (by simp) _, ?_⟩
          have := HZ.out
          have := HBW.out.size
          simp
          omega
        case measure => simp [intOf]; omega
      · go_wp2
        go_roundw
        case rel => exact ⟨k + 1, by omega, by omega, by go_num, HR4'.out, by rw [HT.out, if_neg (by have := HZZ.out; omega)]; exact HR5'.out, HB.out.trans (HBW.out.mono HB.out.size), by have := HZ.out; have := HBW.out.size; omega⟩
        case measure => simp [intOf]; omega
    · have hlk : l.take k = l := List.take_of_length_le (by omega)
      rw [hlk] at HR5
      clear hlk
      have e0 := HR5.out.cell 0
      have e1 := HR5.out.cell 1
      simp only [List.getElem?_toArray, List.getElem?_cons_zero, List.getElem?_cons_succ] at e0 e1
      have f0 := HR4.out.frozen 0
      have f1 := HR4.out.frozen 1
      have c0 := HR4.out.cell 0
      have c1 := HR4.out.cell 1
      simp only [List.getElem?_toArray, List.getElem?_cons_zero, List.getElem?_cons_succ] at c0 c1
      go_wp2
      refine bodyPost_ret (v := .agg #[.int .i64 (maxM l).1, .string (maxM l).2]) ?_ rfl ⟨rfl, (HB.out.setCell (by simp) _).setCell (by simp) _⟩
      have q := (HR4.out.set 0 (.int .i64 (maxM l).1)).set 1 (.string (maxM l).2)
      have q3 := q.cell 0
      have q4 := q.cell 1
      simp [results, Tryz.results183, go_sem, q3, q4]

/-- The sum of net strokes, or the worst of their marks. -/
def totalM (l : List (Int × ByteArray)) : Int × ByteArray := if countsB (maxM l).2 then (sumS l, noMark) else maxM l

set_option maxRecDepth 100000 in
set_option maxHeartbeats 1000000 in
theorem best_any (A : Option Addr) (c : Nat) (l : List (Int × ByteArray)) (w : World) (he : EntriesR w A l) (h0 : 0 < l.length) (hl : l.length ≤ 1000) :
    Calls Tryz.prog 144 #[.slice A l.length c] w fun e w' => e = .returned (.agg #[.int .i64 (minM l).1, .string (minM l).2]) ∧ Below w.heap.size w w' := by
  have HC := Lib.hid (fun W (hb : Below w.heap.size w W) => minFunc_any A c l W (he.keep hb) h0 hl)
  clear he
  generalize (minM l).1 = s at HC ⊢
  generalize (minM l).2 = m at HC ⊢
  go_enter Tryz.func144, Tryz.ntmps144
  go_wp2_with fail
  refine (HC.out _ ((Below.refl _ _).alloc (Nat.le_refl _) _)).mono ?_
  rintro e w1 ⟨rfl, hb1⟩
  have HR := Lib.hid ((BlkV.new w 83 #[.int .i64 0, .string ⟨#[]⟩]).below hb1 (by simp))
  have HB := Lib.hid (((Below.refl w.heap.size w).alloc (Nat.le_refl _) (.cells #[.int .i64 0, .string ⟨#[]⟩] 83)).trans (hb1.mono (by simp)))
  clear hb1 HC
  have f0 := HR.out.frozen 0
  have f1 := HR.out.frozen 1
  have c0 := HR.out.cell 0
  have c1 := HR.out.cell 1
  simp only [List.getElem?_toArray, List.getElem?_cons_zero, List.getElem?_cons_succ] at c0 c1
  go_wp2
  refine bodyPost_ret (v := .agg #[.int .i64 s, .string m]) ?_ rfl ⟨rfl, (HB.out.setCell (by simp) _).setCell (by simp) _⟩
  have q := (HR.out.set 0 (.int .i64 s)).set 1 (.string m)
  have q3 := q.cell 0
  have q4 := q.cell 1
  simp [results, Tryz.results144, go_sem, q3, q4]

set_option maxRecDepth 100000 in
set_option maxHeartbeats 2000000 in
theorem total_any (A : Option Addr) (c : Nat) (l : List (Int × ByteArray)) (w : World) (he : EntriesR w A l) (h0 : 0 < l.length) (hl : l.length ≤ 1000) (hs : Small l) :
    Calls Tryz.prog 145 #[.slice A l.length c] w fun e w' => e = .returned (.agg #[.int .i64 (totalM l).1, .string (totalM l).2]) ∧ Below w.heap.size w w' := by
  have HC := Lib.hid (fun W (hb : Below w.heap.size w W) => maxFunc_any A c l W (he.keep hb) h0 hl)
  have HU := Lib.hid (fun W (hb : Below w.heap.size w W) => sumNets_any A c l W (he.keep hb) hs hl)
  have HT : Hid (totalM l = if countsB (maxM l).2 then (sumS l, noMark) else maxM l) := Lib.hid rfl
  clear he hs
  generalize totalM l = tt at HT ⊢
  generalize sumS l = S at HU HT
  generalize maxM l = mx at HC HT
  obtain ⟨s, m⟩ := mx
  simp only at HC HT
  cases hc : countsB m
  all_goals
    rw [hc] at HT
    have HCM := Lib.hid hc
    clear hc
    simp only [if_true, if_false, Bool.false_eq_true] at HT
    go_enter Tryz.func145, Tryz.ntmps145
    go_wp2_with fail
    refine (HC.out _ ((Below.refl _ _).alloc (Nat.le_refl _) _)).mono ?_
    rintro e w1 ⟨rfl, hb1⟩
    have hr := (BlkV.new w 83 #[.int .i64 0, .string ⟨#[]⟩]).below hb1 (by simp)
    have hb : Below w.heap.size w w1 := ((Below.refl w.heap.size w).alloc (Nat.le_refl _) (.cells #[.int .i64 0, .string ⟨#[]⟩] 83)).trans (hb1.mono (by simp))
    have hsz : w.heap.size + 1 ≤ w1.heap.size := by have := hb1.size; simpa using this
    have HSZ := Lib.hid hsz
    clear hb1 HC
    have HB1 := Lib.hid hb
    have HR1 := Lib.hid hr
    clear hb hr hsz
    go_wp2_with fail
    generalize hW2 : w1.alloc (.cells #[.int .i64 s, .string m] 83) = W2
    have hr2 : BlkV W2 w.heap.size 83 #[.int .i64 0, .string ⟨#[]⟩] := by subst hW2; exact HR1.out.alloc _
    have hx2 : BlkV W2 w1.heap.size 83 #[.int .i64 s, .string m] := by subst hW2; exact BlkV.new _ _ _
    have hb2 : Below w.heap.size w W2 := by subst hW2; exact HB1.out.alloc HB1.out.size _
    have HR2 := Lib.hid hr2
    have HX2 := Lib.hid hx2
    have HB2 := Lib.hid hb2
    clear hW2 hr2 hx2 hb2
    refine (netCounts_any _ _ W2).mono ?_
    rintro e w3 ⟨rfl, hb3⟩
    rw [HCM.out]
    have HR3 := Lib.hid (HR2.out.below hb3 HR2.out.lt)
    have HX3 := Lib.hid (HX2.out.below hb3 HX2.out.lt)
    have HB3 := Lib.hid (HB2.out.trans (hb3.mono HB2.out.size))
    clear hb3
    have f0 := HR3.out.frozen 0
    have f1 := HR3.out.frozen 1
    have g0 := HR3.out.cell 0
    have g1 := HR3.out.cell 1
    have x0 := HX3.out.cell 0
    have x1 := HX3.out.cell 1
    simp only [List.getElem?_toArray, List.getElem?_cons_zero, List.getElem?_cons_succ] at x0 x1 g0 g1
  · go_wp2
    rw [HT.out]
    refine bodyPost_ret (v := .agg #[.int .i64 s, .string m]) ?_ rfl ⟨rfl, (HB3.out.setCell (by simp) _).setCell (by simp) _⟩
    have q := (HR3.out.set 0 (.int .i64 s)).set 1 (.string m)
    have q3 := q.cell 0
    have q4 := q.cell 1
    simp [results, Tryz.results145, go_sem, q3, q4]
  · go_wp2_with fail
    refine (HU.out w3 HB3.out).mono ?_
    rintro e w4 ⟨rfl, hb4⟩
    have HR4 := Lib.hid (HR3.out.below hb4 HR3.out.lt)
    have HB4 := Lib.hid (HB3.out.trans (hb4.mono HB3.out.size))
    clear hb4 f0 f1 x0 x1 g0 g1
    have f0 := HR4.out.frozen 0
    have f1 := HR4.out.frozen 1
    have g0 := HR4.out.cell 0
    have g1 := HR4.out.cell 1
    simp only [List.getElem?_toArray, List.getElem?_cons_zero, List.getElem?_cons_succ] at g0 g1
    go_wp2
    rw [HT.out]
    refine bodyPost_ret (v := .agg #[.int .i64 S, .string noMark]) ?_ rfl ⟨rfl, (HB4.out.setCell (by simp) _).setCell (by simp) _⟩
    have q := (HR4.out.set 0 (.int .i64 S)).set 1 (.string ⟨#[]⟩)
    have q3 := q.cell 0
    have q4 := q.cell 1
    simp [results, Tryz.results145, go_sem, q3, q4, noMark]
end Go.Proofs.YtbckfkopdojggaaGreatDoor

/- The rounds of players: joined's closure, eachOf over players. -/
namespace Go.Proofs.YtbckfkopdojggaaGreatDoor
open Go.RowKit

/-- Round j lies in cells 2 j and 2 j + 1: entries, and these net strokes. -/
def RoundAt (W : World) (g : Nat) (cs : Array Value) (j : Nat) (nl : List (Int × ByteArray)) : Prop :=
  ∃ (B : Option Addr) (n d : Nat) (A : Option Addr) (c : Nat), cs[j * 2]? = some (.slice B n d) ∧ cs[j * 2 + 1]? = some (.slice A nl.length c) ∧ EntriesR W A nl ∧ ∀ a, A = some a → g < a.block
theorem RoundAt.keep {W W' : World} {g : Nat} {cs : Array Value} {j : Nat} {nl : List (Int × ByteArray)} (h : RoundAt W g cs j nl) (hb : Below W.heap.size W W') : RoundAt W' g cs j nl := by
  obtain ⟨B, n, d, A, c, h1, h2, h3, h4⟩ := h
  exact ⟨B, n, d, A, c, h1, h2, h3.keep hb, h4⟩
theorem RoundAt.far {W : World} {g : Nat} {cs : Array Value} {j : Nat} {nl : List (Int × ByteArray)} (h : RoundAt W g cs j nl) (i : Nat) (u : Value) : RoundAt (W.setCell ⟨g, i, none⟩ u) g cs j nl := by
  obtain ⟨B, n, d, A, c, h1, h2, h3, h4⟩ := h
  exact ⟨B, n, d, A, c, h1, h2, h3.far (fun a ha => by have := h4 a ha; show a.block ≠ g; omega) u, h4⟩
theorem RoundAt.set {W : World} {g : Nat} {cs : Array Value} {j : Nat} {nl : List (Int × ByteArray)} (h : RoundAt W g cs j nl) (i : Nat) (u : Value) (hi : i ≠ j * 2 ∧ i ≠ j * 2 + 1) : RoundAt W g (cs.setIfInBounds i u) j nl := by
  obtain ⟨B, n, d, A, c, h1, h2, h3, h4⟩ := h
  exact ⟨B, n, d, A, c, by rw [Array.getElem?_setIfInBounds_ne hi.1]; exact h1, by rw [Array.getElem?_setIfInBounds_ne hi.2]; exact h2, h3, h4⟩
/-- The rounds of these players lie behind block g. -/
structure RoundsR (W : World) (g : Nat) (hs : List (Int × Int)) (ps : List Pl) (k : Nat) (cs : Array Value) : Prop where
  blk : BlkV W g 135 cs
  size : cs.size = ps.length * 2
  at_ : ∀ j, j < k → RoundAt W g cs j (netsOf hs (ps.getD j plD).h (ps.getD j plD).l)

theorem info_round : (Tryz.prog.info? 135).map (fun i => (i.zero, i.size, i.bytes)) = some (some (.agg #[.slice none 0 0, .slice none 0 0]), 2, 48) := by kernel_rfl
theorem make_rounds (n : Nat) (hn : n ≤ 1000000) (w : World) :
    (Instr.makeSlice 214 (.int .i64 (n : Int)) (.int .i64 (n : Int))).run Tryz.prog w = .ok (.slice (some ⟨w.heap.size, 0, none⟩) n n) (w.alloc (.cells (madeCells #[.slice none 0 0, .slice none 0 0] (n * 2)) 135)) := by
  obtain ⟨i0, hi, hz0, hz1, hz2⟩ := info_parts info_round
  have hr := run_make (P := Tryz.prog) w 214 135 i0 (.agg #[.slice none 0 0, .slice none 0 0]) Tryz.underlying214 hi hz0 .i64 .i64 n n (by omega) (by omega) (by rw [hz2]; omega) (by omega)
  rw [hz1] at hr
  simp only [Int.toNat_natCast] at hr
  exact hr

set_option maxRecDepth 100000 in
set_option maxHeartbeats 1000000 in
theorem joined1_any (H B : Option Addr) (ch d gh : Nat) (hs : List (Int × Int)) (p : Pl) (w : World) (hr : HolesR w H hs) (hbl : ∀ a, H = some a → a.block < w.heap.size)
    (hc : w.cell? ⟨gh, 0, none⟩ = some (.slice H hs.length ch)) (he : EntriesR w B p.l) (hn : plI hs p = 0) :
    Calls Tryz.prog 139 #[.agg #[.string p.nm, .slice B p.l.length d, .int .i64 p.h], .pointer (some ⟨gh, 0, none⟩)] w (RoundOut B d p.l (netsOf hs p.h p.l) w) := by
  have F := fit_of (show playerI hs p.nm p.l p.h = 0 from hn)
  have hg := cell_lt hc
  have HC := Lib.hid (fun W (hb : Below w.heap.size w W) => roundOf_any H B ch d hs p.nm p.l p.h W (hr.keep hbl hb) (fun a ha => Nat.lt_of_lt_of_le (hbl a ha) hb.size) (he.keep hb) F.pos (by have := F.most; omega) F.len F.strokes F.lo F.hi)
  have HK := Lib.hid (fun W (hb : Below w.heap.size w W) => (hb.cell (p := ⟨gh, 0, none⟩) hg).trans hc)
  clear hr hbl he hn F hc
  obtain ⟨nm, l, h⟩ := p
  simp only at HC ⊢
  generalize netsOf hs h l = nl at HC ⊢
  have x0 := HK.out _ (((Below.refl w.heap.size w).alloc (Nat.le_refl _) (.cells #[.string nm, .slice B l.length d, .int .i64 h] 55)).alloc (by simp) (.cells #[.slice none 0 0, .slice none 0 0] 135))
  go_enter Tryz.func139, Tryz.ntmps139
  go_wp2_with fail
  generalize hW0 : (w.alloc (.cells #[.string nm, .slice B l.length d, .int .i64 h] 55)).alloc (.cells #[.slice none 0 0, .slice none 0 0] 135) = W0
  obtain ⟨a1, a2, a3, a4⟩ := two_allocs w _ _ _ _ hW0
  refine (HC.out W0 a3).mono ?_
  rintro e w1 ⟨A', c', rfl, hent, hge, hb1⟩
  have HENT := Lib.hid hent
  have HGE := Lib.hid hge
  have HR := Lib.hid (a2.below hb1 a2.lt)
  have HB := Lib.hid (a3.trans (hb1.mono a3.size))
  have HSZ := Lib.hid a4
  clear hW0 a1 a2 a3 hb1 hent hge HC HK x0
  have f0 := HR.out.frozen 0
  have f1 := HR.out.frozen 1
  have c0 := HR.out.cell 0
  have c1 := HR.out.cell 1
  simp only [List.getElem?_toArray, List.getElem?_cons_zero, List.getElem?_cons_succ] at c0 c1
  go_wp2
  refine bodyPost_ret (v := .agg #[.slice B l.length d, .slice A' nl.length c']) ?_ rfl ⟨A', c', rfl, ?_, fun a ha => by have := HGE.out a ha; have := HSZ.out; omega, (HB.out.setCell (by simp) _).setCell (by simp) _⟩
  · have q := (HR.out.set 0 (.slice B l.length d)).set 1 (.slice A' nl.length c')
    have q3 := q.cell 0
    have q4 := q.cell 1
    simp [results, Tryz.results139, go_sem, q3, q4]
  · exact (HENT.out.far (p := ⟨w.heap.size + 1, 0, none⟩) (fun a ha => by have := HGE.out a ha; have := HSZ.out; simp; omega) _).far (p := ⟨w.heap.size + 1, 1, none⟩) (fun a ha => by have := HGE.out a ha; have := HSZ.out; simp; omega) _

set_option maxRecDepth 100000 in
set_option maxHeartbeats 4000000 in
theorem eachRound_any (A H : Option Addr) (c ch gh : Nat) (hs : List (Int × Int)) (ps : List Pl) (w : World) (hr : HolesR w H hs) (hbl : ∀ a, H = some a → a.block < w.heap.size)
    (hc : w.cell? ⟨gh, 0, none⟩ = some (.slice H hs.length ch)) (hp : PlayersR w A ps) (hl : ps.length ≤ 1000) (hn : ∀ p ∈ ps, plI hs p = 0) :
    Calls Tryz.prog 138 #[.slice A ps.length c, .func (.func 139) #[] #[.pointer (some ⟨gh, 0, none⟩)]] w fun e w' =>
      ∃ g cs, e = .returned (.slice (some ⟨g, 0, none⟩) ps.length ps.length) ∧ RoundsR w' g hs ps ps.length cs ∧ w.heap.size ≤ g ∧ Below w.heap.size w w' := by
  have hmk := make_rounds ps.length (by omega)
  have hg := cell_lt hc
  have HC := Lib.hid (fun W (hb : Below w.heap.size w W) B d (p : Pl) (he : EntriesR W B p.l) (hn : plI hs p = 0) => joined1_any H B ch d gh hs p W (hr.keep hbl hb) (fun a ha => Nat.lt_of_lt_of_le (hbl a ha) hb.size) ((hb.cell (p := ⟨gh, 0, none⟩) hg).trans hc) he hn)
  have HP := Lib.hid hp
  have HN := Lib.hid hn
  clear hr hbl hc hp hn hg
  go_enter Tryz.func138, Tryz.ntmps138
  go_wp2
  go_loopw [13] (fun i w' => ∃ (k : Nat) (cs : Array Value), k ≤ ps.length ∧ i = .int .i64 k ∧ RoundsR w' w.heap.size hs ps k cs ∧ Below w.heap.size w w') (fun i _ => ps.length - (intOf i).toNat)
  case atStart => exact ⟨0, _, Nat.zero_le _, rfl, ⟨BlkV.new w _ _, by rw [size_madeCells], fun j hj => absurd hj (Nat.not_lt_zero _)⟩, (Below.refl _ _).alloc (Nat.le_refl _) _⟩
  case round =>
    obtain ⟨k, cs, hk, rfl, hrr, hb⟩ := hrel
    have HRR := Lib.hid hrr
    have HB := Lib.hid hb
    clear hrr hb
    by_cases hlt : k < ps.length
    · obtain ⟨a, B, d, rfl, d0, d1, d2, _, hent⟩ := (HP.out.keep HB.out) k hlt
      have HMEM : Hid (ps.getD k plD ∈ ps) := Lib.hid (by simp [List.getD, List.getElem?_eq_getElem hlt])
      have HPN := Lib.hid (HN.out _ HMEM.out)
      have HKP : Hid (ps.getD k plD = ps.getD k plD) := Lib.hid rfl
      generalize hpk : ps.getD k plD = p at d0 d1 d2 hent HPN
      have HPK := Lib.hid hpk
      have HENT := Lib.hid hent
      clear hpk hent HKP HMEM
      have hcs := HRR.out.size
      have x0 : cs[k * 2]? = some cs[k * 2]! := by rw [Array.getElem?_eq_getElem (by omega)]; simp [Array.getElem!_eq_getD, Array.getD, show k * 2 < cs.size by omega]
      have x1 : cs[k * 2 + 1]? = some cs[k * 2 + 1]! := by rw [Array.getElem?_eq_getElem (by omega)]; simp [Array.getElem!_eq_getD, Array.getD, show k * 2 + 1 < cs.size by omega]
      have hk0 : (0 : Int) ≤ (k : Int) := Int.natCast_nonneg _
      have hk1 : (k : Int) < (ps.length : Int) := by omega
      have HX0 := Lib.hid x0
      have HX1 := Lib.hid x1
      have HCS := Lib.hid hcs
      clear x0 x1 hcs
      obtain ⟨nm, l, h⟩ := p
      simp only at d0 d1 d2
      go_wp2_with fail
      generalize hW2 : wr.alloc (.cells #[.string nm, .slice B l.length d, .int .i64 h] 55) = W2
      have hB2 : Below wr.heap.size wr W2 := by subst hW2; exact (Below.refl _ _).alloc (Nat.le_refl _) _
      have HB2 := Lib.hid hB2
      clear hW2 hB2 d0 d1 d2
      refine (HC.out W2 (HB.out.trans (HB2.out.mono HB.out.size)) B d ⟨nm, l, h⟩ (HENT.out.keep HB2.out) HPN.out).mono ?_
      rintro e w3 ⟨A3, c3, rfl, hen3, hge3, hb3⟩
      have hbw : Below wr.heap.size wr w3 := HB2.out.trans (hb3.mono HB2.out.size)
      have hblk := HRR.out.blk.below hbw HRR.out.blk.lt
      have f0 := hblk.frozen (k * 2)
      have f1 := hblk.frozen (k * 2 + 1)
      have c0 := hblk.cell (k * 2)
      have c1 := hblk.cell (k * 2 + 1)
      rw [HX0.out] at c0
      rw [HX1.out] at c1
      have HEN3 := Lib.hid hen3
      have HGE3 : Hid (∀ a, A3 = some a → w.heap.size < a.block) := Lib.hid (fun a ha => by have := hge3 a ha; have := HB2.out.size; have := HRR.out.blk.lt; omega)
      have HBW := Lib.hid hbw
      have HBLK := Lib.hid hblk
      clear hen3 hge3 hb3 hbw hblk
      go_wp2
      go_roundw
      case rel =>
        refine ⟨k + 1, _, by omega, by go_num, ⟨(HBLK.out.set (k * 2) _).set (k * 2 + 1) _, by simp [HCS.out], fun j hj => ?_⟩, ((HB.out.trans (HBW.out.mono HB.out.size)).setCell (by simp) _).setCell (by simp) _⟩
        by_cases hjk : j = k
        · subst hjk
          rw [HPK.out]
          refine RoundAt.far (RoundAt.far ?_ _ _) _ _
          refine ⟨B, l.length, d, A3, c3, ?_, ?_, HEN3.out, HGE3.out⟩
          · rw [Array.getElem?_setIfInBounds_ne (by omega), Array.getElem?_setIfInBounds_self_of_lt (by have := HCS.out; omega)]
          · rw [Array.getElem?_setIfInBounds_self_of_lt (by simp; have := HCS.out; omega)]
        · exact (((((HRR.out.at_ j (by omega)).keep (HBW.out)).set (k * 2) _ (by omega)).set (k * 2 + 1) _ (by omega)).far _ _).far _ _
      case measure => simp [intOf]; omega
    · have hke : k = ps.length := by omega
      have HKE := Lib.hid hke
      clear hke
      go_wp2
      go_ret
      exact ⟨w.heap.size, cs, rfl, by have := HRR.out; rwa [HKE.out] at this, Nat.le_refl _, HB.out⟩
end Go.Proofs.YtbckfkopdojggaaGreatDoor

/- The net strokes of a hole: joined's second closure, eachOf over rounds; rows of net strokes in blocks of the call's own. -/
namespace Go.Proofs.YtbckfkopdojggaaGreatDoor
open Go.RowKit

theorem pairCells_set : ∀ (l : List (Int × ByteArray)) (k : Nat) (s : Int) (m : ByteArray), k < l.length → ((pairCells l).set (k * 2) (.int .i64 s)).set (k * 2 + 1) (.string m) = pairCells (l.set k (s, m))
  | [], k, _, _, h => absurd h (Nat.not_lt_zero _)
  | e :: l, 0, s, m, _ => rfl
  | e :: l, k + 1, s, m, h => by
    have ih := pairCells_set l k s m (by simpa using h)
    rw [show (k + 1) * 2 = k * 2 + 1 + 1 by omega]
    have e1 : pairCells (e :: l) = .int .i64 e.1 :: .string e.2 :: pairCells l := rfl
    rw [e1]
    simp only [List.set_cons_succ]
    rw [ih]
    rfl
/-- Block g is a row of just these net strokes. -/
def NetBlk (W : World) (g : Nat) (l : List (Int × ByteArray)) : Prop := BlkV W g 83 (pairCells l).toArray
theorem NetBlk.set {W : World} {g : Nat} {l : List (Int × ByteArray)} (h : NetBlk W g l) (k : Nat) (s : Int) (m : ByteArray) (hk : k < l.length) :
    NetBlk ((W.setCell ⟨g, k * 2, none⟩ (.int .i64 s)).setCell ⟨g, k * 2 + 1, none⟩ (.string m)) g (l.set k (s, m)) := by
  have q := (BlkV.set h (k * 2) (.int .i64 s)).set (k * 2 + 1) (.string m)
  unfold NetBlk
  rw [← pairCells_set l k s m hk]
  simpa using q
theorem NetBlk.cells {W : World} {g : Nat} {l : List (Int × ByteArray)} (h : NetBlk W g l) {j : Nat} (hj : j < l.length) :
    W.cell? ⟨g, j * 2, none⟩ = some (.int .i64 (l.getD j (0, ByteArray.empty)).1) ∧ W.cell? ⟨g, j * 2 + 1, none⟩ = some (.string (l.getD j (0, ByteArray.empty)).2) := by
  have h1 := BlkV.cell h (j * 2)
  have h2 := BlkV.cell h (j * 2 + 1)
  obtain ⟨p1, p2⟩ := pairCells_at l j hj
  rw [List.getElem?_toArray, p1] at h1
  rw [List.getElem?_toArray, p2] at h2
  exact ⟨h1, h2⟩
theorem NetBlk.entries {W : World} {g : Nat} {l : List (Int × ByteArray)} (h : NetBlk W g l) : EntriesR W (some ⟨g, 0, none⟩) l := fun j hj => by
  obtain ⟨h1, h2⟩ := h.cells hj
  exact ⟨_, rfl, by rw [add_zero_at]; exact h1, by rw [add_zero_at]; exact h2, by rw [add_zero_at]; exact BlkV.lt h⟩
theorem made_nets : ∀ n : Nat, madeCells #[.int .i64 0, .string ⟨#[]⟩] (n * 2) = (pairCells (List.replicate n (0, ⟨#[]⟩))).toArray := fun n => by
  unfold madeCells
  apply Array.ext
  · simp [pairCells_len]
  · intro i h1 h2
    have hi : i < n * 2 := by simpa using h1
    have hj : i / 2 < (List.replicate n ((0 : Int), (⟨#[]⟩ : ByteArray))).length := by simp; omega
    obtain ⟨p1, p2⟩ := pairCells_at (List.replicate n ((0 : Int), (⟨#[]⟩ : ByteArray))) (i / 2) hj
    have e : (List.replicate n ((0 : Int), (⟨#[]⟩ : ByteArray))).getD (i / 2) (0, ByteArray.empty) = (0, ⟨#[]⟩) := by rw [List.getD, List.getElem?_replicate, if_pos (by omega)]; rfl
    rw [e] at p1 p2
    simp only [Array.getElem_map, Array.getElem_range, List.getElem_toArray]
    have hs : (#[Value.int .i64 0, Value.string ⟨#[]⟩] : Array Value).size = 2 := rfl
    rw [hs]
    rcases Nat.mod_two_eq_zero_or_one i with g | g
    · rw [g]
      have : i / 2 * 2 = i := by omega
      rw [this] at p1
      rw [List.getElem?_eq_getElem (by simpa using h2)] at p1
      injection p1 with p1
      rw [p1]; rfl
    · rw [g]
      have : i / 2 * 2 + 1 = i := by omega
      rw [this] at p2
      rw [List.getElem?_eq_getElem (by simpa using h2)] at p2
      injection p2 with p2
      rw [p2]; rfl
theorem make_nets (n : Nat) (hn : n ≤ 1000000) (w : World) :
    (Instr.makeSlice 77 (.int .i64 (n : Int)) (.int .i64 (n : Int))).run Tryz.prog w = .ok (.slice (some ⟨w.heap.size, 0, none⟩) n n) (w.alloc (.cells (pairCells (List.replicate n (0, ⟨#[]⟩))).toArray 83)) := by
  obtain ⟨i0, hi, hz0, hz1, hz2⟩ := info_parts info_net
  have hr := run_make (P := Tryz.prog) w 77 83 i0 (.agg #[.int .i64 0, .string ⟨#[]⟩]) Tryz.underlying77 hi hz0 .i64 .i64 n n (by omega) (by omega) (by rw [hz2]; omega) (by omega)
  rw [hz1] at hr
  simp only [Int.toNat_natCast] at hr
  rw [← made_nets]
  exact hr

/-- The net strokes of players on hole i. -/
def netsAt (hs : List (Int × Int)) (ps : List Pl) (i : Nat) : List (Int × ByteArray) := ps.map fun p => (netsOf hs p.h p.l).getD i (0, ByteArray.empty)
theorem netsAt_len (hs : List (Int × Int)) (ps : List Pl) (i : Nat) : (netsAt hs ps i).length = ps.length := by simp [netsAt]
theorem netsAt_at (hs : List (Int × Int)) (ps : List Pl) (i k : Nat) (h : k < ps.length) : (netsAt hs ps i).getD k (0, ByteArray.empty) = (netsOf hs (ps.getD k plD).h (ps.getD k plD).l).getD i (0, ByteArray.empty) := by
  simp [netsAt, List.getD, List.getElem?_eq_getElem h]
theorem RoundsR.keep {W W' : World} {g : Nat} {hs : List (Int × Int)} {ps : List Pl} {k : Nat} {cs : Array Value} (h : RoundsR W g hs ps k cs) (hb : Below W.heap.size W W') : RoundsR W' g hs ps k cs :=
  ⟨h.blk.below hb h.blk.lt, h.size, fun j hj => (h.at_ j hj).keep hb⟩
theorem same_list (xs ys : List (Int × ByteArray)) (h : xs.length = ys.length) (hj : ∀ j, j < xs.length → xs.getD j (0, ByteArray.empty) = ys.getD j (0, ByteArray.empty)) : xs = ys := by
  apply List.ext_getElem h
  intro j h1 h2
  have := hj j h1
  simpa [List.getD, List.getElem?_eq_getElem h1, List.getElem?_eq_getElem h2] using this

set_option maxRecDepth 100000 in
set_option maxHeartbeats 1000000 in
theorem joined2_any (B A : Option Addr) (n d c gi i : Nat) (nl : List (Int × ByteArray)) (w : World) (hc : w.cell? ⟨gi, 0, none⟩ = some (.int .i64 i)) (he : EntriesR w A nl) (hi : i < nl.length) :
    Calls Tryz.prog 141 #[.agg #[.slice B n d, .slice A nl.length c], .pointer (some ⟨gi, 0, none⟩)] w fun e w' => e = .returned (.agg #[.int .i64 (nl.getD i (0, ByteArray.empty)).1, .string (nl.getD i (0, ByteArray.empty)).2]) ∧ Below w.heap.size w w' := by
  have hb0 : Below w.heap.size w ((w.alloc (.cells #[.slice B n d, .slice A nl.length c] 135)).alloc (.cells #[.int .i64 0, .string ⟨#[]⟩] 83)) := ((Below.refl _ _).alloc (Nat.le_refl _) _).alloc (by simp) _
  obtain ⟨a, rfl, d0, d1, _⟩ := (he.keep hb0) i hi
  have x0 := (hb0.cell (p := ⟨gi, 0, none⟩) (cell_lt hc)).trans hc
  have hi0 : (0 : Int) ≤ (i : Int) := Int.natCast_nonneg _
  have hi1 : (i : Int) < (nl.length : Int) := by omega
  clear he hc hb0
  generalize nl.getD i (0, ByteArray.empty) = en at d0 d1 ⊢
  obtain ⟨s, m⟩ := en
  simp only at d0 d1 ⊢
  go_enter Tryz.func141, Tryz.ntmps141
  go_wp2
  refine bodyPost_ret (v := .agg #[.int .i64 s, .string m]) ?_ rfl ⟨rfl, ?_⟩
  · simp [results, Tryz.results141, go_sem]
  · repeat first | exact Below.refl _ _ | apply Below.drew | refine Below.setCell ?_ (by simp <;> omega) _ | refine Below.alloc ?_ (by simp <;> omega) _

set_option maxRecDepth 100000 in
set_option maxHeartbeats 4000000 in
theorem eachNet_any (g gi i : Nat) (cs : Array Value) (hs : List (Int × Int)) (ps : List Pl) (w : World) (hR : RoundsR w g hs ps ps.length cs) (hc : w.cell? ⟨gi, 0, none⟩ = some (.int .i64 i)) (hl : ps.length ≤ 1000)
    (hi : ∀ p ∈ ps, i < (netsOf hs p.h p.l).length) :
    Calls Tryz.prog 140 #[.slice (some ⟨g, 0, none⟩) ps.length ps.length, .func (.func 141) #[] #[.pointer (some ⟨gi, 0, none⟩)]] w fun e w' =>
      ∃ g2, e = .returned (.slice (some ⟨g2, 0, none⟩) ps.length ps.length) ∧ NetBlk w' g2 (netsAt hs ps i) ∧ w.heap.size ≤ g2 ∧ Below w.heap.size w w' := by
  have hmk := make_nets ps.length (by omega)
  have HR := Lib.hid hR
  have HC := Lib.hid hc
  have HI := Lib.hid hi
  have HNL := Lib.hid (netsAt_len hs ps i)
  clear hR hc hi
  go_enter Tryz.func140, Tryz.ntmps140
  go_wp2
  go_loopw [13] (fun i2 w' => ∃ (k : Nat) (l : List (Int × ByteArray)), k ≤ ps.length ∧ i2 = .int .i64 k ∧ l.length = ps.length ∧ NetBlk w' w.heap.size l ∧ (∀ j, j < k → l.getD j (0, ByteArray.empty) = (netsAt hs ps i).getD j (0, ByteArray.empty)) ∧ Below w.heap.size w w') (fun i2 _ => ps.length - (intOf i2).toNat)
  case atStart => exact ⟨0, _, Nat.zero_le _, rfl, by simp, BlkV.new w _ _, fun j hj => absurd hj (Nat.not_lt_zero _), (Below.refl _ _).alloc (Nat.le_refl _) _⟩
  case round =>
    obtain ⟨k, l, hk, rfl, hll, hblk, hpre, hb⟩ := hrel
    have HLL := Lib.hid hll
    have HBLK := Lib.hid hblk
    have HPRE := Lib.hid hpre
    have HB := Lib.hid hb
    clear hll hblk hpre hb
    by_cases hlt : k < ps.length
    · have hrr := HR.out.keep HB.out
      obtain ⟨B, n, d, A, c, x0, x1, hent, _⟩ := hrr.at_ k hlt
      have d0 := hrr.blk.cell (k * 2)
      have d1 := hrr.blk.cell (k * 2 + 1)
      rw [x0] at d0
      rw [x1] at d1
      have HNA := Lib.hid (netsAt_at hs ps i k hlt)
      have hil : i < (netsOf hs (ps.getD k plD).h (ps.getD k plD).l).length := HI.out _ (by simp [List.getD, List.getElem?_eq_getElem hlt])
      have HJ := Lib.hid (fun W (hb : Below wr.heap.size wr W) => joined2_any B A n d c gi i _ W ((hb.cell (p := ⟨gi, 0, none⟩) (cell_lt ((HB.out.cell (p := ⟨gi, 0, none⟩) (cell_lt HC.out)).trans HC.out))).trans ((HB.out.cell (p := ⟨gi, 0, none⟩) (cell_lt HC.out)).trans HC.out)) (hent.keep hb) hil)
      generalize netsOf hs (ps.getD k plD).h (ps.getD k plD).l = nl at HNA HJ d1 x1 hent hil
      generalize nl.getD i (0, ByteArray.empty) = en at HNA HJ
      obtain ⟨s, m⟩ := en
      simp only at HJ
      have hk0 : (0 : Int) ≤ (k : Int) := Int.natCast_nonneg _
      have hk1 : (k : Int) < (ps.length : Int) := by omega
      clear x0 x1 hent hil hrr
      go_wp2_with fail
      refine (HJ.out _ ((Below.refl _ _).alloc (Nat.le_refl _) _)).mono ?_
      rintro e w3 ⟨rfl, hb3⟩
      have hbw : Below wr.heap.size wr w3 := ((Below.refl wr.heap.size wr).alloc (Nat.le_refl _) (.cells #[.slice B n d, .slice A nl.length c] 135)).trans (hb3.mono (by simp))
      have hb4 : NetBlk w3 w.heap.size l := BlkV.below HBLK.out hbw (BlkV.lt HBLK.out)
      obtain ⟨c0, c1⟩ := hb4.cells (j := k) (by rw [HLL.out]; exact hlt)
      have f0 := BlkV.frozen hb4 (k * 2)
      have f1 := BlkV.frozen hb4 (k * 2 + 1)
      have HBW := Lib.hid hbw
      have HB4 := Lib.hid hb4
      clear hb3 hbw hb4 d0 d1 HJ
      go_wp2
      go_roundw
      case rel =>
        refine ⟨k + 1, _, by omega, by go_num, by rw [List.length_set]; exact HLL.out, HB4.out.set k s m (by rw [HLL.out]; exact hlt), fun j hj => ?_, ((HB.out.trans (HBW.out.mono HB.out.size)).setCell (by simp) _).setCell (by simp) _⟩
        by_cases hjk : j = k
        · subst hjk
          rw [HNA.out, List.getD, List.getElem?_set_self (by rw [HLL.out]; exact hlt)]
          rfl
        · rw [List.getD, List.getElem?_set_ne (by omega)]
          exact HPRE.out j (by omega)
      case measure => simp [intOf]; omega
    · have hle : l = netsAt hs ps i := same_list _ _ (by rw [HLL.out, HNL.out]) (fun j hj => HPRE.out j (by have := HLL.out; omega))
      have HLE := Lib.hid hle
      clear hle
      go_wp2
      go_ret
      exact ⟨w.heap.size, rfl, by rw [← HLE.out]; exact HBLK.out, Nat.le_refl _, HB.out⟩
end Go.Proofs.YtbckfkopdojggaaGreatDoor
