/- Chapter 5's fixed examples: awake answers true. -/
import Derived.Test.YtfpehblofokheaaGreatDoorMgK
import Derived.Test.YtfpehblofokheaaGreatDoorMgH
import Derived.Deep.RegionHeld3
import Derived.Laws.StructEq
import Derived.Outline
set_option linter.unusedVariables false
set_option linter.unusedSimpArgs false
namespace Go.Proofs.YtfpehblofokheaaGreatDoor
open Go.RowKit

theorem hol4 {W : World} {g : Nat} {o : Obj} (h : HolesR W (some ⟨g, 0, none⟩) exH) (hl : g < W.heap.size) : HolesR (W.alloc o) (some ⟨g, 0, none⟩) exH := h.keep (fun a ha => by injection ha with ha; subst ha; exact hl) ((Below.refl W.heap.size W).alloc (Nat.le_refl _) o)
theorem lt4 {W : World} {g : Nat} {o : Obj} (hl : g < W.heap.size) : g < (W.alloc o).heap.size := by simp; omega
theorem held7 {C1 C2 C3 C4 C5 C6 : Prop} {B : Nat} {w W : World} (h : C1 ∧ C2 ∧ C3 ∧ C4 ∧ C5 ∧ C6 ∧ Hid (Below B w W)) : Below B w W := h.2.2.2.2.2.2.out

set_option maxRecDepth 100000 in
set_option maxHeartbeats 16000000 in
theorem awake_any (w : World) :
    Calls Tryz.prog 8 #[] w fun e w' => e = .returned (.bool true) ∧ Below w.heap.size w w' := by
  go_enter Tryz.func8, Tryz.ntmps8
  go_wp2_with fail
  refine (both_any _).mono ?_
  rintro e w1 ⟨gA, gB, rfl, heA, heB, hb1⟩
  have HEA0 := Lib.hid heA
  have HEB0 := Lib.hid heB
  have HB0 := Lib.hid hb1
  clear heA heB hb1
  go_wp2_with fail
  generalize hW2 : (w1.alloc (.cells #[.string ⟨#[65]⟩, .slice (some ⟨gA, 0, none⟩) 4 4, .int .i64 6] 55)).alloc (.cells #[.string ⟨#[66]⟩, .slice (some ⟨gB, 0, none⟩) 4 4, .int .i64 0] 55) = w2
  obtain ⟨a1, a2, a3, a4⟩ := two_allocs w1 _ _ _ _ hW2
  have hb2 : Below w1.heap.size w1 w2 := a3
  generalize hbA : w1.heap.size = bA at a1 a2 ⊢
  clear hW2 a3 a4 hbA
  have HPA0 := Lib.hid a1
  have HPB0 := Lib.hid a2
  clear a1 a2
  have HEA1 := Lib.hid (HEA0.out.keep hb2)
  have HEB1 := Lib.hid (HEB0.out.keep hb2)
  have HB1 := Lib.hid (HB0.out.trans (hb2.mono HB0.out.size))
  clear HEA0 HEB0 HB0 hb2
  refine (four_any w2).mono ?_
  rintro e w3 ⟨g, rfl, hh, hgl, hb⟩
  have HEA2 := Lib.hid (HEA1.out.keep hb)
  have HEB2 := Lib.hid (HEB1.out.keep hb)
  have HB2 := Lib.hid (HB1.out.trans (hb.mono HB1.out.size))
  have HPA2 := Lib.hid (HPA0.out.below hb HPA0.out.lt)
  have HPB2 := Lib.hid (HPB0.out.below hb HPB0.out.lt)
  clear HEA1 HEB1 HB1 HPA0 HPB0
  clear hb
  go_wp2_with fail
  refine (xGiven6 g w3 hh hgl).mono ?_
  rintro e w4 ⟨p1, rfl, hrow, hge, hb⟩
  have HEA3 := Lib.hid (HEA2.out.keep hb)
  have HEB3 := Lib.hid (HEB2.out.keep hb)
  have HB3 := Lib.hid (HB2.out.trans (hb.mono HB2.out.size))
  have HPA3 := Lib.hid (HPA2.out.below hb HPA2.out.lt)
  have HPB3 := Lib.hid (HPB2.out.below hb HPB2.out.lt)
  clear HEA2 HEB2 HB2 HPA2 HPB2
  have HR13 := Lib.hid (hrow)
  clear hrow
  clear hh hgl hge hb
  go_wp2_with fail
  refine (four_any w4).mono ?_
  rintro e w5 ⟨g, rfl, hh, hgl, hb⟩
  have HEA4 := Lib.hid (HEA3.out.keep hb)
  have HEB4 := Lib.hid (HEB3.out.keep hb)
  have HB4 := Lib.hid (HB3.out.trans (hb.mono HB3.out.size))
  have HPA4 := Lib.hid (HPA3.out.below hb HPA3.out.lt)
  have HPB4 := Lib.hid (HPB3.out.below hb HPB3.out.lt)
  have HR14 := Lib.hid (HR13.out.below hb HR13.out.lt)
  clear HEA3 HEB3 HB3 HPA3 HPB3 HR13
  clear hb
  go_wp2_with fail
  refine (xGiven1 g w5 hh hgl).mono ?_
  rintro e w6 ⟨p2, rfl, hrow, hge, hb⟩
  have HEA5 := Lib.hid (HEA4.out.keep hb)
  have HEB5 := Lib.hid (HEB4.out.keep hb)
  have HB5 := Lib.hid (HB4.out.trans (hb.mono HB4.out.size))
  have HPA5 := Lib.hid (HPA4.out.below hb HPA4.out.lt)
  have HPB5 := Lib.hid (HPB4.out.below hb HPB4.out.lt)
  have HR15 := Lib.hid (HR14.out.below hb HR14.out.lt)
  clear HEA4 HEB4 HB4 HPA4 HPB4 HR14
  have HR25 := Lib.hid (hrow)
  clear hrow
  clear hh hgl hge hb
  go_wp2_with fail
  have c0 := HPA5.out.cell 0
  have c1 := HPA5.out.cell 1
  have c2 := HPA5.out.cell 2
  have d0 := HPB5.out.cell 0
  have d1 := HPB5.out.cell 1
  have d2 := HPB5.out.cell 2
  simp only [List.getElem?_toArray, List.getElem?_cons_zero, List.getElem?_cons_succ] at c0 c1 c2 d0 d1 d2
  have HS : Hid (w6.drew.cell? ⟨bA, 0, none⟩ = some (.string ⟨#[65]⟩) ∧ w6.drew.cell? ⟨bA, 1, none⟩ = some (.slice (some ⟨gA, 0, none⟩) 4 4) ∧ w6.drew.cell? ⟨bA, 2, none⟩ = some (.int .i64 6) ∧ w6.drew.cell? ⟨bA + 1, 0, none⟩ = some (.string ⟨#[66]⟩) ∧ w6.drew.cell? ⟨bA + 1, 1, none⟩ = some (.slice (some ⟨gB, 0, none⟩) 4 4) ∧ w6.drew.cell? ⟨bA + 1, 2, none⟩ = some (.int .i64 0) ∧ Hid (Below w6.heap.size w6 w6.drew)) := Lib.hid ⟨c0, c1, c2, d0, d1, d2, Lib.hid ((Below.refl _ _).drew)⟩
  clear c0 c1 c2 d0 d1 d2
  go_region_held3 (fun W => W.cell? ⟨bA, 0, none⟩ = some (.string ⟨#[65]⟩) ∧ W.cell? ⟨bA, 1, none⟩ = some (.slice (some ⟨gA, 0, none⟩) 4 4) ∧ W.cell? ⟨bA, 2, none⟩ = some (.int .i64 6) ∧ W.cell? ⟨bA + 1, 0, none⟩ = some (.string ⟨#[66]⟩) ∧ W.cell? ⟨bA + 1, 1, none⟩ = some (.slice (some ⟨gB, 0, none⟩) 4 4) ∧ W.cell? ⟨bA + 1, 2, none⟩ = some (.int .i64 0) ∧ Hid (Below w6.heap.size w6 W))
    ((first | with_reducible assumption | with_reducible exact keep6 hbx (by with_reducible assumption) (Nat.le_refl _) | with_reducible exact keep6_ad _ (by with_reducible assumption) (Nat.le_refl _) | with_reducible exact HS.out))
    (first
      | (go_at_call 24; (with_reducible refine (four_any _).mono ?_); rintro e w7 ⟨g, rfl, hh, hgl, hbx⟩)
      | (go_at_call 25; (with_reducible refine (xPoints _ _ _ (by with_reducible assumption) (by with_reducible assumption) (HEA5.out.keep (held7 (by with_reducible assumption)))).mono ?_); rintro e w8 ⟨p3, rfl, hrow, hge, hbx⟩))
  have hS := (by with_reducible assumption : w8.cell? ⟨bA, 0, none⟩ = some (.string ⟨#[65]⟩) ∧ w8.cell? ⟨bA, 1, none⟩ = some (.slice (some ⟨gA, 0, none⟩) 4 4) ∧ w8.cell? ⟨bA, 2, none⟩ = some (.int .i64 6) ∧ w8.cell? ⟨bA + 1, 0, none⟩ = some (.string ⟨#[66]⟩) ∧ w8.cell? ⟨bA + 1, 1, none⟩ = some (.slice (some ⟨gB, 0, none⟩) 4 4) ∧ w8.cell? ⟨bA + 1, 2, none⟩ = some (.int .i64 0) ∧ Hid (Below w6.heap.size w6 w8))
  have hb := held7 hS
  have HEA6 := Lib.hid (HEA5.out.keep hb)
  have HEB6 := Lib.hid (HEB5.out.keep hb)
  have HB6 := Lib.hid (HB5.out.trans (hb.mono HB5.out.size))
  have HPA6 := Lib.hid (HPA5.out.below hb HPA5.out.lt)
  have HPB6 := Lib.hid (HPB5.out.below hb HPB5.out.lt)
  have HR16 := Lib.hid (HR15.out.below hb HR15.out.lt)
  have HR26 := Lib.hid (HR25.out.below hb HR25.out.lt)
  clear HEA5 HEB5 HB5 HPA5 HPB5 HR15 HR25
  clear hS hb HS hbx hh hgl
  have HR36 := Lib.hid (hrow)
  clear hrow
  clear hge
  go_wp2_with fail
  have c0 := HPA6.out.cell 0
  have c1 := HPA6.out.cell 1
  have c2 := HPA6.out.cell 2
  have d0 := HPB6.out.cell 0
  have d1 := HPB6.out.cell 1
  have d2 := HPB6.out.cell 2
  simp only [List.getElem?_toArray, List.getElem?_cons_zero, List.getElem?_cons_succ] at c0 c1 c2 d0 d1 d2
  have HS : Hid (w8.drew.cell? ⟨bA, 0, none⟩ = some (.string ⟨#[65]⟩) ∧ w8.drew.cell? ⟨bA, 1, none⟩ = some (.slice (some ⟨gA, 0, none⟩) 4 4) ∧ w8.drew.cell? ⟨bA, 2, none⟩ = some (.int .i64 6) ∧ w8.drew.cell? ⟨bA + 1, 0, none⟩ = some (.string ⟨#[66]⟩) ∧ w8.drew.cell? ⟨bA + 1, 1, none⟩ = some (.slice (some ⟨gB, 0, none⟩) 4 4) ∧ w8.drew.cell? ⟨bA + 1, 2, none⟩ = some (.int .i64 0) ∧ Hid (Below w8.heap.size w8 w8.drew)) := Lib.hid ⟨c0, c1, c2, d0, d1, d2, Lib.hid ((Below.refl _ _).drew)⟩
  clear c0 c1 c2 d0 d1 d2
  go_region_held3 (fun W => W.cell? ⟨bA, 0, none⟩ = some (.string ⟨#[65]⟩) ∧ W.cell? ⟨bA, 1, none⟩ = some (.slice (some ⟨gA, 0, none⟩) 4 4) ∧ W.cell? ⟨bA, 2, none⟩ = some (.int .i64 6) ∧ W.cell? ⟨bA + 1, 0, none⟩ = some (.string ⟨#[66]⟩) ∧ W.cell? ⟨bA + 1, 1, none⟩ = some (.slice (some ⟨gB, 0, none⟩) 4 4) ∧ W.cell? ⟨bA + 1, 2, none⟩ = some (.int .i64 0) ∧ Hid (Below w8.heap.size w8 W))
    ((first | with_reducible assumption | with_reducible exact keep6 hbx (by with_reducible assumption) (Nat.le_refl _) | with_reducible exact keep6_ad _ (by with_reducible assumption) (Nat.le_refl _) | with_reducible exact HS.out))
    (first
      | (go_at_call 24; (with_reducible refine (four_any _).mono ?_); rintro e w9 ⟨g, rfl, hh, hgl, hbx⟩)
      | (go_at_call 26; (with_reducible refine (xScore _ _ _ (by with_reducible assumption) (by with_reducible assumption) (HEA6.out.keep (held7 (by with_reducible assumption)))).mono ?_); rintro e w10 ⟨rfl, hbx⟩))
  have hS := (by with_reducible assumption : w10.cell? ⟨bA, 0, none⟩ = some (.string ⟨#[65]⟩) ∧ w10.cell? ⟨bA, 1, none⟩ = some (.slice (some ⟨gA, 0, none⟩) 4 4) ∧ w10.cell? ⟨bA, 2, none⟩ = some (.int .i64 6) ∧ w10.cell? ⟨bA + 1, 0, none⟩ = some (.string ⟨#[66]⟩) ∧ w10.cell? ⟨bA + 1, 1, none⟩ = some (.slice (some ⟨gB, 0, none⟩) 4 4) ∧ w10.cell? ⟨bA + 1, 2, none⟩ = some (.int .i64 0) ∧ Hid (Below w8.heap.size w8 w10))
  have hb := held7 hS
  have HEA7 := Lib.hid (HEA6.out.keep hb)
  have HEB7 := Lib.hid (HEB6.out.keep hb)
  have HB7 := Lib.hid (HB6.out.trans (hb.mono HB6.out.size))
  have HPA7 := Lib.hid (HPA6.out.below hb HPA6.out.lt)
  have HPB7 := Lib.hid (HPB6.out.below hb HPB6.out.lt)
  have HR17 := Lib.hid (HR16.out.below hb HR16.out.lt)
  have HR27 := Lib.hid (HR26.out.below hb HR26.out.lt)
  have HR37 := Lib.hid (HR36.out.below hb HR36.out.lt)
  clear HEA6 HEB6 HB6 HPA6 HPB6 HR16 HR26 HR36
  clear hS hb HS hbx hh hgl
  go_wp2_with fail
  have c0 := HPA7.out.cell 0
  have c1 := HPA7.out.cell 1
  have c2 := HPA7.out.cell 2
  have d0 := HPB7.out.cell 0
  have d1 := HPB7.out.cell 1
  have d2 := HPB7.out.cell 2
  simp only [List.getElem?_toArray, List.getElem?_cons_zero, List.getElem?_cons_succ] at c0 c1 c2 d0 d1 d2
  have HS : Hid (w10.drew.cell? ⟨bA, 0, none⟩ = some (.string ⟨#[65]⟩) ∧ w10.drew.cell? ⟨bA, 1, none⟩ = some (.slice (some ⟨gA, 0, none⟩) 4 4) ∧ w10.drew.cell? ⟨bA, 2, none⟩ = some (.int .i64 6) ∧ w10.drew.cell? ⟨bA + 1, 0, none⟩ = some (.string ⟨#[66]⟩) ∧ w10.drew.cell? ⟨bA + 1, 1, none⟩ = some (.slice (some ⟨gB, 0, none⟩) 4 4) ∧ w10.drew.cell? ⟨bA + 1, 2, none⟩ = some (.int .i64 0) ∧ Hid (Below w10.heap.size w10 w10.drew)) := Lib.hid ⟨c0, c1, c2, d0, d1, d2, Lib.hid ((Below.refl _ _).drew)⟩
  clear c0 c1 c2 d0 d1 d2
  go_region_held3 (fun W => W.cell? ⟨bA, 0, none⟩ = some (.string ⟨#[65]⟩) ∧ W.cell? ⟨bA, 1, none⟩ = some (.slice (some ⟨gA, 0, none⟩) 4 4) ∧ W.cell? ⟨bA, 2, none⟩ = some (.int .i64 6) ∧ W.cell? ⟨bA + 1, 0, none⟩ = some (.string ⟨#[66]⟩) ∧ W.cell? ⟨bA + 1, 1, none⟩ = some (.slice (some ⟨gB, 0, none⟩) 4 4) ∧ W.cell? ⟨bA + 1, 2, none⟩ = some (.int .i64 0) ∧ Hid (Below w10.heap.size w10 W))
    ((first | with_reducible assumption | with_reducible exact keep6 hbx (by with_reducible assumption) (Nat.le_refl _) | with_reducible exact keep6_ad _ (by with_reducible assumption) (Nat.le_refl _) | with_reducible exact HS.out))
    (first
      | (go_at_call 24; (with_reducible refine (four_any _).mono ?_); rintro e w11 ⟨g, rfl, hh, hgl, hbx⟩)
      | (go_at_call 27; (with_reducible refine (xGross _ _ _ (by with_reducible assumption) (by with_reducible assumption) (HEB7.out.keep (held7 (by with_reducible assumption)))).mono ?_); rintro e w12 ⟨rfl, hbx⟩))
  have hS := (by with_reducible assumption : w12.cell? ⟨bA, 0, none⟩ = some (.string ⟨#[65]⟩) ∧ w12.cell? ⟨bA, 1, none⟩ = some (.slice (some ⟨gA, 0, none⟩) 4 4) ∧ w12.cell? ⟨bA, 2, none⟩ = some (.int .i64 6) ∧ w12.cell? ⟨bA + 1, 0, none⟩ = some (.string ⟨#[66]⟩) ∧ w12.cell? ⟨bA + 1, 1, none⟩ = some (.slice (some ⟨gB, 0, none⟩) 4 4) ∧ w12.cell? ⟨bA + 1, 2, none⟩ = some (.int .i64 0) ∧ Hid (Below w10.heap.size w10 w12))
  have hb := held7 hS
  have HEA8 := Lib.hid (HEA7.out.keep hb)
  have HEB8 := Lib.hid (HEB7.out.keep hb)
  have HB8 := Lib.hid (HB7.out.trans (hb.mono HB7.out.size))
  have HPA8 := Lib.hid (HPA7.out.below hb HPA7.out.lt)
  have HPB8 := Lib.hid (HPB7.out.below hb HPB7.out.lt)
  have HR18 := Lib.hid (HR17.out.below hb HR17.out.lt)
  have HR28 := Lib.hid (HR27.out.below hb HR27.out.lt)
  have HR38 := Lib.hid (HR37.out.below hb HR37.out.lt)
  clear HEA7 HEB7 HB7 HPA7 HPB7 HR17 HR27 HR37
  clear hS hb HS hbx hh hgl
  go_wp2_with fail
  have c0 := HPA8.out.cell 0
  have c1 := HPA8.out.cell 1
  have c2 := HPA8.out.cell 2
  have d0 := HPB8.out.cell 0
  have d1 := HPB8.out.cell 1
  have d2 := HPB8.out.cell 2
  simp only [List.getElem?_toArray, List.getElem?_cons_zero, List.getElem?_cons_succ] at c0 c1 c2 d0 d1 d2
  have HS : Hid (w12.drew.cell? ⟨bA, 0, none⟩ = some (.string ⟨#[65]⟩) ∧ w12.drew.cell? ⟨bA, 1, none⟩ = some (.slice (some ⟨gA, 0, none⟩) 4 4) ∧ w12.drew.cell? ⟨bA, 2, none⟩ = some (.int .i64 6) ∧ w12.drew.cell? ⟨bA + 1, 0, none⟩ = some (.string ⟨#[66]⟩) ∧ w12.drew.cell? ⟨bA + 1, 1, none⟩ = some (.slice (some ⟨gB, 0, none⟩) 4 4) ∧ w12.drew.cell? ⟨bA + 1, 2, none⟩ = some (.int .i64 0) ∧ Hid (Below w12.heap.size w12 w12.drew)) := Lib.hid ⟨c0, c1, c2, d0, d1, d2, Lib.hid ((Below.refl _ _).drew)⟩
  clear c0 c1 c2 d0 d1 d2
  go_region_held3 (fun W => W.cell? ⟨bA, 0, none⟩ = some (.string ⟨#[65]⟩) ∧ W.cell? ⟨bA, 1, none⟩ = some (.slice (some ⟨gA, 0, none⟩) 4 4) ∧ W.cell? ⟨bA, 2, none⟩ = some (.int .i64 6) ∧ W.cell? ⟨bA + 1, 0, none⟩ = some (.string ⟨#[66]⟩) ∧ W.cell? ⟨bA + 1, 1, none⟩ = some (.slice (some ⟨gB, 0, none⟩) 4 4) ∧ W.cell? ⟨bA + 1, 2, none⟩ = some (.int .i64 0) ∧ Hid (Below w12.heap.size w12 W))
    ((first | with_reducible assumption | with_reducible exact keep6 hbx (by with_reducible assumption) (Nat.le_refl _) | with_reducible exact keep6_ad _ (by with_reducible assumption) (Nat.le_refl _) | with_reducible exact HS.out))
    (first
      | (go_at_call 24; (with_reducible refine (four_any _).mono ?_); rintro e w13 ⟨g, rfl, hh, hgl, hbx⟩)
      | (go_at_call 20; (with_reducible refine (xMatch _ _ _ _ (by with_reducible assumption) (by with_reducible assumption) (HEA8.out.keep (held7 (by with_reducible assumption))) (HEB8.out.keep (held7 (by with_reducible assumption)))).mono ?_); rintro e w14 ⟨am, cm, rfl, hst, hbx⟩))
  have hS := (by with_reducible assumption : w14.cell? ⟨bA, 0, none⟩ = some (.string ⟨#[65]⟩) ∧ w14.cell? ⟨bA, 1, none⟩ = some (.slice (some ⟨gA, 0, none⟩) 4 4) ∧ w14.cell? ⟨bA, 2, none⟩ = some (.int .i64 6) ∧ w14.cell? ⟨bA + 1, 0, none⟩ = some (.string ⟨#[66]⟩) ∧ w14.cell? ⟨bA + 1, 1, none⟩ = some (.slice (some ⟨gB, 0, none⟩) 4 4) ∧ w14.cell? ⟨bA + 1, 2, none⟩ = some (.int .i64 0) ∧ Hid (Below w12.heap.size w12 w14))
  have hb := held7 hS
  have HEA9 := Lib.hid (HEA8.out.keep hb)
  have HEB9 := Lib.hid (HEB8.out.keep hb)
  have HB9 := Lib.hid (HB8.out.trans (hb.mono HB8.out.size))
  have HPA9 := Lib.hid (HPA8.out.below hb HPA8.out.lt)
  have HPB9 := Lib.hid (HPB8.out.below hb HPB8.out.lt)
  have HR19 := Lib.hid (HR18.out.below hb HR18.out.lt)
  have HR29 := Lib.hid (HR28.out.below hb HR28.out.lt)
  have HR39 := Lib.hid (HR38.out.below hb HR38.out.lt)
  clear HEA8 HEB8 HB8 HPA8 HPB8 HR18 HR28 HR38
  clear hS hb HS hbx hh hgl
  have HST9 := Lib.hid (hst)
  clear hst
  go_wp2_with fail
  have hb : Below w14.heap.size w14 (w14.alloc (.cells #[.int .i64 (-3), .int .i64 0] 3)) := by repeat first | exact Below.refl _ _ | refine Below.alloc ?_ (by simp <;> omega) _
  have k0 : BlkV (w14.alloc (.cells #[.int .i64 (-3), .int .i64 0] 3)) w14.heap.size 3 #[.int .i64 (-3), .int .i64 0] := ((BlkV.new w14 3 #[.int .i64 (-3), .int .i64 0]))
  generalize w14.alloc (.cells #[.int .i64 (-3), .int .i64 0] 3) = w15 at hb k0 ⊢
  have HEA10 := Lib.hid (HEA9.out.keep hb)
  have HEB10 := Lib.hid (HEB9.out.keep hb)
  have HB10 := Lib.hid (HB9.out.trans (hb.mono HB9.out.size))
  have HPA10 := Lib.hid (HPA9.out.below hb HPA9.out.lt)
  have HPB10 := Lib.hid (HPB9.out.below hb HPB9.out.lt)
  have HR110 := Lib.hid (HR19.out.below hb HR19.out.lt)
  have HR210 := Lib.hid (HR29.out.below hb HR29.out.lt)
  have HR310 := Lib.hid (HR39.out.below hb HR39.out.lt)
  have HST10 := Lib.hid (HST9.out.keep hb)
  clear HEA9 HEB9 HB9 HPA9 HPB9 HR19 HR29 HR39 HST9
  clear hb
  refine (xFoursome _ w15 _ k0).mono ?_
  rintro e w16 ⟨rfl, hb⟩
  have HEA11 := Lib.hid (HEA10.out.keep hb)
  have HEB11 := Lib.hid (HEB10.out.keep hb)
  have HB11 := Lib.hid (HB10.out.trans (hb.mono HB10.out.size))
  have HPA11 := Lib.hid (HPA10.out.below hb HPA10.out.lt)
  have HPB11 := Lib.hid (HPB10.out.below hb HPB10.out.lt)
  have HR111 := Lib.hid (HR110.out.below hb HR110.out.lt)
  have HR211 := Lib.hid (HR210.out.below hb HR210.out.lt)
  have HR311 := Lib.hid (HR310.out.below hb HR310.out.lt)
  have HST11 := Lib.hid (HST10.out.keep hb)
  clear HEA10 HEB10 HB10 HPA10 HPB10 HR110 HR210 HR310 HST10
  clear hb k0
  go_wp2_with fail
  have hb : Below w16.heap.size w16 (w16.alloc (.cells #[.int .i64 20, .int .i64 10] 3)) := by repeat first | exact Below.refl _ _ | refine Below.alloc ?_ (by simp <;> omega) _
  have k0 : BlkV (w16.alloc (.cells #[.int .i64 20, .int .i64 10] 3)) w16.heap.size 3 #[.int .i64 20, .int .i64 10] := ((BlkV.new w16 3 #[.int .i64 20, .int .i64 10]))
  generalize w16.alloc (.cells #[.int .i64 20, .int .i64 10] 3) = w17 at hb k0 ⊢
  have HEA12 := Lib.hid (HEA11.out.keep hb)
  have HEB12 := Lib.hid (HEB11.out.keep hb)
  have HB12 := Lib.hid (HB11.out.trans (hb.mono HB11.out.size))
  have HPA12 := Lib.hid (HPA11.out.below hb HPA11.out.lt)
  have HPB12 := Lib.hid (HPB11.out.below hb HPB11.out.lt)
  have HR112 := Lib.hid (HR111.out.below hb HR111.out.lt)
  have HR212 := Lib.hid (HR211.out.below hb HR211.out.lt)
  have HR312 := Lib.hid (HR311.out.below hb HR311.out.lt)
  have HST12 := Lib.hid (HST11.out.keep hb)
  clear HEA11 HEB11 HB11 HPA11 HPB11 HR111 HR211 HR311 HST11
  clear hb
  refine (xScramble _ w17 _ k0).mono ?_
  rintro e w18 ⟨rfl, hb⟩
  have HEA13 := Lib.hid (HEA12.out.keep hb)
  have HEB13 := Lib.hid (HEB12.out.keep hb)
  have HB13 := Lib.hid (HB12.out.trans (hb.mono HB12.out.size))
  have HPA13 := Lib.hid (HPA12.out.below hb HPA12.out.lt)
  have HPB13 := Lib.hid (HPB12.out.below hb HPB12.out.lt)
  have HR113 := Lib.hid (HR112.out.below hb HR112.out.lt)
  have HR213 := Lib.hid (HR212.out.below hb HR212.out.lt)
  have HR313 := Lib.hid (HR312.out.below hb HR312.out.lt)
  have HST13 := Lib.hid (HST12.out.keep hb)
  clear HEA12 HEB12 HB12 HPA12 HPB12 HR112 HR212 HR312 HST12
  clear hb k0
  go_wp2_with fail
  have c0 := HPA13.out.cell 0
  have c1 := HPA13.out.cell 1
  have c2 := HPA13.out.cell 2
  have d0 := HPB13.out.cell 0
  have d1 := HPB13.out.cell 1
  have d2 := HPB13.out.cell 2
  simp only [List.getElem?_toArray, List.getElem?_cons_zero, List.getElem?_cons_succ] at c0 c1 c2 d0 d1 d2
  have HS : Hid (w18.drew.cell? ⟨bA, 0, none⟩ = some (.string ⟨#[65]⟩) ∧ w18.drew.cell? ⟨bA, 1, none⟩ = some (.slice (some ⟨gA, 0, none⟩) 4 4) ∧ w18.drew.cell? ⟨bA, 2, none⟩ = some (.int .i64 6) ∧ w18.drew.cell? ⟨bA + 1, 0, none⟩ = some (.string ⟨#[66]⟩) ∧ w18.drew.cell? ⟨bA + 1, 1, none⟩ = some (.slice (some ⟨gB, 0, none⟩) 4 4) ∧ w18.drew.cell? ⟨bA + 1, 2, none⟩ = some (.int .i64 0) ∧ Hid (Below w18.heap.size w18 w18.drew)) := Lib.hid ⟨c0, c1, c2, d0, d1, d2, Lib.hid ((Below.refl _ _).drew)⟩
  clear c0 c1 c2 d0 d1 d2
  go_region_held3 (fun W => W.cell? ⟨bA, 0, none⟩ = some (.string ⟨#[65]⟩) ∧ W.cell? ⟨bA, 1, none⟩ = some (.slice (some ⟨gA, 0, none⟩) 4 4) ∧ W.cell? ⟨bA, 2, none⟩ = some (.int .i64 6) ∧ W.cell? ⟨bA + 1, 0, none⟩ = some (.string ⟨#[66]⟩) ∧ W.cell? ⟨bA + 1, 1, none⟩ = some (.slice (some ⟨gB, 0, none⟩) 4 4) ∧ W.cell? ⟨bA + 1, 2, none⟩ = some (.int .i64 0) ∧ Hid (Below w18.heap.size w18 W))
    ((first | with_reducible assumption | with_reducible exact keep6 hbx (by with_reducible assumption) (Nat.le_refl _) | with_reducible exact keep6_ad _ (by with_reducible assumption) (Nat.le_refl _) | with_reducible exact HS.out | with_reducible exact keep6 ((Below.refl _ _).alloc (Nat.le_refl _) _) (by with_reducible assumption) (Nat.le_refl _)))
    (first
      | (go_at_call 24; (with_reducible refine (four_any _).mono ?_); rintro e w19 ⟨g, rfl, hh, hgl, hbx⟩)
      | (go_at_call 30; have hx : Below w18.heap.size w18 w19 := ((Below.refl _ _).drew).trans hbx; (with_reducible refine (xFourball _ _ _ _ _ _ (hol4 hh hgl) (lt4 hgl) (HEA13.out.keep (hx.alloc hx.size _)) (HEB13.out.keep (hx.alloc hx.size _)) (BlkV.new _ 55 _)).mono ?_); rintro e w20 ⟨q1, rfl, hnet, hbx⟩; clear hx)
      | (go_at_call 30; have hx : Below (w18.alloc (.cells #[.string ⟨#[65]⟩, .slice (some ⟨gA, 0, none⟩) 4 4, .int .i64 6, .string ⟨#[66]⟩, .slice (some ⟨gB, 0, none⟩) 4 4, .int .i64 0] 55)).heap.size (w18.alloc (.cells #[.string ⟨#[65]⟩, .slice (some ⟨gA, 0, none⟩) 4 4, .int .i64 6, .string ⟨#[66]⟩, .slice (some ⟨gB, 0, none⟩) 4 4, .int .i64 0] 55)) w19 := ((Below.refl _ _).drew).trans hbx; have hy : Below w18.heap.size w18 w19 := ((Below.refl _ _).alloc (Nat.le_refl _) _).trans (hx.mono (by simp)); have hz : BlkV w19 w18.heap.size 55 #[.string ⟨#[65]⟩, .slice (some ⟨gA, 0, none⟩) 4 4, .int .i64 6, .string ⟨#[66]⟩, .slice (some ⟨gB, 0, none⟩) 4 4, .int .i64 0] := (BlkV.new w18 55 #[.string ⟨#[65]⟩, .slice (some ⟨gA, 0, none⟩) 4 4, .int .i64 6, .string ⟨#[66]⟩, .slice (some ⟨gB, 0, none⟩) 4 4, .int .i64 0]).below hx (by simp); (with_reducible refine (xFourball _ _ _ _ _ _ hh hgl (HEA13.out.keep hy) (HEB13.out.keep hy) hz).mono ?_); rintro e w20 ⟨q1, rfl, hnet, hbx⟩; clear hx hy hz))
  all_goals
    have hS := (by with_reducible assumption : w20.cell? ⟨bA, 0, none⟩ = some (.string ⟨#[65]⟩) ∧ w20.cell? ⟨bA, 1, none⟩ = some (.slice (some ⟨gA, 0, none⟩) 4 4) ∧ w20.cell? ⟨bA, 2, none⟩ = some (.int .i64 6) ∧ w20.cell? ⟨bA + 1, 0, none⟩ = some (.string ⟨#[66]⟩) ∧ w20.cell? ⟨bA + 1, 1, none⟩ = some (.slice (some ⟨gB, 0, none⟩) 4 4) ∧ w20.cell? ⟨bA + 1, 2, none⟩ = some (.int .i64 0) ∧ Hid (Below w18.heap.size w18 w20))
    have hb := held7 hS
    have HEA14 := Lib.hid (HEA13.out.keep hb)
    have HEB14 := Lib.hid (HEB13.out.keep hb)
    have HB14 := Lib.hid (HB13.out.trans (hb.mono HB13.out.size))
    have HPA14 := Lib.hid (HPA13.out.below hb HPA13.out.lt)
    have HPB14 := Lib.hid (HPB13.out.below hb HPB13.out.lt)
    have HR114 := Lib.hid (HR113.out.below hb HR113.out.lt)
    have HR214 := Lib.hid (HR213.out.below hb HR213.out.lt)
    have HR314 := Lib.hid (HR313.out.below hb HR313.out.lt)
    have HST14 := Lib.hid (HST13.out.keep hb)
    clear HEA13 HEB13 HB13 HPA13 HPB13 HR113 HR213 HR313 HST13
    clear hS hb HS hbx hh hgl
    have HN114 := Lib.hid (hnet)
    clear hnet
    go_wp2_with fail
    have hb : Below w20.heap.size w20 ((w20.alloc (.cells #[.int .i64 3, .int .i64 4, .int .i64 5] 3)).alloc (.cells #[.int .i64 4, .int .i64 4, .int .i64 4] 3)) := by repeat first | exact Below.refl _ _ | refine Below.alloc ?_ (by simp <;> omega) _
    have k0 : BlkV ((w20.alloc (.cells #[.int .i64 3, .int .i64 4, .int .i64 5] 3)).alloc (.cells #[.int .i64 4, .int .i64 4, .int .i64 4] 3)) w20.heap.size 3 #[.int .i64 3, .int .i64 4, .int .i64 5] := ((BlkV.new w20 3 #[.int .i64 3, .int .i64 4, .int .i64 5]).alloc _)
    have k1 : BlkV ((w20.alloc (.cells #[.int .i64 3, .int .i64 4, .int .i64 5] 3)).alloc (.cells #[.int .i64 4, .int .i64 4, .int .i64 4] 3)) (w20.heap.size + 1) 3 #[.int .i64 4, .int .i64 4, .int .i64 4] := by
      have q := BlkV.new (w20.alloc (.cells #[.int .i64 3, .int .i64 4, .int .i64 5] 3)) 3 #[.int .i64 4, .int .i64 4, .int .i64 4]
      rw [show (w20.alloc (.cells #[.int .i64 3, .int .i64 4, .int .i64 5] 3)).heap.size = w20.heap.size + 1 by simp] at q
      exact q
    generalize (w20.alloc (.cells #[.int .i64 3, .int .i64 4, .int .i64 5] 3)).alloc (.cells #[.int .i64 4, .int .i64 4, .int .i64 4] 3) = w21 at hb k0 k1 ⊢
    have HEA15 := Lib.hid (HEA14.out.keep hb)
    have HEB15 := Lib.hid (HEB14.out.keep hb)
    have HB15 := Lib.hid (HB14.out.trans (hb.mono HB14.out.size))
    have HPA15 := Lib.hid (HPA14.out.below hb HPA14.out.lt)
    have HPB15 := Lib.hid (HPB14.out.below hb HPB14.out.lt)
    have HR115 := Lib.hid (HR114.out.below hb HR114.out.lt)
    have HR215 := Lib.hid (HR214.out.below hb HR214.out.lt)
    have HR315 := Lib.hid (HR314.out.below hb HR314.out.lt)
    have HST15 := Lib.hid (HST14.out.keep hb)
    have HN115 := Lib.hid (BlkV.below HN114.out hb (BlkV.lt HN114.out))
    clear HEA14 HEB14 HB14 HPA14 HPB14 HR114 HR214 HR314 HST14 HN114
    clear hb
    refine (xCountback _ _ w21 _ _ k0 k1).mono ?_
    rintro e w22 ⟨rfl, hb⟩
    have HEA16 := Lib.hid (HEA15.out.keep hb)
    have HEB16 := Lib.hid (HEB15.out.keep hb)
    have HB16 := Lib.hid (HB15.out.trans (hb.mono HB15.out.size))
    have HPA16 := Lib.hid (HPA15.out.below hb HPA15.out.lt)
    have HPB16 := Lib.hid (HPB15.out.below hb HPB15.out.lt)
    have HR116 := Lib.hid (HR115.out.below hb HR115.out.lt)
    have HR216 := Lib.hid (HR215.out.below hb HR215.out.lt)
    have HR316 := Lib.hid (HR315.out.below hb HR315.out.lt)
    have HST16 := Lib.hid (HST15.out.keep hb)
    have HN116 := Lib.hid (BlkV.below HN115.out hb (BlkV.lt HN115.out))
    clear HEA15 HEB15 HB15 HPA15 HPB15 HR115 HR215 HR315 HST15 HN115
    clear hb k0 k1
    go_wp2_with fail
    have hb : Below w22.heap.size w22 (((((w22.alloc (.cells #[.int .i64 3, .int .i64 4, .int .i64 5] 3)).alloc (.cells #[.int .i64 4, .int .i64 4, .int .i64 4] 3)).alloc (.cells #[.int .i64 3, .int .i64 3, .int .i64 5] 3)).alloc (.cells #[.int .i64 4, .int .i64 4, .int .i64 4] 3)).alloc (.cells #[.slice (some ⟨w22.heap.size, 0, none⟩) 3 3, .slice (some ⟨w22.heap.size + 1, 0, none⟩) 3 3, .slice (some ⟨w22.heap.size + 1 + 1, 0, none⟩) 3 3, .slice (some ⟨w22.heap.size + 1 + 1 + 1, 0, none⟩) 3 3] 35)) := by repeat first | exact Below.refl _ _ | refine Below.alloc ?_ (by simp <;> omega) _
    have k0 : BlkV (((((w22.alloc (.cells #[.int .i64 3, .int .i64 4, .int .i64 5] 3)).alloc (.cells #[.int .i64 4, .int .i64 4, .int .i64 4] 3)).alloc (.cells #[.int .i64 3, .int .i64 3, .int .i64 5] 3)).alloc (.cells #[.int .i64 4, .int .i64 4, .int .i64 4] 3)).alloc (.cells #[.slice (some ⟨w22.heap.size, 0, none⟩) 3 3, .slice (some ⟨w22.heap.size + 1, 0, none⟩) 3 3, .slice (some ⟨w22.heap.size + 1 + 1, 0, none⟩) 3 3, .slice (some ⟨w22.heap.size + 1 + 1 + 1, 0, none⟩) 3 3] 35)) w22.heap.size 3 #[.int .i64 3, .int .i64 4, .int .i64 5] := (((((BlkV.new w22 3 #[.int .i64 3, .int .i64 4, .int .i64 5]).alloc _).alloc _).alloc _).alloc _)
    have k1 : BlkV (((((w22.alloc (.cells #[.int .i64 3, .int .i64 4, .int .i64 5] 3)).alloc (.cells #[.int .i64 4, .int .i64 4, .int .i64 4] 3)).alloc (.cells #[.int .i64 3, .int .i64 3, .int .i64 5] 3)).alloc (.cells #[.int .i64 4, .int .i64 4, .int .i64 4] 3)).alloc (.cells #[.slice (some ⟨w22.heap.size, 0, none⟩) 3 3, .slice (some ⟨w22.heap.size + 1, 0, none⟩) 3 3, .slice (some ⟨w22.heap.size + 1 + 1, 0, none⟩) 3 3, .slice (some ⟨w22.heap.size + 1 + 1 + 1, 0, none⟩) 3 3] 35)) (w22.heap.size + 1) 3 #[.int .i64 4, .int .i64 4, .int .i64 4] := by
      have q := BlkV.new (w22.alloc (.cells #[.int .i64 3, .int .i64 4, .int .i64 5] 3)) 3 #[.int .i64 4, .int .i64 4, .int .i64 4]
      rw [show (w22.alloc (.cells #[.int .i64 3, .int .i64 4, .int .i64 5] 3)).heap.size = w22.heap.size + 1 by simp] at q
      exact (((q.alloc _).alloc _).alloc _)
    have k2 : BlkV (((((w22.alloc (.cells #[.int .i64 3, .int .i64 4, .int .i64 5] 3)).alloc (.cells #[.int .i64 4, .int .i64 4, .int .i64 4] 3)).alloc (.cells #[.int .i64 3, .int .i64 3, .int .i64 5] 3)).alloc (.cells #[.int .i64 4, .int .i64 4, .int .i64 4] 3)).alloc (.cells #[.slice (some ⟨w22.heap.size, 0, none⟩) 3 3, .slice (some ⟨w22.heap.size + 1, 0, none⟩) 3 3, .slice (some ⟨w22.heap.size + 1 + 1, 0, none⟩) 3 3, .slice (some ⟨w22.heap.size + 1 + 1 + 1, 0, none⟩) 3 3] 35)) (w22.heap.size + 1 + 1) 3 #[.int .i64 3, .int .i64 3, .int .i64 5] := by
      have q := BlkV.new ((w22.alloc (.cells #[.int .i64 3, .int .i64 4, .int .i64 5] 3)).alloc (.cells #[.int .i64 4, .int .i64 4, .int .i64 4] 3)) 3 #[.int .i64 3, .int .i64 3, .int .i64 5]
      rw [show ((w22.alloc (.cells #[.int .i64 3, .int .i64 4, .int .i64 5] 3)).alloc (.cells #[.int .i64 4, .int .i64 4, .int .i64 4] 3)).heap.size = w22.heap.size + 1 + 1 by simp] at q
      exact ((q.alloc _).alloc _)
    have k3 : BlkV (((((w22.alloc (.cells #[.int .i64 3, .int .i64 4, .int .i64 5] 3)).alloc (.cells #[.int .i64 4, .int .i64 4, .int .i64 4] 3)).alloc (.cells #[.int .i64 3, .int .i64 3, .int .i64 5] 3)).alloc (.cells #[.int .i64 4, .int .i64 4, .int .i64 4] 3)).alloc (.cells #[.slice (some ⟨w22.heap.size, 0, none⟩) 3 3, .slice (some ⟨w22.heap.size + 1, 0, none⟩) 3 3, .slice (some ⟨w22.heap.size + 1 + 1, 0, none⟩) 3 3, .slice (some ⟨w22.heap.size + 1 + 1 + 1, 0, none⟩) 3 3] 35)) (w22.heap.size + 1 + 1 + 1) 3 #[.int .i64 4, .int .i64 4, .int .i64 4] := by
      have q := BlkV.new (((w22.alloc (.cells #[.int .i64 3, .int .i64 4, .int .i64 5] 3)).alloc (.cells #[.int .i64 4, .int .i64 4, .int .i64 4] 3)).alloc (.cells #[.int .i64 3, .int .i64 3, .int .i64 5] 3)) 3 #[.int .i64 4, .int .i64 4, .int .i64 4]
      rw [show (((w22.alloc (.cells #[.int .i64 3, .int .i64 4, .int .i64 5] 3)).alloc (.cells #[.int .i64 4, .int .i64 4, .int .i64 4] 3)).alloc (.cells #[.int .i64 3, .int .i64 3, .int .i64 5] 3)).heap.size = w22.heap.size + 1 + 1 + 1 by simp] at q
      exact (q.alloc _)
    have k4 : BlkV (((((w22.alloc (.cells #[.int .i64 3, .int .i64 4, .int .i64 5] 3)).alloc (.cells #[.int .i64 4, .int .i64 4, .int .i64 4] 3)).alloc (.cells #[.int .i64 3, .int .i64 3, .int .i64 5] 3)).alloc (.cells #[.int .i64 4, .int .i64 4, .int .i64 4] 3)).alloc (.cells #[.slice (some ⟨w22.heap.size, 0, none⟩) 3 3, .slice (some ⟨w22.heap.size + 1, 0, none⟩) 3 3, .slice (some ⟨w22.heap.size + 1 + 1, 0, none⟩) 3 3, .slice (some ⟨w22.heap.size + 1 + 1 + 1, 0, none⟩) 3 3] 35)) (w22.heap.size + 1 + 1 + 1 + 1) 35 #[.slice (some ⟨w22.heap.size, 0, none⟩) 3 3, .slice (some ⟨w22.heap.size + 1, 0, none⟩) 3 3, .slice (some ⟨w22.heap.size + 1 + 1, 0, none⟩) 3 3, .slice (some ⟨w22.heap.size + 1 + 1 + 1, 0, none⟩) 3 3] := by
      have q := BlkV.new ((((w22.alloc (.cells #[.int .i64 3, .int .i64 4, .int .i64 5] 3)).alloc (.cells #[.int .i64 4, .int .i64 4, .int .i64 4] 3)).alloc (.cells #[.int .i64 3, .int .i64 3, .int .i64 5] 3)).alloc (.cells #[.int .i64 4, .int .i64 4, .int .i64 4] 3)) 35 #[.slice (some ⟨w22.heap.size, 0, none⟩) 3 3, .slice (some ⟨w22.heap.size + 1, 0, none⟩) 3 3, .slice (some ⟨w22.heap.size + 1 + 1, 0, none⟩) 3 3, .slice (some ⟨w22.heap.size + 1 + 1 + 1, 0, none⟩) 3 3]
      rw [show ((((w22.alloc (.cells #[.int .i64 3, .int .i64 4, .int .i64 5] 3)).alloc (.cells #[.int .i64 4, .int .i64 4, .int .i64 4] 3)).alloc (.cells #[.int .i64 3, .int .i64 3, .int .i64 5] 3)).alloc (.cells #[.int .i64 4, .int .i64 4, .int .i64 4] 3)).heap.size = w22.heap.size + 1 + 1 + 1 + 1 by simp] at q
      exact q
    generalize ((((w22.alloc (.cells #[.int .i64 3, .int .i64 4, .int .i64 5] 3)).alloc (.cells #[.int .i64 4, .int .i64 4, .int .i64 4] 3)).alloc (.cells #[.int .i64 3, .int .i64 3, .int .i64 5] 3)).alloc (.cells #[.int .i64 4, .int .i64 4, .int .i64 4] 3)).alloc (.cells #[.slice (some ⟨w22.heap.size, 0, none⟩) 3 3, .slice (some ⟨w22.heap.size + 1, 0, none⟩) 3 3, .slice (some ⟨w22.heap.size + 1 + 1, 0, none⟩) 3 3, .slice (some ⟨w22.heap.size + 1 + 1 + 1, 0, none⟩) 3 3] 35) = w23 at hb k0 k1 k2 k3 k4 ⊢
    have HEA17 := Lib.hid (HEA16.out.keep hb)
    have HEB17 := Lib.hid (HEB16.out.keep hb)
    have HB17 := Lib.hid (HB16.out.trans (hb.mono HB16.out.size))
    have HPA17 := Lib.hid (HPA16.out.below hb HPA16.out.lt)
    have HPB17 := Lib.hid (HPB16.out.below hb HPB16.out.lt)
    have HR117 := Lib.hid (HR116.out.below hb HR116.out.lt)
    have HR217 := Lib.hid (HR216.out.below hb HR216.out.lt)
    have HR317 := Lib.hid (HR316.out.below hb HR316.out.lt)
    have HST17 := Lib.hid (HST16.out.keep hb)
    have HN117 := Lib.hid (BlkV.below HN116.out hb (BlkV.lt HN116.out))
    clear HEA16 HEB16 HB16 HPA16 HPB16 HR116 HR216 HR316 HST16 HN116
    clear hb
    refine (xRanks _ w23 (lists4 k4 (ints3 k0) (ints3 k1) (ints3 k2) (ints3 k3) (Nat.le_refl _) (Nat.le_refl _) (Nat.le_refl _) (Nat.le_refl _))).mono ?_
    rintro e w24 ⟨p4, rfl, hrow, hge, hb⟩
    have HEA18 := Lib.hid (HEA17.out.keep hb)
    have HEB18 := Lib.hid (HEB17.out.keep hb)
    have HB18 := Lib.hid (HB17.out.trans (hb.mono HB17.out.size))
    have HPA18 := Lib.hid (HPA17.out.below hb HPA17.out.lt)
    have HPB18 := Lib.hid (HPB17.out.below hb HPB17.out.lt)
    have HR118 := Lib.hid (HR117.out.below hb HR117.out.lt)
    have HR218 := Lib.hid (HR217.out.below hb HR217.out.lt)
    have HR318 := Lib.hid (HR317.out.below hb HR317.out.lt)
    have HST18 := Lib.hid (HST17.out.keep hb)
    have HN118 := Lib.hid (BlkV.below HN117.out hb (BlkV.lt HN117.out))
    clear HEA17 HEB17 HB17 HPA17 HPB17 HR117 HR217 HR317 HST17 HN117
    clear hb k0 k1 k2 k3 k4 hge
    have HR418 := Lib.hid (hrow)
    clear hrow
    go_wp2_with fail
    have hb : Below w24.heap.size w24 ((((w24.alloc (.cells #[.int .i64 4, .int .i64 4] 3)).alloc (.cells #[.int .i64 4, .int .i64 5] 3)).alloc (.cells #[.int .i64 5, .int .i64 3] 3)).alloc (.cells #[.slice (some ⟨w24.heap.size, 0, none⟩) 2 2, .slice (some ⟨w24.heap.size + 1, 0, none⟩) 2 2, .slice (some ⟨w24.heap.size + 1 + 1, 0, none⟩) 2 2] 35)) := by repeat first | exact Below.refl _ _ | refine Below.alloc ?_ (by simp <;> omega) _
    have k0 : BlkV ((((w24.alloc (.cells #[.int .i64 4, .int .i64 4] 3)).alloc (.cells #[.int .i64 4, .int .i64 5] 3)).alloc (.cells #[.int .i64 5, .int .i64 3] 3)).alloc (.cells #[.slice (some ⟨w24.heap.size, 0, none⟩) 2 2, .slice (some ⟨w24.heap.size + 1, 0, none⟩) 2 2, .slice (some ⟨w24.heap.size + 1 + 1, 0, none⟩) 2 2] 35)) w24.heap.size 3 #[.int .i64 4, .int .i64 4] := ((((BlkV.new w24 3 #[.int .i64 4, .int .i64 4]).alloc _).alloc _).alloc _)
    have k1 : BlkV ((((w24.alloc (.cells #[.int .i64 4, .int .i64 4] 3)).alloc (.cells #[.int .i64 4, .int .i64 5] 3)).alloc (.cells #[.int .i64 5, .int .i64 3] 3)).alloc (.cells #[.slice (some ⟨w24.heap.size, 0, none⟩) 2 2, .slice (some ⟨w24.heap.size + 1, 0, none⟩) 2 2, .slice (some ⟨w24.heap.size + 1 + 1, 0, none⟩) 2 2] 35)) (w24.heap.size + 1) 3 #[.int .i64 4, .int .i64 5] := by
      have q := BlkV.new (w24.alloc (.cells #[.int .i64 4, .int .i64 4] 3)) 3 #[.int .i64 4, .int .i64 5]
      rw [show (w24.alloc (.cells #[.int .i64 4, .int .i64 4] 3)).heap.size = w24.heap.size + 1 by simp] at q
      exact ((q.alloc _).alloc _)
    have k2 : BlkV ((((w24.alloc (.cells #[.int .i64 4, .int .i64 4] 3)).alloc (.cells #[.int .i64 4, .int .i64 5] 3)).alloc (.cells #[.int .i64 5, .int .i64 3] 3)).alloc (.cells #[.slice (some ⟨w24.heap.size, 0, none⟩) 2 2, .slice (some ⟨w24.heap.size + 1, 0, none⟩) 2 2, .slice (some ⟨w24.heap.size + 1 + 1, 0, none⟩) 2 2] 35)) (w24.heap.size + 1 + 1) 3 #[.int .i64 5, .int .i64 3] := by
      have q := BlkV.new ((w24.alloc (.cells #[.int .i64 4, .int .i64 4] 3)).alloc (.cells #[.int .i64 4, .int .i64 5] 3)) 3 #[.int .i64 5, .int .i64 3]
      rw [show ((w24.alloc (.cells #[.int .i64 4, .int .i64 4] 3)).alloc (.cells #[.int .i64 4, .int .i64 5] 3)).heap.size = w24.heap.size + 1 + 1 by simp] at q
      exact (q.alloc _)
    have k3 : BlkV ((((w24.alloc (.cells #[.int .i64 4, .int .i64 4] 3)).alloc (.cells #[.int .i64 4, .int .i64 5] 3)).alloc (.cells #[.int .i64 5, .int .i64 3] 3)).alloc (.cells #[.slice (some ⟨w24.heap.size, 0, none⟩) 2 2, .slice (some ⟨w24.heap.size + 1, 0, none⟩) 2 2, .slice (some ⟨w24.heap.size + 1 + 1, 0, none⟩) 2 2] 35)) (w24.heap.size + 1 + 1 + 1) 35 #[.slice (some ⟨w24.heap.size, 0, none⟩) 2 2, .slice (some ⟨w24.heap.size + 1, 0, none⟩) 2 2, .slice (some ⟨w24.heap.size + 1 + 1, 0, none⟩) 2 2] := by
      have q := BlkV.new (((w24.alloc (.cells #[.int .i64 4, .int .i64 4] 3)).alloc (.cells #[.int .i64 4, .int .i64 5] 3)).alloc (.cells #[.int .i64 5, .int .i64 3] 3)) 35 #[.slice (some ⟨w24.heap.size, 0, none⟩) 2 2, .slice (some ⟨w24.heap.size + 1, 0, none⟩) 2 2, .slice (some ⟨w24.heap.size + 1 + 1, 0, none⟩) 2 2]
      rw [show (((w24.alloc (.cells #[.int .i64 4, .int .i64 4] 3)).alloc (.cells #[.int .i64 4, .int .i64 5] 3)).alloc (.cells #[.int .i64 5, .int .i64 3] 3)).heap.size = w24.heap.size + 1 + 1 + 1 by simp] at q
      exact q
    generalize (((w24.alloc (.cells #[.int .i64 4, .int .i64 4] 3)).alloc (.cells #[.int .i64 4, .int .i64 5] 3)).alloc (.cells #[.int .i64 5, .int .i64 3] 3)).alloc (.cells #[.slice (some ⟨w24.heap.size, 0, none⟩) 2 2, .slice (some ⟨w24.heap.size + 1, 0, none⟩) 2 2, .slice (some ⟨w24.heap.size + 1 + 1, 0, none⟩) 2 2] 35) = w25 at hb k0 k1 k2 k3 ⊢
    have HEA19 := Lib.hid (HEA18.out.keep hb)
    have HEB19 := Lib.hid (HEB18.out.keep hb)
    have HB19 := Lib.hid (HB18.out.trans (hb.mono HB18.out.size))
    have HPA19 := Lib.hid (HPA18.out.below hb HPA18.out.lt)
    have HPB19 := Lib.hid (HPB18.out.below hb HPB18.out.lt)
    have HR119 := Lib.hid (HR118.out.below hb HR118.out.lt)
    have HR219 := Lib.hid (HR218.out.below hb HR218.out.lt)
    have HR319 := Lib.hid (HR318.out.below hb HR318.out.lt)
    have HST19 := Lib.hid (HST18.out.keep hb)
    have HN119 := Lib.hid (BlkV.below HN118.out hb (BlkV.lt HN118.out))
    have HR419 := Lib.hid (HR418.out.below hb HR418.out.lt)
    clear HEA18 HEB18 HB18 HPA18 HPB18 HR118 HR218 HR318 HST18 HN118 HR418
    clear hb
    refine (xPlayoff _ w25 (lists3 k3 (ints2 k0) (ints2 k1) (ints2 k2) (Nat.le_refl _) (Nat.le_refl _) (Nat.le_refl _))).mono ?_
    rintro e w26 ⟨Al, cl, rfl, hil, hb⟩
    have HEA20 := Lib.hid (HEA19.out.keep hb)
    have HEB20 := Lib.hid (HEB19.out.keep hb)
    have HB20 := Lib.hid (HB19.out.trans (hb.mono HB19.out.size))
    have HPA20 := Lib.hid (HPA19.out.below hb HPA19.out.lt)
    have HPB20 := Lib.hid (HPB19.out.below hb HPB19.out.lt)
    have HR120 := Lib.hid (HR119.out.below hb HR119.out.lt)
    have HR220 := Lib.hid (HR219.out.below hb HR219.out.lt)
    have HR320 := Lib.hid (HR319.out.below hb HR319.out.lt)
    have HST20 := Lib.hid (HST19.out.keep hb)
    have HN120 := Lib.hid (BlkV.below HN119.out hb (BlkV.lt HN119.out))
    have HR420 := Lib.hid (HR419.out.below hb HR419.out.lt)
    clear HEA19 HEB19 HB19 HPA19 HPB19 HR119 HR219 HR319 HST19 HN119 HR419
    clear hb k0 k1 k2 k3
    have HIL20 := Lib.hid (hil)
    clear hil
    go_wp2_with fail
    have hb : Below w26.heap.size w26 (w26.alloc (.cells #[.int .i64 2, .int .i64 1, .int .i64 2, .int .i64 1] 3)) := by repeat first | exact Below.refl _ _ | refine Below.alloc ?_ (by simp <;> omega) _
    have k0 : BlkV (w26.alloc (.cells #[.int .i64 2, .int .i64 1, .int .i64 2, .int .i64 1] 3)) w26.heap.size 3 #[.int .i64 2, .int .i64 1, .int .i64 2, .int .i64 1] := ((BlkV.new w26 3 #[.int .i64 2, .int .i64 1, .int .i64 2, .int .i64 1]))
    generalize w26.alloc (.cells #[.int .i64 2, .int .i64 1, .int .i64 2, .int .i64 1] 3) = w27 at hb k0 ⊢
    have HEA21 := Lib.hid (HEA20.out.keep hb)
    have HEB21 := Lib.hid (HEB20.out.keep hb)
    have HB21 := Lib.hid (HB20.out.trans (hb.mono HB20.out.size))
    have HPA21 := Lib.hid (HPA20.out.below hb HPA20.out.lt)
    have HPB21 := Lib.hid (HPB20.out.below hb HPB20.out.lt)
    have HR121 := Lib.hid (HR120.out.below hb HR120.out.lt)
    have HR221 := Lib.hid (HR220.out.below hb HR220.out.lt)
    have HR321 := Lib.hid (HR320.out.below hb HR320.out.lt)
    have HST21 := Lib.hid (HST20.out.keep hb)
    have HN121 := Lib.hid (BlkV.below HN120.out hb (BlkV.lt HN120.out))
    have HR421 := Lib.hid (HR420.out.below hb HR420.out.lt)
    have HIL21 := Lib.hid (HIL20.out.keep hb)
    clear HEA20 HEB20 HB20 HPA20 HPB20 HR120 HR220 HR320 HST20 HN120 HR420 HIL20
    clear hb
    have hk : Ints w27 (some ⟨_, 0, none⟩) [2, 1, 2, 1] := (RowI.ints (show RowI w27 _ [2, 1, 2, 1] from k0) k0.lt).ints
    refine (sameInts_any _ _ _ _ [2, 1, 2, 1] [2, 1, 2, 1] _ (HR121.out.ints HR121.out.lt).ints hk (by simp)).mono ?_
    rintro e w28 ⟨rfl, nn, hnn⟩
    rw [decide_eq_true (rfl : ([2, 1, 2, 1] : List Int) = [2, 1, 2, 1])]
    have hb := below_drewN (Below.refl w27.heap.size w27) nn
    rw [← hnn] at hb
    clear hnn hk
    have HEA22 := Lib.hid (HEA21.out.keep hb)
    have HEB22 := Lib.hid (HEB21.out.keep hb)
    have HB22 := Lib.hid (HB21.out.trans (hb.mono HB21.out.size))
    have HPA22 := Lib.hid (HPA21.out.below hb HPA21.out.lt)
    have HPB22 := Lib.hid (HPB21.out.below hb HPB21.out.lt)
    have HR122 := Lib.hid (HR121.out.below hb HR121.out.lt)
    have HR222 := Lib.hid (HR221.out.below hb HR221.out.lt)
    have HR322 := Lib.hid (HR321.out.below hb HR321.out.lt)
    have HST22 := Lib.hid (HST21.out.keep hb)
    have HN122 := Lib.hid (BlkV.below HN121.out hb (BlkV.lt HN121.out))
    have HR422 := Lib.hid (HR421.out.below hb HR421.out.lt)
    have HIL22 := Lib.hid (HIL21.out.keep hb)
    clear HEA21 HEB21 HB21 HPA21 HPB21 HR121 HR221 HR321 HST21 HN121 HR421 HIL21
    clear hb k0
    go_wp2_with fail
    have hb : Below w28.heap.size w28 (w28.alloc (.cells #[.int .i64 0, .int .i64 (-1), .int .i64 0, .int .i64 0] 3)) := by repeat first | exact Below.refl _ _ | refine Below.alloc ?_ (by simp <;> omega) _
    have k0 : BlkV (w28.alloc (.cells #[.int .i64 0, .int .i64 (-1), .int .i64 0, .int .i64 0] 3)) w28.heap.size 3 #[.int .i64 0, .int .i64 (-1), .int .i64 0, .int .i64 0] := ((BlkV.new w28 3 #[.int .i64 0, .int .i64 (-1), .int .i64 0, .int .i64 0]))
    generalize w28.alloc (.cells #[.int .i64 0, .int .i64 (-1), .int .i64 0, .int .i64 0] 3) = w29 at hb k0 ⊢
    have HEA23 := Lib.hid (HEA22.out.keep hb)
    have HEB23 := Lib.hid (HEB22.out.keep hb)
    have HB23 := Lib.hid (HB22.out.trans (hb.mono HB22.out.size))
    have HPA23 := Lib.hid (HPA22.out.below hb HPA22.out.lt)
    have HPB23 := Lib.hid (HPB22.out.below hb HPB22.out.lt)
    have HR123 := Lib.hid (HR122.out.below hb HR122.out.lt)
    have HR223 := Lib.hid (HR222.out.below hb HR222.out.lt)
    have HR323 := Lib.hid (HR322.out.below hb HR322.out.lt)
    have HST23 := Lib.hid (HST22.out.keep hb)
    have HN123 := Lib.hid (BlkV.below HN122.out hb (BlkV.lt HN122.out))
    have HR423 := Lib.hid (HR422.out.below hb HR422.out.lt)
    have HIL23 := Lib.hid (HIL22.out.keep hb)
    clear HEA22 HEB22 HB22 HPA22 HPB22 HR122 HR222 HR322 HST22 HN122 HR422 HIL22
    clear hb
    have hk : Ints w29 (some ⟨_, 0, none⟩) [0, -1, 0, 0] := (RowI.ints (show RowI w29 _ [0, -1, 0, 0] from k0) k0.lt).ints
    refine (sameInts_any _ _ _ _ [0, -1, 0, 0] [0, -1, 0, 0] _ (HR223.out.ints HR223.out.lt).ints hk (by simp)).mono ?_
    rintro e w30 ⟨rfl, nn, hnn⟩
    rw [decide_eq_true (rfl : ([0, -1, 0, 0] : List Int) = [0, -1, 0, 0])]
    have hb := below_drewN (Below.refl w29.heap.size w29) nn
    rw [← hnn] at hb
    clear hnn hk
    have HEA24 := Lib.hid (HEA23.out.keep hb)
    have HEB24 := Lib.hid (HEB23.out.keep hb)
    have HB24 := Lib.hid (HB23.out.trans (hb.mono HB23.out.size))
    have HPA24 := Lib.hid (HPA23.out.below hb HPA23.out.lt)
    have HPB24 := Lib.hid (HPB23.out.below hb HPB23.out.lt)
    have HR124 := Lib.hid (HR123.out.below hb HR123.out.lt)
    have HR224 := Lib.hid (HR223.out.below hb HR223.out.lt)
    have HR324 := Lib.hid (HR323.out.below hb HR323.out.lt)
    have HST24 := Lib.hid (HST23.out.keep hb)
    have HN124 := Lib.hid (BlkV.below HN123.out hb (BlkV.lt HN123.out))
    have HR424 := Lib.hid (HR423.out.below hb HR423.out.lt)
    have HIL24 := Lib.hid (HIL23.out.keep hb)
    clear HEA23 HEB23 HB23 HPA23 HPB23 HR123 HR223 HR323 HST23 HN123 HR423 HIL23
    clear hb k0
    go_wp2_with fail
    have hb : Below w30.heap.size w30 (w30.alloc (.cells #[.int .i64 3, .int .i64 2, .int .i64 2, .int .i64 0] 3)) := by repeat first | exact Below.refl _ _ | refine Below.alloc ?_ (by simp <;> omega) _
    have k0 : BlkV (w30.alloc (.cells #[.int .i64 3, .int .i64 2, .int .i64 2, .int .i64 0] 3)) w30.heap.size 3 #[.int .i64 3, .int .i64 2, .int .i64 2, .int .i64 0] := ((BlkV.new w30 3 #[.int .i64 3, .int .i64 2, .int .i64 2, .int .i64 0]))
    generalize w30.alloc (.cells #[.int .i64 3, .int .i64 2, .int .i64 2, .int .i64 0] 3) = w31 at hb k0 ⊢
    have HEA25 := Lib.hid (HEA24.out.keep hb)
    have HEB25 := Lib.hid (HEB24.out.keep hb)
    have HB25 := Lib.hid (HB24.out.trans (hb.mono HB24.out.size))
    have HPA25 := Lib.hid (HPA24.out.below hb HPA24.out.lt)
    have HPB25 := Lib.hid (HPB24.out.below hb HPB24.out.lt)
    have HR125 := Lib.hid (HR124.out.below hb HR124.out.lt)
    have HR225 := Lib.hid (HR224.out.below hb HR224.out.lt)
    have HR325 := Lib.hid (HR324.out.below hb HR324.out.lt)
    have HST25 := Lib.hid (HST24.out.keep hb)
    have HN125 := Lib.hid (BlkV.below HN124.out hb (BlkV.lt HN124.out))
    have HR425 := Lib.hid (HR424.out.below hb HR424.out.lt)
    have HIL25 := Lib.hid (HIL24.out.keep hb)
    clear HEA24 HEB24 HB24 HPA24 HPB24 HR124 HR224 HR324 HST24 HN124 HR424 HIL24
    clear hb
    have hk : Ints w31 (some ⟨_, 0, none⟩) [3, 2, 2, 0] := (RowI.ints (show RowI w31 _ [3, 2, 2, 0] from k0) k0.lt).ints
    refine (sameInts_any _ _ _ _ [3, 2, 2, 0] [3, 2, 2, 0] _ (HR325.out.ints HR325.out.lt).ints hk (by simp)).mono ?_
    rintro e w32 ⟨rfl, nn, hnn⟩
    rw [decide_eq_true (rfl : ([3, 2, 2, 0] : List Int) = [3, 2, 2, 0])]
    have hb := below_drewN (Below.refl w31.heap.size w31) nn
    rw [← hnn] at hb
    clear hnn hk
    have HEA26 := Lib.hid (HEA25.out.keep hb)
    have HEB26 := Lib.hid (HEB25.out.keep hb)
    have HB26 := Lib.hid (HB25.out.trans (hb.mono HB25.out.size))
    have HPA26 := Lib.hid (HPA25.out.below hb HPA25.out.lt)
    have HPB26 := Lib.hid (HPB25.out.below hb HPB25.out.lt)
    have HR126 := Lib.hid (HR125.out.below hb HR125.out.lt)
    have HR226 := Lib.hid (HR225.out.below hb HR225.out.lt)
    have HR326 := Lib.hid (HR325.out.below hb HR325.out.lt)
    have HST26 := Lib.hid (HST25.out.keep hb)
    have HN126 := Lib.hid (BlkV.below HN125.out hb (BlkV.lt HN125.out))
    have HR426 := Lib.hid (HR425.out.below hb HR425.out.lt)
    have HIL26 := Lib.hid (HIL25.out.keep hb)
    clear HEA25 HEB25 HB25 HPA25 HPB25 HR125 HR225 HR325 HST25 HN125 HR425 HIL25
    clear hb k0
    have y := HST26.out 2 (by simp [exS])
    obtain ⟨a9, ha9, y0, y1, y2, _⟩ := y
    injection ha9 with ha9
    subst ha9
    simp only [exS, List.getD_cons_succ, List.getD_cons_zero, Nat.reduceMul, show am.add 6 = (⟨am.block, am.off + 6, none⟩ : Addr) from rfl] at y0 y1 y2
    go_wp2_with fail
    refine (xDescribe w32).mono ?_
    rintro e w33 ⟨rfl, hb⟩
    have HEA27 := Lib.hid (HEA26.out.keep hb)
    have HEB27 := Lib.hid (HEB26.out.keep hb)
    have HB27 := Lib.hid (HB26.out.trans (hb.mono HB26.out.size))
    have HPA27 := Lib.hid (HPA26.out.below hb HPA26.out.lt)
    have HPB27 := Lib.hid (HPB26.out.below hb HPB26.out.lt)
    have HR127 := Lib.hid (HR126.out.below hb HR126.out.lt)
    have HR227 := Lib.hid (HR226.out.below hb HR226.out.lt)
    have HR327 := Lib.hid (HR326.out.below hb HR326.out.lt)
    have HST27 := Lib.hid (HST26.out.keep hb)
    have HN127 := Lib.hid (BlkV.below HN126.out hb (BlkV.lt HN126.out))
    have HR427 := Lib.hid (HR426.out.below hb HR426.out.lt)
    have HIL27 := Lib.hid (HIL26.out.keep hb)
    clear HEA26 HEB26 HB26 HPA26 HPB26 HR126 HR226 HR326 HST26 HN126 HR426 HIL26
    clear hb y0 y1 y2
    go_wp2_with fail
    have c0 := HPA27.out.cell 0
    have c1 := HPA27.out.cell 1
    have c2 := HPA27.out.cell 2
    have d0 := HPB27.out.cell 0
    have d1 := HPB27.out.cell 1
    have d2 := HPB27.out.cell 2
    simp only [List.getElem?_toArray, List.getElem?_cons_zero, List.getElem?_cons_succ] at c0 c1 c2 d0 d1 d2
    have HS : Hid (w33.drew.cell? ⟨bA, 0, none⟩ = some (.string ⟨#[65]⟩) ∧ w33.drew.cell? ⟨bA, 1, none⟩ = some (.slice (some ⟨gA, 0, none⟩) 4 4) ∧ w33.drew.cell? ⟨bA, 2, none⟩ = some (.int .i64 6) ∧ w33.drew.cell? ⟨bA + 1, 0, none⟩ = some (.string ⟨#[66]⟩) ∧ w33.drew.cell? ⟨bA + 1, 1, none⟩ = some (.slice (some ⟨gB, 0, none⟩) 4 4) ∧ w33.drew.cell? ⟨bA + 1, 2, none⟩ = some (.int .i64 0) ∧ Hid (Below w33.heap.size w33 w33.drew)) := Lib.hid ⟨c0, c1, c2, d0, d1, d2, Lib.hid ((Below.refl _ _).drew)⟩
    clear c0 c1 c2 d0 d1 d2
    go_region_held3 (fun W => W.cell? ⟨bA, 0, none⟩ = some (.string ⟨#[65]⟩) ∧ W.cell? ⟨bA, 1, none⟩ = some (.slice (some ⟨gA, 0, none⟩) 4 4) ∧ W.cell? ⟨bA, 2, none⟩ = some (.int .i64 6) ∧ W.cell? ⟨bA + 1, 0, none⟩ = some (.string ⟨#[66]⟩) ∧ W.cell? ⟨bA + 1, 1, none⟩ = some (.slice (some ⟨gB, 0, none⟩) 4 4) ∧ W.cell? ⟨bA + 1, 2, none⟩ = some (.int .i64 0) ∧ Hid (Below w33.heap.size w33 W))
      ((first | with_reducible assumption | with_reducible exact keep6 hbx (by with_reducible assumption) (Nat.le_refl _) | with_reducible exact keep6_ad _ (by with_reducible assumption) (Nat.le_refl _) | with_reducible exact HS.out))
      (first
        | (go_at_call 24; (with_reducible refine (four_any _).mono ?_); rintro e w34 ⟨g, rfl, hh, hgl, hbx⟩)
        | (go_at_call 34; (with_reducible refine (xAggregate _ _ _ _ (by with_reducible assumption) (by with_reducible assumption) (HEA27.out.keep (held7 (by with_reducible assumption))) (HEB27.out.keep (held7 (by with_reducible assumption)))).mono ?_); rintro e w35 ⟨q2, rfl, hnet, hbx⟩))
    have hS := (by with_reducible assumption : w35.cell? ⟨bA, 0, none⟩ = some (.string ⟨#[65]⟩) ∧ w35.cell? ⟨bA, 1, none⟩ = some (.slice (some ⟨gA, 0, none⟩) 4 4) ∧ w35.cell? ⟨bA, 2, none⟩ = some (.int .i64 6) ∧ w35.cell? ⟨bA + 1, 0, none⟩ = some (.string ⟨#[66]⟩) ∧ w35.cell? ⟨bA + 1, 1, none⟩ = some (.slice (some ⟨gB, 0, none⟩) 4 4) ∧ w35.cell? ⟨bA + 1, 2, none⟩ = some (.int .i64 0) ∧ Hid (Below w33.heap.size w33 w35))
    have hb := held7 hS
    have HEA28 := Lib.hid (HEA27.out.keep hb)
    have HEB28 := Lib.hid (HEB27.out.keep hb)
    have HB28 := Lib.hid (HB27.out.trans (hb.mono HB27.out.size))
    have HPA28 := Lib.hid (HPA27.out.below hb HPA27.out.lt)
    have HPB28 := Lib.hid (HPB27.out.below hb HPB27.out.lt)
    have HR128 := Lib.hid (HR127.out.below hb HR127.out.lt)
    have HR228 := Lib.hid (HR227.out.below hb HR227.out.lt)
    have HR328 := Lib.hid (HR327.out.below hb HR327.out.lt)
    have HST28 := Lib.hid (HST27.out.keep hb)
    have HN128 := Lib.hid (BlkV.below HN127.out hb (BlkV.lt HN127.out))
    have HR428 := Lib.hid (HR427.out.below hb HR427.out.lt)
    have HIL28 := Lib.hid (HIL27.out.keep hb)
    clear HEA27 HEB27 HB27 HPA27 HPB27 HR127 HR227 HR327 HST27 HN127 HR427 HIL27
    clear hS hb HS hbx hh hgl
    have HN228 := Lib.hid (hnet)
    clear hnet
    go_wp2_with fail
    have hb : Below w35.heap.size w35 (w35.alloc (.cells #[.int .i64 5, .int .i64 3, .int .i64 4, .int .i64 9] 3)) := by repeat first | exact Below.refl _ _ | refine Below.alloc ?_ (by simp <;> omega) _
    have k0 : BlkV (w35.alloc (.cells #[.int .i64 5, .int .i64 3, .int .i64 4, .int .i64 9] 3)) w35.heap.size 3 #[.int .i64 5, .int .i64 3, .int .i64 4, .int .i64 9] := ((BlkV.new w35 3 #[.int .i64 5, .int .i64 3, .int .i64 4, .int .i64 9]))
    generalize w35.alloc (.cells #[.int .i64 5, .int .i64 3, .int .i64 4, .int .i64 9] 3) = w36 at hb k0 ⊢
    have HEA29 := Lib.hid (HEA28.out.keep hb)
    have HEB29 := Lib.hid (HEB28.out.keep hb)
    have HB29 := Lib.hid (HB28.out.trans (hb.mono HB28.out.size))
    have HPA29 := Lib.hid (HPA28.out.below hb HPA28.out.lt)
    have HPB29 := Lib.hid (HPB28.out.below hb HPB28.out.lt)
    have HR129 := Lib.hid (HR128.out.below hb HR128.out.lt)
    have HR229 := Lib.hid (HR228.out.below hb HR228.out.lt)
    have HR329 := Lib.hid (HR328.out.below hb HR328.out.lt)
    have HST29 := Lib.hid (HST28.out.keep hb)
    have HN129 := Lib.hid (BlkV.below HN128.out hb (BlkV.lt HN128.out))
    have HR429 := Lib.hid (HR428.out.below hb HR428.out.lt)
    have HIL29 := Lib.hid (HIL28.out.keep hb)
    have HN229 := Lib.hid (BlkV.below HN228.out hb (BlkV.lt HN228.out))
    clear HEA28 HEB28 HB28 HPA28 HPB28 HR128 HR228 HR328 HST28 HN128 HR428 HIL28 HN228
    clear hb
    refine (xTeam _ w36 _ k0).mono ?_
    rintro e w37 ⟨rfl, hb⟩
    have HEA30 := Lib.hid (HEA29.out.keep hb)
    have HEB30 := Lib.hid (HEB29.out.keep hb)
    have HB30 := Lib.hid (HB29.out.trans (hb.mono HB29.out.size))
    have HPA30 := Lib.hid (HPA29.out.below hb HPA29.out.lt)
    have HPB30 := Lib.hid (HPB29.out.below hb HPB29.out.lt)
    have HR130 := Lib.hid (HR129.out.below hb HR129.out.lt)
    have HR230 := Lib.hid (HR229.out.below hb HR229.out.lt)
    have HR330 := Lib.hid (HR329.out.below hb HR329.out.lt)
    have HST30 := Lib.hid (HST29.out.keep hb)
    have HN130 := Lib.hid (BlkV.below HN129.out hb (BlkV.lt HN129.out))
    have HR430 := Lib.hid (HR429.out.below hb HR429.out.lt)
    have HIL30 := Lib.hid (HIL29.out.keep hb)
    have HN230 := Lib.hid (BlkV.below HN229.out hb (BlkV.lt HN229.out))
    clear HEA29 HEB29 HB29 HPA29 HPB29 HR129 HR229 HR329 HST29 HN129 HR429 HIL29 HN229
    clear hb k0
    obtain ⟨s0, s1⟩ := (show NetBlk w37 q1 exF from HN130.out).cells (j := 3) (by simp [exF])
    obtain ⟨t0, t1⟩ := (show NetBlk w37 q2 exG from HN230.out).cells (j := 2) (by simp [exG])
    obtain ⟨u0, u1⟩ := (show NetBlk w37 q2 exG from HN230.out).cells (j := 3) (by simp [exG])
    simp only [exF, exG, List.getD_cons_succ, List.getD_cons_zero, Nat.reduceMul, Nat.reduceAdd] at s0 s1 t0 t1 u0 u1
    go_wp2_with fail
    have hb : Below w37.heap.size w37 (w37.alloc (.cells #[.int .i64 4, .int .i64 2, .int .i64 1, .int .i64 2] 3)) := by repeat first | exact Below.refl _ _ | refine Below.alloc ?_ (by simp <;> omega) _
    have k0 : BlkV (w37.alloc (.cells #[.int .i64 4, .int .i64 2, .int .i64 1, .int .i64 2] 3)) w37.heap.size 3 #[.int .i64 4, .int .i64 2, .int .i64 1, .int .i64 2] := ((BlkV.new w37 3 #[.int .i64 4, .int .i64 2, .int .i64 1, .int .i64 2]))
    generalize w37.alloc (.cells #[.int .i64 4, .int .i64 2, .int .i64 1, .int .i64 2] 3) = w38 at hb k0 ⊢
    have HEA31 := Lib.hid (HEA30.out.keep hb)
    have HEB31 := Lib.hid (HEB30.out.keep hb)
    have HB31 := Lib.hid (HB30.out.trans (hb.mono HB30.out.size))
    have HPA31 := Lib.hid (HPA30.out.below hb HPA30.out.lt)
    have HPB31 := Lib.hid (HPB30.out.below hb HPB30.out.lt)
    have HR131 := Lib.hid (HR130.out.below hb HR130.out.lt)
    have HR231 := Lib.hid (HR230.out.below hb HR230.out.lt)
    have HR331 := Lib.hid (HR330.out.below hb HR330.out.lt)
    have HST31 := Lib.hid (HST30.out.keep hb)
    have HN131 := Lib.hid (BlkV.below HN130.out hb (BlkV.lt HN130.out))
    have HR431 := Lib.hid (HR430.out.below hb HR430.out.lt)
    have HIL31 := Lib.hid (HIL30.out.keep hb)
    have HN231 := Lib.hid (BlkV.below HN230.out hb (BlkV.lt HN230.out))
    clear HEA30 HEB30 HB30 HPA30 HPB30 HR130 HR230 HR330 HST30 HN130 HR430 HIL30 HN230
    clear hb
    have hk : Ints w38 (some ⟨_, 0, none⟩) [4, 2, 1, 2] := (RowI.ints (show RowI w38 _ [4, 2, 1, 2] from k0) k0.lt).ints
    refine (sameInts_any _ _ _ _ [4, 2, 1, 2] [4, 2, 1, 2] _ (HR431.out.ints HR431.out.lt).ints hk (by simp)).mono ?_
    rintro e w39 ⟨rfl, nn, hnn⟩
    rw [decide_eq_true (rfl : ([4, 2, 1, 2] : List Int) = [4, 2, 1, 2])]
    have hb := below_drewN (Below.refl w38.heap.size w38) nn
    rw [← hnn] at hb
    clear hnn hk
    have HEA32 := Lib.hid (HEA31.out.keep hb)
    have HEB32 := Lib.hid (HEB31.out.keep hb)
    have HB32 := Lib.hid (HB31.out.trans (hb.mono HB31.out.size))
    have HPA32 := Lib.hid (HPA31.out.below hb HPA31.out.lt)
    have HPB32 := Lib.hid (HPB31.out.below hb HPB31.out.lt)
    have HR132 := Lib.hid (HR131.out.below hb HR131.out.lt)
    have HR232 := Lib.hid (HR231.out.below hb HR231.out.lt)
    have HR332 := Lib.hid (HR331.out.below hb HR331.out.lt)
    have HST32 := Lib.hid (HST31.out.keep hb)
    have HN132 := Lib.hid (BlkV.below HN131.out hb (BlkV.lt HN131.out))
    have HR432 := Lib.hid (HR431.out.below hb HR431.out.lt)
    have HIL32 := Lib.hid (HIL31.out.keep hb)
    have HN232 := Lib.hid (BlkV.below HN231.out hb (BlkV.lt HN231.out))
    clear HEA31 HEB31 HB31 HPA31 HPB31 HR131 HR231 HR331 HST31 HN131 HR431 HIL31 HN231
    clear hb k0
    clear s0 s1 t0 t1 u0 u1
    go_wp2_with fail
    have hb : Below w39.heap.size w39 (w39.alloc (.cells #[.int .i64 0] 3)) := by repeat first | exact Below.refl _ _ | refine Below.alloc ?_ (by simp <;> omega) _
    have k0 : BlkV (w39.alloc (.cells #[.int .i64 0] 3)) w39.heap.size 3 #[.int .i64 0] := ((BlkV.new w39 3 #[.int .i64 0]))
    generalize w39.alloc (.cells #[.int .i64 0] 3) = w40 at hb k0 ⊢
    have HEA33 := Lib.hid (HEA32.out.keep hb)
    have HEB33 := Lib.hid (HEB32.out.keep hb)
    have HB33 := Lib.hid (HB32.out.trans (hb.mono HB32.out.size))
    have HPA33 := Lib.hid (HPA32.out.below hb HPA32.out.lt)
    have HPB33 := Lib.hid (HPB32.out.below hb HPB32.out.lt)
    have HR133 := Lib.hid (HR132.out.below hb HR132.out.lt)
    have HR233 := Lib.hid (HR232.out.below hb HR232.out.lt)
    have HR333 := Lib.hid (HR332.out.below hb HR332.out.lt)
    have HST33 := Lib.hid (HST32.out.keep hb)
    have HN133 := Lib.hid (BlkV.below HN132.out hb (BlkV.lt HN132.out))
    have HR433 := Lib.hid (HR432.out.below hb HR432.out.lt)
    have HIL33 := Lib.hid (HIL32.out.keep hb)
    have HN233 := Lib.hid (BlkV.below HN232.out hb (BlkV.lt HN232.out))
    clear HEA32 HEB32 HB32 HPA32 HPB32 HR132 HR232 HR332 HST32 HN132 HR432 HIL32 HN232
    clear hb
    have hk : Ints w40 (some ⟨_, 0, none⟩) [0] := (RowI.ints (show RowI w40 _ [0] from k0) k0.lt).ints
    refine (sameInts_any _ _ _ _ [0] [0] _ HIL33.out.ints hk (by simp)).mono ?_
    rintro e w41 ⟨rfl, nn, hnn⟩
    rw [decide_eq_true (rfl : ([0] : List Int) = [0])]
    have hb := below_drewN (Below.refl w40.heap.size w40) nn
    rw [← hnn] at hb
    clear hnn hk
    have HEA34 := Lib.hid (HEA33.out.keep hb)
    have HEB34 := Lib.hid (HEB33.out.keep hb)
    have HB34 := Lib.hid (HB33.out.trans (hb.mono HB33.out.size))
    have HPA34 := Lib.hid (HPA33.out.below hb HPA33.out.lt)
    have HPB34 := Lib.hid (HPB33.out.below hb HPB33.out.lt)
    have HR134 := Lib.hid (HR133.out.below hb HR133.out.lt)
    have HR234 := Lib.hid (HR233.out.below hb HR233.out.lt)
    have HR334 := Lib.hid (HR333.out.below hb HR333.out.lt)
    have HST34 := Lib.hid (HST33.out.keep hb)
    have HN134 := Lib.hid (BlkV.below HN133.out hb (BlkV.lt HN133.out))
    have HR434 := Lib.hid (HR433.out.below hb HR433.out.lt)
    have HIL34 := Lib.hid (HIL33.out.keep hb)
    have HN234 := Lib.hid (BlkV.below HN233.out hb (BlkV.lt HN233.out))
    clear HEA33 HEB33 HB33 HPA33 HPB33 HR133 HR233 HR333 HST33 HN133 HR433 HIL33 HN233
    clear hb k0
    go_wp2
    go_ret
    exact ⟨rfl, HB34.out⟩
end Go.Proofs.YtfpehblofokheaaGreatDoor
