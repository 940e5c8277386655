/- The reference's FromInt of 1 to 9 is a text whose sign is 1. -/
import Derived.Test.YtclhohfkacgooaaRowI
import Derived.OwnWalk
namespace Go.Proofs.Ytclhohfkacgooaa
open Go.RowKit

def dig (n : Nat) : ByteArray := ⟨#[UInt8.ofNat (48 + n)]⟩

set_option maxHeartbeats 1000000 in
theorem decimal_one (n : Nat) (h1 : 1 ≤ n) (h2 : n ≤ 9) (w : World) :
    Calls Try.prog 32 #[.int .i64 (n : Int), .int .i64 1] w fun e w' => e = .returned (.string (dig n)) ∧ w = w' := by
  have h9 : n = 1 ∨ n = 2 ∨ n = 3 ∨ n = 4 ∨ n = 5 ∨ n = 6 ∨ n = 7 ∨ n = 8 ∨ n = 9 := by omega
  rcases h9 with rfl | rfl | rfl | rfl | rfl | rfl | rfl | rfl | rfl
  · go_enter Try.func32, Try.ntmps32
    go_wp2
    go_loop [0, 5] (fun a s => (a = .int .i64 1 ∧ s = .string ⟨#[]⟩) ∨ (a = .int .i64 0 ∧ s = .string (dig 1))) (fun a _ => (intOf a).toNat)
    case atStart => exact .inl ⟨rfl, rfl⟩
    case round =>
      rcases hrel with ⟨rfl, rfl⟩ | ⟨rfl, rfl⟩
      · go_wp2
        go_round
        case rel => exact .inr ⟨rfl, by kernel_rfl⟩
        case measure => simp [intOf]
      · have hsz : (dig 1).size = 1 := rfl
        go_wp2
        go_ret
        exact ⟨rfl, rfl⟩
  · go_enter Try.func32, Try.ntmps32
    go_wp2
    go_loop [0, 5] (fun a s => (a = .int .i64 2 ∧ s = .string ⟨#[]⟩) ∨ (a = .int .i64 0 ∧ s = .string (dig 2))) (fun a _ => (intOf a).toNat)
    case atStart => exact .inl ⟨rfl, rfl⟩
    case round =>
      rcases hrel with ⟨rfl, rfl⟩ | ⟨rfl, rfl⟩
      · go_wp2
        go_round
        case rel => exact .inr ⟨rfl, by kernel_rfl⟩
        case measure => simp [intOf]
      · have hsz : (dig 2).size = 1 := rfl
        go_wp2
        go_ret
        exact ⟨rfl, rfl⟩
  · go_enter Try.func32, Try.ntmps32
    go_wp2
    go_loop [0, 5] (fun a s => (a = .int .i64 3 ∧ s = .string ⟨#[]⟩) ∨ (a = .int .i64 0 ∧ s = .string (dig 3))) (fun a _ => (intOf a).toNat)
    case atStart => exact .inl ⟨rfl, rfl⟩
    case round =>
      rcases hrel with ⟨rfl, rfl⟩ | ⟨rfl, rfl⟩
      · go_wp2
        go_round
        case rel => exact .inr ⟨rfl, by kernel_rfl⟩
        case measure => simp [intOf]
      · have hsz : (dig 3).size = 1 := rfl
        go_wp2
        go_ret
        exact ⟨rfl, rfl⟩
  · go_enter Try.func32, Try.ntmps32
    go_wp2
    go_loop [0, 5] (fun a s => (a = .int .i64 4 ∧ s = .string ⟨#[]⟩) ∨ (a = .int .i64 0 ∧ s = .string (dig 4))) (fun a _ => (intOf a).toNat)
    case atStart => exact .inl ⟨rfl, rfl⟩
    case round =>
      rcases hrel with ⟨rfl, rfl⟩ | ⟨rfl, rfl⟩
      · go_wp2
        go_round
        case rel => exact .inr ⟨rfl, by kernel_rfl⟩
        case measure => simp [intOf]
      · have hsz : (dig 4).size = 1 := rfl
        go_wp2
        go_ret
        exact ⟨rfl, rfl⟩
  · go_enter Try.func32, Try.ntmps32
    go_wp2
    go_loop [0, 5] (fun a s => (a = .int .i64 5 ∧ s = .string ⟨#[]⟩) ∨ (a = .int .i64 0 ∧ s = .string (dig 5))) (fun a _ => (intOf a).toNat)
    case atStart => exact .inl ⟨rfl, rfl⟩
    case round =>
      rcases hrel with ⟨rfl, rfl⟩ | ⟨rfl, rfl⟩
      · go_wp2
        go_round
        case rel => exact .inr ⟨rfl, by kernel_rfl⟩
        case measure => simp [intOf]
      · have hsz : (dig 5).size = 1 := rfl
        go_wp2
        go_ret
        exact ⟨rfl, rfl⟩
  · go_enter Try.func32, Try.ntmps32
    go_wp2
    go_loop [0, 5] (fun a s => (a = .int .i64 6 ∧ s = .string ⟨#[]⟩) ∨ (a = .int .i64 0 ∧ s = .string (dig 6))) (fun a _ => (intOf a).toNat)
    case atStart => exact .inl ⟨rfl, rfl⟩
    case round =>
      rcases hrel with ⟨rfl, rfl⟩ | ⟨rfl, rfl⟩
      · go_wp2
        go_round
        case rel => exact .inr ⟨rfl, by kernel_rfl⟩
        case measure => simp [intOf]
      · have hsz : (dig 6).size = 1 := rfl
        go_wp2
        go_ret
        exact ⟨rfl, rfl⟩
  · go_enter Try.func32, Try.ntmps32
    go_wp2
    go_loop [0, 5] (fun a s => (a = .int .i64 7 ∧ s = .string ⟨#[]⟩) ∨ (a = .int .i64 0 ∧ s = .string (dig 7))) (fun a _ => (intOf a).toNat)
    case atStart => exact .inl ⟨rfl, rfl⟩
    case round =>
      rcases hrel with ⟨rfl, rfl⟩ | ⟨rfl, rfl⟩
      · go_wp2
        go_round
        case rel => exact .inr ⟨rfl, by kernel_rfl⟩
        case measure => simp [intOf]
      · have hsz : (dig 7).size = 1 := rfl
        go_wp2
        go_ret
        exact ⟨rfl, rfl⟩
  · go_enter Try.func32, Try.ntmps32
    go_wp2
    go_loop [0, 5] (fun a s => (a = .int .i64 8 ∧ s = .string ⟨#[]⟩) ∨ (a = .int .i64 0 ∧ s = .string (dig 8))) (fun a _ => (intOf a).toNat)
    case atStart => exact .inl ⟨rfl, rfl⟩
    case round =>
      rcases hrel with ⟨rfl, rfl⟩ | ⟨rfl, rfl⟩
      · go_wp2
        go_round
        case rel => exact .inr ⟨rfl, by kernel_rfl⟩
        case measure => simp [intOf]
      · have hsz : (dig 8).size = 1 := rfl
        go_wp2
        go_ret
        exact ⟨rfl, rfl⟩
  · go_enter Try.func32, Try.ntmps32
    go_wp2
    go_loop [0, 5] (fun a s => (a = .int .i64 9 ∧ s = .string ⟨#[]⟩) ∨ (a = .int .i64 0 ∧ s = .string (dig 9))) (fun a _ => (intOf a).toNat)
    case atStart => exact .inl ⟨rfl, rfl⟩
    case round =>
      rcases hrel with ⟨rfl, rfl⟩ | ⟨rfl, rfl⟩
      · go_wp2
        go_round
        case rel => exact .inr ⟨rfl, by kernel_rfl⟩
        case measure => simp [intOf]
      · have hsz : (dig 9).size = 1 := rfl
        go_wp2
        go_ret
        exact ⟨rfl, rfl⟩

set_option maxHeartbeats 1000000 in
theorem trim_one (g c : Nat) (n : Int) (w : World) (hn : n ≠ 0) (hc : w.cell? ⟨g, 0, none⟩ = some (.int .i64 n)) :
    Calls Try.prog 42 #[.slice (some ⟨g, 0, none⟩) 1 c] w fun e w' => e = .returned (.slice (some ⟨g, 0, none⟩) 1 c) ∧ w = w' := by
  have hb : (n == 0) = false := beq_eq_false_iff_ne.2 hn
  have HN := Lib.hid hn
  clear hn
  go_enter Try.func42, Try.ntmps42
  go_wp2
  go_loop [0] (fun i => i = .slice (some ⟨g, 0, none⟩) 1 c) (fun _ => 0)
  case atStart => rfl
  case round =>
    subst hrel
    go_wp2
    go_ret
    exact ⟨rfl, rfl⟩

set_option maxHeartbeats 1000000 in
theorem signed_one (g c : Nat) (n : Int) (w : World) (hn : n ≠ 0) (hc : w.cell? ⟨g, 0, none⟩ = some (.int .i64 n)) :
    Calls Try.prog 33 #[.bool false, .slice (some ⟨g, 0, none⟩) 1 c] w fun e w' => e = .returned (.agg #[.bool false, .slice (some ⟨g, 0, none⟩) 1 c]) ∧ Below w.heap.size w w' := by
  have HT := Lib.hid (trim_one g c n)
  have HN := Lib.hid hn
  have hb := World.block_lt_of_cell? w _ hc
  have HC := Lib.hid ((World.cell?_alloc_lt w (.cells #[.bool false, .slice none 0 0] 57) ⟨g, 0, none⟩ hb).trans hc)
  clear hn hc
  go_enter Try.func33, Try.ntmps33
  go_wp2_with fail
  refine (HT.out _ HN.out HC.out).mono ?_; rintro e w1 ⟨rfl, rfl⟩
  go_wp2
  refine bodyPost_ret (v := .agg #[.bool false, .slice (some ⟨g, 0, none⟩) 1 c]) (by simp [results, Try.results33, go_sem]) rfl ⟨rfl, ?_⟩
  exact (Below.refl _ _).alloc (Nat.le_refl _) _

set_option maxHeartbeats 1000000 in
theorem whole_one (n : Nat) (h1 : 1 ≤ n) (h2 : n ≤ 9) (w : World) :
    Calls Try.prog 20 #[.int .i64 (n : Int)] w fun e w' => ∃ g c, e = .returned (.agg #[.bool false, .slice (some ⟨g, 0, none⟩) 1 c]) ∧ w'.cell? ⟨g, 0, none⟩ = some (.int .i64 (n : Int)) ∧ Below w.heap.size w w' := by
  obtain ⟨i0, hi, hz0, hz1, hz2⟩ := info_parts info_int
  have hn0 : ((n : Int) != 0) = true := by rw [bne_iff_ne]; omega
  have hd : (n : Int) / 1000000000 = 0 := by omega
  have hm : (n : Int) % 1000000000 = (n : Int) := by omega
  have HD := Lib.hid hd
  have HM := Lib.hid hm
  clear hd hm
  go_enter Try.func20, Try.ntmps20
  go_wp2
  obtain ⟨W, hW⟩ : ∃ W, w.alloc (.cells #[.bool false, .slice none 0 0] 57) = W := ⟨_, rfl⟩
  have hs : W.heap.size = w.heap.size + 1 := by rw [← hW]; simp
  have HBW : Hid (Below w.heap.size w W) := by rw [← hW]; exact Lib.hid ((Below.refl _ _).alloc (Nat.le_refl _) _)
  have HBK : Hid (BlkV W w.heap.size 57 #[.bool false, .slice none 0 0]) := by rw [← hW]; exact Lib.hid (BlkV.new _ _ _)
  rw [hW]
  clear hW
  go_loopw [0, 3] (fun a v wr => (a = .int .i64 n ∧ v = .slice none 0 0 ∧ wr = W) ∨ (a = .int .i64 0 ∧ ∃ g c, v = .slice (some ⟨g, 0, none⟩) 1 c ∧ wr.cell? ⟨g, 0, none⟩ = some (.int .i64 (n : Int)) ∧ Below W.heap.size W wr)) (fun a _ _ => (intOf a).toNat)
  case atStart => exact .inl ⟨rfl, rfl, rfl⟩
  case round =>
    rcases hrel with ⟨rfl, rfl, rfl⟩ | ⟨rfl, g, c, rfl, hc, hb⟩
    · go_wp2
      go_roundw
      case rel =>
        refine .inr ⟨by rw [HD.out], _, _, rfl, ?_, ((Below.refl _ _).alloc (Nat.le_refl _) _).alloc (by simp) _ |>.drew⟩
        have h3 := heap_alloc_new (wr.alloc (.cells #[.int .i64 ((n : Int) % 1000000000)] 3)) (.cells (#[Value.int .i64 ((n : Int) % 1000000000)] ++ Builtin.zeroCells #[Value.int .i64 0] ((Question.appendCap 1 0 3).cut (wr.tape wr.drawn (Question.appendCap 1 0 3)) - 1)) 3)
        rw [World.size_alloc, hs] at h3
        have h4 := cell_of_row _ _ 0 _ _ _ h3
        refine Eq.trans (b := _) h4 ?_
        rw [Array.getElem?_append_left (by simp)]
        simp [HM.out]
      case measure => simp [intOf]; omega
    · have HB := Lib.hid hb
      have HC := Lib.hid hc
      have hsz := hb.size
      clear hb hc
      go_wp2_with fail
      refine (signed_one g c n _ (by omega) HC.out).mono ?_
      rintro e w1 ⟨rfl, hb1⟩
      have HB2 : Hid (Below W.heap.size W w1) := Lib.hid (HB.out.trans (hb1.mono HB.out.size))
      have HK1 := Lib.hid (HBK.out.below HB2.out (by omega))
      have k0 := HK1.out.cell 0
      have k1 := HK1.out.cell 1
      have kf0 := HK1.out.frozen 0
      have kf1 := HK1.out.frozen 1
      simp only [List.getElem?_toArray, List.getElem?_cons_succ, List.getElem?_cons_zero] at k0 k1
      have HC1 : Hid (w1.cell? ⟨g, 0, none⟩ = some (.int .i64 (n : Int))) := (hb1.cell (p := ⟨g, 0, none⟩) (World.block_lt_of_cell? _ _ HC.out)).trans HC.out
      have HNE : Hid (w.heap.size ≠ g) := fun e => by
        have h1 := HC1.out
        rw [← e, k0] at h1
        cases h1
      clear hb1
      go_wp2
      refine bodyPost_ret (v := .agg #[.bool false, .slice (some ⟨g, 0, none⟩) 1 c]) (by simp [results, Try.results20, go_sem, k0, k1]) rfl ⟨g, c, rfl, ?_, ?_⟩
      · exact ((World.cell?_setCell_other _ _ _ _ (fun e => HNE.out (congrArg Addr.block e))).trans ((World.cell?_setCell_other _ _ _ _ (fun e => HNE.out (congrArg Addr.block e))).trans HC1.out))
      · exact ((HBW.out.trans (HB2.out.mono HBW.out.size)).setCell (Nat.le_refl _) _).setCell (Nat.le_refl _) _

set_option maxHeartbeats 1000000 in
theorem text_one (n g c : Nat) (h1 : 1 ≤ n) (h2 : n ≤ 9) (w : World) (hc : w.cell? ⟨g, 0, none⟩ = some (.int .i64 (n : Int))) :
    Calls Try.prog 19 #[.agg #[.bool false, .slice (some ⟨g, 0, none⟩) 1 c]] w fun e w' => e = .returned (.string (dig n)) ∧ Below w.heap.size w w' := by
  have hc' := (World.cell?_alloc_lt w (.cells #[.bool false, .slice (some ⟨g, 0, none⟩) 1 c] 57) ⟨g, 0, none⟩ (World.block_lt_of_cell? w _ hc)).trans hc
  clear hc
  go_enter Try.func19, Try.ntmps19
  go_wp2_with fail
  refine (decimal_one n h1 h2 _).mono ?_; rintro e w1 ⟨rfl, rfl⟩
  go_wp2
  go_loop [3, 4] (fun s i => s = .string (dig n) ∧ i = .int .i64 (-1)) (fun _ _ => 0)
  case atStart => exact ⟨rfl, rfl⟩
  case round =>
    obtain ⟨rfl, rfl⟩ := hrel
    go_wp2
    go_ret
    exact ⟨rfl, (Below.refl _ _).alloc (Nat.le_refl _) _⟩

set_option maxHeartbeats 1000000 in
theorem fromInt_one (n : Nat) (h1 : 1 ≤ n) (h2 : n ≤ 9) (w : World) :
    Calls Try.prog 10 #[.int .i64 (n : Int)] w fun e w' => e = .returned (.string (dig n)) ∧ Below w.heap.size w w' := by
  go_enter Try.func10, Try.ntmps10
  go_wp2_with fail
  refine (whole_one n h1 h2 _).mono ?_; rintro e w1 ⟨g, c, rfl, hc, hb1⟩
  have HC := Lib.hid hc
  have HB1 := Lib.hid hb1
  clear hc hb1
  go_wp2_with fail
  refine (text_one n g c h1 h2 _ HC.out).mono ?_; rintro e w2 ⟨rfl, hb2⟩
  have HB2 := Lib.hid hb2
  clear hb2
  go_wp2
  go_ret
  exact ⟨rfl, HB1.out.trans (HB2.out.mono HB1.out.size)⟩

set_option maxHeartbeats 1000000 in
theorem sign_one (n : Nat) (h1 : 1 ≤ n) (h2 : n ≤ 9) (w : World) :
    Calls Try.prog 9 #[.string (dig n)] w fun e w' => e = .returned (.int .i64 1) ∧ w = w' := by
  have h9 : n = 1 ∨ n = 2 ∨ n = 3 ∨ n = 4 ∨ n = 5 ∨ n = 6 ∨ n = 7 ∨ n = 8 ∨ n = 9 := by omega
  rcases h9 with rfl | rfl | rfl | rfl | rfl | rfl | rfl | rfl | rfl
  all_goals
    go_enter Try.func9, Try.ntmps9
    unfold dig
    go_wp2
    all_goals first
    | (go_ret; exact ⟨rfl, rfl⟩)
    | (rename_i h; exact absurd h (by decide))

end Go.Proofs.Ytclhohfkacgooaa
