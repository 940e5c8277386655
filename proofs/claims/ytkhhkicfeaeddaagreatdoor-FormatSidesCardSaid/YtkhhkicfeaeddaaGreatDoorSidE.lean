/- The reference's texts of small numbers: its digits, its integers, its texts; its Describe. -/
import Derived.Test.YtkhhkicfeaeddaaGreatDoorSidC
import Derived.OwnWalk
import Derived.Laws.Concat
import Derived.Outline
set_option linter.unusedVariables false
set_option linter.unusedSimpArgs false
namespace Go.Proofs.YtkhhkicfeaeddaaGreatDoor
open Go.RowKit

theorem numB_1 : numB 1 = ⟨#[49]⟩ := by
  unfold numB
  rw [Lib.decDigits_one (by omega)]
  rfl
set_option maxHeartbeats 1000000 in
theorem decimal_1 (w : World) :
    Calls Tryz.prog 151 #[.int .i64 1, .int .i64 1] w fun e w' => e = .returned (.string (numB 1)) ∧ w = w' := by
  rw [numB_1]
  go_enter Tryz.func151, Tryz.ntmps151
  go_wp2
  go_loop [0, 5] (fun a s => (a = .int .i64 1 ∧ s = .string ⟨#[]⟩) ∨ (a = .int .i64 0 ∧ s = .string ⟨#[49]⟩)) (fun a _ => (intOf a).toNat)
  case atStart => exact .inl ⟨rfl, rfl⟩
  case round =>
    rcases hrel with ⟨rfl, rfl⟩ | ⟨rfl, rfl⟩
    · go_wp2
      go_round
      case rel => exact .inr ⟨rfl, by kernel_rfl⟩
      case measure => simp [intOf]
    · have hsz : (⟨#[49]⟩ : ByteArray).size = 1 := rfl
      go_wp2
      go_ret
      exact ⟨rfl, rfl⟩
theorem numB_2 : numB 2 = ⟨#[50]⟩ := by
  unfold numB
  rw [Lib.decDigits_one (by omega)]
  rfl
set_option maxHeartbeats 1000000 in
theorem decimal_2 (w : World) :
    Calls Tryz.prog 151 #[.int .i64 2, .int .i64 1] w fun e w' => e = .returned (.string (numB 2)) ∧ w = w' := by
  rw [numB_2]
  go_enter Tryz.func151, Tryz.ntmps151
  go_wp2
  go_loop [0, 5] (fun a s => (a = .int .i64 2 ∧ s = .string ⟨#[]⟩) ∨ (a = .int .i64 0 ∧ s = .string ⟨#[50]⟩)) (fun a _ => (intOf a).toNat)
  case atStart => exact .inl ⟨rfl, rfl⟩
  case round =>
    rcases hrel with ⟨rfl, rfl⟩ | ⟨rfl, rfl⟩
    · go_wp2
      go_round
      case rel => exact .inr ⟨rfl, by kernel_rfl⟩
      case measure => simp [intOf]
    · have hsz : (⟨#[50]⟩ : ByteArray).size = 1 := rfl
      go_wp2
      go_ret
      exact ⟨rfl, rfl⟩
theorem numB_3 : numB 3 = ⟨#[51]⟩ := by
  unfold numB
  rw [Lib.decDigits_one (by omega)]
  rfl
set_option maxHeartbeats 1000000 in
theorem decimal_3 (w : World) :
    Calls Tryz.prog 151 #[.int .i64 3, .int .i64 1] w fun e w' => e = .returned (.string (numB 3)) ∧ w = w' := by
  rw [numB_3]
  go_enter Tryz.func151, Tryz.ntmps151
  go_wp2
  go_loop [0, 5] (fun a s => (a = .int .i64 3 ∧ s = .string ⟨#[]⟩) ∨ (a = .int .i64 0 ∧ s = .string ⟨#[51]⟩)) (fun a _ => (intOf a).toNat)
  case atStart => exact .inl ⟨rfl, rfl⟩
  case round =>
    rcases hrel with ⟨rfl, rfl⟩ | ⟨rfl, rfl⟩
    · go_wp2
      go_round
      case rel => exact .inr ⟨rfl, by kernel_rfl⟩
      case measure => simp [intOf]
    · have hsz : (⟨#[51]⟩ : ByteArray).size = 1 := rfl
      go_wp2
      go_ret
      exact ⟨rfl, rfl⟩
theorem numB_4 : numB 4 = ⟨#[52]⟩ := by
  unfold numB
  rw [Lib.decDigits_one (by omega)]
  rfl
set_option maxHeartbeats 1000000 in
theorem decimal_4 (w : World) :
    Calls Tryz.prog 151 #[.int .i64 4, .int .i64 1] w fun e w' => e = .returned (.string (numB 4)) ∧ w = w' := by
  rw [numB_4]
  go_enter Tryz.func151, Tryz.ntmps151
  go_wp2
  go_loop [0, 5] (fun a s => (a = .int .i64 4 ∧ s = .string ⟨#[]⟩) ∨ (a = .int .i64 0 ∧ s = .string ⟨#[52]⟩)) (fun a _ => (intOf a).toNat)
  case atStart => exact .inl ⟨rfl, rfl⟩
  case round =>
    rcases hrel with ⟨rfl, rfl⟩ | ⟨rfl, rfl⟩
    · go_wp2
      go_round
      case rel => exact .inr ⟨rfl, by kernel_rfl⟩
      case measure => simp [intOf]
    · have hsz : (⟨#[52]⟩ : ByteArray).size = 1 := rfl
      go_wp2
      go_ret
      exact ⟨rfl, rfl⟩
theorem numB_5 : numB 5 = ⟨#[53]⟩ := by
  unfold numB
  rw [Lib.decDigits_one (by omega)]
  rfl
set_option maxHeartbeats 1000000 in
theorem decimal_5 (w : World) :
    Calls Tryz.prog 151 #[.int .i64 5, .int .i64 1] w fun e w' => e = .returned (.string (numB 5)) ∧ w = w' := by
  rw [numB_5]
  go_enter Tryz.func151, Tryz.ntmps151
  go_wp2
  go_loop [0, 5] (fun a s => (a = .int .i64 5 ∧ s = .string ⟨#[]⟩) ∨ (a = .int .i64 0 ∧ s = .string ⟨#[53]⟩)) (fun a _ => (intOf a).toNat)
  case atStart => exact .inl ⟨rfl, rfl⟩
  case round =>
    rcases hrel with ⟨rfl, rfl⟩ | ⟨rfl, rfl⟩
    · go_wp2
      go_round
      case rel => exact .inr ⟨rfl, by kernel_rfl⟩
      case measure => simp [intOf]
    · have hsz : (⟨#[53]⟩ : ByteArray).size = 1 := rfl
      go_wp2
      go_ret
      exact ⟨rfl, rfl⟩
theorem numB_6 : numB 6 = ⟨#[54]⟩ := by
  unfold numB
  rw [Lib.decDigits_one (by omega)]
  rfl
set_option maxHeartbeats 1000000 in
theorem decimal_6 (w : World) :
    Calls Tryz.prog 151 #[.int .i64 6, .int .i64 1] w fun e w' => e = .returned (.string (numB 6)) ∧ w = w' := by
  rw [numB_6]
  go_enter Tryz.func151, Tryz.ntmps151
  go_wp2
  go_loop [0, 5] (fun a s => (a = .int .i64 6 ∧ s = .string ⟨#[]⟩) ∨ (a = .int .i64 0 ∧ s = .string ⟨#[54]⟩)) (fun a _ => (intOf a).toNat)
  case atStart => exact .inl ⟨rfl, rfl⟩
  case round =>
    rcases hrel with ⟨rfl, rfl⟩ | ⟨rfl, rfl⟩
    · go_wp2
      go_round
      case rel => exact .inr ⟨rfl, by kernel_rfl⟩
      case measure => simp [intOf]
    · have hsz : (⟨#[54]⟩ : ByteArray).size = 1 := rfl
      go_wp2
      go_ret
      exact ⟨rfl, rfl⟩
theorem numB_7 : numB 7 = ⟨#[55]⟩ := by
  unfold numB
  rw [Lib.decDigits_one (by omega)]
  rfl
set_option maxHeartbeats 1000000 in
theorem decimal_7 (w : World) :
    Calls Tryz.prog 151 #[.int .i64 7, .int .i64 1] w fun e w' => e = .returned (.string (numB 7)) ∧ w = w' := by
  rw [numB_7]
  go_enter Tryz.func151, Tryz.ntmps151
  go_wp2
  go_loop [0, 5] (fun a s => (a = .int .i64 7 ∧ s = .string ⟨#[]⟩) ∨ (a = .int .i64 0 ∧ s = .string ⟨#[55]⟩)) (fun a _ => (intOf a).toNat)
  case atStart => exact .inl ⟨rfl, rfl⟩
  case round =>
    rcases hrel with ⟨rfl, rfl⟩ | ⟨rfl, rfl⟩
    · go_wp2
      go_round
      case rel => exact .inr ⟨rfl, by kernel_rfl⟩
      case measure => simp [intOf]
    · have hsz : (⟨#[55]⟩ : ByteArray).size = 1 := rfl
      go_wp2
      go_ret
      exact ⟨rfl, rfl⟩
theorem numB_8 : numB 8 = ⟨#[56]⟩ := by
  unfold numB
  rw [Lib.decDigits_one (by omega)]
  rfl
set_option maxHeartbeats 1000000 in
theorem decimal_8 (w : World) :
    Calls Tryz.prog 151 #[.int .i64 8, .int .i64 1] w fun e w' => e = .returned (.string (numB 8)) ∧ w = w' := by
  rw [numB_8]
  go_enter Tryz.func151, Tryz.ntmps151
  go_wp2
  go_loop [0, 5] (fun a s => (a = .int .i64 8 ∧ s = .string ⟨#[]⟩) ∨ (a = .int .i64 0 ∧ s = .string ⟨#[56]⟩)) (fun a _ => (intOf a).toNat)
  case atStart => exact .inl ⟨rfl, rfl⟩
  case round =>
    rcases hrel with ⟨rfl, rfl⟩ | ⟨rfl, rfl⟩
    · go_wp2
      go_round
      case rel => exact .inr ⟨rfl, by kernel_rfl⟩
      case measure => simp [intOf]
    · have hsz : (⟨#[56]⟩ : ByteArray).size = 1 := rfl
      go_wp2
      go_ret
      exact ⟨rfl, rfl⟩
theorem numB_9 : numB 9 = ⟨#[57]⟩ := by
  unfold numB
  rw [Lib.decDigits_one (by omega)]
  rfl
set_option maxHeartbeats 1000000 in
theorem decimal_9 (w : World) :
    Calls Tryz.prog 151 #[.int .i64 9, .int .i64 1] w fun e w' => e = .returned (.string (numB 9)) ∧ w = w' := by
  rw [numB_9]
  go_enter Tryz.func151, Tryz.ntmps151
  go_wp2
  go_loop [0, 5] (fun a s => (a = .int .i64 9 ∧ s = .string ⟨#[]⟩) ∨ (a = .int .i64 0 ∧ s = .string ⟨#[57]⟩)) (fun a _ => (intOf a).toNat)
  case atStart => exact .inl ⟨rfl, rfl⟩
  case round =>
    rcases hrel with ⟨rfl, rfl⟩ | ⟨rfl, rfl⟩
    · go_wp2
      go_round
      case rel => exact .inr ⟨rfl, by kernel_rfl⟩
      case measure => simp [intOf]
    · have hsz : (⟨#[57]⟩ : ByteArray).size = 1 := rfl
      go_wp2
      go_ret
      exact ⟨rfl, rfl⟩
theorem numB_10 : numB 10 = ⟨#[49, 48]⟩ := by
  unfold numB
  rw [Lib.decDigits_two (by omega) (by omega)]
  rfl
set_option maxHeartbeats 1000000 in
theorem decimal_10 (w : World) :
    Calls Tryz.prog 151 #[.int .i64 10, .int .i64 1] w fun e w' => e = .returned (.string (numB 10)) ∧ w = w' := by
  rw [numB_10]
  go_enter Tryz.func151, Tryz.ntmps151
  go_wp2
  go_loop [0, 5] (fun a s => (a = .int .i64 10 ∧ s = .string ⟨#[]⟩) ∨ (a = .int .i64 1 ∧ s = .string ⟨#[48]⟩) ∨ (a = .int .i64 0 ∧ s = .string ⟨#[49, 48]⟩)) (fun a _ => (intOf a).toNat)
  case atStart => exact .inl ⟨rfl, rfl⟩
  case round =>
    rcases hrel with ⟨rfl, rfl⟩ | ⟨rfl, rfl⟩ | ⟨rfl, rfl⟩
    · go_wp2
      go_round
      case rel => exact .inr (.inl ⟨rfl, by kernel_rfl⟩)
      case measure => simp [intOf]
    · go_wp2
      go_round
      case rel => exact .inr (.inr ⟨rfl, by kernel_rfl⟩)
      case measure => simp [intOf]
    · have hsz : (⟨#[49, 48]⟩ : ByteArray).size = 2 := rfl
      go_wp2
      go_ret
      exact ⟨rfl, rfl⟩
theorem numB_11 : numB 11 = ⟨#[49, 49]⟩ := by
  unfold numB
  rw [Lib.decDigits_two (by omega) (by omega)]
  rfl
set_option maxHeartbeats 1000000 in
theorem decimal_11 (w : World) :
    Calls Tryz.prog 151 #[.int .i64 11, .int .i64 1] w fun e w' => e = .returned (.string (numB 11)) ∧ w = w' := by
  rw [numB_11]
  go_enter Tryz.func151, Tryz.ntmps151
  go_wp2
  go_loop [0, 5] (fun a s => (a = .int .i64 11 ∧ s = .string ⟨#[]⟩) ∨ (a = .int .i64 1 ∧ s = .string ⟨#[49]⟩) ∨ (a = .int .i64 0 ∧ s = .string ⟨#[49, 49]⟩)) (fun a _ => (intOf a).toNat)
  case atStart => exact .inl ⟨rfl, rfl⟩
  case round =>
    rcases hrel with ⟨rfl, rfl⟩ | ⟨rfl, rfl⟩ | ⟨rfl, rfl⟩
    · go_wp2
      go_round
      case rel => exact .inr (.inl ⟨rfl, by kernel_rfl⟩)
      case measure => simp [intOf]
    · go_wp2
      go_round
      case rel => exact .inr (.inr ⟨rfl, by kernel_rfl⟩)
      case measure => simp [intOf]
    · have hsz : (⟨#[49, 49]⟩ : ByteArray).size = 2 := rfl
      go_wp2
      go_ret
      exact ⟨rfl, rfl⟩
theorem numB_12 : numB 12 = ⟨#[49, 50]⟩ := by
  unfold numB
  rw [Lib.decDigits_two (by omega) (by omega)]
  rfl
set_option maxHeartbeats 1000000 in
theorem decimal_12 (w : World) :
    Calls Tryz.prog 151 #[.int .i64 12, .int .i64 1] w fun e w' => e = .returned (.string (numB 12)) ∧ w = w' := by
  rw [numB_12]
  go_enter Tryz.func151, Tryz.ntmps151
  go_wp2
  go_loop [0, 5] (fun a s => (a = .int .i64 12 ∧ s = .string ⟨#[]⟩) ∨ (a = .int .i64 1 ∧ s = .string ⟨#[50]⟩) ∨ (a = .int .i64 0 ∧ s = .string ⟨#[49, 50]⟩)) (fun a _ => (intOf a).toNat)
  case atStart => exact .inl ⟨rfl, rfl⟩
  case round =>
    rcases hrel with ⟨rfl, rfl⟩ | ⟨rfl, rfl⟩ | ⟨rfl, rfl⟩
    · go_wp2
      go_round
      case rel => exact .inr (.inl ⟨rfl, by kernel_rfl⟩)
      case measure => simp [intOf]
    · go_wp2
      go_round
      case rel => exact .inr (.inr ⟨rfl, by kernel_rfl⟩)
      case measure => simp [intOf]
    · have hsz : (⟨#[49, 50]⟩ : ByteArray).size = 2 := rfl
      go_wp2
      go_ret
      exact ⟨rfl, rfl⟩
theorem numB_13 : numB 13 = ⟨#[49, 51]⟩ := by
  unfold numB
  rw [Lib.decDigits_two (by omega) (by omega)]
  rfl
set_option maxHeartbeats 1000000 in
theorem decimal_13 (w : World) :
    Calls Tryz.prog 151 #[.int .i64 13, .int .i64 1] w fun e w' => e = .returned (.string (numB 13)) ∧ w = w' := by
  rw [numB_13]
  go_enter Tryz.func151, Tryz.ntmps151
  go_wp2
  go_loop [0, 5] (fun a s => (a = .int .i64 13 ∧ s = .string ⟨#[]⟩) ∨ (a = .int .i64 1 ∧ s = .string ⟨#[51]⟩) ∨ (a = .int .i64 0 ∧ s = .string ⟨#[49, 51]⟩)) (fun a _ => (intOf a).toNat)
  case atStart => exact .inl ⟨rfl, rfl⟩
  case round =>
    rcases hrel with ⟨rfl, rfl⟩ | ⟨rfl, rfl⟩ | ⟨rfl, rfl⟩
    · go_wp2
      go_round
      case rel => exact .inr (.inl ⟨rfl, by kernel_rfl⟩)
      case measure => simp [intOf]
    · go_wp2
      go_round
      case rel => exact .inr (.inr ⟨rfl, by kernel_rfl⟩)
      case measure => simp [intOf]
    · have hsz : (⟨#[49, 51]⟩ : ByteArray).size = 2 := rfl
      go_wp2
      go_ret
      exact ⟨rfl, rfl⟩
theorem numB_14 : numB 14 = ⟨#[49, 52]⟩ := by
  unfold numB
  rw [Lib.decDigits_two (by omega) (by omega)]
  rfl
set_option maxHeartbeats 1000000 in
theorem decimal_14 (w : World) :
    Calls Tryz.prog 151 #[.int .i64 14, .int .i64 1] w fun e w' => e = .returned (.string (numB 14)) ∧ w = w' := by
  rw [numB_14]
  go_enter Tryz.func151, Tryz.ntmps151
  go_wp2
  go_loop [0, 5] (fun a s => (a = .int .i64 14 ∧ s = .string ⟨#[]⟩) ∨ (a = .int .i64 1 ∧ s = .string ⟨#[52]⟩) ∨ (a = .int .i64 0 ∧ s = .string ⟨#[49, 52]⟩)) (fun a _ => (intOf a).toNat)
  case atStart => exact .inl ⟨rfl, rfl⟩
  case round =>
    rcases hrel with ⟨rfl, rfl⟩ | ⟨rfl, rfl⟩ | ⟨rfl, rfl⟩
    · go_wp2
      go_round
      case rel => exact .inr (.inl ⟨rfl, by kernel_rfl⟩)
      case measure => simp [intOf]
    · go_wp2
      go_round
      case rel => exact .inr (.inr ⟨rfl, by kernel_rfl⟩)
      case measure => simp [intOf]
    · have hsz : (⟨#[49, 52]⟩ : ByteArray).size = 2 := rfl
      go_wp2
      go_ret
      exact ⟨rfl, rfl⟩
theorem numB_15 : numB 15 = ⟨#[49, 53]⟩ := by
  unfold numB
  rw [Lib.decDigits_two (by omega) (by omega)]
  rfl
set_option maxHeartbeats 1000000 in
theorem decimal_15 (w : World) :
    Calls Tryz.prog 151 #[.int .i64 15, .int .i64 1] w fun e w' => e = .returned (.string (numB 15)) ∧ w = w' := by
  rw [numB_15]
  go_enter Tryz.func151, Tryz.ntmps151
  go_wp2
  go_loop [0, 5] (fun a s => (a = .int .i64 15 ∧ s = .string ⟨#[]⟩) ∨ (a = .int .i64 1 ∧ s = .string ⟨#[53]⟩) ∨ (a = .int .i64 0 ∧ s = .string ⟨#[49, 53]⟩)) (fun a _ => (intOf a).toNat)
  case atStart => exact .inl ⟨rfl, rfl⟩
  case round =>
    rcases hrel with ⟨rfl, rfl⟩ | ⟨rfl, rfl⟩ | ⟨rfl, rfl⟩
    · go_wp2
      go_round
      case rel => exact .inr (.inl ⟨rfl, by kernel_rfl⟩)
      case measure => simp [intOf]
    · go_wp2
      go_round
      case rel => exact .inr (.inr ⟨rfl, by kernel_rfl⟩)
      case measure => simp [intOf]
    · have hsz : (⟨#[49, 53]⟩ : ByteArray).size = 2 := rfl
      go_wp2
      go_ret
      exact ⟨rfl, rfl⟩
theorem numB_16 : numB 16 = ⟨#[49, 54]⟩ := by
  unfold numB
  rw [Lib.decDigits_two (by omega) (by omega)]
  rfl
set_option maxHeartbeats 1000000 in
theorem decimal_16 (w : World) :
    Calls Tryz.prog 151 #[.int .i64 16, .int .i64 1] w fun e w' => e = .returned (.string (numB 16)) ∧ w = w' := by
  rw [numB_16]
  go_enter Tryz.func151, Tryz.ntmps151
  go_wp2
  go_loop [0, 5] (fun a s => (a = .int .i64 16 ∧ s = .string ⟨#[]⟩) ∨ (a = .int .i64 1 ∧ s = .string ⟨#[54]⟩) ∨ (a = .int .i64 0 ∧ s = .string ⟨#[49, 54]⟩)) (fun a _ => (intOf a).toNat)
  case atStart => exact .inl ⟨rfl, rfl⟩
  case round =>
    rcases hrel with ⟨rfl, rfl⟩ | ⟨rfl, rfl⟩ | ⟨rfl, rfl⟩
    · go_wp2
      go_round
      case rel => exact .inr (.inl ⟨rfl, by kernel_rfl⟩)
      case measure => simp [intOf]
    · go_wp2
      go_round
      case rel => exact .inr (.inr ⟨rfl, by kernel_rfl⟩)
      case measure => simp [intOf]
    · have hsz : (⟨#[49, 54]⟩ : ByteArray).size = 2 := rfl
      go_wp2
      go_ret
      exact ⟨rfl, rfl⟩
theorem numB_17 : numB 17 = ⟨#[49, 55]⟩ := by
  unfold numB
  rw [Lib.decDigits_two (by omega) (by omega)]
  rfl
set_option maxHeartbeats 1000000 in
theorem decimal_17 (w : World) :
    Calls Tryz.prog 151 #[.int .i64 17, .int .i64 1] w fun e w' => e = .returned (.string (numB 17)) ∧ w = w' := by
  rw [numB_17]
  go_enter Tryz.func151, Tryz.ntmps151
  go_wp2
  go_loop [0, 5] (fun a s => (a = .int .i64 17 ∧ s = .string ⟨#[]⟩) ∨ (a = .int .i64 1 ∧ s = .string ⟨#[55]⟩) ∨ (a = .int .i64 0 ∧ s = .string ⟨#[49, 55]⟩)) (fun a _ => (intOf a).toNat)
  case atStart => exact .inl ⟨rfl, rfl⟩
  case round =>
    rcases hrel with ⟨rfl, rfl⟩ | ⟨rfl, rfl⟩ | ⟨rfl, rfl⟩
    · go_wp2
      go_round
      case rel => exact .inr (.inl ⟨rfl, by kernel_rfl⟩)
      case measure => simp [intOf]
    · go_wp2
      go_round
      case rel => exact .inr (.inr ⟨rfl, by kernel_rfl⟩)
      case measure => simp [intOf]
    · have hsz : (⟨#[49, 55]⟩ : ByteArray).size = 2 := rfl
      go_wp2
      go_ret
      exact ⟨rfl, rfl⟩
theorem numB_18 : numB 18 = ⟨#[49, 56]⟩ := by
  unfold numB
  rw [Lib.decDigits_two (by omega) (by omega)]
  rfl
set_option maxHeartbeats 1000000 in
theorem decimal_18 (w : World) :
    Calls Tryz.prog 151 #[.int .i64 18, .int .i64 1] w fun e w' => e = .returned (.string (numB 18)) ∧ w = w' := by
  rw [numB_18]
  go_enter Tryz.func151, Tryz.ntmps151
  go_wp2
  go_loop [0, 5] (fun a s => (a = .int .i64 18 ∧ s = .string ⟨#[]⟩) ∨ (a = .int .i64 1 ∧ s = .string ⟨#[56]⟩) ∨ (a = .int .i64 0 ∧ s = .string ⟨#[49, 56]⟩)) (fun a _ => (intOf a).toNat)
  case atStart => exact .inl ⟨rfl, rfl⟩
  case round =>
    rcases hrel with ⟨rfl, rfl⟩ | ⟨rfl, rfl⟩ | ⟨rfl, rfl⟩
    · go_wp2
      go_round
      case rel => exact .inr (.inl ⟨rfl, by kernel_rfl⟩)
      case measure => simp [intOf]
    · go_wp2
      go_round
      case rel => exact .inr (.inr ⟨rfl, by kernel_rfl⟩)
      case measure => simp [intOf]
    · have hsz : (⟨#[49, 56]⟩ : ByteArray).size = 2 := rfl
      go_wp2
      go_ret
      exact ⟨rfl, rfl⟩
theorem numB_19 : numB 19 = ⟨#[49, 57]⟩ := by
  unfold numB
  rw [Lib.decDigits_two (by omega) (by omega)]
  rfl
set_option maxHeartbeats 1000000 in
theorem decimal_19 (w : World) :
    Calls Tryz.prog 151 #[.int .i64 19, .int .i64 1] w fun e w' => e = .returned (.string (numB 19)) ∧ w = w' := by
  rw [numB_19]
  go_enter Tryz.func151, Tryz.ntmps151
  go_wp2
  go_loop [0, 5] (fun a s => (a = .int .i64 19 ∧ s = .string ⟨#[]⟩) ∨ (a = .int .i64 1 ∧ s = .string ⟨#[57]⟩) ∨ (a = .int .i64 0 ∧ s = .string ⟨#[49, 57]⟩)) (fun a _ => (intOf a).toNat)
  case atStart => exact .inl ⟨rfl, rfl⟩
  case round =>
    rcases hrel with ⟨rfl, rfl⟩ | ⟨rfl, rfl⟩ | ⟨rfl, rfl⟩
    · go_wp2
      go_round
      case rel => exact .inr (.inl ⟨rfl, by kernel_rfl⟩)
      case measure => simp [intOf]
    · go_wp2
      go_round
      case rel => exact .inr (.inr ⟨rfl, by kernel_rfl⟩)
      case measure => simp [intOf]
    · have hsz : (⟨#[49, 57]⟩ : ByteArray).size = 2 := rfl
      go_wp2
      go_ret
      exact ⟨rfl, rfl⟩
theorem numB_20 : numB 20 = ⟨#[50, 48]⟩ := by
  unfold numB
  rw [Lib.decDigits_two (by omega) (by omega)]
  rfl
set_option maxHeartbeats 1000000 in
theorem decimal_20 (w : World) :
    Calls Tryz.prog 151 #[.int .i64 20, .int .i64 1] w fun e w' => e = .returned (.string (numB 20)) ∧ w = w' := by
  rw [numB_20]
  go_enter Tryz.func151, Tryz.ntmps151
  go_wp2
  go_loop [0, 5] (fun a s => (a = .int .i64 20 ∧ s = .string ⟨#[]⟩) ∨ (a = .int .i64 2 ∧ s = .string ⟨#[48]⟩) ∨ (a = .int .i64 0 ∧ s = .string ⟨#[50, 48]⟩)) (fun a _ => (intOf a).toNat)
  case atStart => exact .inl ⟨rfl, rfl⟩
  case round =>
    rcases hrel with ⟨rfl, rfl⟩ | ⟨rfl, rfl⟩ | ⟨rfl, rfl⟩
    · go_wp2
      go_round
      case rel => exact .inr (.inl ⟨rfl, by kernel_rfl⟩)
      case measure => simp [intOf]
    · go_wp2
      go_round
      case rel => exact .inr (.inr ⟨rfl, by kernel_rfl⟩)
      case measure => simp [intOf]
    · have hsz : (⟨#[50, 48]⟩ : ByteArray).size = 2 := rfl
      go_wp2
      go_ret
      exact ⟨rfl, rfl⟩
theorem numB_21 : numB 21 = ⟨#[50, 49]⟩ := by
  unfold numB
  rw [Lib.decDigits_two (by omega) (by omega)]
  rfl
set_option maxHeartbeats 1000000 in
theorem decimal_21 (w : World) :
    Calls Tryz.prog 151 #[.int .i64 21, .int .i64 1] w fun e w' => e = .returned (.string (numB 21)) ∧ w = w' := by
  rw [numB_21]
  go_enter Tryz.func151, Tryz.ntmps151
  go_wp2
  go_loop [0, 5] (fun a s => (a = .int .i64 21 ∧ s = .string ⟨#[]⟩) ∨ (a = .int .i64 2 ∧ s = .string ⟨#[49]⟩) ∨ (a = .int .i64 0 ∧ s = .string ⟨#[50, 49]⟩)) (fun a _ => (intOf a).toNat)
  case atStart => exact .inl ⟨rfl, rfl⟩
  case round =>
    rcases hrel with ⟨rfl, rfl⟩ | ⟨rfl, rfl⟩ | ⟨rfl, rfl⟩
    · go_wp2
      go_round
      case rel => exact .inr (.inl ⟨rfl, by kernel_rfl⟩)
      case measure => simp [intOf]
    · go_wp2
      go_round
      case rel => exact .inr (.inr ⟨rfl, by kernel_rfl⟩)
      case measure => simp [intOf]
    · have hsz : (⟨#[50, 49]⟩ : ByteArray).size = 2 := rfl
      go_wp2
      go_ret
      exact ⟨rfl, rfl⟩
theorem numB_22 : numB 22 = ⟨#[50, 50]⟩ := by
  unfold numB
  rw [Lib.decDigits_two (by omega) (by omega)]
  rfl
set_option maxHeartbeats 1000000 in
theorem decimal_22 (w : World) :
    Calls Tryz.prog 151 #[.int .i64 22, .int .i64 1] w fun e w' => e = .returned (.string (numB 22)) ∧ w = w' := by
  rw [numB_22]
  go_enter Tryz.func151, Tryz.ntmps151
  go_wp2
  go_loop [0, 5] (fun a s => (a = .int .i64 22 ∧ s = .string ⟨#[]⟩) ∨ (a = .int .i64 2 ∧ s = .string ⟨#[50]⟩) ∨ (a = .int .i64 0 ∧ s = .string ⟨#[50, 50]⟩)) (fun a _ => (intOf a).toNat)
  case atStart => exact .inl ⟨rfl, rfl⟩
  case round =>
    rcases hrel with ⟨rfl, rfl⟩ | ⟨rfl, rfl⟩ | ⟨rfl, rfl⟩
    · go_wp2
      go_round
      case rel => exact .inr (.inl ⟨rfl, by kernel_rfl⟩)
      case measure => simp [intOf]
    · go_wp2
      go_round
      case rel => exact .inr (.inr ⟨rfl, by kernel_rfl⟩)
      case measure => simp [intOf]
    · have hsz : (⟨#[50, 50]⟩ : ByteArray).size = 2 := rfl
      go_wp2
      go_ret
      exact ⟨rfl, rfl⟩
theorem numB_23 : numB 23 = ⟨#[50, 51]⟩ := by
  unfold numB
  rw [Lib.decDigits_two (by omega) (by omega)]
  rfl
set_option maxHeartbeats 1000000 in
theorem decimal_23 (w : World) :
    Calls Tryz.prog 151 #[.int .i64 23, .int .i64 1] w fun e w' => e = .returned (.string (numB 23)) ∧ w = w' := by
  rw [numB_23]
  go_enter Tryz.func151, Tryz.ntmps151
  go_wp2
  go_loop [0, 5] (fun a s => (a = .int .i64 23 ∧ s = .string ⟨#[]⟩) ∨ (a = .int .i64 2 ∧ s = .string ⟨#[51]⟩) ∨ (a = .int .i64 0 ∧ s = .string ⟨#[50, 51]⟩)) (fun a _ => (intOf a).toNat)
  case atStart => exact .inl ⟨rfl, rfl⟩
  case round =>
    rcases hrel with ⟨rfl, rfl⟩ | ⟨rfl, rfl⟩ | ⟨rfl, rfl⟩
    · go_wp2
      go_round
      case rel => exact .inr (.inl ⟨rfl, by kernel_rfl⟩)
      case measure => simp [intOf]
    · go_wp2
      go_round
      case rel => exact .inr (.inr ⟨rfl, by kernel_rfl⟩)
      case measure => simp [intOf]
    · have hsz : (⟨#[50, 51]⟩ : ByteArray).size = 2 := rfl
      go_wp2
      go_ret
      exact ⟨rfl, rfl⟩
theorem numB_24 : numB 24 = ⟨#[50, 52]⟩ := by
  unfold numB
  rw [Lib.decDigits_two (by omega) (by omega)]
  rfl
set_option maxHeartbeats 1000000 in
theorem decimal_24 (w : World) :
    Calls Tryz.prog 151 #[.int .i64 24, .int .i64 1] w fun e w' => e = .returned (.string (numB 24)) ∧ w = w' := by
  rw [numB_24]
  go_enter Tryz.func151, Tryz.ntmps151
  go_wp2
  go_loop [0, 5] (fun a s => (a = .int .i64 24 ∧ s = .string ⟨#[]⟩) ∨ (a = .int .i64 2 ∧ s = .string ⟨#[52]⟩) ∨ (a = .int .i64 0 ∧ s = .string ⟨#[50, 52]⟩)) (fun a _ => (intOf a).toNat)
  case atStart => exact .inl ⟨rfl, rfl⟩
  case round =>
    rcases hrel with ⟨rfl, rfl⟩ | ⟨rfl, rfl⟩ | ⟨rfl, rfl⟩
    · go_wp2
      go_round
      case rel => exact .inr (.inl ⟨rfl, by kernel_rfl⟩)
      case measure => simp [intOf]
    · go_wp2
      go_round
      case rel => exact .inr (.inr ⟨rfl, by kernel_rfl⟩)
      case measure => simp [intOf]
    · have hsz : (⟨#[50, 52]⟩ : ByteArray).size = 2 := rfl
      go_wp2
      go_ret
      exact ⟨rfl, rfl⟩
theorem numB_25 : numB 25 = ⟨#[50, 53]⟩ := by
  unfold numB
  rw [Lib.decDigits_two (by omega) (by omega)]
  rfl
set_option maxHeartbeats 1000000 in
theorem decimal_25 (w : World) :
    Calls Tryz.prog 151 #[.int .i64 25, .int .i64 1] w fun e w' => e = .returned (.string (numB 25)) ∧ w = w' := by
  rw [numB_25]
  go_enter Tryz.func151, Tryz.ntmps151
  go_wp2
  go_loop [0, 5] (fun a s => (a = .int .i64 25 ∧ s = .string ⟨#[]⟩) ∨ (a = .int .i64 2 ∧ s = .string ⟨#[53]⟩) ∨ (a = .int .i64 0 ∧ s = .string ⟨#[50, 53]⟩)) (fun a _ => (intOf a).toNat)
  case atStart => exact .inl ⟨rfl, rfl⟩
  case round =>
    rcases hrel with ⟨rfl, rfl⟩ | ⟨rfl, rfl⟩ | ⟨rfl, rfl⟩
    · go_wp2
      go_round
      case rel => exact .inr (.inl ⟨rfl, by kernel_rfl⟩)
      case measure => simp [intOf]
    · go_wp2
      go_round
      case rel => exact .inr (.inr ⟨rfl, by kernel_rfl⟩)
      case measure => simp [intOf]
    · have hsz : (⟨#[50, 53]⟩ : ByteArray).size = 2 := rfl
      go_wp2
      go_ret
      exact ⟨rfl, rfl⟩
theorem numB_26 : numB 26 = ⟨#[50, 54]⟩ := by
  unfold numB
  rw [Lib.decDigits_two (by omega) (by omega)]
  rfl
set_option maxHeartbeats 1000000 in
theorem decimal_26 (w : World) :
    Calls Tryz.prog 151 #[.int .i64 26, .int .i64 1] w fun e w' => e = .returned (.string (numB 26)) ∧ w = w' := by
  rw [numB_26]
  go_enter Tryz.func151, Tryz.ntmps151
  go_wp2
  go_loop [0, 5] (fun a s => (a = .int .i64 26 ∧ s = .string ⟨#[]⟩) ∨ (a = .int .i64 2 ∧ s = .string ⟨#[54]⟩) ∨ (a = .int .i64 0 ∧ s = .string ⟨#[50, 54]⟩)) (fun a _ => (intOf a).toNat)
  case atStart => exact .inl ⟨rfl, rfl⟩
  case round =>
    rcases hrel with ⟨rfl, rfl⟩ | ⟨rfl, rfl⟩ | ⟨rfl, rfl⟩
    · go_wp2
      go_round
      case rel => exact .inr (.inl ⟨rfl, by kernel_rfl⟩)
      case measure => simp [intOf]
    · go_wp2
      go_round
      case rel => exact .inr (.inr ⟨rfl, by kernel_rfl⟩)
      case measure => simp [intOf]
    · have hsz : (⟨#[50, 54]⟩ : ByteArray).size = 2 := rfl
      go_wp2
      go_ret
      exact ⟨rfl, rfl⟩
theorem numB_27 : numB 27 = ⟨#[50, 55]⟩ := by
  unfold numB
  rw [Lib.decDigits_two (by omega) (by omega)]
  rfl
set_option maxHeartbeats 1000000 in
theorem decimal_27 (w : World) :
    Calls Tryz.prog 151 #[.int .i64 27, .int .i64 1] w fun e w' => e = .returned (.string (numB 27)) ∧ w = w' := by
  rw [numB_27]
  go_enter Tryz.func151, Tryz.ntmps151
  go_wp2
  go_loop [0, 5] (fun a s => (a = .int .i64 27 ∧ s = .string ⟨#[]⟩) ∨ (a = .int .i64 2 ∧ s = .string ⟨#[55]⟩) ∨ (a = .int .i64 0 ∧ s = .string ⟨#[50, 55]⟩)) (fun a _ => (intOf a).toNat)
  case atStart => exact .inl ⟨rfl, rfl⟩
  case round =>
    rcases hrel with ⟨rfl, rfl⟩ | ⟨rfl, rfl⟩ | ⟨rfl, rfl⟩
    · go_wp2
      go_round
      case rel => exact .inr (.inl ⟨rfl, by kernel_rfl⟩)
      case measure => simp [intOf]
    · go_wp2
      go_round
      case rel => exact .inr (.inr ⟨rfl, by kernel_rfl⟩)
      case measure => simp [intOf]
    · have hsz : (⟨#[50, 55]⟩ : ByteArray).size = 2 := rfl
      go_wp2
      go_ret
      exact ⟨rfl, rfl⟩
theorem numB_28 : numB 28 = ⟨#[50, 56]⟩ := by
  unfold numB
  rw [Lib.decDigits_two (by omega) (by omega)]
  rfl
set_option maxHeartbeats 1000000 in
theorem decimal_28 (w : World) :
    Calls Tryz.prog 151 #[.int .i64 28, .int .i64 1] w fun e w' => e = .returned (.string (numB 28)) ∧ w = w' := by
  rw [numB_28]
  go_enter Tryz.func151, Tryz.ntmps151
  go_wp2
  go_loop [0, 5] (fun a s => (a = .int .i64 28 ∧ s = .string ⟨#[]⟩) ∨ (a = .int .i64 2 ∧ s = .string ⟨#[56]⟩) ∨ (a = .int .i64 0 ∧ s = .string ⟨#[50, 56]⟩)) (fun a _ => (intOf a).toNat)
  case atStart => exact .inl ⟨rfl, rfl⟩
  case round =>
    rcases hrel with ⟨rfl, rfl⟩ | ⟨rfl, rfl⟩ | ⟨rfl, rfl⟩
    · go_wp2
      go_round
      case rel => exact .inr (.inl ⟨rfl, by kernel_rfl⟩)
      case measure => simp [intOf]
    · go_wp2
      go_round
      case rel => exact .inr (.inr ⟨rfl, by kernel_rfl⟩)
      case measure => simp [intOf]
    · have hsz : (⟨#[50, 56]⟩ : ByteArray).size = 2 := rfl
      go_wp2
      go_ret
      exact ⟨rfl, rfl⟩
theorem numB_29 : numB 29 = ⟨#[50, 57]⟩ := by
  unfold numB
  rw [Lib.decDigits_two (by omega) (by omega)]
  rfl
set_option maxHeartbeats 1000000 in
theorem decimal_29 (w : World) :
    Calls Tryz.prog 151 #[.int .i64 29, .int .i64 1] w fun e w' => e = .returned (.string (numB 29)) ∧ w = w' := by
  rw [numB_29]
  go_enter Tryz.func151, Tryz.ntmps151
  go_wp2
  go_loop [0, 5] (fun a s => (a = .int .i64 29 ∧ s = .string ⟨#[]⟩) ∨ (a = .int .i64 2 ∧ s = .string ⟨#[57]⟩) ∨ (a = .int .i64 0 ∧ s = .string ⟨#[50, 57]⟩)) (fun a _ => (intOf a).toNat)
  case atStart => exact .inl ⟨rfl, rfl⟩
  case round =>
    rcases hrel with ⟨rfl, rfl⟩ | ⟨rfl, rfl⟩ | ⟨rfl, rfl⟩
    · go_wp2
      go_round
      case rel => exact .inr (.inl ⟨rfl, by kernel_rfl⟩)
      case measure => simp [intOf]
    · go_wp2
      go_round
      case rel => exact .inr (.inr ⟨rfl, by kernel_rfl⟩)
      case measure => simp [intOf]
    · have hsz : (⟨#[50, 57]⟩ : ByteArray).size = 2 := rfl
      go_wp2
      go_ret
      exact ⟨rfl, rfl⟩
theorem numB_30 : numB 30 = ⟨#[51, 48]⟩ := by
  unfold numB
  rw [Lib.decDigits_two (by omega) (by omega)]
  rfl
set_option maxHeartbeats 1000000 in
theorem decimal_30 (w : World) :
    Calls Tryz.prog 151 #[.int .i64 30, .int .i64 1] w fun e w' => e = .returned (.string (numB 30)) ∧ w = w' := by
  rw [numB_30]
  go_enter Tryz.func151, Tryz.ntmps151
  go_wp2
  go_loop [0, 5] (fun a s => (a = .int .i64 30 ∧ s = .string ⟨#[]⟩) ∨ (a = .int .i64 3 ∧ s = .string ⟨#[48]⟩) ∨ (a = .int .i64 0 ∧ s = .string ⟨#[51, 48]⟩)) (fun a _ => (intOf a).toNat)
  case atStart => exact .inl ⟨rfl, rfl⟩
  case round =>
    rcases hrel with ⟨rfl, rfl⟩ | ⟨rfl, rfl⟩ | ⟨rfl, rfl⟩
    · go_wp2
      go_round
      case rel => exact .inr (.inl ⟨rfl, by kernel_rfl⟩)
      case measure => simp [intOf]
    · go_wp2
      go_round
      case rel => exact .inr (.inr ⟨rfl, by kernel_rfl⟩)
      case measure => simp [intOf]
    · have hsz : (⟨#[51, 48]⟩ : ByteArray).size = 2 := rfl
      go_wp2
      go_ret
      exact ⟨rfl, rfl⟩
theorem numB_31 : numB 31 = ⟨#[51, 49]⟩ := by
  unfold numB
  rw [Lib.decDigits_two (by omega) (by omega)]
  rfl
set_option maxHeartbeats 1000000 in
theorem decimal_31 (w : World) :
    Calls Tryz.prog 151 #[.int .i64 31, .int .i64 1] w fun e w' => e = .returned (.string (numB 31)) ∧ w = w' := by
  rw [numB_31]
  go_enter Tryz.func151, Tryz.ntmps151
  go_wp2
  go_loop [0, 5] (fun a s => (a = .int .i64 31 ∧ s = .string ⟨#[]⟩) ∨ (a = .int .i64 3 ∧ s = .string ⟨#[49]⟩) ∨ (a = .int .i64 0 ∧ s = .string ⟨#[51, 49]⟩)) (fun a _ => (intOf a).toNat)
  case atStart => exact .inl ⟨rfl, rfl⟩
  case round =>
    rcases hrel with ⟨rfl, rfl⟩ | ⟨rfl, rfl⟩ | ⟨rfl, rfl⟩
    · go_wp2
      go_round
      case rel => exact .inr (.inl ⟨rfl, by kernel_rfl⟩)
      case measure => simp [intOf]
    · go_wp2
      go_round
      case rel => exact .inr (.inr ⟨rfl, by kernel_rfl⟩)
      case measure => simp [intOf]
    · have hsz : (⟨#[51, 49]⟩ : ByteArray).size = 2 := rfl
      go_wp2
      go_ret
      exact ⟨rfl, rfl⟩
theorem numB_32 : numB 32 = ⟨#[51, 50]⟩ := by
  unfold numB
  rw [Lib.decDigits_two (by omega) (by omega)]
  rfl
set_option maxHeartbeats 1000000 in
theorem decimal_32 (w : World) :
    Calls Tryz.prog 151 #[.int .i64 32, .int .i64 1] w fun e w' => e = .returned (.string (numB 32)) ∧ w = w' := by
  rw [numB_32]
  go_enter Tryz.func151, Tryz.ntmps151
  go_wp2
  go_loop [0, 5] (fun a s => (a = .int .i64 32 ∧ s = .string ⟨#[]⟩) ∨ (a = .int .i64 3 ∧ s = .string ⟨#[50]⟩) ∨ (a = .int .i64 0 ∧ s = .string ⟨#[51, 50]⟩)) (fun a _ => (intOf a).toNat)
  case atStart => exact .inl ⟨rfl, rfl⟩
  case round =>
    rcases hrel with ⟨rfl, rfl⟩ | ⟨rfl, rfl⟩ | ⟨rfl, rfl⟩
    · go_wp2
      go_round
      case rel => exact .inr (.inl ⟨rfl, by kernel_rfl⟩)
      case measure => simp [intOf]
    · go_wp2
      go_round
      case rel => exact .inr (.inr ⟨rfl, by kernel_rfl⟩)
      case measure => simp [intOf]
    · have hsz : (⟨#[51, 50]⟩ : ByteArray).size = 2 := rfl
      go_wp2
      go_ret
      exact ⟨rfl, rfl⟩
theorem numB_33 : numB 33 = ⟨#[51, 51]⟩ := by
  unfold numB
  rw [Lib.decDigits_two (by omega) (by omega)]
  rfl
set_option maxHeartbeats 1000000 in
theorem decimal_33 (w : World) :
    Calls Tryz.prog 151 #[.int .i64 33, .int .i64 1] w fun e w' => e = .returned (.string (numB 33)) ∧ w = w' := by
  rw [numB_33]
  go_enter Tryz.func151, Tryz.ntmps151
  go_wp2
  go_loop [0, 5] (fun a s => (a = .int .i64 33 ∧ s = .string ⟨#[]⟩) ∨ (a = .int .i64 3 ∧ s = .string ⟨#[51]⟩) ∨ (a = .int .i64 0 ∧ s = .string ⟨#[51, 51]⟩)) (fun a _ => (intOf a).toNat)
  case atStart => exact .inl ⟨rfl, rfl⟩
  case round =>
    rcases hrel with ⟨rfl, rfl⟩ | ⟨rfl, rfl⟩ | ⟨rfl, rfl⟩
    · go_wp2
      go_round
      case rel => exact .inr (.inl ⟨rfl, by kernel_rfl⟩)
      case measure => simp [intOf]
    · go_wp2
      go_round
      case rel => exact .inr (.inr ⟨rfl, by kernel_rfl⟩)
      case measure => simp [intOf]
    · have hsz : (⟨#[51, 51]⟩ : ByteArray).size = 2 := rfl
      go_wp2
      go_ret
      exact ⟨rfl, rfl⟩
theorem numB_34 : numB 34 = ⟨#[51, 52]⟩ := by
  unfold numB
  rw [Lib.decDigits_two (by omega) (by omega)]
  rfl
set_option maxHeartbeats 1000000 in
theorem decimal_34 (w : World) :
    Calls Tryz.prog 151 #[.int .i64 34, .int .i64 1] w fun e w' => e = .returned (.string (numB 34)) ∧ w = w' := by
  rw [numB_34]
  go_enter Tryz.func151, Tryz.ntmps151
  go_wp2
  go_loop [0, 5] (fun a s => (a = .int .i64 34 ∧ s = .string ⟨#[]⟩) ∨ (a = .int .i64 3 ∧ s = .string ⟨#[52]⟩) ∨ (a = .int .i64 0 ∧ s = .string ⟨#[51, 52]⟩)) (fun a _ => (intOf a).toNat)
  case atStart => exact .inl ⟨rfl, rfl⟩
  case round =>
    rcases hrel with ⟨rfl, rfl⟩ | ⟨rfl, rfl⟩ | ⟨rfl, rfl⟩
    · go_wp2
      go_round
      case rel => exact .inr (.inl ⟨rfl, by kernel_rfl⟩)
      case measure => simp [intOf]
    · go_wp2
      go_round
      case rel => exact .inr (.inr ⟨rfl, by kernel_rfl⟩)
      case measure => simp [intOf]
    · have hsz : (⟨#[51, 52]⟩ : ByteArray).size = 2 := rfl
      go_wp2
      go_ret
      exact ⟨rfl, rfl⟩
theorem numB_35 : numB 35 = ⟨#[51, 53]⟩ := by
  unfold numB
  rw [Lib.decDigits_two (by omega) (by omega)]
  rfl
set_option maxHeartbeats 1000000 in
theorem decimal_35 (w : World) :
    Calls Tryz.prog 151 #[.int .i64 35, .int .i64 1] w fun e w' => e = .returned (.string (numB 35)) ∧ w = w' := by
  rw [numB_35]
  go_enter Tryz.func151, Tryz.ntmps151
  go_wp2
  go_loop [0, 5] (fun a s => (a = .int .i64 35 ∧ s = .string ⟨#[]⟩) ∨ (a = .int .i64 3 ∧ s = .string ⟨#[53]⟩) ∨ (a = .int .i64 0 ∧ s = .string ⟨#[51, 53]⟩)) (fun a _ => (intOf a).toNat)
  case atStart => exact .inl ⟨rfl, rfl⟩
  case round =>
    rcases hrel with ⟨rfl, rfl⟩ | ⟨rfl, rfl⟩ | ⟨rfl, rfl⟩
    · go_wp2
      go_round
      case rel => exact .inr (.inl ⟨rfl, by kernel_rfl⟩)
      case measure => simp [intOf]
    · go_wp2
      go_round
      case rel => exact .inr (.inr ⟨rfl, by kernel_rfl⟩)
      case measure => simp [intOf]
    · have hsz : (⟨#[51, 53]⟩ : ByteArray).size = 2 := rfl
      go_wp2
      go_ret
      exact ⟨rfl, rfl⟩
theorem numB_36 : numB 36 = ⟨#[51, 54]⟩ := by
  unfold numB
  rw [Lib.decDigits_two (by omega) (by omega)]
  rfl
set_option maxHeartbeats 1000000 in
theorem decimal_36 (w : World) :
    Calls Tryz.prog 151 #[.int .i64 36, .int .i64 1] w fun e w' => e = .returned (.string (numB 36)) ∧ w = w' := by
  rw [numB_36]
  go_enter Tryz.func151, Tryz.ntmps151
  go_wp2
  go_loop [0, 5] (fun a s => (a = .int .i64 36 ∧ s = .string ⟨#[]⟩) ∨ (a = .int .i64 3 ∧ s = .string ⟨#[54]⟩) ∨ (a = .int .i64 0 ∧ s = .string ⟨#[51, 54]⟩)) (fun a _ => (intOf a).toNat)
  case atStart => exact .inl ⟨rfl, rfl⟩
  case round =>
    rcases hrel with ⟨rfl, rfl⟩ | ⟨rfl, rfl⟩ | ⟨rfl, rfl⟩
    · go_wp2
      go_round
      case rel => exact .inr (.inl ⟨rfl, by kernel_rfl⟩)
      case measure => simp [intOf]
    · go_wp2
      go_round
      case rel => exact .inr (.inr ⟨rfl, by kernel_rfl⟩)
      case measure => simp [intOf]
    · have hsz : (⟨#[51, 54]⟩ : ByteArray).size = 2 := rfl
      go_wp2
      go_ret
      exact ⟨rfl, rfl⟩
theorem decimal_small (w : World) : ∀ n : Nat, 1 ≤ n → n ≤ 36 → Calls Tryz.prog 151 #[.int .i64 (n : Int), .int .i64 1] w fun e w' => e = .returned (.string (numB n)) ∧ w = w'
  | 0, h, _ => absurd h (by omega)
  | 1, _, _ => decimal_1 w
  | 2, _, _ => decimal_2 w
  | 3, _, _ => decimal_3 w
  | 4, _, _ => decimal_4 w
  | 5, _, _ => decimal_5 w
  | 6, _, _ => decimal_6 w
  | 7, _, _ => decimal_7 w
  | 8, _, _ => decimal_8 w
  | 9, _, _ => decimal_9 w
  | 10, _, _ => decimal_10 w
  | 11, _, _ => decimal_11 w
  | 12, _, _ => decimal_12 w
  | 13, _, _ => decimal_13 w
  | 14, _, _ => decimal_14 w
  | 15, _, _ => decimal_15 w
  | 16, _, _ => decimal_16 w
  | 17, _, _ => decimal_17 w
  | 18, _, _ => decimal_18 w
  | 19, _, _ => decimal_19 w
  | 20, _, _ => decimal_20 w
  | 21, _, _ => decimal_21 w
  | 22, _, _ => decimal_22 w
  | 23, _, _ => decimal_23 w
  | 24, _, _ => decimal_24 w
  | 25, _, _ => decimal_25 w
  | 26, _, _ => decimal_26 w
  | 27, _, _ => decimal_27 w
  | 28, _, _ => decimal_28 w
  | 29, _, _ => decimal_29 w
  | 30, _, _ => decimal_30 w
  | 31, _, _ => decimal_31 w
  | 32, _, _ => decimal_32 w
  | 33, _, _ => decimal_33 w
  | 34, _, _ => decimal_34 w
  | 35, _, _ => decimal_35 w
  | 36, _, _ => decimal_36 w
  | n + 37, _, h => absurd h (by omega)
set_option maxHeartbeats 1000000 in
theorem trim_sm (g c : Nat) (n : Int) (w : World) (hn : n ≠ 0) (hc : w.cell? ⟨g, 0, none⟩ = some (.int .i64 n)) :
    Calls Tryz.prog 172 #[.slice (some ⟨g, 0, none⟩) 1 c] w fun e w' => e = .returned (.slice (some ⟨g, 0, none⟩) 1 c) ∧ w = w' := by
  have hb : (n == 0) = false := beq_eq_false_iff_ne.2 hn
  have HN := Lib.hid hn
  clear hn
  go_enter Tryz.func172, Tryz.ntmps172
  go_wp2
  go_loop [0] (fun i => i = .slice (some ⟨g, 0, none⟩) 1 c) (fun _ => 0)
  case atStart => rfl
  case round =>
    subst hrel
    go_wp2
    go_ret
    exact ⟨rfl, rfl⟩

set_option maxHeartbeats 1000000 in
theorem signed_sm (g c : Nat) (n : Int) (w : World) (hn : n ≠ 0) (hc : w.cell? ⟨g, 0, none⟩ = some (.int .i64 n)) :
    Calls Tryz.prog 152 #[.bool false, .slice (some ⟨g, 0, none⟩) 1 c] w fun e w' => e = .returned (.agg #[.bool false, .slice (some ⟨g, 0, none⟩) 1 c]) ∧ Below w.heap.size w w' := by
  have HT := Lib.hid (trim_sm g c n)
  have HN := Lib.hid hn
  have hb := World.block_lt_of_cell? w _ hc
  have HC := Lib.hid ((World.cell?_alloc_lt w (.cells #[.bool false, .slice none 0 0] 186) ⟨g, 0, none⟩ hb).trans hc)
  clear hn hc
  go_enter Tryz.func152, Tryz.ntmps152
  go_wp2_with fail
  refine (HT.out _ HN.out HC.out).mono ?_; rintro e w1 ⟨rfl, rfl⟩
  go_wp2
  refine bodyPost_ret (v := .agg #[.bool false, .slice (some ⟨g, 0, none⟩) 1 c]) (by simp [results, Tryz.results152, go_sem]) rfl ⟨rfl, ?_⟩
  exact (Below.refl _ _).alloc (Nat.le_refl _) _

set_option maxRecDepth 100000 in
set_option maxHeartbeats 1000000 in
theorem whole_small (n : Nat) (h1 : 1 ≤ n) (h2 : n ≤ 36) (w : World) :
    Calls Tryz.prog 138 #[.int .i64 (n : Int)] w fun e w' => ∃ g c, e = .returned (.agg #[.bool false, .slice (some ⟨g, 0, none⟩) 1 c]) ∧ w'.cell? ⟨g, 0, none⟩ = some (.int .i64 (n : Int)) ∧ Below w.heap.size w w' := by
  obtain ⟨i0, hi, hz0, hz1, hz2⟩ := info_parts info_int
  have hn0 : ((n : Int) != 0) = true := by rw [bne_iff_ne]; omega
  have hd : (n : Int) / 1000000000 = 0 := by omega
  have hm : (n : Int) % 1000000000 = (n : Int) := by omega
  have HD := Lib.hid hd
  have HM := Lib.hid hm
  clear hd hm
  go_enter Tryz.func138, Tryz.ntmps138
  go_wp2
  obtain ⟨W, hW⟩ : ∃ W, w.alloc (.cells #[.bool false, .slice none 0 0] 186) = W := ⟨_, rfl⟩
  have hs : W.heap.size = w.heap.size + 1 := by rw [← hW]; simp
  have HBW : Hid (Below w.heap.size w W) := by rw [← hW]; exact Lib.hid ((Below.refl _ _).alloc (Nat.le_refl _) _)
  have HBK : Hid (BlkV W w.heap.size 186 #[.bool false, .slice none 0 0]) := by rw [← hW]; exact Lib.hid (BlkV.new _ _ _)
  rw [hW]
  clear hW
  go_loopw [0, 3] (fun a v wr => (a = .int .i64 n ∧ v = .slice none 0 0 ∧ wr = W) ∨ (a = .int .i64 0 ∧ ∃ g c, v = .slice (some ⟨g, 0, none⟩) 1 c ∧ wr.cell? ⟨g, 0, none⟩ = some (.int .i64 (n : Int)) ∧ Below W.heap.size W wr)) (fun a _ _ => (intOf a).toNat)
  case atStart => exact .inl ⟨rfl, rfl, rfl⟩
  case round =>
    rcases hrel with ⟨rfl, rfl, rfl⟩ | ⟨rfl, g, c, rfl, hc, hb⟩
    · go_wp2
      go_roundw
      case rel =>
        refine .inr ⟨by rw [HD.out], _, _, rfl, ?_, ((Below.refl _ _).alloc (Nat.le_refl _) _).alloc (by simp) _ |>.drew⟩
        have h3 := heap_alloc_new (wr.alloc (.cells #[.int .i64 ((n : Int) % 1000000000)] 3)) (.cells (#[Value.int .i64 ((n : Int) % 1000000000)] ++ Builtin.zeroCells #[Value.int .i64 0] ((Question.appendCap 1 0 3).cut (wr.tape wr.drawn (Question.appendCap 1 0 3)) - 1)) 3)
        rw [World.size_alloc, hs] at h3
        have h4 := cell_of_row _ _ 0 _ _ _ h3
        refine Eq.trans (b := _) h4 ?_
        rw [Array.getElem?_append_left (by simp)]
        simp [HM.out]
      case measure => simp [intOf]; omega
    · have HB := Lib.hid hb
      have HC := Lib.hid hc
      have hsz := hb.size
      clear hb hc
      go_wp2_with fail
      refine (signed_sm g c n _ (by omega) HC.out).mono ?_
      rintro e w1 ⟨rfl, hb1⟩
      have HB2 : Hid (Below W.heap.size W w1) := Lib.hid (HB.out.trans (hb1.mono HB.out.size))
      have HK1 := Lib.hid (HBK.out.below HB2.out (by omega))
      have k0 := HK1.out.cell 0
      have k1 := HK1.out.cell 1
      have kf0 := HK1.out.frozen 0
      have kf1 := HK1.out.frozen 1
      simp only [List.getElem?_toArray, List.getElem?_cons_succ, List.getElem?_cons_zero] at k0 k1
      have HC1 : Hid (w1.cell? ⟨g, 0, none⟩ = some (.int .i64 (n : Int))) := (hb1.cell (p := ⟨g, 0, none⟩) (World.block_lt_of_cell? _ _ HC.out)).trans HC.out
      have HNE : Hid (w.heap.size ≠ g) := fun e => by
        have h1 := HC1.out
        rw [← e, k0] at h1
        cases h1
      clear hb1
      go_wp2
      refine bodyPost_ret (v := .agg #[.bool false, .slice (some ⟨g, 0, none⟩) 1 c]) (by simp [results, Tryz.results138, go_sem, k0, k1]) rfl ⟨g, c, rfl, ?_, ?_⟩
      · exact ((World.cell?_setCell_other _ _ _ _ (fun e => HNE.out (congrArg Addr.block e))).trans ((World.cell?_setCell_other _ _ _ _ (fun e => HNE.out (congrArg Addr.block e))).trans HC1.out))
      · exact ((HBW.out.trans (HB2.out.mono HBW.out.size)).setCell (Nat.le_refl _) _).setCell (Nat.le_refl _) _

set_option maxHeartbeats 1000000 in
theorem text_small (n g c : Nat) (h1 : 1 ≤ n) (h2 : n ≤ 36) (w : World) (hc : w.cell? ⟨g, 0, none⟩ = some (.int .i64 (n : Int))) :
    Calls Tryz.prog 137 #[.agg #[.bool false, .slice (some ⟨g, 0, none⟩) 1 c]] w fun e w' => e = .returned (.string (numB n)) ∧ Below w.heap.size w w' := by
  have hc' := (World.cell?_alloc_lt w (.cells #[.bool false, .slice (some ⟨g, 0, none⟩) 1 c] 186) ⟨g, 0, none⟩ (World.block_lt_of_cell? w _ hc)).trans hc
  clear hc
  go_enter Tryz.func137, Tryz.ntmps137
  go_wp2_with fail
  refine (decimal_small _ n h1 h2).mono ?_; rintro e w1 ⟨rfl, rfl⟩
  go_wp2
  go_loop [3, 4] (fun s i => s = .string (numB n) ∧ i = .int .i64 (-1)) (fun _ _ => 0)
  case atStart => exact ⟨rfl, rfl⟩
  case round =>
    obtain ⟨rfl, rfl⟩ := hrel
    go_wp2
    go_ret
    exact ⟨rfl, (Below.refl _ _).alloc (Nat.le_refl _) _⟩

set_option maxHeartbeats 1000000 in
theorem fromInt_small (n : Nat) (h1 : 1 ≤ n) (h2 : n ≤ 36) (w : World) :
    Calls Tryz.prog 92 #[.int .i64 (n : Int)] w fun e w' => e = .returned (.string (numB n)) ∧ Below w.heap.size w w' := by
  go_enter Tryz.func92, Tryz.ntmps92
  go_wp2_with fail
  refine (whole_small n h1 h2 _).mono ?_; rintro e w1 ⟨g, c, rfl, hc, hb1⟩
  have HC := Lib.hid hc
  have HB1 := Lib.hid hb1
  clear hc hb1
  go_wp2_with fail
  refine (text_small n g c h1 h2 _ HC.out).mono ?_; rintro e w2 ⟨rfl, hb2⟩
  have HB2 := Lib.hid hb2
  clear hb2
  go_wp2
  go_ret
  exact ⟨rfl, HB1.out.trans (HB2.out.mono HB1.out.size)⟩


set_option maxHeartbeats 1000000 in
theorem refText_small (n : Nat) (h1 : 1 ≤ n) (h2 : n ≤ 36) (w : World) :
    Calls Tryz.prog 53 #[.int .i64 (n : Int)] w fun e w' => e = .returned (.string (numB n)) ∧ Below w.heap.size w w' := by
  go_enter Tryz.func53, Tryz.ntmps53
  go_wp2_with fail
  refine (fromInt_small n h1 h2 _).mono ?_; rintro e w1 ⟨rfl, hb1⟩
  have HB1 := Lib.hid hb1
  clear hb1
  go_wp2
  go_ret
  exact ⟨rfl, HB1.out⟩

set_option maxRecDepth 100000 in
set_option maxHeartbeats 2000000 in
theorem refDesc_pz (u : Int) (o : Bool) (w : World) (m : Nat) (hm : m ≤ 36) (hu : 0 < u) (hmu : u.natAbs = m) :
    Calls Tryz.prog 18 #[.agg #[.int .i64 u, .int .i64 0, .bool o]] w fun e w' => e = .returned (.string (((⟨#[102, 105, 114, 115, 116, 32]⟩ : ByteArray) ++ numB m) ++ (⟨#[32, 117, 112]⟩ : ByteArray))) ∧ Below w.heap.size w w' := by
  have HB0 := Lib.hid ((Below.refl w.heap.size w).alloc (Nat.le_refl _) (.cells #[.int .i64 u, .int .i64 0, .bool o] 43))
  have hw0 : IntKind.i64.wrap (0 - u) = -u := by rw [IntWalk.i64_in _ (by omega)]; omega
  have hmx : max u (-u) = (m : Int) := by omega
  have hub : (u == 0) = false := by rw [beq_eq_false_iff_ne]; omega
  have HM := Lib.hid (fun W => refText_small m (by omega) hm W)
  have hz1 := numB_size m (by omega)
  generalize numB m = dm at HM hz1 ⊢
  go_enter Tryz.func18, Tryz.ntmps18
  go_wp2_with fail
  refine (HM.out _).mono ?_; rintro e w1 ⟨rfl, hb1⟩
  have HB1 := Lib.hid (HB0.out.trans (hb1.mono HB0.out.size))
  have HX1 := Lib.hid ((BlkV.new w _ _).below hb1 (by simp) : BlkV w1 w.heap.size 43 #[.int .i64 u, .int .i64 0, .bool o])
  have k0 := HX1.out.cell 0
  have k1 := HX1.out.cell 1
  simp only [List.getElem?_toArray, List.getElem?_cons_zero, List.getElem?_cons_succ] at k0 k1
  clear hb1
  go_wp2
  go_ret
  exact ⟨rfl, HB1.out⟩

set_option maxRecDepth 100000 in
set_option maxHeartbeats 2000000 in
theorem refDesc_pn (u t : Int) (o : Bool) (w : World) (m k : Nat) (hm : m ≤ 36) (hk : k ≤ 36) (hu : 0 < u) (hmu : u.natAbs = m) (ht : 0 < t) (htk0 : t = (k : Int)) :
    Calls Tryz.prog 18 #[.agg #[.int .i64 u, .int .i64 (k : Int), .bool o]] w fun e w' => e = .returned (.string ((((⟨#[102, 105, 114, 115, 116, 32]⟩ : ByteArray) ++ numB m) ++ (⟨#[32, 97, 110, 100, 32]⟩ : ByteArray)) ++ numB k)) ∧ Below w.heap.size w w' := by
  have HB0 := Lib.hid ((Below.refl w.heap.size w).alloc (Nat.le_refl _) (.cells #[.int .i64 u, .int .i64 (k : Int), .bool o] 43))
  have hw0 : IntKind.i64.wrap (0 - u) = -u := by rw [IntWalk.i64_in _ (by omega)]; omega
  have hmx : max u (-u) = (m : Int) := by omega
  have hub : (u == 0) = false := by rw [beq_eq_false_iff_ne]; omega
  have HM := Lib.hid (fun W => refText_small m (by omega) hm W)
  have hz1 := numB_size m (by omega)
  generalize numB m = dm at HM hz1 ⊢
  have HK := Lib.hid (fun W => refText_small k (by omega) hk W)
  have hz2 := numB_size k (by omega)
  have htb : ((k : Int) == 0) = false := by rw [beq_eq_false_iff_ne]; omega
  generalize numB k = dk at HK hz2 ⊢
  go_enter Tryz.func18, Tryz.ntmps18
  go_wp2_with fail
  refine (HM.out _).mono ?_; rintro e w1 ⟨rfl, hb1⟩
  have HB1 := Lib.hid (HB0.out.trans (hb1.mono HB0.out.size))
  have HX1 := Lib.hid ((BlkV.new w _ _).below hb1 (by simp) : BlkV w1 w.heap.size 43 #[.int .i64 u, .int .i64 (k : Int), .bool o])
  have k0 := HX1.out.cell 0
  have k1 := HX1.out.cell 1
  simp only [List.getElem?_toArray, List.getElem?_cons_zero, List.getElem?_cons_succ] at k0 k1
  clear hb1
  go_wp2_with fail
  refine (HK.out _).mono ?_; rintro e w2 ⟨rfl, hb2⟩
  have HB2 := Lib.hid (HB1.out.trans (hb2.mono HB1.out.size))
  have HX2 := Lib.hid (HX1.out.below hb2 HX1.out.lt : BlkV w2 w.heap.size 43 #[.int .i64 u, .int .i64 (k : Int), .bool o])
  have k0 := HX2.out.cell 0
  have k1 := HX2.out.cell 1
  simp only [List.getElem?_toArray, List.getElem?_cons_zero, List.getElem?_cons_succ] at k0 k1
  clear hb2
  go_wp2
  go_ret
  exact ⟨rfl, HB2.out⟩

set_option maxRecDepth 100000 in
set_option maxHeartbeats 2000000 in
theorem refDesc_nz (u : Int) (o : Bool) (w : World) (m : Nat) (hm : m ≤ 36) (hu : u < 0) (hmu : u.natAbs = m) :
    Calls Tryz.prog 18 #[.agg #[.int .i64 u, .int .i64 0, .bool o]] w fun e w' => e = .returned (.string (((⟨#[115, 101, 99, 111, 110, 100, 32]⟩ : ByteArray) ++ numB m) ++ (⟨#[32, 117, 112]⟩ : ByteArray))) ∧ Below w.heap.size w w' := by
  have HB0 := Lib.hid ((Below.refl w.heap.size w).alloc (Nat.le_refl _) (.cells #[.int .i64 u, .int .i64 0, .bool o] 43))
  have hw0 : IntKind.i64.wrap (0 - u) = -u := by rw [IntWalk.i64_in _ (by omega)]; omega
  have hmx : max u (-u) = (m : Int) := by omega
  have hub : (u == 0) = false := by rw [beq_eq_false_iff_ne]; omega
  have HM := Lib.hid (fun W => refText_small m (by omega) hm W)
  have hz1 := numB_size m (by omega)
  generalize numB m = dm at HM hz1 ⊢
  go_enter Tryz.func18, Tryz.ntmps18
  go_wp2_with fail
  refine (HM.out _).mono ?_; rintro e w1 ⟨rfl, hb1⟩
  have HB1 := Lib.hid (HB0.out.trans (hb1.mono HB0.out.size))
  have HX1 := Lib.hid ((BlkV.new w _ _).below hb1 (by simp) : BlkV w1 w.heap.size 43 #[.int .i64 u, .int .i64 0, .bool o])
  have k0 := HX1.out.cell 0
  have k1 := HX1.out.cell 1
  simp only [List.getElem?_toArray, List.getElem?_cons_zero, List.getElem?_cons_succ] at k0 k1
  clear hb1
  go_wp2
  go_ret
  exact ⟨rfl, HB1.out⟩

set_option maxRecDepth 100000 in
set_option maxHeartbeats 2000000 in
theorem refDesc_nn (u t : Int) (o : Bool) (w : World) (m k : Nat) (hm : m ≤ 36) (hk : k ≤ 36) (hu : u < 0) (hmu : u.natAbs = m) (ht : 0 < t) (htk0 : t = (k : Int)) :
    Calls Tryz.prog 18 #[.agg #[.int .i64 u, .int .i64 (k : Int), .bool o]] w fun e w' => e = .returned (.string ((((⟨#[115, 101, 99, 111, 110, 100, 32]⟩ : ByteArray) ++ numB m) ++ (⟨#[32, 97, 110, 100, 32]⟩ : ByteArray)) ++ numB k)) ∧ Below w.heap.size w w' := by
  have HB0 := Lib.hid ((Below.refl w.heap.size w).alloc (Nat.le_refl _) (.cells #[.int .i64 u, .int .i64 (k : Int), .bool o] 43))
  have hw0 : IntKind.i64.wrap (0 - u) = -u := by rw [IntWalk.i64_in _ (by omega)]; omega
  have hmx : max u (-u) = (m : Int) := by omega
  have hub : (u == 0) = false := by rw [beq_eq_false_iff_ne]; omega
  have HM := Lib.hid (fun W => refText_small m (by omega) hm W)
  have hz1 := numB_size m (by omega)
  generalize numB m = dm at HM hz1 ⊢
  have HK := Lib.hid (fun W => refText_small k (by omega) hk W)
  have hz2 := numB_size k (by omega)
  have htb : ((k : Int) == 0) = false := by rw [beq_eq_false_iff_ne]; omega
  generalize numB k = dk at HK hz2 ⊢
  go_enter Tryz.func18, Tryz.ntmps18
  go_wp2_with fail
  refine (HM.out _).mono ?_; rintro e w1 ⟨rfl, hb1⟩
  have HB1 := Lib.hid (HB0.out.trans (hb1.mono HB0.out.size))
  have HX1 := Lib.hid ((BlkV.new w _ _).below hb1 (by simp) : BlkV w1 w.heap.size 43 #[.int .i64 u, .int .i64 (k : Int), .bool o])
  have k0 := HX1.out.cell 0
  have k1 := HX1.out.cell 1
  simp only [List.getElem?_toArray, List.getElem?_cons_zero, List.getElem?_cons_succ] at k0 k1
  clear hb1
  go_wp2_with fail
  refine (HK.out _).mono ?_; rintro e w2 ⟨rfl, hb2⟩
  have HB2 := Lib.hid (HB1.out.trans (hb2.mono HB1.out.size))
  have HX2 := Lib.hid (HX1.out.below hb2 HX1.out.lt : BlkV w2 w.heap.size 43 #[.int .i64 u, .int .i64 (k : Int), .bool o])
  have k0 := HX2.out.cell 0
  have k1 := HX2.out.cell 1
  simp only [List.getElem?_toArray, List.getElem?_cons_zero, List.getElem?_cons_succ] at k0 k1
  clear hb2
  go_wp2
  go_ret
  exact ⟨rfl, HB2.out⟩

set_option maxRecDepth 100000 in
set_option maxHeartbeats 1000000 in
theorem refDesc_zero (t : Int) (o : Bool) (w : World) :
    Calls Tryz.prog 18 #[.agg #[.int .i64 0, .int .i64 t, .bool o]] w fun e w' => e = .returned (.string ⟨#[104, 97, 108, 118, 101, 100]⟩) ∧ Below w.heap.size w w' := by
  go_enter Tryz.func18, Tryz.ntmps18
  go_wp2
  go_ret
  exact ⟨rfl, (Below.refl _ _).alloc (Nat.le_refl _) _⟩

theorem refDesc_any (u t : Int) (o : Bool) (w : World) (hu : -36 ≤ u ∧ u ≤ 36) (ht : 0 ≤ t ∧ t ≤ 36) :
    Calls Tryz.prog 18 #[.agg #[.int .i64 u, .int .i64 t, .bool o]] w fun e w' => e = .returned (.string (wordsB u t)) ∧ Below w.heap.size w w' := by
  unfold wordsB
  by_cases h0 : u = 0
  · subst h0; rw [if_pos rfl]; exact refDesc_zero t o w
  · rw [if_neg h0]
    by_cases hs : u < 0
    · have hw : winB u = ⟨#[115, 101, 99, 111, 110, 100, 32]⟩ := by unfold winB; rw [if_pos hs]
      rw [hw]
      by_cases hz : t = 0
      · rw [if_pos hz]
        subst hz
        exact refDesc_nz u o w u.natAbs (by omega) hs rfl
      · rw [if_neg hz]
        have := refDesc_nn u t o w u.natAbs t.toNat (by omega) (by omega) hs rfl (by omega) (by omega)
        rwa [show ((t.toNat : Nat) : Int) = t by omega] at this
    · have hw : winB u = ⟨#[102, 105, 114, 115, 116, 32]⟩ := by unfold winB; rw [if_neg hs]
      rw [hw]
      by_cases hz : t = 0
      · rw [if_pos hz]
        subst hz
        exact refDesc_pz u o w u.natAbs (by omega) (by omega) rfl
      · rw [if_neg hz]
        have := refDesc_pn u t o w u.natAbs t.toNat (by omega) (by omega) (by omega) rfl (by omega) (by omega)
        rwa [show ((t.toNat : Nat) : Int) = t by omega] at this
end Go.Proofs.YtkhhkicfeaeddaaGreatDoor
