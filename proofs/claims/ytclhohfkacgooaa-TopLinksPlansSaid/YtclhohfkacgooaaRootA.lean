/- Root of 25 is 5. -/
import Derived.Test.YtclhohfkacgooaaCourA
import Derived.Test.YtclhohfkacgooaaShelf
namespace Go.Proofs.Ytclhohfkacgooaa
open Go.RowKit

theorem len25 (w : World) : Calls Try.prog 27 #[.int .u64 25] w fun e w' => e = .returned (.int .i64 5) ∧ w = w' :=
  (Try.bits_Len 25 w (by decide) (by decide)).mono fun e w' ⟨h1, h2⟩ => ⟨h1.trans (by rw [show Lib.bitLen (Int.toNat 25) = 5 from by decide]; rfl), h2.symm⟩

set_option maxHeartbeats 1000000 in
theorem root25 (w : World) : Calls Try.prog 13 #[.int .i64 25] w fun e w' => e = .returned (.tuple #[.int .i64 5, .int .i64 0]) ∧ w = w' := by
  go_enter Try.func13, Try.ntmps13
  go_wp2_with (go_at_call 27; refine (len25 _).mono ?_; rintro e w' ⟨rfl, rfl⟩)
  go_loop [4] (fun i => i = .int .i64 8 ∨ i = .int .i64 5) (fun i => (intOf i).toNat)
  case atStart => exact .inl rfl
  case round =>
    rcases hrel with rfl | rfl
    · go_wp2
      go_round
      case rel => exact .inr rfl
      case measure => simp [intOf]
    · go_wp2
      go_ret2
      exact ⟨rfl, rfl⟩

end Go.Proofs.Ytclhohfkacgooaa
