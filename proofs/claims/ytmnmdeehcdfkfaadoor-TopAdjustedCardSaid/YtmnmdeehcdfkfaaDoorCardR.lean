/- The reference's CheckCard returns cardI. -/
import Derived.Test.YtmnmdeehcdfkfaaDoorCardG
namespace Go.Proofs.YtmnmdeehcdfkfaaDoor
open Go.RowKit

theorem add_block (a : Addr) (n : Nat) : (a.add n).block = a.block := by unfold Addr.add; split <;> rfl

theorem HolesR.keep {w w' : World} {A : Option Addr} {hs : List (Int × Int)} {B : Nat} (h : HolesR w A hs) (hbl : ∀ a, A = some a → a.block < B) (hb : Below B w w') : HolesR w' A hs := fun j hj => by
  obtain ⟨a, rfl, h0, h1⟩ := h j hj
  have hab : (a.add (j * 2)).block < B := by rw [add_block]; exact hbl a rfl
  exact ⟨a, rfl, (hb.cell hab).trans h0, (hb.cell (p := ⟨_, _, none⟩) hab).trans h1⟩

theorem EntriesR.keep {w w' : World} {A : Option Addr} {l : List (Int × ByteArray)} (h : EntriesR w A l) (hb : Below w.heap.size w w') : EntriesR w' A l := fun j hj => by
  obtain ⟨a, rfl, h0, h1, h2⟩ := h j hj
  exact ⟨a, rfl, (hb.cell h2).trans h0, (hb.cell (p := ⟨_, _, none⟩) h2).trans h1, Nat.lt_of_lt_of_le h2 hb.size⟩

def cardI (hs : List (Int × Int)) (player : ByteArray) (l : List (Int × ByteArray)) : Int :=
  firstI [holesI hs, unlessI (nameB player) 8, pairedI l.length hs.length, entriesI l]

set_option maxRecDepth 100000 in
set_option maxHeartbeats 2000000 in
theorem refCheckCard_any (A B : Option Addr) (c d : Nat) (hs : List (Int × Int)) (player : ByteArray) (l : List (Int × ByteArray)) (w : World) (hr : HolesR w A hs) (hbl : ∀ a, A = some a → a.block < w.heap.size)
    (hl : hs.length ≤ 4611686018427387904) (he : EntriesR w B l) (hl2 : l.length ≤ 4611686018427387904) :
    Calls Tryd.prog 5 #[.slice A hs.length c, .agg #[.string player, .slice B l.length d]] w fun e w' => e = .returned (.int .i64 (cardI hs player l)) ∧ Below w.heap.size w w' := by
  have box := fun o => (Below.refl w.heap.size w).alloc (Nat.le_refl _) o
  have HR := Lib.hid (fun o => hr.keep hbl (box o))
  have HE := Lib.hid he
  clear hr he
  by_cases h1 : holesI hs = 0
  · have b1 : (holesI hs == 0) = true := by rw [h1]; rfl
    have H1 := Lib.hid h1
    clear h1
    cases h2 : nameB player
    · go_enter Tryd.func5, Tryd.ntmps5
      go_wp2_with fail
      refine (refCheckHoles_any _ _ hs _ (HR.out _)).mono ?_; rintro e w1 ⟨rfl, nq, rfl⟩
      go_wp2_with fail
      refine (refIsName_any _ _).mono ?_; rintro e w2 ⟨rfl, rfl⟩
      go_wp2
      go_ret
      refine ⟨?_, below_drewN ((Below.refl _ _).alloc (Nat.le_refl _) _) _⟩
      unfold cardI
      simp only [firstI, H1.out, h2]
      rfl
    · by_cases h3 : l.length = hs.length
      · have b3 : ((l.length : Int) != (hs.length : Int)) = false := by rw [h3]; simp
        have H3 := Lib.hid h3
        clear h3
        go_enter Tryd.func5, Tryd.ntmps5
        go_wp2_with fail
        refine (refCheckHoles_any _ _ hs _ (HR.out _)).mono ?_; rintro e w1 ⟨rfl, nq, rfl⟩
        go_wp2_with fail
        refine (refIsName_any _ _).mono ?_; rintro e w2 ⟨rfl, rfl⟩
        go_wp2_with fail
        refine (refCheckEntries_any _ _ l _ hl2 (HE.out.keep (below_drewN ((Below.refl _ _).alloc (Nat.le_refl _) _) _))).mono ?_; rintro e w2 ⟨rfl, hb2⟩
        go_wp2
        go_ret
        refine ⟨?_, (below_drewN ((Below.refl _ _).alloc (Nat.le_refl _) _) _).trans (hb2.mono (by simp))⟩
        unfold cardI
        simp only [firstI, H1.out, h2, pairedI, H3.out, unlessI]
        simp
      · have b3 : ((l.length : Int) != (hs.length : Int)) = true := by rw [bne_iff_ne]; omega
        have H3 := Lib.hid h3
        clear h3
        go_enter Tryd.func5, Tryd.ntmps5
        go_wp2_with fail
        refine (refCheckHoles_any _ _ hs _ (HR.out _)).mono ?_; rintro e w1 ⟨rfl, nq, rfl⟩
        go_wp2_with fail
        refine (refIsName_any _ _).mono ?_; rintro e w2 ⟨rfl, rfl⟩
        go_wp2
        go_ret
        refine ⟨?_, below_drewN ((Below.refl _ _).alloc (Nat.le_refl _) _) _⟩
        unfold cardI
        simp only [firstI, H1.out, h2, pairedI, if_neg H3.out, unlessI]
        rfl
  · have b1 : (holesI hs == 0) = false := beq_eq_false_iff_ne.2 h1
    have H1 := Lib.hid h1
    clear h1
    go_enter Tryd.func5, Tryd.ntmps5
    go_wp2_with fail
    refine (refCheckHoles_any _ _ hs _ (HR.out _)).mono ?_; rintro e w1 ⟨rfl, nq, rfl⟩
    go_wp2
    go_ret
    refine ⟨?_, below_drewN ((Below.refl _ _).alloc (Nat.le_refl _) _) _⟩
    unfold cardI
    simp only [firstI, if_neg H1.out]
    rfl

end Go.Proofs.YtmnmdeehcdfkfaaDoor
