/- whole, Gross, Score. -/
import Derived.Test.YtmnmdeehcdfkfaaDoorFrmI
namespace Go.Proofs.YtmnmdeehcdfkfaaDoor
open Go.RowKit

/-- A score, where all holes count. -/
def wholeR (nl : List (Int × ByteArray)) (s : Int) : Int × Int := if allCount nl then (s, 0) else (0, 7)
def grossR (hs : List (Int × Int)) (nm : ByteArray) (l : List (Int × ByteArray)) (h : Int) : Int × Int := if playerI hs nm l h = 0 then wholeR (netsOf hs h l) (sumS l) else (0, playerI hs nm l h)
def scoreR (hs : List (Int × Int)) (nm : ByteArray) (l : List (Int × ByteArray)) (h : Int) : Int × Int := if playerI hs nm l h = 0 then wholeR (netsOf hs h l) (sumS (netsOf hs h l)) else (0, playerI hs nm l h)

set_option maxRecDepth 100000 in
set_option maxHeartbeats 1000000 in
theorem wholeGross_any (A B : Option Addr) (c d : Nat) (l nl : List (Int × ByteArray)) (w : World) (he : EntriesR w B l) (hn : EntriesR w A nl) (hs : Small l) (hl : l.length ≤ 1000) (hl2 : nl.length ≤ 1000) :
    Calls Tryd.prog 23 #[.agg #[.slice B l.length d, .slice A nl.length c], .func (.func 24) #[.agg #[.slice B l.length d, .slice A nl.length c]] #[]] w fun e w' =>
      e = .returned (.tuple #[.int .i64 (wholeR nl (sumS l)).1, .int .i64 (wholeR nl (sumS l)).2]) ∧ Below w.heap.size w w' := by
  have HI := Lib.hid (fun W (hb : Below w.heap.size w W) => isWhole_any A B c d l.length nl W (hn.keep hb) hl2)
  have HG := Lib.hid (fun W (hb : Below w.heap.size w W) => gross_any A B c d nl.length l W (he.keep hb) hs hl)
  clear he hn hs
  cases ha : allCount nl
  all_goals
    have HA := Lib.hid ha
    rw [ha] at HI
    clear ha
    go_enter Tryd.func23, Tryd.ntmps23
    go_wp2_with fail
    refine (HI.out _ ((Below.refl _ _).alloc (Nat.le_refl _) _)).mono ?_
    rintro e w1 ⟨rfl, hb1⟩
    have HB1 := Lib.hid (((Below.refl w.heap.size w).alloc (Nat.le_refl _) (.cells #[.slice B l.length d, .slice A nl.length c] 55)).trans (hb1.mono (by simp)))
    clear hb1 HI
  · go_wp2
    go_ret2
    exact ⟨by unfold wholeR; rw [HA.out]; rfl, HB1.out⟩
  · go_wp2_with fail
    refine (HG.out w1 HB1.out).mono ?_
    rintro e w2 ⟨rfl, hb2⟩
    have HB2 := Lib.hid (HB1.out.trans (hb2.mono HB1.out.size))
    clear hb2 HG
    go_wp2
    go_ret2
    exact ⟨by unfold wholeR; rw [HA.out]; rfl, HB2.out⟩

set_option maxRecDepth 100000 in
set_option maxHeartbeats 1000000 in
theorem wholeScore_any (A B : Option Addr) (c d : Nat) (l nl : List (Int × ByteArray)) (w : World) (he : EntriesR w B l) (hn : EntriesR w A nl) (hs : Small nl) (hl : l.length ≤ 1000) (hl2 : nl.length ≤ 1000) :
    Calls Tryd.prog 23 #[.agg #[.slice B l.length d, .slice A nl.length c], .func (.func 25) #[.agg #[.slice B l.length d, .slice A nl.length c]] #[]] w fun e w' =>
      e = .returned (.tuple #[.int .i64 (wholeR nl (sumS nl)).1, .int .i64 (wholeR nl (sumS nl)).2]) ∧ Below w.heap.size w w' := by
  have HI := Lib.hid (fun W (hb : Below w.heap.size w W) => isWhole_any A B c d l.length nl W (hn.keep hb) hl2)
  have HG := Lib.hid (fun W (hb : Below w.heap.size w W) => net_any A B c d l.length nl W (hn.keep hb) hs hl2)
  clear he hn hs
  cases ha : allCount nl
  all_goals
    have HA := Lib.hid ha
    rw [ha] at HI
    clear ha
    go_enter Tryd.func23, Tryd.ntmps23
    go_wp2_with fail
    refine (HI.out _ ((Below.refl _ _).alloc (Nat.le_refl _) _)).mono ?_
    rintro e w1 ⟨rfl, hb1⟩
    have HB1 := Lib.hid (((Below.refl w.heap.size w).alloc (Nat.le_refl _) (.cells #[.slice B l.length d, .slice A nl.length c] 55)).trans (hb1.mono (by simp)))
    clear hb1 HI
  · go_wp2
    go_ret2
    exact ⟨by unfold wholeR; rw [HA.out]; rfl, HB1.out⟩
  · go_wp2_with fail
    refine (HG.out w1 HB1.out).mono ?_
    rintro e w2 ⟨rfl, hb2⟩
    have HB2 := Lib.hid (HB1.out.trans (hb2.mono HB1.out.size))
    clear hb2 HG
    go_wp2
    go_ret2
    exact ⟨by unfold wholeR; rw [HA.out]; rfl, HB2.out⟩

set_option maxRecDepth 100000 in
set_option maxHeartbeats 1000000 in
theorem fmGross_any (A B : Option Addr) (c d : Nat) (hs : List (Int × Int)) (nm : ByteArray) (l : List (Int × ByteArray)) (h : Int) (w : World) (hr : HolesR w A hs) (hbl : ∀ a, A = some a → a.block < w.heap.size)
    (hl : hs.length ≤ 4611686018427387904) (he : EntriesR w B l) (hl2 : l.length ≤ 4611686018427387904) :
    Calls Tryd.prog 9 #[.slice A hs.length c, .agg #[.string nm, .slice B l.length d, .int .i64 h]] w fun e w' =>
      e = .returned (.tuple #[.int .i64 (grossR hs nm l h).1, .int .i64 (grossR hs nm l h).2]) ∧ Below w.heap.size w w' := by
  have HE := Lib.hid he
  by_cases hn : playerI hs nm l h = 0
  · have HC := Lib.hid (fun W (hb : Below w.heap.size w W) => readRound_yes A B c d hs nm l h W (hr.keep hbl hb) (fun a ha => Nat.lt_of_lt_of_le (hbl a ha) hb.size) (he.keep hb) hn)
    have F := Lib.hid (fit_of hn)
    have HN := Lib.hid hn
    clear hr hbl hn he
    go_enter Tryd.func9, Tryd.ntmps9
    go_wp2_with fail
    refine (HC.out _ ((Below.refl _ _).alloc (Nat.le_refl _) _)).mono ?_
    rintro e w1 ⟨A', c', rfl, hent, hge, hb1⟩
    have HENT := Lib.hid hent
    have HB1 := Lib.hid (((Below.refl w.heap.size w).alloc (Nat.le_refl _) (.cells #[.string nm, .slice B l.length d, .int .i64 h] 34)).trans (hb1.mono (by simp)))
    clear hb1 HC hent hge
    have HNL := Lib.hid F.out.netsLen
    have HNS := Lib.hid F.out.netsSmall
    have HR : Hid (grossR hs nm l h = wholeR (netsOf hs h l) (sumS l)) := Lib.hid (by unfold grossR; rw [if_pos HN.out])
    generalize netsOf hs h l = nl at HENT HNL HNS HR
    go_wp2_with fail
    refine (wholeGross_any A' B c' d l nl _ (HE.out.keep (HB1.out.alloc HB1.out.size _)) (HENT.out.keep ((Below.refl _ _).alloc (Nat.le_refl _) _)) F.out.small (by have := F.out.most; have := F.out.len; omega) (by have := HNL.out; have := F.out.most; omega)).mono ?_
    rintro e w2 ⟨rfl, hb2⟩
    have HB2 := Lib.hid ((HB1.out.alloc HB1.out.size (.cells #[.slice B l.length d, .slice A' nl.length c'] 55)).trans (hb2.mono (by have := HB1.out.size; simp; omega)))
    clear hb2
    go_wp2
    go_ret2
    exact ⟨by rw [HR.out]; rfl, HB2.out⟩
  · have HC := Lib.hid (fun W (hb : Below w.heap.size w W) => readRound_no A B c d hs nm l h W (hr.keep hbl hb) (fun a ha => Nat.lt_of_lt_of_le (hbl a ha) hb.size) hl (he.keep hb) hl2 hn)
    have hnb : (playerI hs nm l h != 0) = true := by simpa using hn
    have HR : Hid (grossR hs nm l h = (0, playerI hs nm l h)) := Lib.hid (by unfold grossR; rw [if_neg hn])
    clear hr hbl hn he
    generalize playerI hs nm l h = q at HC hnb HR
    go_enter Tryd.func9, Tryd.ntmps9
    go_wp2_with fail
    refine (HC.out _ ((Below.refl _ _).alloc (Nat.le_refl _) _)).mono ?_
    rintro e w1 ⟨rfl, hb1⟩
    have HB1 := Lib.hid (((Below.refl w.heap.size w).alloc (Nat.le_refl _) (.cells #[.string nm, .slice B l.length d, .int .i64 h] 34)).trans (hb1.mono (by simp)))
    clear hb1 HC
    go_wp2
    go_ret2
    exact ⟨by rw [HR.out]; rfl, HB1.out.alloc HB1.out.size _⟩

set_option maxRecDepth 100000 in
set_option maxHeartbeats 1000000 in
theorem fmScore_any (A B : Option Addr) (c d : Nat) (hs : List (Int × Int)) (nm : ByteArray) (l : List (Int × ByteArray)) (h : Int) (w : World) (hr : HolesR w A hs) (hbl : ∀ a, A = some a → a.block < w.heap.size)
    (hl : hs.length ≤ 4611686018427387904) (he : EntriesR w B l) (hl2 : l.length ≤ 4611686018427387904) :
    Calls Tryd.prog 10 #[.slice A hs.length c, .agg #[.string nm, .slice B l.length d, .int .i64 h]] w fun e w' =>
      e = .returned (.tuple #[.int .i64 (scoreR hs nm l h).1, .int .i64 (scoreR hs nm l h).2]) ∧ Below w.heap.size w w' := by
  have HE := Lib.hid he
  by_cases hn : playerI hs nm l h = 0
  · have HC := Lib.hid (fun W (hb : Below w.heap.size w W) => readRound_yes A B c d hs nm l h W (hr.keep hbl hb) (fun a ha => Nat.lt_of_lt_of_le (hbl a ha) hb.size) (he.keep hb) hn)
    have F := Lib.hid (fit_of hn)
    have HN := Lib.hid hn
    clear hr hbl hn he
    go_enter Tryd.func10, Tryd.ntmps10
    go_wp2_with fail
    refine (HC.out _ ((Below.refl _ _).alloc (Nat.le_refl _) _)).mono ?_
    rintro e w1 ⟨A', c', rfl, hent, hge, hb1⟩
    have HENT := Lib.hid hent
    have HB1 := Lib.hid (((Below.refl w.heap.size w).alloc (Nat.le_refl _) (.cells #[.string nm, .slice B l.length d, .int .i64 h] 34)).trans (hb1.mono (by simp)))
    clear hb1 HC hent hge
    have HNL := Lib.hid F.out.netsLen
    have HNS := Lib.hid F.out.netsSmall
    have HR : Hid (scoreR hs nm l h = wholeR (netsOf hs h l) (sumS (netsOf hs h l))) := Lib.hid (by unfold scoreR; rw [if_pos HN.out])
    generalize netsOf hs h l = nl at HENT HNL HNS HR
    go_wp2_with fail
    refine (wholeScore_any A' B c' d l nl _ (HE.out.keep (HB1.out.alloc HB1.out.size _)) (HENT.out.keep ((Below.refl _ _).alloc (Nat.le_refl _) _)) HNS.out (by have := F.out.most; have := F.out.len; omega) (by have := HNL.out; have := F.out.most; omega)).mono ?_
    rintro e w2 ⟨rfl, hb2⟩
    have HB2 := Lib.hid ((HB1.out.alloc HB1.out.size (.cells #[.slice B l.length d, .slice A' nl.length c'] 55)).trans (hb2.mono (by have := HB1.out.size; simp; omega)))
    clear hb2
    go_wp2
    go_ret2
    exact ⟨by rw [HR.out]; rfl, HB2.out⟩
  · have HC := Lib.hid (fun W (hb : Below w.heap.size w W) => readRound_no A B c d hs nm l h W (hr.keep hbl hb) (fun a ha => Nat.lt_of_lt_of_le (hbl a ha) hb.size) hl (he.keep hb) hl2 hn)
    have hnb : (playerI hs nm l h != 0) = true := by simpa using hn
    have HR : Hid (scoreR hs nm l h = (0, playerI hs nm l h)) := Lib.hid (by unfold scoreR; rw [if_neg hn])
    clear hr hbl hn he
    generalize playerI hs nm l h = q at HC hnb HR
    go_enter Tryd.func10, Tryd.ntmps10
    go_wp2_with fail
    refine (HC.out _ ((Below.refl _ _).alloc (Nat.le_refl _) _)).mono ?_
    rintro e w1 ⟨rfl, hb1⟩
    have HB1 := Lib.hid (((Below.refl w.heap.size w).alloc (Nat.le_refl _) (.cells #[.string nm, .slice B l.length d, .int .i64 h] 34)).trans (hb1.mono (by simp)))
    clear hb1 HC
    go_wp2
    go_ret2
    exact ⟨by rw [HR.out]; rfl, HB1.out.alloc HB1.out.size _⟩

end Go.Proofs.YtmnmdeehcdfkfaaDoor
