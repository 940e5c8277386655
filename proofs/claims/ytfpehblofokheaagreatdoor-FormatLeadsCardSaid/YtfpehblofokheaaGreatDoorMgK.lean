/- Merged: AwkA AwkB AwkC. -/
import Derived.Test.YtfpehblofokheaaGreatDoorFrDN
import Derived.Test.YtfpehblofokheaaGreatDoorMgJ
import Derived.Test.YtfpehblofokheaaGreatDoorMgI
import Derived.Test.YtfpehblofokheaaGreatDoorMgH
import Derived.Test.YtfpehblofokheaaGreatDoorMgF
import Derived.Test.YtfpehblofokheaaGreatDoorMgC
import Derived.Outline
import Derived.Test.YtfpehblofokheaaGreatDoorFrDP
import Derived.Test.YtfpehblofokheaaGreatDoorMgG
/- The fixed examples of chapter 5: their values. -/
set_option linter.unusedVariables false
set_option linter.unusedSimpArgs false
namespace Go.Proofs.YtfpehblofokheaaGreatDoor
open Go.RowKit

def exH : List (Int × Int) := [(4, 2), (3, 4), (5, 1), (4, 3)]
def entA : List (Int × ByteArray) := [(5, ⟨#[]⟩), (4, ⟨#[]⟩), (7, ⟨#[]⟩), (0, ⟨#[120]⟩)]
def entB : List (Int × ByteArray) := [(4, ⟨#[]⟩), (3, ⟨#[]⟩), (6, ⟨#[]⟩), (4, ⟨#[]⟩)]
def exA : Pl := ⟨⟨#[65]⟩, entA, 6⟩
def exB : Pl := ⟨⟨#[66]⟩, entB, 0⟩
theorem mk_none : markK ⟨#[]⟩ = 0 := by unfold markK; simp only [ByteArray.toList_eq]; rfl
theorem mk_x : markK ⟨#[120]⟩ = 2 := by unfold markK; simp only [ByteArray.toList_eq]; rfl
theorem noMark_eq : noMark = ⟨#[]⟩ := rfl
theorem co_none : countsB ⟨#[]⟩ = true := by unfold countsB; simp only [ByteArray.toList_eq]; rfl
theorem co_x : countsB ⟨#[120]⟩ = false := by unfold countsB; simp only [ByteArray.toList_eq]; rfl
theorem un_none : unplayedB ⟨#[]⟩ = false := by unfold unplayedB; simp only [ByteArray.toList_eq]; rfl
theorem un_x : unplayedB ⟨#[120]⟩ = false := by unfold unplayedB; simp only [ByteArray.toList_eq]; rfl
theorem ex_holes : holesI exH = 0 := by decide +kernel
theorem ex_plA : plI exH exA = 0 := by
  have h2 : entriesI entA = 0 := by simp [entriesI, entA, entryI, mk_none, mk_x]
  have h3 : nameB ⟨#[65]⟩ = true := by decide +kernel
  have h4 : pairedI entA.length exH.length = 0 := by rfl
  have h5 : withinI 6 (-99) 99 = 0 := by decide
  unfold plI playerI cardI exA
  simp [firstI, ex_holes, h2, h3, h4, h5, unlessI]
theorem ex_plB : plI exH exB = 0 := by
  have h2 : entriesI entB = 0 := by simp [entriesI, entB, entryI, mk_none]
  have h3 : nameB ⟨#[66]⟩ = true := by decide +kernel
  have h4 : pairedI entB.length exH.length = 0 := by rfl
  have h5 : withinI 0 (-99) 99 = 0 := by decide
  unfold plI playerI cardI exB
  simp [firstI, ex_holes, h2, h3, h4, h5, unlessI]
theorem ex_AB : playersGo exH [] [exA, exB] = 0 := by
  simp only [playersGo, ex_plA, ex_plB]
  simp [firstI, unlessI, exA, exB]
theorem ex_given6 : givenL (6 / (4 : Int)) (6 % (4 : Int)) exH = [2, 1, 2, 1] := by decide +kernel
theorem ex_given1 : givenL (-1 / (4 : Int)) (-1 % (4 : Int)) exH = [0, -1, 0, 0] := by decide +kernel
theorem ex_netsA : netsOf exH 6 entA = [(3, ⟨#[]⟩), (3, ⟨#[]⟩), (5, ⟨#[]⟩), (0, ⟨#[120]⟩)] := by
  unfold netsOf netsL givenL
  simp [exH, entA, netV, addI, mk_none, mk_x, noMark_eq]
theorem ex_netsB : netsOf exH 0 entB = [(4, ⟨#[]⟩), (3, ⟨#[]⟩), (6, ⟨#[]⟩), (4, ⟨#[]⟩)] := by
  unfold netsOf netsL givenL
  simp [exH, entB, netV, addI, mk_none, noMark_eq]
theorem ex_ptsA : parL pointsF 0 exH (netsOf exH 6 entA) = [3, 2, 2, 0] := by
  rw [ex_netsA]
  simp [parL, exH, parV, pointsF, co_none, co_x]
  omega
theorem ex_scoreA : scoreR exH exA.nm exA.l exA.h = (0, 7) := by
  unfold scoreR wholeR
  rw [if_pos (show playerI exH exA.nm exA.l exA.h = 0 from ex_plA)]
  show (if allCount (netsOf exH 6 entA) = true then _ else _) = _
  rw [ex_netsA]
  simp [allCount, co_none, co_x]
theorem ex_grossB : grossR exH exB.nm exB.l exB.h = (17, 0) := by
  unfold grossR wholeR
  rw [if_pos (show playerI exH exB.nm exB.l exB.h = 0 from ex_plB)]
  show (if allCount (netsOf exH 0 entB) = true then _ else _) = _
  rw [ex_netsB]
  simp [allCount, co_none, exB, entB, sumS, firsts, ForMath.sumI]
theorem ex_states : statesL (netsOf exH 6 entA) (netsOf exH 0 entB) = [(1, 3, false), (1, 2, false), (2, 1, true)] := by
  rw [ex_netsA, ex_netsB]
  simp [statesL, duels, List.range_succ, statesGo, resI, overI, playedB, un_none, un_x, meritI, rankI, mk_none, mk_x, cmpI, firstI]
theorem ex_four : joinedL minM exH [exA, exB] = [(3, ⟨#[]⟩), (3, ⟨#[]⟩), (5, ⟨#[]⟩), (4, ⟨#[]⟩)] := by
  have e : joinedL minM exH [exA, exB] = (List.range 4).map fun i => minM [(netsOf exH 6 entA).getD i (0, ByteArray.empty), (netsOf exH 0 entB).getD i (0, ByteArray.empty)] := rfl
  rw [e, ex_netsA, ex_netsB]
  simp [List.range_succ, minM, meritI, rankI, mk_none, mk_x, cmpI, firstI]
theorem ex_agg : joinedL totalM exH [exA, exB] = [(7, ⟨#[]⟩), (6, ⟨#[]⟩), (11, ⟨#[]⟩), (0, ⟨#[120]⟩)] := by
  have e : joinedL totalM exH [exA, exB] = (List.range 4).map fun i => totalM [(netsOf exH 6 entA).getD i (0, ByteArray.empty), (netsOf exH 0 entB).getD i (0, ByteArray.empty)] := rfl
  rw [e, ex_netsA, ex_netsB]
  simp [List.range_succ, totalM, maxM, meritI, rankI, mk_none, mk_x, cmpI, firstI, co_none, co_x, sumS, firsts, ForMath.sumI, noMark_eq]
theorem ex_four_ok : joinedE 4 exH [exA, exB] = 0 := by unfold joinedE; simp [firstI, ex_holes, ex_AB, sideI]
theorem ex_agg_ok : joinedE 2 exH [exA, exB] = 0 := by unfold joinedE; simp [firstI, ex_holes, ex_AB, sideI]
theorem ex_cback : ForMath.cback [3, 4, 5] [4, 4, 4] = 1 := by decide +kernel
theorem ex_ranks : ForMath.ranks [[3, 4, 5], [4, 4, 4], [3, 3, 5], [4, 4, 4]] = [4, 2, 1, 2] := by decide +kernel
theorem ex_play : playE [[4, 4], [4, 5], [5, 3]] = 0 := by decide +kernel
theorem ex_left : playGo 3 [[4, 4], [4, 5], [5, 3]] 2 0 (finL 3) = ([(0 : Fin 3)], 2) := by decide +kernel
theorem sortI_eq {xs ys : List Int} (hp : xs.Perm ys) (hs : ys.Pairwise (fun a b => a ≤ b)) : sortI xs = ys := by
  have h1 : (sortI xs).Pairwise (fun a b => a ≤ b) := by
    have := List.pairwise_mergeSort (le := fun x y : Int => decide (x ≤ y)) (fun a b c h1 h2 => by simp at *; omega) (fun a b => by simp; omega) xs
    exact this.imp (fun h => by simpa using h)
  have h2 : (sortI xs).Perm ys := (List.mergeSort_perm xs _).trans hp
  exact List.Perm.eq_of_pairwise (fun a b _ _ h3 h4 => by omega) h1 hs h2
theorem ex_sort1 : sortI [-3, 0] = [-3, 0] := sortI_eq (List.Perm.refl _) (by decide)
theorem ex_sort2 : sortI [20, 10] = [10, 20] := sortI_eq (by decide) (by decide)
theorem ex_sort4 : sortI [5, 3, 4, 9] = [3, 4, 5, 9] := sortI_eq (by decide) (by decide)
theorem ex_fsome : rF [-3, 0] = (-1, 0) := by
  unfold rF sharedV
  rw [ex_sort1]
  decide +kernel
theorem ex_scr : rS [20, 10] = (7, 0) := by
  unfold rS sharedV
  rw [ex_sort2]
  decide +kernel
theorem ex_team : rTeam [5, 3, 4, 9] 2 = (7, 0) := by
  unfold rTeam
  rw [ex_sort4]
  decide +kernel
end Go.Proofs.YtfpehblofokheaaGreatDoor

/- The holes and the players of chapter 5's fixed examples. -/
namespace Go.Proofs.YtfpehblofokheaaGreatDoor
open Go.RowKit

def exHC : Array Value := #[.int .i64 4, .int .i64 2, .int .i64 3, .int .i64 4, .int .i64 5, .int .i64 1, .int .i64 4, .int .i64 3]
theorem exH_holes {W : World} {g : Nat} {T : TypeId} (h : BlkV W g T exHC) : HolesR W (some ⟨g, 0, none⟩) exH := fun j hj =>
  match j, hj with
  | 0, _ => ⟨_, rfl, by rw [add_zero_at]; exact (h.cell 0).trans rfl, by rw [add_zero_at]; exact (h.cell 1).trans rfl⟩
  | 1, _ => ⟨_, rfl, by rw [add_zero_at]; exact (h.cell 2).trans rfl, by rw [add_zero_at]; exact (h.cell 3).trans rfl⟩
  | 2, _ => ⟨_, rfl, by rw [add_zero_at]; exact (h.cell 4).trans rfl, by rw [add_zero_at]; exact (h.cell 5).trans rfl⟩
  | 3, _ => ⟨_, rfl, by rw [add_zero_at]; exact (h.cell 6).trans rfl, by rw [add_zero_at]; exact (h.cell 7).trans rfl⟩
set_option maxHeartbeats 400000 in
theorem four_any (w : World) :
    Calls Tryz.prog 24 #[] w fun e w' => ∃ g, e = .returned (.slice (some ⟨g, 0, none⟩) 4 4) ∧ HolesR w' (some ⟨g, 0, none⟩) exH ∧ g < w'.heap.size ∧ Below w.heap.size w w' := by
  go_enter Tryz.func24, Tryz.ntmps24
  go_wp2
  go_ret
  have h : BlkV (w.alloc (.cells exHC 111)) w.heap.size 111 exHC := BlkV.new _ _ _
  exact ⟨w.heap.size, rfl, exH_holes h, h.lt, (Below.refl _ _).alloc (Nat.le_refl _) _⟩

abbrev vA (g : Nat) : Value := .agg #[.string ⟨#[65]⟩, .slice (some ⟨g, 0, none⟩) 4 4, .int .i64 6]
abbrev vB (g : Nat) : Value := .agg #[.string ⟨#[66]⟩, .slice (some ⟨g, 0, none⟩) 4 4, .int .i64 0]
theorem ent4 {W : World} {g : Nat} {l : List (Int × ByteArray)} (hl : l.length = 4) (hg : g < W.heap.size) (c0 : W.cell? ⟨g, 0, none⟩ = some (.int .i64 (l.getD 0 (0, ByteArray.empty)).1)) (c1 : W.cell? ⟨g, 1, none⟩ = some (.string (l.getD 0 (0, ByteArray.empty)).2))
    (c2 : W.cell? ⟨g, 2, none⟩ = some (.int .i64 (l.getD 1 (0, ByteArray.empty)).1)) (c3 : W.cell? ⟨g, 3, none⟩ = some (.string (l.getD 1 (0, ByteArray.empty)).2))
    (c4 : W.cell? ⟨g, 4, none⟩ = some (.int .i64 (l.getD 2 (0, ByteArray.empty)).1)) (c5 : W.cell? ⟨g, 5, none⟩ = some (.string (l.getD 2 (0, ByteArray.empty)).2))
    (c6 : W.cell? ⟨g, 6, none⟩ = some (.int .i64 (l.getD 3 (0, ByteArray.empty)).1)) (c7 : W.cell? ⟨g, 7, none⟩ = some (.string (l.getD 3 (0, ByteArray.empty)).2)) : EntriesR W (some ⟨g, 0, none⟩) l := fun j hj => by
  rw [hl] at hj
  match j, hj with
  | 0, _ => exact ⟨_, rfl, by rw [add_zero_at]; exact c0, by rw [add_zero_at]; exact c1, by rw [add_zero_at]; exact hg⟩
  | 1, _ => exact ⟨_, rfl, by rw [add_zero_at]; exact c2, by rw [add_zero_at]; exact c3, by rw [add_zero_at]; exact hg⟩
  | 2, _ => exact ⟨_, rfl, by rw [add_zero_at]; exact c4, by rw [add_zero_at]; exact c5, by rw [add_zero_at]; exact hg⟩
  | 3, _ => exact ⟨_, rfl, by rw [add_zero_at]; exact c6, by rw [add_zero_at]; exact c7, by rw [add_zero_at]; exact hg⟩

set_option maxRecDepth 100000 in
set_option maxHeartbeats 1000000 in
theorem both_any (w : World) :
    Calls Tryz.prog 23 #[] w fun e w' => ∃ gA gB, e = .returned (.tuple #[vA gA, vB gB]) ∧ EntriesR w' (some ⟨gA, 0, none⟩) entA ∧ EntriesR w' (some ⟨gB, 0, none⟩) entB ∧ Below w.heap.size w w' := by
  go_enter Tryz.func23, Tryz.ntmps23
  go_wp2
  refine bodyPost_ret (v := .tuple #[vA (w.heap.size + 1 + 1), vB (w.heap.size + 1 + 1 + 1 + 1)]) (by simp [results, Tryz.results23, go_sem, vA, vB]) rfl ⟨w.heap.size + 1 + 1, w.heap.size + 1 + 1 + 1 + 1, rfl, ?_, ?_, ?_⟩
  · exact ent4 rfl (by simp) (by go_simp; rfl) (by go_simp; rfl) (by go_simp; rfl) (by go_simp; rfl) (by go_simp; rfl) (by go_simp; rfl) (by go_simp; rfl) (by go_simp; rfl)
  · exact ent4 rfl (by simp) (by go_simp; rfl) (by go_simp; rfl) (by go_simp; rfl) (by go_simp; rfl) (by go_simp; rfl) (by go_simp; rfl) (by go_simp; rfl) (by go_simp; rfl)
  · repeat first | exact Below.refl _ _ | apply Below.drew | refine Below.setCell ?_ (by simp <;> omega) _ | refine Below.alloc ?_ (by simp <;> omega) _

/-- Lists as they lie in blocks of their own. -/
theorem ints3 {W : World} {g T : Nat} {x y z : Int} (h : BlkV W g T #[.int .i64 x, .int .i64 y, .int .i64 z]) : IntsAt W W.heap.size (some ⟨g, 0, none⟩) [x, y, z] := fun j hj =>
  match j, hj with
  | 0, _ => ⟨_, rfl, h.lt, by rw [add_zero_at]; exact h.cell 0⟩
  | 1, _ => ⟨_, rfl, h.lt, by rw [add_zero_at]; exact h.cell 1⟩
  | 2, _ => ⟨_, rfl, h.lt, by rw [add_zero_at]; exact h.cell 2⟩
theorem ints2 {W : World} {g T : Nat} {x y : Int} (h : BlkV W g T #[.int .i64 x, .int .i64 y]) : IntsAt W W.heap.size (some ⟨g, 0, none⟩) [x, y] := fun j hj =>
  match j, hj with
  | 0, _ => ⟨_, rfl, h.lt, by rw [add_zero_at]; exact h.cell 0⟩
  | 1, _ => ⟨_, rfl, h.lt, by rw [add_zero_at]; exact h.cell 1⟩
theorem lists4 {W : World} {g T a b c d : Nat} {A B C D : List Int} {na nb nc nd : Nat} (h : BlkV W g T #[.slice (some ⟨a, 0, none⟩) A.length na, .slice (some ⟨b, 0, none⟩) B.length nb, .slice (some ⟨c, 0, none⟩) C.length nc, .slice (some ⟨d, 0, none⟩) D.length nd])
    (ha : IntsAt W W.heap.size (some ⟨a, 0, none⟩) A) (hb : IntsAt W W.heap.size (some ⟨b, 0, none⟩) B) (hc : IntsAt W W.heap.size (some ⟨c, 0, none⟩) C) (hd : IntsAt W W.heap.size (some ⟨d, 0, none⟩) D) (la : A.length ≤ na) (lb : B.length ≤ nb) (lc : C.length ≤ nc) (ld : D.length ≤ nd) :
    ListsR W (some ⟨g, 0, none⟩) [A, B, C, D] := fun j hj =>
  match j, hj with
  | 0, _ => ⟨_, _, _, rfl, by rw [add_zero_at]; exact h.cell 0, h.lt, la, ha⟩
  | 1, _ => ⟨_, _, _, rfl, by rw [add_zero_at]; exact h.cell 1, h.lt, lb, hb⟩
  | 2, _ => ⟨_, _, _, rfl, by rw [add_zero_at]; exact h.cell 2, h.lt, lc, hc⟩
  | 3, _ => ⟨_, _, _, rfl, by rw [add_zero_at]; exact h.cell 3, h.lt, ld, hd⟩
theorem lists3 {W : World} {g T a b c : Nat} {A B C : List Int} {na nb nc : Nat} (h : BlkV W g T #[.slice (some ⟨a, 0, none⟩) A.length na, .slice (some ⟨b, 0, none⟩) B.length nb, .slice (some ⟨c, 0, none⟩) C.length nc])
    (ha : IntsAt W W.heap.size (some ⟨a, 0, none⟩) A) (hb : IntsAt W W.heap.size (some ⟨b, 0, none⟩) B) (hc : IntsAt W W.heap.size (some ⟨c, 0, none⟩) C) (la : A.length ≤ na) (lb : B.length ≤ nb) (lc : C.length ≤ nc) :
    ListsR W (some ⟨g, 0, none⟩) [A, B, C] := fun j hj =>
  match j, hj with
  | 0, _ => ⟨_, _, _, rfl, by rw [add_zero_at]; exact h.cell 0, h.lt, la, ha⟩
  | 1, _ => ⟨_, _, _, rfl, by rw [add_zero_at]; exact h.cell 1, h.lt, lb, hb⟩
  | 2, _ => ⟨_, _, _, rfl, by rw [add_zero_at]; exact h.cell 2, h.lt, lc, hc⟩
end Go.Proofs.YtfpehblofokheaaGreatDoor

/- The calls of chapter 5's fixed examples: what each returns. -/
namespace Go.Proofs.YtfpehblofokheaaGreatDoor
open Go.RowKit

theorem xGiven6 (g : Nat) (W : World) (hh : HolesR W (some ⟨g, 0, none⟩) exH) (hl : g < W.heap.size) :
    Calls Tryz.prog 19 #[.slice (some ⟨g, 0, none⟩) 4 4, .int .i64 6] W (RowOut [2, 1, 2, 1] W) := by
  have := fmGiven_yes (some ⟨g, 0, none⟩) 4 exH 6 W hh (fun a ha => by injection ha with ha; subst ha; exact hl) (by decide +kernel)
  rw [show givenL (6 / ((exH.length : Nat) : Int)) (6 % ((exH.length : Nat) : Int)) exH = [2, 1, 2, 1] from ex_given6] at this
  exact this
theorem xGiven1 (g : Nat) (W : World) (hh : HolesR W (some ⟨g, 0, none⟩) exH) (hl : g < W.heap.size) :
    Calls Tryz.prog 19 #[.slice (some ⟨g, 0, none⟩) 4 4, .int .i64 (-1)] W (RowOut [0, -1, 0, 0] W) := by
  have := fmGiven_yes (some ⟨g, 0, none⟩) 4 exH (-1) W hh (fun a ha => by injection ha with ha; subst ha; exact hl) (by decide +kernel)
  rw [show givenL (-1 / ((exH.length : Nat) : Int)) (-1 % ((exH.length : Nat) : Int)) exH = [0, -1, 0, 0] from ex_given1] at this
  exact this
theorem xPoints (g ga : Nat) (W : World) (hh : HolesR W (some ⟨g, 0, none⟩) exH) (hl : g < W.heap.size) (he : EntriesR W (some ⟨ga, 0, none⟩) entA) :
    Calls Tryz.prog 25 #[.slice (some ⟨g, 0, none⟩) 4 4, vA ga] W (RowOut [3, 2, 2, 0] W) := by
  have := fmPoints_yes (some ⟨g, 0, none⟩) (some ⟨ga, 0, none⟩) 4 4 exH exA.nm entA 6 W hh (fun a ha => by injection ha with ha; subst ha; exact hl) he ex_plA
  rw [ex_ptsA] at this
  exact this
theorem xScore (g ga : Nat) (W : World) (hh : HolesR W (some ⟨g, 0, none⟩) exH) (hl : g < W.heap.size) (he : EntriesR W (some ⟨ga, 0, none⟩) entA) :
    Calls Tryz.prog 26 #[.slice (some ⟨g, 0, none⟩) 4 4, vA ga] W fun e w' => e = .returned (.tuple #[.int .i64 0, .int .i64 7]) ∧ Below W.heap.size W w' := by
  have := fmScore_any (some ⟨g, 0, none⟩) (some ⟨ga, 0, none⟩) 4 4 exH exA.nm exA.l exA.h W hh (fun a ha => by injection ha with ha; subst ha; exact hl) (by simp [exH]) he (by simp [exA, entA])
  rw [ex_scoreA] at this
  exact this
theorem xGross (g gb : Nat) (W : World) (hh : HolesR W (some ⟨g, 0, none⟩) exH) (hl : g < W.heap.size) (he : EntriesR W (some ⟨gb, 0, none⟩) entB) :
    Calls Tryz.prog 27 #[.slice (some ⟨g, 0, none⟩) 4 4, vB gb] W fun e w' => e = .returned (.tuple #[.int .i64 17, .int .i64 0]) ∧ Below W.heap.size W w' := by
  have := fmGross_any (some ⟨g, 0, none⟩) (some ⟨gb, 0, none⟩) 4 4 exH exB.nm exB.l exB.h W hh (fun a ha => by injection ha with ha; subst ha; exact hl) (by simp [exH]) he (by simp [exB, entB])
  rw [ex_grossB] at this
  exact this
def exS : List St := [(1, 3, false), (1, 2, false), (2, 1, true)]
theorem xMatch (g ga gb : Nat) (W : World) (hh : HolesR W (some ⟨g, 0, none⟩) exH) (hl : g < W.heap.size) (he : EntriesR W (some ⟨ga, 0, none⟩) entA) (hf : EntriesR W (some ⟨gb, 0, none⟩) entB) :
    Calls Tryz.prog 20 #[.slice (some ⟨g, 0, none⟩) 4 4, vA ga, vB gb] W fun e w' => ∃ a c, e = .returned (.tuple #[.slice (some a) 3 c, .int .i64 0]) ∧ StatesR w' (some a) exS ∧ Below W.heap.size W w' := by
  have := match_yes (some ⟨g, 0, none⟩) (some ⟨ga, 0, none⟩) (some ⟨gb, 0, none⟩) 4 4 4 exH exA exB W hh (fun a ha => by injection ha with ha; subst ha; exact hl) he hf ex_AB
  rw [show statesL (netsOf exH exA.h exA.l) (netsOf exH exB.h exB.l) = exS from ex_states] at this
  refine this.mono ?_
  rintro e w' ⟨A, c, rfl, h1, _, h3⟩
  obtain ⟨a, rfl, _⟩ := h1 0 (by simp [exS])
  exact ⟨a, c, rfl, h1, h3⟩
theorem xFoursome (g : Nat) (W : World) (T : Nat) (h : BlkV W g T #[.int .i64 (-3), .int .i64 0]) :
    Calls Tryz.prog 28 #[.slice (some ⟨g, 0, none⟩) 2 2] W fun e w' => e = .returned (.tuple #[.int .i64 (-1), .int .i64 0]) ∧ Below W.heap.size W w' := by
  have := fmFoursome_any (some ⟨g, 0, none⟩) 2 [-3, 0] W (by simp) (ints2 h)
  rw [ex_fsome] at this
  exact this
theorem xScramble (g : Nat) (W : World) (T : Nat) (h : BlkV W g T #[.int .i64 20, .int .i64 10]) :
    Calls Tryz.prog 29 #[.slice (some ⟨g, 0, none⟩) 2 2] W fun e w' => e = .returned (.tuple #[.int .i64 7, .int .i64 0]) ∧ Below W.heap.size W w' := by
  have := fmScramble_any (some ⟨g, 0, none⟩) 2 [20, 10] W (by simp) (ints2 h)
  rw [ex_scr] at this
  exact this
def exF : List (Int × ByteArray) := [(3, ⟨#[]⟩), (3, ⟨#[]⟩), (5, ⟨#[]⟩), (4, ⟨#[]⟩)]
def exG : List (Int × ByteArray) := [(7, ⟨#[]⟩), (6, ⟨#[]⟩), (11, ⟨#[]⟩), (0, ⟨#[120]⟩)]
theorem xFourball (g gp ga gb : Nat) (W : World) (T : Nat) (hh : HolesR W (some ⟨g, 0, none⟩) exH) (hl : g < W.heap.size) (he : EntriesR W (some ⟨ga, 0, none⟩) entA) (hf : EntriesR W (some ⟨gb, 0, none⟩) entB)
    (hp : BlkV W gp T #[.string ⟨#[65]⟩, .slice (some ⟨ga, 0, none⟩) 4 4, .int .i64 6, .string ⟨#[66]⟩, .slice (some ⟨gb, 0, none⟩) 4 4, .int .i64 0]) :
    Calls Tryz.prog 30 #[.slice (some ⟨g, 0, none⟩) 4 4, .slice (some ⟨gp, 0, none⟩) 2 2] W fun e w' => ∃ q, e = .returned (.tuple #[.slice (some ⟨q, 0, none⟩) 4 4, .int .i64 0]) ∧ NetBlk w' q exF ∧ Below W.heap.size W w' := by
  have := fmFourball_yes (some ⟨gp, 0, none⟩) (some ⟨g, 0, none⟩) 2 4 exH [exA, exB] W hh (fun a ha => by injection ha with ha; subst ha; exact hl) (PlayersR.two (a := exA) (b := exB) hp he hf) ex_four_ok
  rw [show joinedL minM exH [exA, exB] = exF from ex_four] at this
  exact this.mono fun e w' ⟨q, h1, h2, _, h4⟩ => ⟨q, h1, h2, h4⟩
theorem xAggregate (g ga gb : Nat) (W : World) (hh : HolesR W (some ⟨g, 0, none⟩) exH) (hl : g < W.heap.size) (he : EntriesR W (some ⟨ga, 0, none⟩) entA) (hf : EntriesR W (some ⟨gb, 0, none⟩) entB) :
    Calls Tryz.prog 34 #[.slice (some ⟨g, 0, none⟩) 4 4, vA ga, vB gb] W fun e w' => ∃ q, e = .returned (.tuple #[.slice (some ⟨q, 0, none⟩) 4 4, .int .i64 0]) ∧ NetBlk w' q exG ∧ Below W.heap.size W w' := by
  have := fmAggregate_yes (some ⟨g, 0, none⟩) (some ⟨ga, 0, none⟩) (some ⟨gb, 0, none⟩) 4 4 4 exH exA exB W hh (fun a ha => by injection ha with ha; subst ha; exact hl) he hf ex_agg_ok
  rw [show joinedL totalM exH [exA, exB] = exG from ex_agg] at this
  exact this.mono fun e w' ⟨q, h1, h2, _, h4⟩ => ⟨q, h1, h2, h4⟩
theorem xCountback (g h : Nat) (W : World) (T U : Nat) (ha : BlkV W g T #[.int .i64 3, .int .i64 4, .int .i64 5]) (hb : BlkV W h U #[.int .i64 4, .int .i64 4, .int .i64 4]) :
    Calls Tryz.prog 31 #[.slice (some ⟨g, 0, none⟩) 3 3, .slice (some ⟨h, 0, none⟩) 3 3] W fun e w' => e = .returned (.tuple #[.int .i64 1, .int .i64 0]) ∧ Below W.heap.size W w' := by
  have := fmCountback_any (some ⟨g, 0, none⟩) (some ⟨h, 0, none⟩) 3 3 [3, 4, 5] [4, 4, 4] W (ints3 ha) (ints3 hb) (by simp) (by simp) (by simp) (by simp)
  rw [show cbR [3, 4, 5] [4, 4, 4] = (1, 0) by decide +kernel] at this
  exact this
theorem xRanks (g : Nat) (W : World) (h : ListsR W (some ⟨g, 0, none⟩) [[3, 4, 5], [4, 4, 4], [3, 3, 5], [4, 4, 4]]) :
    Calls Tryz.prog 32 #[.slice (some ⟨g, 0, none⟩) 4 4] W (RowOut [4, 2, 1, 2] W) := by
  have := fmRanks_yes (some ⟨g, 0, none⟩) 4 [[3, 4, 5], [4, 4, 4], [3, 3, 5], [4, 4, 4]] W h (by decide +kernel)
  rw [ex_ranks] at this
  exact this
theorem xPlayoff (g : Nat) (W : World) (h : ListsR W (some ⟨g, 0, none⟩) [[4, 4], [4, 5], [5, 3]]) :
    Calls Tryz.prog 14 #[.slice (some ⟨g, 0, none⟩) 3 3] W fun e w' => ∃ A c, e = .returned (.tuple #[.slice A 1 c, .int .i64 2, .int .i64 0]) ∧ IntsAt w' w'.heap.size A [0] ∧ Below W.heap.size W w' := by
  have := fmPlayoff_yes (some ⟨g, 0, none⟩) 3 [[4, 4], [4, 5], [5, 3]] W h ex_play
  refine this.mono ?_
  rintro e w' ⟨A, c, he, h1, h2⟩
  have e9 : playGo ([[4, 4], [4, 5], [5, 3]] : List (List Int)).length [[4, 4], [4, 5], [5, 3]] (([[4, 4], [4, 5], [5, 3]] : List (List Int)).getD 0 []).length 0 (finL ([[4, 4], [4, 5], [5, 3]] : List (List Int)).length) = ([(0 : Fin 3)], 2) := ex_left
  rw [e9] at he h1
  exact ⟨A, c, he, h1, h2⟩
theorem xDescribe (W : World) :
    Calls Tryz.prog 33 #[.agg #[.int .i64 2, .int .i64 1, .bool true]] W fun e w' => e = .returned (.tuple #[.string ⟨#[102, 105, 114, 115, 116, 32, 50, 32, 97, 110, 100, 32, 49]⟩, .int .i64 0]) ∧ Below W.heap.size W w' := by
  have := describe_of 2 1 true true W (Lib.hid (fun W => by
    have := stateOf_any 2 1 W (by omega)
    rw [show overI 2 1 = true by decide] at this
    exact this))
  rw [show descI 2 1 true true = 0 by decide, show descS 0 2 1 = ⟨#[102, 105, 114, 115, 116, 32, 50, 32, 97, 110, 100, 32, 49]⟩ by decide +kernel] at this
  exact this
theorem xTeam (g : Nat) (W : World) (T : Nat) (h : BlkV W g T #[.int .i64 5, .int .i64 3, .int .i64 4, .int .i64 9]) :
    Calls Tryz.prog 35 #[.slice (some ⟨g, 0, none⟩) 4 4, .int .i64 2] W fun e w' => e = .returned (.tuple #[.int .i64 7, .int .i64 0]) ∧ Below W.heap.size W w' := by
  have := fmTeam_any (some ⟨g, 0, none⟩) 4 [5, 3, 4, 9] 2 W (by simp) (fun j hj => match j, hj with
    | 0, _ => ⟨_, rfl, h.lt, by rw [add_zero_at]; exact h.cell 0⟩
    | 1, _ => ⟨_, rfl, h.lt, by rw [add_zero_at]; exact h.cell 1⟩
    | 2, _ => ⟨_, rfl, h.lt, by rw [add_zero_at]; exact h.cell 2⟩
    | 3, _ => ⟨_, rfl, h.lt, by rw [add_zero_at]; exact h.cell 3⟩)
  rw [ex_team] at this
  exact this
end Go.Proofs.YtfpehblofokheaaGreatDoor
