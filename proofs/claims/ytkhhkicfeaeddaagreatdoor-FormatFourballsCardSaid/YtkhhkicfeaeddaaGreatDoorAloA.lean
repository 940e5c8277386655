/- FormatAlone: the errors of its sides; its lists. -/
import Derived.Test.YtkhhkicfeaeddaaGreatDoorAloM
import Derived.Test.YtkhhkicfeaeddaaGreatDoorFrDP
set_option linter.unusedVariables false
set_option linter.unusedSimpArgs false
namespace Go.Proofs.YtkhhkicfeaeddaaGreatDoor
open Go.RowKit

def twinN : ByteArray := ⟨#[116, 119, 105, 110]⟩
def twinOf (a : Pl) : Pl := ⟨twinN, a.l, a.h⟩
theorem twin_name : nameB twinN = true := by kernel_rfl
theorem twin_player {hs : List (Int × Int)} {a : Pl} (h : plI hs a = 0) : plI hs (twinOf a) = 0 := by
  have h0 : playerI hs a.nm a.l a.h = 0 := h
  have h1 := firstI_zero _ h0 (holesI hs) (by simp)
  have h2 := firstI_zero _ h0 (cardI hs a.nm a.l) (by simp)
  have h3 := firstI_zero _ h0 (withinI a.h (-99) 99) (by simp)
  have h4 := firstI_zero _ h2 (pairedI a.l.length hs.length) (by simp)
  have h5 := firstI_zero _ h2 (entriesI a.l) (by simp)
  have h6 : cardI hs twinN a.l = 0 := by
    unfold cardI
    rw [h1, h4, h5, twin_name]
    rfl
  show firstI [holesI hs, cardI hs twinN a.l, withinI a.h (-99) 99] = 0
  rw [h1, h6, h3]
  rfl
theorem go_two {hs : List (Int × Int)} {p q : Pl} (hp : plI hs p = 0) (hq : plI hs q = 0) (h : p.nm ≠ q.nm) : playersGo hs [] [p, q] = 0 := by
  have e0 : unlessI (!decide (p.nm ∈ ([] : List ByteArray))) 9 = 0 := by simp [unlessI]
  have e1 : unlessI (!decide (q.nm ∈ ([] ++ [p.nm] : List ByteArray))) 9 = 0 := by
    rw [decide_eq_false (by simp; exact fun e => h e.symm)]
    rfl
  simp only [playersGo]
  rw [if_pos (by rw [hp, e0]; rfl), if_pos (by rw [hq, e1]; rfl)]
theorem go_three {hs : List (Int × Int)} {p q r : Pl} (hp : plI hs p = 0) (hq : plI hs q = 0) (hr : plI hs r = 0) (h1 : p.nm ≠ q.nm) (h2 : p.nm ≠ r.nm) (h3 : q.nm ≠ r.nm) : playersGo hs [] [p, q, r] = 0 := by
  have e0 : unlessI (!decide (p.nm ∈ ([] : List ByteArray))) 9 = 0 := by simp [unlessI]
  have e1 : unlessI (!decide (q.nm ∈ ([] ++ [p.nm] : List ByteArray))) 9 = 0 := by
    rw [decide_eq_false (by simp; exact fun e => h1 e.symm)]
    rfl
  have e2 : unlessI (!decide (r.nm ∈ ([] ++ [p.nm] ++ [q.nm] : List ByteArray))) 9 = 0 := by
    rw [decide_eq_false (by simp; exact ⟨fun e => h2 e.symm, fun e => h3 e.symm⟩)]
    rfl
  simp only [playersGo]
  rw [if_pos (by rw [hp, e0]; rfl), if_pos (by rw [hq, e1]; rfl), if_pos (by rw [hr, e2]; rfl)]
theorem joinedE_of {m : Int} {hs : List (Int × Int)} {ps : List Pl} (h1 : holesI hs = 0) (h2 : sideI m ps.length = 0) (h3 : playersGo hs [] ps = 0) : joinedE m hs ps = 0 := by
  unfold joinedE
  rw [h1, h2, h3]
  rfl
section
variable {hs : List (Int × Int)} {a b : Pl}
theorem nets_at_fine (hs : List (Int × Int)) (a : Pl) (k : Nat) (h : k < (netsOf hs a.h a.l).length) : fineN ((netsOf hs a.h a.l).getD k (0, ByteArray.empty)) :=
  nets_fine hs a.h a.l _ (by simp [List.getD, List.getElem?_eq_getElem h])
theorem list_same {xs ys : List (Int × ByteArray)} (h : xs.length = ys.length) (hj : ∀ j, j < xs.length → xs.getD j (0, ByteArray.empty) = ys.getD j (0, ByteArray.empty)) : xs = ys := by
  apply List.ext_getElem h
  intro j h1 h2
  have := hj j h1
  simpa [List.getD, List.getElem?_eq_getElem h1, List.getElem?_eq_getElem h2] using this
theorem at_two (hs : List (Int × Int)) (p q : Pl) (k : Nat) : netsAt hs [p, q] k = [(netsOf hs p.h p.l).getD k (0, ByteArray.empty), (netsOf hs q.h q.l).getD k (0, ByteArray.empty)] := rfl
theorem alone_own (hl : (netsOf hs a.h a.l).length = hs.length) : joinedL minM hs [a, twinOf a] = netsOf hs a.h a.l := by
  refine list_same (by rw [joinedL_len, hl]) fun j hj => ?_
  rw [joinedL_len] at hj
  rw [joinedL_at _ _ _ _ hj]
  exact min_twin _
theorem alone_three (ha : (netsOf hs a.h a.l).length = hs.length) (hb : (netsOf hs b.h b.l).length = hs.length) : joinedL minM hs [b, twinOf a, a] = joinedL minM hs [a, b] := by
  refine list_same (by rw [joinedL_len, joinedL_len]) fun j hj => ?_
  rw [joinedL_len] at hj
  rw [joinedL_at _ _ _ _ hj, joinedL_at _ _ _ _ hj]
  exact min_three (nets_at_fine hs a j (by omega)) (nets_at_fine hs b j (by omega))
theorem alone_total (ha : (netsOf hs a.h a.l).length = hs.length) (j : Nat) (hj : j < hs.length) :
    ((joinedL totalM hs [a, twinOf a]).getD j (0, ByteArray.empty)).1 = 2 * ((netsOf hs a.h a.l).getD j (0, ByteArray.empty)).1 ∧
    (((joinedL totalM hs [a, twinOf a]).getD j (0, ByteArray.empty)).2.toList == ((netsOf hs a.h a.l).getD j (0, ByteArray.empty)).2.toList) = true := by
  rw [joinedL_at _ _ _ _ hj]
  exact total_twin (nets_at_fine hs a j (by omega))
theorem alone_least (ha : (netsOf hs a.h a.l).length = hs.length) (hb : (netsOf hs b.h b.l).length = hs.length) (j : Nat) (hj : j < hs.length) (h : ((netsOf hs a.h a.l).getD j (0, ByteArray.empty)).2.toList.isEmpty = true) :
    ((joinedL minM hs [a, b]).getD j (0, ByteArray.empty)).2.toList.isEmpty = true ∧ ((joinedL minM hs [a, b]).getD j (0, ByteArray.empty)).1 ≤ ((netsOf hs a.h a.l).getD j (0, ByteArray.empty)).1 := by
  rw [joinedL_at _ _ _ _ hj]
  exact min_counts (nets_at_fine hs a j (by omega)) (nets_at_fine hs b j (by omega)) h
theorem PlayersR.three {w : World} {g T : Nat} {p q r : Pl} {A B C : Option Addr} {c d e : Nat} (h : BlkV w g T #[.string p.nm, .slice A p.l.length c, .int .i64 p.h, .string q.nm, .slice B q.l.length d, .int .i64 q.h, .string r.nm, .slice C r.l.length e, .int .i64 r.h]) (ha : EntriesR w A p.l) (hb : EntriesR w B q.l) (hc : EntriesR w C r.l) :
    PlayersR w (some ⟨g, 0, none⟩) [p, q, r] := fun j hj => by
  match j, hj with
  | 0, _ => exact ⟨_, A, c, rfl, h.cell 0, h.cell 1, h.cell 2, h.lt, ha⟩
  | 1, _ => exact ⟨_, B, d, rfl, h.cell 3, h.cell 4, h.cell 5, h.lt, hb⟩
  | 2, _ => exact ⟨_, C, e, rfl, h.cell 6, h.cell 7, h.cell 8, h.lt, hc⟩
end
end Go.Proofs.YtkhhkicfeaeddaaGreatDoor
