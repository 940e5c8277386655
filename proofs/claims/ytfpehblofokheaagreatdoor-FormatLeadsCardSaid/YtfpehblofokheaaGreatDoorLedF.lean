/- The reference's Playoff. -/
import Derived.Test.YtfpehblofokheaaGreatDoorLedN
import Derived.Test.YtfpehblofokheaaGreatDoorLedC
import Derived.Test.YtfpehblofokheaaGreatDoorMgJ
import Derived.BigQuiet
import Derived.Deep.QuietTactic
import Derived.Outline
set_option linter.unusedVariables false
set_option linter.unusedSimpArgs false
namespace Go.Proofs.YtfpehblofokheaaGreatDoor
open Go.RowKit

def valF (n : Nat) (L : List (Fin n)) : List Int := L.map fun x => ((x.val : Nat) : Int)
theorem valF_len (n : Nat) (L : List (Fin n)) : (valF n L).length = L.length := by simp [valF]
theorem valF_at (n : Nat) (L : List (Fin n)) (k : Nat) (h : k < L.length) : (valF n L).getD k 0 = ((L[k].val : Nat) : Int) := by simp [valF, List.getD, List.getElem?_eq_getElem h]
def PlayRef (n : Nat) (r : List (Fin n) × Nat) (w : World) (e : Ending) (w' : World) : Prop :=
  ∃ A c, e = .returned (.tuple #[.slice A r.1.length c, .int .i64 ((r.2 : Nat) : Int)]) ∧ IntsAt w' w'.heap.size A (valF n r.1) ∧ Below w.heap.size w w'
theorem refGo_more {n : Nat} {ls : List (List Int)} {m h : Nat} {L : List (Fin n)} (h2 : h < m) : refGo n ls (m - h) h L = if (stayL n ls h L).length = 1 then (stayL n ls h L, h + 1) else refGo n ls (m - (h + 1)) (h + 1) (stayL n ls h L) := by
  rw [show m - h = (m - (h + 1)) + 1 by omega, refGo]
theorem refGo_done {n : Nat} {ls : List (List Int)} {m h : Nat} {L : List (Fin n)} (h2 : ¬ h < m) : refGo n ls (m - h) h L = (L, h) := by
  rw [show m - h = 0 by omega, refGo]
theorem stayL_len {n : Nat} {ls : List (List Int)} {h : Nat} {L : List (Fin n)} : (stayL n ls h L).length ≤ L.length := List.length_filter_le _ _
theorem strokesF_at {n : Nat} {ls : List (List Int)} {h : Nat} (x : Fin n) : strokesF n ls h x = (ls.getD x.val []).getD h 0 := by simp [strokesF, strokesV]

set_option maxRecDepth 100000 in
set_option maxHeartbeats 16000000 in
theorem refPlayoff_any (a : Addr) (c m : Nat) (ls : List (List Int)) (w : World) (hls : ListsR w (some a) ls) (hp : PlayL m ls) (hl8 : ls.length ≤ 200) :
    Calls Tryz.prog 16 #[.slice (some a) ls.length c] w (PlayRef ls.length (refGo ls.length ls m 0 (finL ls.length)) w) := by
  have H := Lib.hid hls
  have hpl := hp.least
  have HM := Lib.hid hp.same
  have hm36 := hp.small
  have hm0 := hp.pos
  have HAT : Hid (∀ k, k < ls.length → (ls.getD k []).length = m) := Lib.hid (fun k hk => hp.at k hk)
  have HFL := Lib.hid (finL_len ls.length)
  clear hls hp
  go_enter Tryz.func16, Tryz.ntmps16
  go_wp2
  go_loopw [4, 5] (fun v iv w' => ∃ k : Nat, k ≤ ls.length ∧ iv = .int .i64 k ∧ w'.ownsRow w.heap.size 3 1 v (valF ls.length ((finL ls.length).take k)).length ((valF ls.length ((finL ls.length).take k)).map (Value.int .i64)) ∧ Below w.heap.size w w') (fun _ iv _ => ls.length - (intOf iv).toNat)
  case atStart => exact ⟨0, Nat.zero_le _, rfl, World.ownsRow_nil _ _ _ 1, Below.refl _ _⟩
  case round =>
    obtain ⟨k, hk, rfl, ho, hb⟩ := hrel
    have HO := Lib.hid ho
    have HB := Lib.hid hb
    clear ho hb
    by_cases hlt : k < ls.length
    · have hk0 : (0 : Int) ≤ (k : Int) := Int.natCast_nonneg _
      have hk1 : (k : Int) < (ls.length : Int) := by omega
      have HT : Hid (valF ls.length ((finL ls.length).take (k + 1)) = valF ls.length ((finL ls.length).take k) ++ [(k : Int)]) := Lib.hid (by
        have hkf : k < (finL ls.length).length := by rw [finL_len]; exact hlt
        have hv : ((finL ls.length)[k]).val = k := by simp [finL]
        rw [List.take_succ_eq_append_getElem hkf]
        show List.map _ (_ ++ [_]) = _
        rw [List.map_append]
        show _ ++ [(((finL ls.length)[k].val : Nat) : Int)] = _
        rw [hv]; rfl)
      obtain ⟨v1, w1, hr1, ho1, hb1, _, _⟩ := append_num w.heap.size (k : Int) wr u4 _ HB.out.size (by rw [valF_len]; simp; omega) HO.out
      have HRUN := Lib.hid hr1
      have HO1 : Hid (w1.ownsRow w.heap.size 3 1 v1 (valF ls.length ((finL ls.length).take (k + 1))).length ((valF ls.length ((finL ls.length).take (k + 1))).map (Value.int .i64))) := Lib.hid (by rw [HT.out]; exact ho1)
      have HB1 := Lib.hid (HB.out.trans hb1)
      clear hr1 ho1 hb1
      go_wp2_with (at_builtin; refine wpList_append_go rfl _ _ 35 rfl _ _ v1 w1 rfl rfl HRUN.out ?_)
      go_roundw
      case rel => exact ⟨k + 1, by omega, by go_num, HO1.out, HB1.out⟩
      case measure => simp [intOf]; omega
    · have hkn : ¬ (k : Int) < (ls.length : Int) := by omega
      have HTA : Hid ((finL ls.length).take k = finL ls.length) := Lib.hid (List.take_of_length_le (by rw [finL_len]; omega))
      have hof := HO.out
      rw [HTA.out] at hof
      have HOF := Lib.hid hof
      have hl0 : ls.length ≠ 0 := by omega
      clear hof
      obtain ⟨R, hR⟩ : ∃ R, refGo ls.length ls m 0 (finL ls.length) = R := ⟨_, rfl⟩
      have HR := Lib.hid hR
      clear hR
      go_wp2
      go_loopw [4, 6] (fun v hv w' => ∃ (h : Nat) (L : List (Fin ls.length)), h ≤ m ∧ hv = .int .i64 h ∧ L.length ≤ ls.length ∧ refGo ls.length ls (m - h) h L = R ∧ (∃ A c, v = .slice A L.length c ∧ IntsAt w' w'.heap.size A (valF ls.length L)) ∧ Below w.heap.size w w') (fun _ hv _ => m + 1 - (intOf hv).toNat)
      case atStart =>
        obtain ⟨A0, c0, e0, _, hi0⟩ := rows_ints HOF.out
        exact ⟨0, finL ls.length, Nat.zero_le _, rfl, by rw [finL_len]; exact Nat.le_refl _, HR.out, ⟨A0, c0, by rw [e0, valF_len], hi0⟩, HB.out⟩
      case round =>
        obtain ⟨h, L, hh, rfl, hLl, hgo, ⟨A1, c1, rfl, hi1⟩, hb⟩ := hrel
        have HGO := Lib.hid hgo
        have HI1 := Lib.hid hi1
        have HBB := Lib.hid hb
        clear hgo hi1 hb
        obtain ⟨a', B0, cc0, ha', z0, _, _, _⟩ := (H.out.keep HBB.out) 0 (by omega)
        cases ha'
        rw [Addr.add_zero', HAT.out 0 (by omega)] at z0
        have hh0 : (0 : Int) ≤ (h : Int) := Int.natCast_nonneg _
        by_cases hhm : h < m
        · have hhi : (h : Int) < (m : Int) := by omega
          have hh36 : (h : Int) < 36 := by omega
          have HMO := Lib.hid (refGo_more (n := ls.length) (ls := ls) (L := L) hhm)
          have HROW : Hid (∀ x : Fin ls.length, ∃ B cc b, wr.cell? (a.add x.val) = some (.slice B m cc) ∧ B = some b ∧ wr.cell? (b.add h) = some (.int .i64 (strokesF ls.length ls h x))) := Lib.hid (fun x => by
            obtain ⟨a2, B, cc, e2, y0, _, _, hi⟩ := (H.out.keep HBB.out) x.val x.isLt
            cases e2
            rw [HAT.out _ x.isLt] at y0
            obtain ⟨b, rfl, _, y1⟩ := hi h (by rw [HAT.out _ x.isLt]; exact hhm)
            exact ⟨some b, cc, b, y0, rfl, by rw [strokesF_at]; exact y1⟩)
          have HCL : Hid (∀ i (hi : i < L.length), ∃ aL, A1 = some aL ∧ wr.cell? (aL.add i) = some (.int .i64 ((L[i].val : Nat) : Int))) := Lib.hid (fun i hi => by
            obtain ⟨aL, e, _, q⟩ := HI1.out i (by rw [valF_len]; exact hi)
            rw [valF_at _ _ _ hi] at q
            exact ⟨aL, e, q⟩)
          generalize hst : strokesF ls.length ls h = f at HROW
          have HST := Lib.hid hst
          clear hst
          have hL200 : L.length ≤ 200 := by omega
          go_wp2
          go_loopw [7, 8] (fun lv iv w' => ∃ i : Nat, i ≤ L.length ∧ iv = .int .i64 i ∧ lv = .int .i64 (((L.map f).take i).foldl min 99) ∧ wr = w') (fun _ iv _ => L.length - (intOf iv).toNat)
          case atStart => exact ⟨0, Nat.zero_le _, rfl, rfl, rfl⟩
          case round =>
            obtain ⟨i, hi, rfl, rfl, rfl⟩ := hrel
            by_cases hil : i < L.length
            · obtain ⟨aL, rfl, q0⟩ := HCL.out i hil
              obtain ⟨B, cc, b, y0, rfl, y1⟩ := HROW.out L[i]
              have hi0 : (0 : Int) ≤ (i : Int) := Int.natCast_nonneg _
              have hi1 : (i : Int) < (L.length : Int) := by omega
              have hx0 : (0 : Int) ≤ ((L[i].val : Nat) : Int) := Int.natCast_nonneg _
              have hx1 : ((L[i].val : Nat) : Int) < (ls.length : Int) := by have := L[i].isLt; omega
              have HMN : Hid (((L.map f).take (i + 1)).foldl min 99 = min (((L.map f).take i).foldl min 99) (f L[i])) := Lib.hid (by
                rw [List.take_succ_eq_append_getElem (by simpa using hil), List.foldl_append]
                simp)
              generalize ((L.map f).take i).foldl min 99 = t at HMN ⊢
              generalize f L[i] = x at y1 HMN
              generalize L[i].val = xv at q0 y0 hx0 hx1
              go_wp2
              go_round
              case rel => exact ⟨i + 1, by omega, by go_num, by rw [HMN.out], by simp⟩
              case measure => simp [intOf]; omega
            · have HLE : Hid (((L.map f).take i).foldl min 99 = leastR (L.map f)) := Lib.hid (by unfold leastR; rw [List.take_of_length_le (by simp; omega)])
              rw [HLE.out]
              have hin : ¬ (i : Int) < (L.length : Int) := by omega
              obtain ⟨least, hle⟩ : ∃ t, leastR (L.map f) = t := ⟨_, rfl⟩
              have HLEA := Lib.hid hle
              rw [hle]
              clear hle HLE
              go_wp2
              go_loopw [9, 10] (fun v9 iv w' => ∃ i : Nat, i ≤ L.length ∧ iv = .int .i64 i ∧ w'.ownsRow wr.heap.size 3 1 v9 (valF ls.length ((L.take i).filter fun x => f x == least)).length ((valF ls.length ((L.take i).filter fun x => f x == least)).map (Value.int .i64)) ∧ Below wr.heap.size wr w') (fun _ iv _ => L.length - (intOf iv).toNat)
              case atStart => exact ⟨0, Nat.zero_le _, rfl, World.ownsRow_nil _ _ _ 1, Below.refl _ _⟩
              case round =>
                obtain ⟨i, hi, rfl, ho, hb⟩ := hrel
                have HO9 := Lib.hid ho
                have HB9 := Lib.hid hb
                clear ho hb
                by_cases hil : i < L.length
                · obtain ⟨aL, rfl, q0⟩ := HCL.out i hil
                  obtain ⟨B, cc, b, y0, rfl, y1⟩ := HROW.out L[i]
                  have q0' := (HB9.out.cell (World.block_lt_of_cell? _ _ q0)).trans q0
                  have y0' := (HB9.out.cell (World.block_lt_of_cell? _ _ y0)).trans y0
                  have y1' := (HB9.out.cell (World.block_lt_of_cell? _ _ y1)).trans y1
                  have hi0 : (0 : Int) ≤ (i : Int) := Int.natCast_nonneg _
                  have hi1 : (i : Int) < (L.length : Int) := by omega
                  have hx0 : (0 : Int) ≤ ((L[i].val : Nat) : Int) := Int.natCast_nonneg _
                  have hx1 : ((L[i].val : Nat) : Int) < (ls.length : Int) := by have := L[i].isLt; omega
                  have hfl : ((L.take i).filter fun x => f x == least).length ≤ 200 := by
                    have h1 := List.length_filter_le (fun x => f x == least) (L.take i)
                    have h2 : (L.take i).length ≤ L.length := by simp; omega
                    omega
                  have HTK : Hid ((L.take (i + 1)).filter (fun x => f x == least) = (L.take i).filter (fun x => f x == least) ++ (if f L[i] = least then [L[i]] else [])) := Lib.hid (by
                    rw [List.take_succ_eq_append_getElem hil, List.filter_append]
                    congr 1
                    by_cases g : f L[i] = least
                    · rw [if_pos g, List.filter_cons_of_pos (by simpa using g)]; rfl
                    · rw [if_neg g, List.filter_cons_of_neg (by simpa using g)]; rfl)
                  clear q0 y0 y1
                  by_cases he : f L[i] = least
                  · have heb : (f L[i] == least) = true := by rw [beq_iff_eq]; exact he
                    obtain ⟨v1, w1, hr1, ho1, hb1, _, _⟩ := append_num _ ((L[i].val : Nat) : Int) wr u9 _ HB9.out.size (by rw [valF_len]; omega) HO9.out
                    have HRUN := Lib.hid hr1
                    have HO1 := Lib.hid ho1
                    have HB1 := Lib.hid (HB9.out.trans hb1)
                    have HVF : Hid (valF ls.length ((L.take (i + 1)).filter (fun x => f x == least)) = valF ls.length ((L.take i).filter (fun x => f x == least)) ++ [((L[i].val : Nat) : Int)]) := Lib.hid (by
                      rw [HTK.out, if_pos he]; unfold valF; rw [List.map_append]; rfl)
                    clear hr1 ho1 hb1 he
                    generalize f L[i] = x at y1' heb
                    generalize L[i].val = xv at q0' y0' hx0 hx1 HRUN HO1 HVF
                    go_wp2_with (at_builtin; refine wpList_append_go rfl _ _ 35 rfl _ _ v1 w1 rfl rfl HRUN.out ?_)
                    go_roundw
                    case rel => exact ⟨i + 1, by omega, by go_num, by rw [HVF.out]; exact HO1.out, HB1.out⟩
                    case measure => simp [intOf]; omega
                  · have heb : (f L[i] == least) = false := beq_eq_false_iff_ne.2 he
                    have HVF : Hid ((L.take (i + 1)).filter (fun x => f x == least) = (L.take i).filter (fun x => f x == least)) := Lib.hid (by rw [HTK.out, if_neg he, List.append_nil])
                    clear he
                    generalize f L[i] = x at y1' heb
                    generalize L[i].val = xv at q0' y0' hx0 hx1
                    go_wp2
                    go_round
                    case rel => exact ⟨i + 1, by omega, by go_num, by rw [HVF.out]; exact HO9.out, HB9.out⟩
                    case measure => simp [intOf]; omega
                · have hin : ¬ (i : Int) < (L.length : Int) := by omega
                  have HSL : Hid ((L.take i).filter (fun x => f x == least) = stayL ls.length ls h L) := Lib.hid (by
                    rw [List.take_of_length_le (by omega)]
                    unfold stayL
                    rw [HST.out, HLEA.out])
                  have ho9 := HO9.out
                  rw [HSL.out] at ho9
                  obtain ⟨A9, c9, rfl, _, hi9⟩ := rows_ints ho9
                  have HI9 := Lib.hid hi9
                  have hsl := stayL_len (n := ls.length) (ls := ls) (h := h) (L := L)
                  have HMO2 := Lib.hid (by have h1 := HMO.out; rwa [HGO.out] at h1)
                  have HBX := Lib.hid (HBB.out.trans (HB9.out.mono HBB.out.size))
                  rw [valF_len]
                  clear ho9 hi9
                  by_cases hone : (stayL ls.length ls h L).length = 1
                  · have h1b : (((stayL ls.length ls h L).length : Int) == 1) = true := by rw [beq_iff_eq]; omega
                    have HRV : Hid (R = (stayL ls.length ls h L, h + 1)) := Lib.hid (by rw [HMO2.out, if_pos hone])
                    clear hone
                    go_wp2
                    go_ret2
                    rw [HR.out, HRV.out]
                    exact ⟨A9, c9, by simp, HI9.out, HBX.out⟩
                  · have h1b : (((stayL ls.length ls h L).length : Int) == 1) = false := by rw [beq_eq_false_iff_ne]; omega
                    have HRV := Lib.hid (by have h1 := HMO2.out; rwa [if_neg hone] at h1)
                    clear hone
                    go_wp2
                    go_round
                    case rel => exact ⟨h + 1, stayL ls.length ls h L, by omega, by go_num, by omega, HRV.out.symm, ⟨A9, c9, rfl, HI9.out⟩, HBX.out⟩
                    case measure => simp [intOf]; omega
        · have hhi : ¬ (h : Int) < (m : Int) := by omega
          have HDN := Lib.hid (refGo_done (n := ls.length) (ls := ls) (L := L) hhm)
          have hme : h = m := by omega
          go_wp2
          go_quiet (fail)
          go_wp2
          go_ret2
          have e1 := HGO.out
          rw [HDN.out] at e1
          subst hme
          rw [HR.out, ← e1]
          exact ⟨A1, c1, rfl, HI1.out, belowQ HBB.out _⟩
end Go.Proofs.YtfpehblofokheaaGreatDoor
