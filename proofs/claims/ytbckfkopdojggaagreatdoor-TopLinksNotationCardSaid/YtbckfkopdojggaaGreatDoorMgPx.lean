/- Merged: FrDN FrDP. -/
import Derived.Test.YtbckfkopdojggaaGreatDoorMgIx
import Derived.Test.YtbckfkopdojggaaGreatDoorMgHx
import Derived.Outline
import Derived.Test.YtbckfkopdojggaaGreatDoorMgF
/- joined, Fourball, Aggregate: sides each of whose players plays a ball. -/
set_option linter.unusedVariables false
set_option linter.unusedSimpArgs false
namespace Go.Proofs.YtbckfkopdojggaaGreatDoor
open Go.RowKit

def joinedL (J : List (Int × ByteArray) → Int × ByteArray) (hs : List (Int × Int)) (ps : List Pl) : List (Int × ByteArray) := (List.range hs.length).map fun i => J (netsAt hs ps i)
theorem joinedL_len (J : List (Int × ByteArray) → Int × ByteArray) (hs : List (Int × Int)) (ps : List Pl) : (joinedL J hs ps).length = hs.length := by simp [joinedL]
theorem joinedL_at (J : List (Int × ByteArray) → Int × ByteArray) (hs : List (Int × Int)) (ps : List Pl) (k : Nat) (h : k < hs.length) : (joinedL J hs ps).getD k (0, ByteArray.empty) = J (netsAt hs ps k) := by
  simp [joinedL, List.getD, List.getElem?_range h]
/-- The error of players who each play a ball. -/
def joinedE (m : Int) (hs : List (Int × Int)) (ps : List Pl) : Int := firstI [holesI hs, sideI m ps.length, playersGo hs [] ps]
theorem playersGo_zero (hs : List (Int × Int)) : ∀ (ps : List Pl) (S : List ByteArray), playersGo hs S ps = 0 → ∀ p ∈ ps, plI hs p = 0
  | [], _, _, p, hp => by cases hp
  | q :: ps, S, h, p, hp => by
    unfold playersGo at h
    by_cases h1 : firstI [plI hs q, unlessI (!decide (q.nm ∈ S)) 9] = 0
    · rw [if_pos h1] at h
      rcases List.mem_cons.1 hp with rfl | hp
      · exact firstI_zero _ h1 _ (by simp)
      · exact playersGo_zero hs ps _ h p hp
    · rw [if_neg h1] at h; exact absurd h h1
theorem netsAt_small {hs : List (Int × Int)} {ps : List Pl} (hn : ∀ p ∈ ps, plI hs p = 0) {i : Nat} (hi : i < hs.length) : Small (netsAt hs ps i) := fun x hx => by
  unfold firsts netsAt at hx
  obtain ⟨e, he, rfl⟩ := List.mem_map.1 hx
  obtain ⟨p, hp, rfl⟩ := List.mem_map.1 he
  have F := fit_of (show playerI hs p.nm p.l p.h = 0 from hn p hp)
  exact F.netsSmall.at i (by rw [F.netsLen]; exact hi)

set_option maxRecDepth 100000 in
set_option maxHeartbeats 8000000 in
theorem joinedB_yes (A H : Option Addr) (c ch : Nat) (hs : List (Int × Int)) (ps : List Pl) (w : World) (hr : HolesR w H hs) (hbl : ∀ a, H = some a → a.block < w.heap.size) (hp : PlayersR w A ps) (hE : joinedE 4 hs ps = 0) :
    Calls Tryz.prog 79 #[.agg #[.int .i64 4, .nilFunc, .func (.func 144) #[] #[]], .slice H hs.length ch, .slice A ps.length c] w fun e w' =>
      ∃ g, e = .returned (.tuple #[.slice (some ⟨g, 0, none⟩) hs.length hs.length, .int .i64 0]) ∧ NetBlk w' g (joinedL minM hs ps) ∧ w.heap.size ≤ g ∧ Below w.heap.size w w' := by
  have h1 := firstI_zero _ hE (holesI hs) (by simp)
  have h2 := firstI_zero _ hE (sideI 4 ps.length) (by simp)
  have h3 := firstI_zero _ hE (playersGo hs [] ps) (by simp)
  have HZ := holesI_zero h1
  have hps := playersGo_zero hs ps [] h3
  have hlp : 2 ≤ ps.length ∧ (ps.length : Int) ≤ 4 := by
    unfold sideI at h2
    by_cases g : 2 ≤ ps.length ∧ (ps.length : Int) ≤ 4
    · exact g
    · rw [if_neg g] at h2; omega
  have hll : ∀ p ∈ ps, p.l.length ≤ 4611686018427387904 := fun p hp => by
    have F := fit_of (show playerI hs p.nm p.l p.h = 0 from hps p hp)
    have := F.most; have := F.len; omega
  have hlh : hs.length ≤ 36 := HZ.2.1
  have hl4 : ps.length ≤ 4 := by omega
  have hl2 : 2 ≤ ps.length := hlp.1
  have HCH := Lib.hid (fun W (hb : Below w.heap.size w W) => checkHoles_any H ch hs W (hr.keep hbl hb) (fun a ha => Nat.lt_of_lt_of_le (hbl a ha) hb.size) (by omega))
  have HCP := Lib.hid (fun W (hb : Below w.heap.size w W) => checkPlayers_any A H c ch hs ps W (hr.keep hbl hb) (fun a ha => Nat.lt_of_lt_of_le (hbl a ha) hb.size) (by omega) (hp.keep hb) (by omega) hll)
  have HER := Lib.hid (fun W (hb : Below w.heap.size w W) gh (hc : W.cell? ⟨gh, 0, none⟩ = some (.slice H hs.length ch)) => eachRound_any A H c ch gh hs ps W (hr.keep hbl hb) (fun a ha => Nat.lt_of_lt_of_le (hbl a ha) hb.size) hc (hp.keep hb) (by omega) hps)
  have HF : Hid (firstI [holesI hs, sideI 4 ps.length, playersGo hs [] ps] = 0) := Lib.hid hE
  have HPS := Lib.hid hps
  have HJL := Lib.hid (joinedL_len minM hs ps)
  have HNL : Hid (∀ i, i < hs.length → ∀ p ∈ ps, i < (netsOf hs p.h p.l).length) := Lib.hid (fun i hi p hp => by
    rw [(fit_of (show playerI hs p.nm p.l p.h = 0 from hps p hp)).netsLen]; exact hi)
  have HJN : Hid (∀ W g2 k, k < hs.length → NetBlk W g2 (netsAt hs ps k) → Calls Tryz.prog 144 #[.slice (some ⟨g2, 0, none⟩) ps.length ps.length] W fun e w' => e = .returned (.agg #[.int .i64 (minM (netsAt hs ps k)).1, .string (minM (netsAt hs ps k)).2]) ∧ Below W.heap.size W w') := Lib.hid (fun W g2 k hk hn => by
    have := best_any (some ⟨g2, 0, none⟩) ps.length (netsAt hs ps k) W hn.entries (by rw [netsAt_len]; omega) (by rw [netsAt_len]; omega)
    rw [netsAt_len] at this
    exact this)
  have hmk := make_nets hs.length (by omega)
  clear hr hbl hp hE h1 h2 h3 HZ hps hlp hll
  go_enter Tryz.func79, Tryz.ntmps79
  go_wp2
  generalize hW0 : (w.alloc (.cells #[.int .i64 4, .nilFunc, .func (.func 144) #[] #[]] 150)).alloc (.cells #[.slice H hs.length ch] 22) = W0
  obtain ⟨a1, a2, a3, a4⟩ := two_allocs w _ _ _ _ hW0
  have HB0 := Lib.hid a3
  have HSZ0 := Lib.hid a4
  have HA1 := Lib.hid a1
  have HA2 := Lib.hid a2
  have HS0 := Lib.hid (show W0.drew.cell? ⟨w.heap.size, 0, none⟩ = some (.int .i64 4) ∧ W0.drew.cell? ⟨w.heap.size, 1, none⟩ = some .nilFunc ∧ W0.drew.cell? ⟨w.heap.size, 2, none⟩ = some (.func (.func 144) #[] #[]) ∧ W0.drew.cell? ⟨w.heap.size + 1, 0, none⟩ = some (.slice H hs.length ch) ∧ Hid (Below W0.heap.size W0 W0.drew) from ⟨a1.cell 0, a1.cell 1, a1.cell 2, a2.cell 0, Lib.hid ((Below.refl _ _).drew)⟩)
  clear hW0 a1 a2 a3 a4
  go_region_held3 (fun W => W.cell? ⟨w.heap.size, 0, none⟩ = some (.int .i64 4) ∧ W.cell? ⟨w.heap.size, 1, none⟩ = some .nilFunc ∧ W.cell? ⟨w.heap.size, 2, none⟩ = some (.func (.func 144) #[] #[]) ∧ W.cell? ⟨w.heap.size + 1, 0, none⟩ = some (.slice H hs.length ch) ∧ Hid (Below W0.heap.size W0 W))
    ((first | assumption | exact keepQ hb1 (by assumption) (Nat.le_refl _) | exact keepQ ((Below.refl _ _).alloc (Nat.le_refl _) _) (by assumption) (Nat.le_refl _) | exact HS0.out))
    (first
      | (go_at_call 50; refine (HCH.out _ (HB0.out.trans ((heldQ (by assumption)).mono HB0.out.size))).mono ?_; rintro e w1 ⟨rfl, hb1⟩)
      | (go_at_call 137; refine (sideCheck_any 4 _ _ ps.length _ (by omega)).mono ?_; rintro e w1 ⟨rfl, hb1⟩)
      | (go_at_call 52; refine (HCP.out _ (HB0.out.trans ((heldQ (by assumption)).mono HB0.out.size))).mono ?_; rintro e w1 ⟨rfl, hb1⟩)
      | (go_at_call 49; refine (fmFirst_any _ _ [_, _, _] _ (by simp) (Ints.three _ _ _ _ _ _ rfl)).mono ?_; rintro e w1 ⟨rfl, rfl⟩))
  have hS := (by assumption : (w1.alloc (.cells #[.int .i64 (holesI hs), .int .i64 (sideI 4 ps.length), .int .i64 (playersGo hs [] ps)] 36)).cell? ⟨w.heap.size, 0, none⟩ = some (.int .i64 4) ∧ (w1.alloc (.cells #[.int .i64 (holesI hs), .int .i64 (sideI 4 ps.length), .int .i64 (playersGo hs [] ps)] 36)).cell? ⟨w.heap.size, 1, none⟩ = some .nilFunc ∧ (w1.alloc (.cells #[.int .i64 (holesI hs), .int .i64 (sideI 4 ps.length), .int .i64 (playersGo hs [] ps)] 36)).cell? ⟨w.heap.size, 2, none⟩ = some (.func (.func 144) #[] #[]) ∧ (w1.alloc (.cells #[.int .i64 (holesI hs), .int .i64 (sideI 4 ps.length), .int .i64 (playersGo hs [] ps)] 36)).cell? ⟨w.heap.size + 1, 0, none⟩ = some (.slice H hs.length ch) ∧ Hid (Below W0.heap.size W0 (w1.alloc (.cells #[.int .i64 (holesI hs), .int .i64 (sideI 4 ps.length), .int .i64 (playersGo hs [] ps)] 36))))
  have hb2 := hS.2.2.2.2.out
  rename_i hHeld
  clear hHeld hS hb1
  rw [HF.out]
  generalize w1.alloc (.cells #[.int .i64 (holesI hs), .int .i64 (sideI 4 ps.length), .int .i64 (playersGo hs [] ps)] 36) = W2 at hb2 ⊢
  have HB2 := Lib.hid (HB0.out.trans (hb2.mono HB0.out.size))
  have HX1 := Lib.hid (HA1.out.below hb2 HA1.out.lt)
  have HX2 := Lib.hid (HA2.out.below hb2 HA2.out.lt)
  clear hb2 HA1 HA2 HS0 HB0 HSZ0
  have hcell2 := HX2.out.cell 0
  simp only [List.getElem?_toArray, List.getElem?_cons_zero, List.getElem?_cons_succ] at hcell2
  have HCELL2 := Lib.hid hcell2
  clear hcell2
  go_wp2_with fail
  refine (HER.out W2 HB2.out (w.heap.size + 1) HCELL2.out).mono ?_
  rintro e w3 ⟨g, cs, rfl, hrr, hge, hb3⟩
  have HRR := Lib.hid hrr
  have HB3 := Lib.hid (HB2.out.trans (hb3.mono HB2.out.size))
  have HY1 := Lib.hid (HX1.out.below hb3 HX1.out.lt)
  have HY2 := Lib.hid (HX2.out.below hb3 HX2.out.lt)
  clear hrr hge hb3 HX1 HX2 HER HCELL2
  have y0 := HY2.out.cell 0
  have y1 := (HY2.out.alloc (.cells (pairCells (List.replicate hs.length (0, ⟨#[]⟩))).toArray 83)).cell 0
  simp only [List.getElem?_toArray, List.getElem?_cons_zero, List.getElem?_cons_succ] at y0 y1
  go_wp2
  clear y0 y1
  go_loopw [34] (fun i w' => ∃ (k : Nat) (l : List (Int × ByteArray)), k ≤ hs.length ∧ i = .int .i64 k ∧ l.length = hs.length ∧ NetBlk w' w3.heap.size l ∧ (∀ j, j < k → l.getD j (0, ByteArray.empty) = minM (netsAt hs ps j)) ∧ Below w3.heap.size w3 w') (fun i _ => hs.length - (intOf i).toNat)
  case atStart => exact ⟨0, _, Nat.zero_le _, rfl, by simp, BlkV.new w3 _ _, fun j hj => absurd hj (Nat.not_lt_zero _), (Below.refl _ _).alloc (Nat.le_refl _) _⟩
  case round =>
    obtain ⟨k, l, hk, rfl, hll, hblk, hpre, hb⟩ := hrel
    have HLL := Lib.hid hll
    have HBLK := Lib.hid hblk
    have HPRE := Lib.hid hpre
    have HB := Lib.hid hb
    clear hll hblk hpre hb
    by_cases hlt : k < hs.length
    · have HJK := Lib.hid (fun W g2 => HJN.out W g2 k hlt)
      have hk0 : (0 : Int) ≤ (k : Int) := Int.natCast_nonneg _
      have hk1 : (k : Int) < (hs.length : Int) := by omega
      generalize hjv : minM (netsAt hs ps k) = jv at HJK
      have HJV := Lib.hid hjv
      clear hjv
      obtain ⟨s, m⟩ := jv
      simp only at HJK
      go_wp2_with fail
      generalize hW4 : wr.alloc (.cells #[.int .i64 (k : Int)] 3) = W4
      have hb4 : Below wr.heap.size wr W4 := by subst hW4; exact (Below.refl _ _).alloc (Nat.le_refl _) _
      have hi4 : BlkV W4 wr.heap.size 3 #[.int .i64 (k : Int)] := by subst hW4; exact BlkV.new _ _ _
      have HB4 := Lib.hid hb4
      have HW4 := Lib.hid (HB.out.trans (hb4.mono HB.out.size))
      have HN4 : Hid (NetBlk W4 w3.heap.size l) := Lib.hid (BlkV.below HBLK.out hb4 (BlkV.lt HBLK.out))
      have HI4 := Lib.hid hi4
      have hi40 := hi4.cell 0
      simp only [List.getElem?_toArray, List.getElem?_cons_zero, List.getElem?_cons_succ] at hi40
      clear hW4 hb4 hi4
      have HRW := Lib.hid (HRR.out.keep (HW4.out))
      have HYW := Lib.hid (HY1.out.below HW4.out HY1.out.lt)
      have x2 := HYW.out.cell 2
      simp only [List.getElem?_toArray, List.getElem?_cons_zero, List.getElem?_cons_succ] at x2
      have HEN := Lib.hid (eachNet_any g wr.heap.size k cs hs ps W4.drew (HRW.out.keep ((Below.refl _ _).drew)) hi40 (by omega) (HNL.out k hlt))
      obtain ⟨n0, n1⟩ := HN4.out.cells (j := k) (by rw [HLL.out]; exact hlt)
      have m0 := BlkV.frozen HN4.out (k * 2)
      have m1 := BlkV.frozen HN4.out (k * 2 + 1)
      go_region_with (first
        | (go_at_call 140; refine HEN.out.mono ?_; rintro e w5 ⟨g2, rfl, hnet, hge2, hb5⟩; have hb5' : Below W4.heap.size W4 w5 := ((Below.refl _ _).drew).trans hb5; have q1 := (HI4.out.below hb5' HI4.out.lt).cell 0; have q2 := (HYW.out.below hb5' HYW.out.lt).cell 2; simp only [List.getElem?_toArray, List.getElem?_cons_zero, List.getElem?_cons_succ] at q1 q2; have HNET := Lib.hid hnet; have HB5 := Lib.hid hb5'; clear hnet hge2 hb5 hb5')
        | (go_at_call 144; refine (HJK.out _ _ HNET.out).mono ?_; rintro e w6 ⟨rfl, hb6⟩; have hb6' : Below W4.heap.size W4 w6 := HB5.out.trans (hb6.mono HB5.out.size); have q3 := (HI4.out.below hb6' HI4.out.lt).cell 0; simp only [List.getElem?_toArray, List.getElem?_cons_zero, List.getElem?_cons_succ] at q3; have hn6 : NetBlk w6 w3.heap.size l := BlkV.below HN4.out hb6' (BlkV.lt HN4.out); obtain ⟨z0, z1⟩ := hn6.cells (j := k) (by rw [HLL.out]; exact hlt); have f0 := BlkV.frozen hn6 (k * 2); have f1 := BlkV.frozen hn6 (k * 2 + 1); have HN6 := Lib.hid hn6; have HB6 := Lib.hid hb6'; clear hb6 hb6' hn6))
      all_goals
        go_wp2
        go_roundw
        case rel =>
          refine ⟨k + 1, _, by omega, by go_num, by rw [List.length_set]; exact HLL.out, HN6.out.set k s m (by rw [HLL.out]; exact hlt), fun j hj => ?_, ((HW4.out.trans (HB6.out.mono HW4.out.size)).setCell (by simp) _).setCell (by simp) _⟩
          by_cases hjk : j = k
          · subst hjk
            rw [HJV.out, List.getD, List.getElem?_set_self (by rw [HLL.out]; exact hlt)]
            rfl
          · rw [List.getD, List.getElem?_set_ne (by omega)]
            exact HPRE.out j (by omega)
        case measure => simp [intOf]; omega
    · have hle : l = joinedL minM hs ps := same_list _ _ (by rw [HLL.out, HJL.out]) (fun j hj => by
        rw [HPRE.out j (by have := HLL.out; omega), joinedL_at _ _ _ _ (by have := HLL.out; omega)])
      have HLE := Lib.hid hle
      clear hle
      go_wp2
      go_ret2
      exact ⟨w3.heap.size, rfl, by rw [← HLE.out]; exact HBLK.out, HB3.out.size, HB3.out.trans (HB.out.mono HB3.out.size)⟩

set_option maxRecDepth 100000 in
set_option maxHeartbeats 8000000 in
theorem joinedT_yes (A H : Option Addr) (c ch : Nat) (hs : List (Int × Int)) (ps : List Pl) (w : World) (hr : HolesR w H hs) (hbl : ∀ a, H = some a → a.block < w.heap.size) (hp : PlayersR w A ps) (hE : joinedE 2 hs ps = 0) :
    Calls Tryz.prog 79 #[.agg #[.int .i64 2, .nilFunc, .func (.func 145) #[] #[]], .slice H hs.length ch, .slice A ps.length c] w fun e w' =>
      ∃ g, e = .returned (.tuple #[.slice (some ⟨g, 0, none⟩) hs.length hs.length, .int .i64 0]) ∧ NetBlk w' g (joinedL totalM hs ps) ∧ w.heap.size ≤ g ∧ Below w.heap.size w w' := by
  have h1 := firstI_zero _ hE (holesI hs) (by simp)
  have h2 := firstI_zero _ hE (sideI 2 ps.length) (by simp)
  have h3 := firstI_zero _ hE (playersGo hs [] ps) (by simp)
  have HZ := holesI_zero h1
  have hps := playersGo_zero hs ps [] h3
  have hlp : 2 ≤ ps.length ∧ (ps.length : Int) ≤ 2 := by
    unfold sideI at h2
    by_cases g : 2 ≤ ps.length ∧ (ps.length : Int) ≤ 2
    · exact g
    · rw [if_neg g] at h2; omega
  have hll : ∀ p ∈ ps, p.l.length ≤ 4611686018427387904 := fun p hp => by
    have F := fit_of (show playerI hs p.nm p.l p.h = 0 from hps p hp)
    have := F.most; have := F.len; omega
  have hlh : hs.length ≤ 36 := HZ.2.1
  have hl4 : ps.length ≤ 4 := by omega
  have hl2 : 2 ≤ ps.length := hlp.1
  have HCH := Lib.hid (fun W (hb : Below w.heap.size w W) => checkHoles_any H ch hs W (hr.keep hbl hb) (fun a ha => Nat.lt_of_lt_of_le (hbl a ha) hb.size) (by omega))
  have HCP := Lib.hid (fun W (hb : Below w.heap.size w W) => checkPlayers_any A H c ch hs ps W (hr.keep hbl hb) (fun a ha => Nat.lt_of_lt_of_le (hbl a ha) hb.size) (by omega) (hp.keep hb) (by omega) hll)
  have HER := Lib.hid (fun W (hb : Below w.heap.size w W) gh (hc : W.cell? ⟨gh, 0, none⟩ = some (.slice H hs.length ch)) => eachRound_any A H c ch gh hs ps W (hr.keep hbl hb) (fun a ha => Nat.lt_of_lt_of_le (hbl a ha) hb.size) hc (hp.keep hb) (by omega) hps)
  have HF : Hid (firstI [holesI hs, sideI 2 ps.length, playersGo hs [] ps] = 0) := Lib.hid hE
  have HPS := Lib.hid hps
  have HJL := Lib.hid (joinedL_len totalM hs ps)
  have HNL : Hid (∀ i, i < hs.length → ∀ p ∈ ps, i < (netsOf hs p.h p.l).length) := Lib.hid (fun i hi p hp => by
    rw [(fit_of (show playerI hs p.nm p.l p.h = 0 from hps p hp)).netsLen]; exact hi)
  have HJN : Hid (∀ W g2 k, k < hs.length → NetBlk W g2 (netsAt hs ps k) → Calls Tryz.prog 145 #[.slice (some ⟨g2, 0, none⟩) ps.length ps.length] W fun e w' => e = .returned (.agg #[.int .i64 (totalM (netsAt hs ps k)).1, .string (totalM (netsAt hs ps k)).2]) ∧ Below W.heap.size W w') := Lib.hid (fun W g2 k hk hn => by
    have := total_any (some ⟨g2, 0, none⟩) ps.length (netsAt hs ps k) W hn.entries (by rw [netsAt_len]; omega) (by rw [netsAt_len]; omega) (netsAt_small hps hk)
    rw [netsAt_len] at this
    exact this)
  have hmk := make_nets hs.length (by omega)
  clear hr hbl hp hE h1 h2 h3 HZ hps hlp hll
  go_enter Tryz.func79, Tryz.ntmps79
  go_wp2
  generalize hW0 : (w.alloc (.cells #[.int .i64 2, .nilFunc, .func (.func 145) #[] #[]] 150)).alloc (.cells #[.slice H hs.length ch] 22) = W0
  obtain ⟨a1, a2, a3, a4⟩ := two_allocs w _ _ _ _ hW0
  have HB0 := Lib.hid a3
  have HSZ0 := Lib.hid a4
  have HA1 := Lib.hid a1
  have HA2 := Lib.hid a2
  have HS0 := Lib.hid (show W0.drew.cell? ⟨w.heap.size, 0, none⟩ = some (.int .i64 2) ∧ W0.drew.cell? ⟨w.heap.size, 1, none⟩ = some .nilFunc ∧ W0.drew.cell? ⟨w.heap.size, 2, none⟩ = some (.func (.func 145) #[] #[]) ∧ W0.drew.cell? ⟨w.heap.size + 1, 0, none⟩ = some (.slice H hs.length ch) ∧ Hid (Below W0.heap.size W0 W0.drew) from ⟨a1.cell 0, a1.cell 1, a1.cell 2, a2.cell 0, Lib.hid ((Below.refl _ _).drew)⟩)
  clear hW0 a1 a2 a3 a4
  go_region_held3 (fun W => W.cell? ⟨w.heap.size, 0, none⟩ = some (.int .i64 2) ∧ W.cell? ⟨w.heap.size, 1, none⟩ = some .nilFunc ∧ W.cell? ⟨w.heap.size, 2, none⟩ = some (.func (.func 145) #[] #[]) ∧ W.cell? ⟨w.heap.size + 1, 0, none⟩ = some (.slice H hs.length ch) ∧ Hid (Below W0.heap.size W0 W))
    ((first | assumption | exact keepQ hb1 (by assumption) (Nat.le_refl _) | exact keepQ ((Below.refl _ _).alloc (Nat.le_refl _) _) (by assumption) (Nat.le_refl _) | exact HS0.out))
    (first
      | (go_at_call 50; refine (HCH.out _ (HB0.out.trans ((heldQ (by assumption)).mono HB0.out.size))).mono ?_; rintro e w1 ⟨rfl, hb1⟩)
      | (go_at_call 137; refine (sideCheck_any 2 _ _ ps.length _ (by omega)).mono ?_; rintro e w1 ⟨rfl, hb1⟩)
      | (go_at_call 52; refine (HCP.out _ (HB0.out.trans ((heldQ (by assumption)).mono HB0.out.size))).mono ?_; rintro e w1 ⟨rfl, hb1⟩)
      | (go_at_call 49; refine (fmFirst_any _ _ [_, _, _] _ (by simp) (Ints.three _ _ _ _ _ _ rfl)).mono ?_; rintro e w1 ⟨rfl, rfl⟩))
  have hS := (by assumption : (w1.alloc (.cells #[.int .i64 (holesI hs), .int .i64 (sideI 2 ps.length), .int .i64 (playersGo hs [] ps)] 36)).cell? ⟨w.heap.size, 0, none⟩ = some (.int .i64 2) ∧ (w1.alloc (.cells #[.int .i64 (holesI hs), .int .i64 (sideI 2 ps.length), .int .i64 (playersGo hs [] ps)] 36)).cell? ⟨w.heap.size, 1, none⟩ = some .nilFunc ∧ (w1.alloc (.cells #[.int .i64 (holesI hs), .int .i64 (sideI 2 ps.length), .int .i64 (playersGo hs [] ps)] 36)).cell? ⟨w.heap.size, 2, none⟩ = some (.func (.func 145) #[] #[]) ∧ (w1.alloc (.cells #[.int .i64 (holesI hs), .int .i64 (sideI 2 ps.length), .int .i64 (playersGo hs [] ps)] 36)).cell? ⟨w.heap.size + 1, 0, none⟩ = some (.slice H hs.length ch) ∧ Hid (Below W0.heap.size W0 (w1.alloc (.cells #[.int .i64 (holesI hs), .int .i64 (sideI 2 ps.length), .int .i64 (playersGo hs [] ps)] 36))))
  have hb2 := hS.2.2.2.2.out
  rename_i hHeld
  clear hHeld hS hb1
  rw [HF.out]
  generalize w1.alloc (.cells #[.int .i64 (holesI hs), .int .i64 (sideI 2 ps.length), .int .i64 (playersGo hs [] ps)] 36) = W2 at hb2 ⊢
  have HB2 := Lib.hid (HB0.out.trans (hb2.mono HB0.out.size))
  have HX1 := Lib.hid (HA1.out.below hb2 HA1.out.lt)
  have HX2 := Lib.hid (HA2.out.below hb2 HA2.out.lt)
  clear hb2 HA1 HA2 HS0 HB0 HSZ0
  have hcell2 := HX2.out.cell 0
  simp only [List.getElem?_toArray, List.getElem?_cons_zero, List.getElem?_cons_succ] at hcell2
  have HCELL2 := Lib.hid hcell2
  clear hcell2
  go_wp2_with fail
  refine (HER.out W2 HB2.out (w.heap.size + 1) HCELL2.out).mono ?_
  rintro e w3 ⟨g, cs, rfl, hrr, hge, hb3⟩
  have HRR := Lib.hid hrr
  have HB3 := Lib.hid (HB2.out.trans (hb3.mono HB2.out.size))
  have HY1 := Lib.hid (HX1.out.below hb3 HX1.out.lt)
  have HY2 := Lib.hid (HX2.out.below hb3 HX2.out.lt)
  clear hrr hge hb3 HX1 HX2 HER HCELL2
  have y0 := HY2.out.cell 0
  have y1 := (HY2.out.alloc (.cells (pairCells (List.replicate hs.length (0, ⟨#[]⟩))).toArray 83)).cell 0
  simp only [List.getElem?_toArray, List.getElem?_cons_zero, List.getElem?_cons_succ] at y0 y1
  go_wp2
  clear y0 y1
  go_loopw [34] (fun i w' => ∃ (k : Nat) (l : List (Int × ByteArray)), k ≤ hs.length ∧ i = .int .i64 k ∧ l.length = hs.length ∧ NetBlk w' w3.heap.size l ∧ (∀ j, j < k → l.getD j (0, ByteArray.empty) = totalM (netsAt hs ps j)) ∧ Below w3.heap.size w3 w') (fun i _ => hs.length - (intOf i).toNat)
  case atStart => exact ⟨0, _, Nat.zero_le _, rfl, by simp, BlkV.new w3 _ _, fun j hj => absurd hj (Nat.not_lt_zero _), (Below.refl _ _).alloc (Nat.le_refl _) _⟩
  case round =>
    obtain ⟨k, l, hk, rfl, hll, hblk, hpre, hb⟩ := hrel
    have HLL := Lib.hid hll
    have HBLK := Lib.hid hblk
    have HPRE := Lib.hid hpre
    have HB := Lib.hid hb
    clear hll hblk hpre hb
    by_cases hlt : k < hs.length
    · have HJK := Lib.hid (fun W g2 => HJN.out W g2 k hlt)
      have hk0 : (0 : Int) ≤ (k : Int) := Int.natCast_nonneg _
      have hk1 : (k : Int) < (hs.length : Int) := by omega
      generalize hjv : totalM (netsAt hs ps k) = jv at HJK
      have HJV := Lib.hid hjv
      clear hjv
      obtain ⟨s, m⟩ := jv
      simp only at HJK
      go_wp2_with fail
      generalize hW4 : wr.alloc (.cells #[.int .i64 (k : Int)] 3) = W4
      have hb4 : Below wr.heap.size wr W4 := by subst hW4; exact (Below.refl _ _).alloc (Nat.le_refl _) _
      have hi4 : BlkV W4 wr.heap.size 3 #[.int .i64 (k : Int)] := by subst hW4; exact BlkV.new _ _ _
      have HB4 := Lib.hid hb4
      have HW4 := Lib.hid (HB.out.trans (hb4.mono HB.out.size))
      have HN4 : Hid (NetBlk W4 w3.heap.size l) := Lib.hid (BlkV.below HBLK.out hb4 (BlkV.lt HBLK.out))
      have HI4 := Lib.hid hi4
      have hi40 := hi4.cell 0
      simp only [List.getElem?_toArray, List.getElem?_cons_zero, List.getElem?_cons_succ] at hi40
      clear hW4 hb4 hi4
      have HRW := Lib.hid (HRR.out.keep (HW4.out))
      have HYW := Lib.hid (HY1.out.below HW4.out HY1.out.lt)
      have x2 := HYW.out.cell 2
      simp only [List.getElem?_toArray, List.getElem?_cons_zero, List.getElem?_cons_succ] at x2
      have HEN := Lib.hid (eachNet_any g wr.heap.size k cs hs ps W4.drew (HRW.out.keep ((Below.refl _ _).drew)) hi40 (by omega) (HNL.out k hlt))
      obtain ⟨n0, n1⟩ := HN4.out.cells (j := k) (by rw [HLL.out]; exact hlt)
      have m0 := BlkV.frozen HN4.out (k * 2)
      have m1 := BlkV.frozen HN4.out (k * 2 + 1)
      go_region_with (first
        | (go_at_call 140; refine HEN.out.mono ?_; rintro e w5 ⟨g2, rfl, hnet, hge2, hb5⟩; have hb5' : Below W4.heap.size W4 w5 := ((Below.refl _ _).drew).trans hb5; have q1 := (HI4.out.below hb5' HI4.out.lt).cell 0; have q2 := (HYW.out.below hb5' HYW.out.lt).cell 2; simp only [List.getElem?_toArray, List.getElem?_cons_zero, List.getElem?_cons_succ] at q1 q2; have HNET := Lib.hid hnet; have HB5 := Lib.hid hb5'; clear hnet hge2 hb5 hb5')
        | (go_at_call 145; refine (HJK.out _ _ HNET.out).mono ?_; rintro e w6 ⟨rfl, hb6⟩; have hb6' : Below W4.heap.size W4 w6 := HB5.out.trans (hb6.mono HB5.out.size); have q3 := (HI4.out.below hb6' HI4.out.lt).cell 0; simp only [List.getElem?_toArray, List.getElem?_cons_zero, List.getElem?_cons_succ] at q3; have hn6 : NetBlk w6 w3.heap.size l := BlkV.below HN4.out hb6' (BlkV.lt HN4.out); obtain ⟨z0, z1⟩ := hn6.cells (j := k) (by rw [HLL.out]; exact hlt); have f0 := BlkV.frozen hn6 (k * 2); have f1 := BlkV.frozen hn6 (k * 2 + 1); have HN6 := Lib.hid hn6; have HB6 := Lib.hid hb6'; clear hb6 hb6' hn6))
      all_goals
        go_wp2
        go_roundw
        case rel =>
          refine ⟨k + 1, _, by omega, by go_num, by rw [List.length_set]; exact HLL.out, HN6.out.set k s m (by rw [HLL.out]; exact hlt), fun j hj => ?_, ((HW4.out.trans (HB6.out.mono HW4.out.size)).setCell (by simp) _).setCell (by simp) _⟩
          by_cases hjk : j = k
          · subst hjk
            rw [HJV.out, List.getD, List.getElem?_set_self (by rw [HLL.out]; exact hlt)]
            rfl
          · rw [List.getD, List.getElem?_set_ne (by omega)]
            exact HPRE.out j (by omega)
        case measure => simp [intOf]; omega
    · have hle : l = joinedL totalM hs ps := same_list _ _ (by rw [HLL.out, HJL.out]) (fun j hj => by
        rw [HPRE.out j (by have := HLL.out; omega), joinedL_at _ _ _ _ (by have := HLL.out; omega)])
      have HLE := Lib.hid hle
      clear hle
      go_wp2
      go_ret2
      exact ⟨w3.heap.size, rfl, by rw [← HLE.out]; exact HBLK.out, HB3.out.size, HB3.out.trans (HB.out.mono HB3.out.size)⟩

end Go.Proofs.YtbckfkopdojggaaGreatDoor

/- Fourball and Aggregate, for players without an error. -/
namespace Go.Proofs.YtbckfkopdojggaaGreatDoor
open Go.RowKit

/-- Net strokes of holes beside no error. -/
def HolesOut (l : List (Int × ByteArray)) (w : World) (e : Ending) (w' : World) : Prop :=
  ∃ g, e = .returned (.tuple #[.slice (some ⟨g, 0, none⟩) l.length l.length, .int .i64 0]) ∧ NetBlk w' g l ∧ w.heap.size ≤ g ∧ Below w.heap.size w w'

set_option maxRecDepth 100000 in
set_option maxHeartbeats 1000000 in
theorem fmFourball_yes (A H : Option Addr) (c ch : Nat) (hs : List (Int × Int)) (ps : List Pl) (w : World) (hr : HolesR w H hs) (hbl : ∀ a, H = some a → a.block < w.heap.size) (hp : PlayersR w A ps) (hE : joinedE 4 hs ps = 0) :
    Calls Tryz.prog 29 #[.slice H hs.length ch, .slice A ps.length c] w (HolesOut (joinedL minM hs ps) w) := by
  have HJ := Lib.hid (fun W (hb : Below w.heap.size w W) => joinedB_yes A H c ch hs ps W (hr.keep hbl hb) (fun a ha => Nat.lt_of_lt_of_le (hbl a ha) hb.size) (hp.keep hb) hE)
  have HJL := Lib.hid (joinedL_len minM hs ps)
  clear hr hbl hp hE
  generalize joinedL minM hs ps = nl at HJ HJL ⊢
  go_enter Tryz.func29, Tryz.ntmps29
  go_wp2_with fail
  refine (sides_any _).mono ?_
  rintro e w1 ⟨rfl, hW1⟩
  have hlk := look_ball w1 w.heap.size (by subst hW1; exact heap_alloc_new w _)
  simp only [sBall, vBall, fnV] at hlk
  have hb1 : Below w.heap.size w w1 := by subst hW1; exact (Below.refl _ _).alloc (Nat.le_refl _) _
  have HB1 := Lib.hid hb1
  clear hW1 hb1
  go_wp2_with fail
  refine (HJ.out w1 HB1.out).mono ?_
  rintro e w2 ⟨g, rfl, hn, hg, hb2⟩
  have HN := Lib.hid hn
  have HG : Hid (w.heap.size ≤ g) := Lib.hid (Nat.le_trans HB1.out.size hg)
  have HB2 := Lib.hid (HB1.out.trans (hb2.mono HB1.out.size))
  clear hn hg hb2
  go_wp2
  go_ret2
  exact ⟨g, by rw [HJL.out]; rfl, HN.out, HG.out, HB2.out⟩

theorem keep6 {w W w1 : World} {B : Nat} {p1 p2 p3 p4 p5 p6 : Addr} {v1 v2 v3 v4 v5 v6 : Value} (hb : Below W.heap.size W w1) (h : W.cell? p1 = some v1 ∧ W.cell? p2 = some v2 ∧ W.cell? p3 = some v3 ∧ W.cell? p4 = some v4 ∧ W.cell? p5 = some v5 ∧ W.cell? p6 = some v6 ∧ Hid (Below B w W)) (hB : B ≤ w.heap.size) :
    w1.cell? p1 = some v1 ∧ w1.cell? p2 = some v2 ∧ w1.cell? p3 = some v3 ∧ w1.cell? p4 = some v4 ∧ w1.cell? p5 = some v5 ∧ w1.cell? p6 = some v6 ∧ Hid (Below B w w1) :=
  ⟨(hb.cell (World.block_lt_of_cell? _ _ h.1)).trans h.1, (hb.cell (World.block_lt_of_cell? _ _ h.2.1)).trans h.2.1, (hb.cell (World.block_lt_of_cell? _ _ h.2.2.1)).trans h.2.2.1, (hb.cell (World.block_lt_of_cell? _ _ h.2.2.2.1)).trans h.2.2.2.1, (hb.cell (World.block_lt_of_cell? _ _ h.2.2.2.2.1)).trans h.2.2.2.2.1, (hb.cell (World.block_lt_of_cell? _ _ h.2.2.2.2.2.1)).trans h.2.2.2.2.2.1, h.2.2.2.2.2.2.out.trans (hb.mono (Nat.le_trans hB h.2.2.2.2.2.2.out.size))⟩
theorem keep6_ad {w W : World} {B : Nat} {p1 p2 p3 p4 p5 p6 : Addr} {v1 v2 v3 v4 v5 v6 : Value} (o : Obj) (h : W.drew.cell? p1 = some v1 ∧ W.drew.cell? p2 = some v2 ∧ W.drew.cell? p3 = some v3 ∧ W.drew.cell? p4 = some v4 ∧ W.drew.cell? p5 = some v5 ∧ W.drew.cell? p6 = some v6 ∧ Hid (Below B w W.drew)) (hB : B ≤ w.heap.size) :
    (W.alloc o).drew.cell? p1 = some v1 ∧ (W.alloc o).drew.cell? p2 = some v2 ∧ (W.alloc o).drew.cell? p3 = some v3 ∧ (W.alloc o).drew.cell? p4 = some v4 ∧ (W.alloc o).drew.cell? p5 = some v5 ∧ (W.alloc o).drew.cell? p6 = some v6 ∧ Hid (Below B w (W.alloc o).drew) :=
  keep6 (W := W.drew) (w1 := W.drew.alloc o) ((Below.refl _ _).alloc (Nat.le_refl _) o) h hB

set_option maxRecDepth 100000 in
set_option maxHeartbeats 8000000 in
theorem fmAggregate_yes (H A B : Option Addr) (ch c d : Nat) (hs : List (Int × Int)) (a b : Pl) (w : World) (hr : HolesR w H hs) (hbl : ∀ x, H = some x → x.block < w.heap.size)
    (ha : EntriesR w A a.l) (hb : EntriesR w B b.l) (hE : joinedE 2 hs [a, b] = 0) :
    Calls Tryz.prog 30 #[.slice H hs.length ch, plV a A c, plV b B d] w (HolesOut (joinedL totalM hs [a, b]) w) := by
  have HJ : Hid (∀ W g, Below w.heap.size w W → BlkV W g 55 #[.string a.nm, .slice A a.l.length c, .int .i64 a.h, .string b.nm, .slice B b.l.length d, .int .i64 b.h] →
      Calls Tryz.prog 79 #[.agg #[.int .i64 2, .nilFunc, .func (.func 145) #[] #[]], .slice H hs.length ch, .slice (some ⟨g, 0, none⟩) 2 2] W (HolesOut (joinedL totalM hs [a, b]) W)) := Lib.hid (fun W g hbw hblk => by
    have := joinedT_yes (some ⟨g, 0, none⟩) H 2 ch hs [a, b] W (hr.keep hbl hbw) (fun a ha => Nat.lt_of_lt_of_le (hbl a ha) hbw.size) (PlayersR.two hblk (ha.keep hbw) (hb.keep hbw)) hE
    refine this.mono ?_
    rintro e w' ⟨g, rfl, h1, h2, h3⟩
    exact ⟨g, by rw [joinedL_len], h1, h2, h3⟩)
  clear hr hbl ha hb hE
  obtain ⟨an, al, ah⟩ := a
  obtain ⟨bn, bl, bh⟩ := b
  unfold plV
  simp only at HJ ⊢
  generalize joinedL totalM hs [⟨an, al, ah⟩, ⟨bn, bl, bh⟩] = nl at HJ ⊢
  go_enter Tryz.func30, Tryz.ntmps30
  go_wp2
  generalize hW0 : (w.alloc (.cells #[.string an, .slice A al.length c, .int .i64 ah] 55)).alloc (.cells #[.string bn, .slice B bl.length d, .int .i64 bh] 55) = W0
  obtain ⟨a1, a2, a3, a4⟩ := two_allocs w _ _ _ _ hW0
  have HB0 := Lib.hid a3
  have HA1 := Lib.hid a1
  have HA2 := Lib.hid a2
  clear hW0 a3 a4
  have p0 := a1.cell 0
  have p1 := a1.cell 1
  have p2 := a1.cell 2
  have q0 := a2.cell 0
  have q1 := a2.cell 1
  have q2 := a2.cell 2
  simp only [List.getElem?_toArray, List.getElem?_cons_zero, List.getElem?_cons_succ] at p0 p1 p2 q0 q1 q2
  clear a1 a2
  have HS0 : Hid (W0.drew.cell? ⟨w.heap.size, 0, none⟩ = some (.string an) ∧ W0.drew.cell? ⟨w.heap.size, 1, none⟩ = some (.slice A al.length c) ∧ W0.drew.cell? ⟨w.heap.size, 2, none⟩ = some (.int .i64 ah) ∧ W0.drew.cell? ⟨w.heap.size + 1, 0, none⟩ = some (.string bn) ∧ W0.drew.cell? ⟨w.heap.size + 1, 1, none⟩ = some (.slice B bl.length d) ∧ W0.drew.cell? ⟨w.heap.size + 1, 2, none⟩ = some (.int .i64 bh) ∧ Hid (Below W0.heap.size W0 W0.drew)) := Lib.hid ⟨p0, p1, p2, q0, q1, q2, Lib.hid ((Below.refl _ _).drew)⟩
  clear p0 p1 p2 q0 q1 q2
  have l1 : (Instr.lookup 151 (.map (some W0.heap.size)) (.string ⟨#[97, 103, 103, 114, 101, 103, 97, 116, 101]⟩) false).run Tryz.prog (W0.alloc sidesObj).drew = .ok (.agg #[.int .i64 2, .nilFunc, .func (.func 145) #[] #[]]) (W0.alloc sidesObj).drew := look_agg (W0.alloc sidesObj).drew W0.heap.size (heap_alloc_new W0 _)
  have l2 : (Instr.lookup 151 (.map (some W0.heap.size)) (.string ⟨#[97, 103, 103, 114, 101, 103, 97, 116, 101]⟩) false).run Tryz.prog ((W0.alloc sidesObj).alloc (.cells #[.string an, .slice A al.length c, .int .i64 ah, .string bn, .slice B bl.length d, .int .i64 bh] 55)).drew = .ok (.agg #[.int .i64 2, .nilFunc, .func (.func 145) #[] #[]]) ((W0.alloc sidesObj).alloc (.cells #[.string an, .slice A al.length c, .int .i64 ah, .string bn, .slice B bl.length d, .int .i64 bh] 55)).drew := look_agg ((W0.alloc sidesObj).alloc (.cells #[.string an, .slice A al.length c, .int .i64 ah, .string bn, .slice B bl.length d, .int .i64 bh] 55)).drew W0.heap.size ((Below.heap_alloc (W0.alloc sidesObj) _ W0.heap.size (by simp)).trans (heap_alloc_new W0 _))
  have l3 : (Instr.lookup 151 (.map (some (W0.heap.size + 1))) (.string ⟨#[97, 103, 103, 114, 101, 103, 97, 116, 101]⟩) false).run Tryz.prog ((W0.alloc (.cells #[.string an, .slice A al.length c, .int .i64 ah, .string bn, .slice B bl.length d, .int .i64 bh] 55)).alloc sidesObj).drew = .ok (.agg #[.int .i64 2, .nilFunc, .func (.func 145) #[] #[]]) ((W0.alloc (.cells #[.string an, .slice A al.length c, .int .i64 ah, .string bn, .slice B bl.length d, .int .i64 bh] 55)).alloc sidesObj).drew := look_agg ((W0.alloc (.cells #[.string an, .slice A al.length c, .int .i64 ah, .string bn, .slice B bl.length d, .int .i64 bh] 55)).alloc sidesObj).drew (W0.heap.size + 1) (by have := heap_alloc_new (W0.alloc (.cells #[.string an, .slice A al.length c, .int .i64 ah, .string bn, .slice B bl.length d, .int .i64 bh] 55)) sidesObj; rwa [show (W0.alloc (.cells #[.string an, .slice A al.length c, .int .i64 ah, .string bn, .slice B bl.length d, .int .i64 bh] 55)).heap.size = W0.heap.size + 1 by simp] at this)
  have HKA : Hid (BlkV ((W0.alloc sidesObj).alloc (.cells #[.string an, .slice A al.length c, .int .i64 ah, .string bn, .slice B bl.length d, .int .i64 bh] 55)).drew (W0.heap.size + 1) 55 #[.string an, .slice A al.length c, .int .i64 ah, .string bn, .slice B bl.length d, .int .i64 bh]) := Lib.hid (by
    have := BlkV.new (W0.alloc sidesObj) 55 #[.string an, .slice A al.length c, .int .i64 ah, .string bn, .slice B bl.length d, .int .i64 bh]
    rw [show (W0.alloc sidesObj).heap.size = W0.heap.size + 1 by simp] at this
    exact this.drew)
  have HKB : Hid (BlkV ((W0.alloc (.cells #[.string an, .slice A al.length c, .int .i64 ah, .string bn, .slice B bl.length d, .int .i64 bh] 55)).alloc sidesObj).drew W0.heap.size 55 #[.string an, .slice A al.length c, .int .i64 ah, .string bn, .slice B bl.length d, .int .i64 bh]) := Lib.hid (((BlkV.new W0 55 #[.string an, .slice A al.length c, .int .i64 ah, .string bn, .slice B bl.length d, .int .i64 bh]).alloc _).drew)
  have HBA : Hid (Below w.heap.size w ((W0.alloc sidesObj).alloc (.cells #[.string an, .slice A al.length c, .int .i64 ah, .string bn, .slice B bl.length d, .int .i64 bh] 55)).drew) := Lib.hid (((HB0.out.alloc HB0.out.size _).alloc (by have := HB0.out.size; simp; omega) _).drew)
  have HBB : Hid (Below w.heap.size w ((W0.alloc (.cells #[.string an, .slice A al.length c, .int .i64 ah, .string bn, .slice B bl.length d, .int .i64 bh] 55)).alloc sidesObj).drew) := Lib.hid (((HB0.out.alloc HB0.out.size _).alloc (by have := HB0.out.size; simp; omega) _).drew)
  go_region_held3 (fun W => W.cell? ⟨w.heap.size, 0, none⟩ = some (.string an) ∧ W.cell? ⟨w.heap.size, 1, none⟩ = some (.slice A al.length c) ∧ W.cell? ⟨w.heap.size, 2, none⟩ = some (.int .i64 ah) ∧ W.cell? ⟨w.heap.size + 1, 0, none⟩ = some (.string bn) ∧ W.cell? ⟨w.heap.size + 1, 1, none⟩ = some (.slice B bl.length d) ∧ W.cell? ⟨w.heap.size + 1, 2, none⟩ = some (.int .i64 bh) ∧ Hid (Below W0.heap.size W0 W))
    ((first | with_reducible assumption | with_reducible exact keep6 hb2 (by with_reducible assumption) (Nat.le_refl _) | with_reducible exact keep6_ad _ (by with_reducible assumption) (Nat.le_refl _) | with_reducible exact HS0.out))
    (first
    | (go_at_call 80; with_reducible refine (sides_any _).mono ?_; rintro e w1 ⟨rfl, rfl⟩)
    | (go_at_call 79; (with_reducible refine (HJ.out _ _ HBA.out HKA.out).mono ?_); rintro e w2 ⟨g, rfl, hn, hg, hb2⟩; have HN := Lib.hid hn; have HG : Hid (w.heap.size ≤ g) := Lib.hid (Nat.le_trans HBA.out.size hg); have HB2 := Lib.hid (HBA.out.trans (hb2.mono HBA.out.size)); clear hn hg)
    | (go_at_call 79; (with_reducible refine (HJ.out _ _ HBB.out HKB.out).mono ?_); rintro e w2 ⟨g, rfl, hn, hg, hb2⟩; have HN := Lib.hid hn; have HG : Hid (w.heap.size ≤ g) := Lib.hid (Nat.le_trans HBB.out.size hg); have HB2 := Lib.hid (HBB.out.trans (hb2.mono HBB.out.size)); clear hn hg))
  all_goals
    go_wp2
    go_ret2
    exact ⟨g, rfl, HN.out, HG.out, HB2.out⟩
end Go.Proofs.YtbckfkopdojggaaGreatDoor
