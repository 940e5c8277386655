/- joined, Fourball, Aggregate: sides each of whose players plays a ball. -/
import Derived.Test.YtfpehblofokheaaGreatDoorMgI
import Derived.Test.YtfpehblofokheaaGreatDoorMgH
import Derived.Outline
set_option linter.unusedVariables false
set_option linter.unusedSimpArgs false
namespace Go.Proofs.YtfpehblofokheaaGreatDoor
open Go.RowKit

def joinedL (J : List (Int × ByteArray) → Int × ByteArray) (hs : List (Int × Int)) (ps : List Pl) : List (Int × ByteArray) := (List.range hs.length).map fun i => J (netsAt hs ps i)
theorem joinedL_len (J : List (Int × ByteArray) → Int × ByteArray) (hs : List (Int × Int)) (ps : List Pl) : (joinedL J hs ps).length = hs.length := by simp [joinedL]
theorem joinedL_at (J : List (Int × ByteArray) → Int × ByteArray) (hs : List (Int × Int)) (ps : List Pl) (k : Nat) (h : k < hs.length) : (joinedL J hs ps).getD k (0, ByteArray.empty) = J (netsAt hs ps k) := by
  simp [joinedL, List.getD, List.getElem?_range h]
/-- The error of players who each play a ball. -/
def joinedE (m : Int) (hs : List (Int × Int)) (ps : List Pl) : Int := firstI [holesI hs, sideI m ps.length, playersGo hs [] ps]
theorem playersGo_zero (hs : List (Int × Int)) : ∀ (ps : List Pl) (S : List ByteArray), playersGo hs S ps = 0 → ∀ p ∈ ps, plI hs p = 0
  | [], _, _, p, hp => by cases hp
  | q :: ps, S, h, p, hp => by
    unfold playersGo at h
    by_cases h1 : firstI [plI hs q, unlessI (!decide (q.nm ∈ S)) 9] = 0
    · rw [if_pos h1] at h
      rcases List.mem_cons.1 hp with rfl | hp
      · exact firstI_zero _ h1 _ (by simp)
      · exact playersGo_zero hs ps _ h p hp
    · rw [if_neg h1] at h; exact absurd h h1
theorem netsAt_small {hs : List (Int × Int)} {ps : List Pl} (hn : ∀ p ∈ ps, plI hs p = 0) {i : Nat} (hi : i < hs.length) : Small (netsAt hs ps i) := fun x hx => by
  unfold firsts netsAt at hx
  obtain ⟨e, he, rfl⟩ := List.mem_map.1 hx
  obtain ⟨p, hp, rfl⟩ := List.mem_map.1 he
  have F := fit_of (show playerI hs p.nm p.l p.h = 0 from hn p hp)
  exact F.netsSmall.at i (by rw [F.netsLen]; exact hi)

set_option maxRecDepth 100000 in
set_option maxHeartbeats 8000000 in
theorem joinedB_yes (A H : Option Addr) (c ch : Nat) (hs : List (Int × Int)) (ps : List Pl) (w : World) (hr : HolesR w H hs) (hbl : ∀ a, H = some a → a.block < w.heap.size) (hp : PlayersR w A ps) (hE : joinedE 4 hs ps = 0) :
    Calls Tryz.prog 69 #[.agg #[.int .i64 4, .nilFunc, .func (.func 122) #[] #[]], .slice H hs.length ch, .slice A ps.length c] w fun e w' =>
      ∃ g, e = .returned (.tuple #[.slice (some ⟨g, 0, none⟩) hs.length hs.length, .int .i64 0]) ∧ NetBlk w' g (joinedL minM hs ps) ∧ w.heap.size ≤ g ∧ Below w.heap.size w w' := by
  have h1 := firstI_zero _ hE (holesI hs) (by simp)
  have h2 := firstI_zero _ hE (sideI 4 ps.length) (by simp)
  have h3 := firstI_zero _ hE (playersGo hs [] ps) (by simp)
  have HZ := holesI_zero h1
  have hps := playersGo_zero hs ps [] h3
  have hlp : 2 ≤ ps.length ∧ (ps.length : Int) ≤ 4 := by
    unfold sideI at h2
    by_cases g : 2 ≤ ps.length ∧ (ps.length : Int) ≤ 4
    · exact g
    · rw [if_neg g] at h2; omega
  have hll : ∀ p ∈ ps, p.l.length ≤ 4611686018427387904 := fun p hp => by
    have F := fit_of (show playerI hs p.nm p.l p.h = 0 from hps p hp)
    have := F.most; have := F.len; omega
  have hlh : hs.length ≤ 36 := HZ.2.1
  have hl4 : ps.length ≤ 4 := by omega
  have hl2 : 2 ≤ ps.length := hlp.1
  have HCH := Lib.hid (fun W (hb : Below w.heap.size w W) => checkHoles_any H ch hs W (hr.keep hbl hb) (fun a ha => Nat.lt_of_lt_of_le (hbl a ha) hb.size) (by omega))
  have HCP := Lib.hid (fun W (hb : Below w.heap.size w W) => checkPlayers_any A H c ch hs ps W (hr.keep hbl hb) (fun a ha => Nat.lt_of_lt_of_le (hbl a ha) hb.size) (by omega) (hp.keep hb) (by omega) hll)
  have HER := Lib.hid (fun W (hb : Below w.heap.size w W) gh (hc : W.cell? ⟨gh, 0, none⟩ = some (.slice H hs.length ch)) => eachRound_any A H c ch gh hs ps W (hr.keep hbl hb) (fun a ha => Nat.lt_of_lt_of_le (hbl a ha) hb.size) hc (hp.keep hb) (by omega) hps)
  have HF : Hid (firstI [holesI hs, sideI 4 ps.length, playersGo hs [] ps] = 0) := Lib.hid hE
  have HPS := Lib.hid hps
  have HJL := Lib.hid (joinedL_len minM hs ps)
  have HNL : Hid (∀ i, i < hs.length → ∀ p ∈ ps, i < (netsOf hs p.h p.l).length) := Lib.hid (fun i hi p hp => by
    rw [(fit_of (show playerI hs p.nm p.l p.h = 0 from hps p hp)).netsLen]; exact hi)
  have HJN : Hid (∀ W g2 k, k < hs.length → NetBlk W g2 (netsAt hs ps k) → Calls Tryz.prog 122 #[.slice (some ⟨g2, 0, none⟩) ps.length ps.length] W fun e w' => e = .returned (.agg #[.int .i64 (minM (netsAt hs ps k)).1, .string (minM (netsAt hs ps k)).2]) ∧ Below W.heap.size W w') := Lib.hid (fun W g2 k hk hn => by
    have := best_any (some ⟨g2, 0, none⟩) ps.length (netsAt hs ps k) W hn.entries (by rw [netsAt_len]; omega) (by rw [netsAt_len]; omega)
    rw [netsAt_len] at this
    exact this)
  have hmk := make_nets hs.length (by omega)
  clear hr hbl hp hE h1 h2 h3 HZ hps hlp hll
  go_enter Tryz.func69, Tryz.ntmps69
  go_wp2
  generalize hW0 : (w.alloc (.cells #[.int .i64 4, .nilFunc, .func (.func 122) #[] #[]] 131)).alloc (.cells #[.slice H hs.length ch] 22) = W0
  obtain ⟨a1, a2, a3, a4⟩ := two_allocs w _ _ _ _ hW0
  have HB0 := Lib.hid a3
  have HSZ0 := Lib.hid a4
  have HA1 := Lib.hid a1
  have HA2 := Lib.hid a2
  have HS0 := Lib.hid (show W0.drew.cell? ⟨w.heap.size, 0, none⟩ = some (.int .i64 4) ∧ W0.drew.cell? ⟨w.heap.size, 1, none⟩ = some .nilFunc ∧ W0.drew.cell? ⟨w.heap.size, 2, none⟩ = some (.func (.func 122) #[] #[]) ∧ W0.drew.cell? ⟨w.heap.size + 1, 0, none⟩ = some (.slice H hs.length ch) ∧ Hid (Below W0.heap.size W0 W0.drew) from ⟨a1.cell 0, a1.cell 1, a1.cell 2, a2.cell 0, Lib.hid ((Below.refl _ _).drew)⟩)
  clear hW0 a1 a2 a3 a4
  go_region_held3 (fun W => W.cell? ⟨w.heap.size, 0, none⟩ = some (.int .i64 4) ∧ W.cell? ⟨w.heap.size, 1, none⟩ = some .nilFunc ∧ W.cell? ⟨w.heap.size, 2, none⟩ = some (.func (.func 122) #[] #[]) ∧ W.cell? ⟨w.heap.size + 1, 0, none⟩ = some (.slice H hs.length ch) ∧ Hid (Below W0.heap.size W0 W))
    ((first | assumption | exact keepQ hb1 (by assumption) (Nat.le_refl _) | exact keepQ ((Below.refl _ _).alloc (Nat.le_refl _) _) (by assumption) (Nat.le_refl _) | exact HS0.out))
    (first
      | (go_at_call 43; refine (HCH.out _ (HB0.out.trans ((heldQ (by assumption)).mono HB0.out.size))).mono ?_; rintro e w1 ⟨rfl, hb1⟩)
      | (go_at_call 119; refine (sideCheck_any 4 _ _ ps.length _ (by omega)).mono ?_; rintro e w1 ⟨rfl, hb1⟩)
      | (go_at_call 45; refine (HCP.out _ (HB0.out.trans ((heldQ (by assumption)).mono HB0.out.size))).mono ?_; rintro e w1 ⟨rfl, hb1⟩)
      | (go_at_call 42; refine (fmFirst_any _ _ [_, _, _] _ (by simp) (Ints.three _ _ _ _ _ _ rfl)).mono ?_; rintro e w1 ⟨rfl, rfl⟩))
  have hS := (by assumption : (w1.alloc (.cells #[.int .i64 (holesI hs), .int .i64 (sideI 4 ps.length), .int .i64 (playersGo hs [] ps)] 36)).cell? ⟨w.heap.size, 0, none⟩ = some (.int .i64 4) ∧ (w1.alloc (.cells #[.int .i64 (holesI hs), .int .i64 (sideI 4 ps.length), .int .i64 (playersGo hs [] ps)] 36)).cell? ⟨w.heap.size, 1, none⟩ = some .nilFunc ∧ (w1.alloc (.cells #[.int .i64 (holesI hs), .int .i64 (sideI 4 ps.length), .int .i64 (playersGo hs [] ps)] 36)).cell? ⟨w.heap.size, 2, none⟩ = some (.func (.func 122) #[] #[]) ∧ (w1.alloc (.cells #[.int .i64 (holesI hs), .int .i64 (sideI 4 ps.length), .int .i64 (playersGo hs [] ps)] 36)).cell? ⟨w.heap.size + 1, 0, none⟩ = some (.slice H hs.length ch) ∧ Hid (Below W0.heap.size W0 (w1.alloc (.cells #[.int .i64 (holesI hs), .int .i64 (sideI 4 ps.length), .int .i64 (playersGo hs [] ps)] 36))))
  have hb2 := hS.2.2.2.2.out
  rename_i hHeld
  clear hHeld hS hb1
  rw [HF.out]
  generalize w1.alloc (.cells #[.int .i64 (holesI hs), .int .i64 (sideI 4 ps.length), .int .i64 (playersGo hs [] ps)] 36) = W2 at hb2 ⊢
  have HB2 := Lib.hid (HB0.out.trans (hb2.mono HB0.out.size))
  have HX1 := Lib.hid (HA1.out.below hb2 HA1.out.lt)
  have HX2 := Lib.hid (HA2.out.below hb2 HA2.out.lt)
  clear hb2 HA1 HA2 HS0 HB0 HSZ0
  have hcell2 := HX2.out.cell 0
  simp only [List.getElem?_toArray, List.getElem?_cons_zero, List.getElem?_cons_succ] at hcell2
  have HCELL2 := Lib.hid hcell2
  clear hcell2
  go_wp2_with fail
  refine (HER.out W2 HB2.out (w.heap.size + 1) HCELL2.out).mono ?_
  rintro e w3 ⟨g, cs, rfl, hrr, hge, hb3⟩
  have HRR := Lib.hid hrr
  have HB3 := Lib.hid (HB2.out.trans (hb3.mono HB2.out.size))
  have HY1 := Lib.hid (HX1.out.below hb3 HX1.out.lt)
  have HY2 := Lib.hid (HX2.out.below hb3 HX2.out.lt)
  clear hrr hge hb3 HX1 HX2 HER HCELL2
  have y0 := HY2.out.cell 0
  have y1 := (HY2.out.alloc (.cells (pairCells (List.replicate hs.length (0, ⟨#[]⟩))).toArray 86)).cell 0
  simp only [List.getElem?_toArray, List.getElem?_cons_zero, List.getElem?_cons_succ] at y0 y1
  go_wp2
  clear y0 y1
  go_loopw [34] (fun i w' => ∃ (k : Nat) (l : List (Int × ByteArray)), k ≤ hs.length ∧ i = .int .i64 k ∧ l.length = hs.length ∧ NetBlk w' w3.heap.size l ∧ (∀ j, j < k → l.getD j (0, ByteArray.empty) = minM (netsAt hs ps j)) ∧ Below w3.heap.size w3 w') (fun i _ => hs.length - (intOf i).toNat)
  case atStart => exact ⟨0, _, Nat.zero_le _, rfl, by simp, BlkV.new w3 _ _, fun j hj => absurd hj (Nat.not_lt_zero _), (Below.refl _ _).alloc (Nat.le_refl _) _⟩
  case round =>
    obtain ⟨k, l, hk, rfl, hll, hblk, hpre, hb⟩ := hrel
    have HLL := Lib.hid hll
    have HBLK := Lib.hid hblk
    have HPRE := Lib.hid hpre
    have HB := Lib.hid hb
    clear hll hblk hpre hb
    by_cases hlt : k < hs.length
    · have HJK := Lib.hid (fun W g2 => HJN.out W g2 k hlt)
      have hk0 : (0 : Int) ≤ (k : Int) := Int.natCast_nonneg _
      have hk1 : (k : Int) < (hs.length : Int) := by omega
      generalize hjv : minM (netsAt hs ps k) = jv at HJK
      have HJV := Lib.hid hjv
      clear hjv
      obtain ⟨s, m⟩ := jv
      simp only at HJK
      go_wp2_with fail
      generalize hW4 : wr.alloc (.cells #[.int .i64 (k : Int)] 3) = W4
      have hb4 : Below wr.heap.size wr W4 := by subst hW4; exact (Below.refl _ _).alloc (Nat.le_refl _) _
      have hi4 : BlkV W4 wr.heap.size 3 #[.int .i64 (k : Int)] := by subst hW4; exact BlkV.new _ _ _
      have HB4 := Lib.hid hb4
      have HW4 := Lib.hid (HB.out.trans (hb4.mono HB.out.size))
      have HN4 : Hid (NetBlk W4 w3.heap.size l) := Lib.hid (BlkV.below HBLK.out hb4 (BlkV.lt HBLK.out))
      have HI4 := Lib.hid hi4
      have hi40 := hi4.cell 0
      simp only [List.getElem?_toArray, List.getElem?_cons_zero, List.getElem?_cons_succ] at hi40
      clear hW4 hb4 hi4
      have HRW := Lib.hid (HRR.out.keep (HW4.out))
      have HYW := Lib.hid (HY1.out.below HW4.out HY1.out.lt)
      have x2 := HYW.out.cell 2
      simp only [List.getElem?_toArray, List.getElem?_cons_zero, List.getElem?_cons_succ] at x2
      have HEN := Lib.hid (eachNet_any g wr.heap.size k cs hs ps W4.drew (HRW.out.keep ((Below.refl _ _).drew)) hi40 (by omega) (HNL.out k hlt))
      obtain ⟨n0, n1⟩ := HN4.out.cells (j := k) (by rw [HLL.out]; exact hlt)
      have m0 := BlkV.frozen HN4.out (k * 2)
      have m1 := BlkV.frozen HN4.out (k * 2 + 1)
      go_region_with (first
        | (go_at_call 126; refine HEN.out.mono ?_; rintro e w5 ⟨g2, rfl, hnet, hge2, hb5⟩; have hb5' : Below W4.heap.size W4 w5 := ((Below.refl _ _).drew).trans hb5; have q1 := (HI4.out.below hb5' HI4.out.lt).cell 0; have q2 := (HYW.out.below hb5' HYW.out.lt).cell 2; simp only [List.getElem?_toArray, List.getElem?_cons_zero, List.getElem?_cons_succ] at q1 q2; have HNET := Lib.hid hnet; have HB5 := Lib.hid hb5'; clear hnet hge2 hb5 hb5')
        | (go_at_call 122; refine (HJK.out _ _ HNET.out).mono ?_; rintro e w6 ⟨rfl, hb6⟩; have hb6' : Below W4.heap.size W4 w6 := HB5.out.trans (hb6.mono HB5.out.size); have q3 := (HI4.out.below hb6' HI4.out.lt).cell 0; simp only [List.getElem?_toArray, List.getElem?_cons_zero, List.getElem?_cons_succ] at q3; have hn6 : NetBlk w6 w3.heap.size l := BlkV.below HN4.out hb6' (BlkV.lt HN4.out); obtain ⟨z0, z1⟩ := hn6.cells (j := k) (by rw [HLL.out]; exact hlt); have f0 := BlkV.frozen hn6 (k * 2); have f1 := BlkV.frozen hn6 (k * 2 + 1); have HN6 := Lib.hid hn6; have HB6 := Lib.hid hb6'; clear hb6 hb6' hn6))
      all_goals
        go_wp2
        go_roundw
        case rel =>
          refine ⟨k + 1, _, by omega, by go_num, by rw [List.length_set]; exact HLL.out, HN6.out.set k s m (by rw [HLL.out]; exact hlt), fun j hj => ?_, ((HW4.out.trans (HB6.out.mono HW4.out.size)).setCell (by simp) _).setCell (by simp) _⟩
          by_cases hjk : j = k
          · subst hjk
            rw [HJV.out, List.getD, List.getElem?_set_self (by rw [HLL.out]; exact hlt)]
            rfl
          · rw [List.getD, List.getElem?_set_ne (by omega)]
            exact HPRE.out j (by omega)
        case measure => simp [intOf]; omega
    · have hle : l = joinedL minM hs ps := same_list _ _ (by rw [HLL.out, HJL.out]) (fun j hj => by
        rw [HPRE.out j (by have := HLL.out; omega), joinedL_at _ _ _ _ (by have := HLL.out; omega)])
      have HLE := Lib.hid hle
      clear hle
      go_wp2
      go_ret2
      exact ⟨w3.heap.size, rfl, by rw [← HLE.out]; exact HBLK.out, HB3.out.size, HB3.out.trans (HB.out.mono HB3.out.size)⟩

set_option maxRecDepth 100000 in
set_option maxHeartbeats 8000000 in
theorem joinedT_yes (A H : Option Addr) (c ch : Nat) (hs : List (Int × Int)) (ps : List Pl) (w : World) (hr : HolesR w H hs) (hbl : ∀ a, H = some a → a.block < w.heap.size) (hp : PlayersR w A ps) (hE : joinedE 2 hs ps = 0) :
    Calls Tryz.prog 69 #[.agg #[.int .i64 2, .nilFunc, .func (.func 123) #[] #[]], .slice H hs.length ch, .slice A ps.length c] w fun e w' =>
      ∃ g, e = .returned (.tuple #[.slice (some ⟨g, 0, none⟩) hs.length hs.length, .int .i64 0]) ∧ NetBlk w' g (joinedL totalM hs ps) ∧ w.heap.size ≤ g ∧ Below w.heap.size w w' := by
  have h1 := firstI_zero _ hE (holesI hs) (by simp)
  have h2 := firstI_zero _ hE (sideI 2 ps.length) (by simp)
  have h3 := firstI_zero _ hE (playersGo hs [] ps) (by simp)
  have HZ := holesI_zero h1
  have hps := playersGo_zero hs ps [] h3
  have hlp : 2 ≤ ps.length ∧ (ps.length : Int) ≤ 2 := by
    unfold sideI at h2
    by_cases g : 2 ≤ ps.length ∧ (ps.length : Int) ≤ 2
    · exact g
    · rw [if_neg g] at h2; omega
  have hll : ∀ p ∈ ps, p.l.length ≤ 4611686018427387904 := fun p hp => by
    have F := fit_of (show playerI hs p.nm p.l p.h = 0 from hps p hp)
    have := F.most; have := F.len; omega
  have hlh : hs.length ≤ 36 := HZ.2.1
  have hl4 : ps.length ≤ 4 := by omega
  have hl2 : 2 ≤ ps.length := hlp.1
  have HCH := Lib.hid (fun W (hb : Below w.heap.size w W) => checkHoles_any H ch hs W (hr.keep hbl hb) (fun a ha => Nat.lt_of_lt_of_le (hbl a ha) hb.size) (by omega))
  have HCP := Lib.hid (fun W (hb : Below w.heap.size w W) => checkPlayers_any A H c ch hs ps W (hr.keep hbl hb) (fun a ha => Nat.lt_of_lt_of_le (hbl a ha) hb.size) (by omega) (hp.keep hb) (by omega) hll)
  have HER := Lib.hid (fun W (hb : Below w.heap.size w W) gh (hc : W.cell? ⟨gh, 0, none⟩ = some (.slice H hs.length ch)) => eachRound_any A H c ch gh hs ps W (hr.keep hbl hb) (fun a ha => Nat.lt_of_lt_of_le (hbl a ha) hb.size) hc (hp.keep hb) (by omega) hps)
  have HF : Hid (firstI [holesI hs, sideI 2 ps.length, playersGo hs [] ps] = 0) := Lib.hid hE
  have HPS := Lib.hid hps
  have HJL := Lib.hid (joinedL_len totalM hs ps)
  have HNL : Hid (∀ i, i < hs.length → ∀ p ∈ ps, i < (netsOf hs p.h p.l).length) := Lib.hid (fun i hi p hp => by
    rw [(fit_of (show playerI hs p.nm p.l p.h = 0 from hps p hp)).netsLen]; exact hi)
  have HJN : Hid (∀ W g2 k, k < hs.length → NetBlk W g2 (netsAt hs ps k) → Calls Tryz.prog 123 #[.slice (some ⟨g2, 0, none⟩) ps.length ps.length] W fun e w' => e = .returned (.agg #[.int .i64 (totalM (netsAt hs ps k)).1, .string (totalM (netsAt hs ps k)).2]) ∧ Below W.heap.size W w') := Lib.hid (fun W g2 k hk hn => by
    have := total_any (some ⟨g2, 0, none⟩) ps.length (netsAt hs ps k) W hn.entries (by rw [netsAt_len]; omega) (by rw [netsAt_len]; omega) (netsAt_small hps hk)
    rw [netsAt_len] at this
    exact this)
  have hmk := make_nets hs.length (by omega)
  clear hr hbl hp hE h1 h2 h3 HZ hps hlp hll
  go_enter Tryz.func69, Tryz.ntmps69
  go_wp2
  generalize hW0 : (w.alloc (.cells #[.int .i64 2, .nilFunc, .func (.func 123) #[] #[]] 131)).alloc (.cells #[.slice H hs.length ch] 22) = W0
  obtain ⟨a1, a2, a3, a4⟩ := two_allocs w _ _ _ _ hW0
  have HB0 := Lib.hid a3
  have HSZ0 := Lib.hid a4
  have HA1 := Lib.hid a1
  have HA2 := Lib.hid a2
  have HS0 := Lib.hid (show W0.drew.cell? ⟨w.heap.size, 0, none⟩ = some (.int .i64 2) ∧ W0.drew.cell? ⟨w.heap.size, 1, none⟩ = some .nilFunc ∧ W0.drew.cell? ⟨w.heap.size, 2, none⟩ = some (.func (.func 123) #[] #[]) ∧ W0.drew.cell? ⟨w.heap.size + 1, 0, none⟩ = some (.slice H hs.length ch) ∧ Hid (Below W0.heap.size W0 W0.drew) from ⟨a1.cell 0, a1.cell 1, a1.cell 2, a2.cell 0, Lib.hid ((Below.refl _ _).drew)⟩)
  clear hW0 a1 a2 a3 a4
  go_region_held3 (fun W => W.cell? ⟨w.heap.size, 0, none⟩ = some (.int .i64 2) ∧ W.cell? ⟨w.heap.size, 1, none⟩ = some .nilFunc ∧ W.cell? ⟨w.heap.size, 2, none⟩ = some (.func (.func 123) #[] #[]) ∧ W.cell? ⟨w.heap.size + 1, 0, none⟩ = some (.slice H hs.length ch) ∧ Hid (Below W0.heap.size W0 W))
    ((first | assumption | exact keepQ hb1 (by assumption) (Nat.le_refl _) | exact keepQ ((Below.refl _ _).alloc (Nat.le_refl _) _) (by assumption) (Nat.le_refl _) | exact HS0.out))
    (first
      | (go_at_call 43; refine (HCH.out _ (HB0.out.trans ((heldQ (by assumption)).mono HB0.out.size))).mono ?_; rintro e w1 ⟨rfl, hb1⟩)
      | (go_at_call 119; refine (sideCheck_any 2 _ _ ps.length _ (by omega)).mono ?_; rintro e w1 ⟨rfl, hb1⟩)
      | (go_at_call 45; refine (HCP.out _ (HB0.out.trans ((heldQ (by assumption)).mono HB0.out.size))).mono ?_; rintro e w1 ⟨rfl, hb1⟩)
      | (go_at_call 42; refine (fmFirst_any _ _ [_, _, _] _ (by simp) (Ints.three _ _ _ _ _ _ rfl)).mono ?_; rintro e w1 ⟨rfl, rfl⟩))
  have hS := (by assumption : (w1.alloc (.cells #[.int .i64 (holesI hs), .int .i64 (sideI 2 ps.length), .int .i64 (playersGo hs [] ps)] 36)).cell? ⟨w.heap.size, 0, none⟩ = some (.int .i64 2) ∧ (w1.alloc (.cells #[.int .i64 (holesI hs), .int .i64 (sideI 2 ps.length), .int .i64 (playersGo hs [] ps)] 36)).cell? ⟨w.heap.size, 1, none⟩ = some .nilFunc ∧ (w1.alloc (.cells #[.int .i64 (holesI hs), .int .i64 (sideI 2 ps.length), .int .i64 (playersGo hs [] ps)] 36)).cell? ⟨w.heap.size, 2, none⟩ = some (.func (.func 123) #[] #[]) ∧ (w1.alloc (.cells #[.int .i64 (holesI hs), .int .i64 (sideI 2 ps.length), .int .i64 (playersGo hs [] ps)] 36)).cell? ⟨w.heap.size + 1, 0, none⟩ = some (.slice H hs.length ch) ∧ Hid (Below W0.heap.size W0 (w1.alloc (.cells #[.int .i64 (holesI hs), .int .i64 (sideI 2 ps.length), .int .i64 (playersGo hs [] ps)] 36))))
  have hb2 := hS.2.2.2.2.out
  rename_i hHeld
  clear hHeld hS hb1
  rw [HF.out]
  generalize w1.alloc (.cells #[.int .i64 (holesI hs), .int .i64 (sideI 2 ps.length), .int .i64 (playersGo hs [] ps)] 36) = W2 at hb2 ⊢
  have HB2 := Lib.hid (HB0.out.trans (hb2.mono HB0.out.size))
  have HX1 := Lib.hid (HA1.out.below hb2 HA1.out.lt)
  have HX2 := Lib.hid (HA2.out.below hb2 HA2.out.lt)
  clear hb2 HA1 HA2 HS0 HB0 HSZ0
  have hcell2 := HX2.out.cell 0
  simp only [List.getElem?_toArray, List.getElem?_cons_zero, List.getElem?_cons_succ] at hcell2
  have HCELL2 := Lib.hid hcell2
  clear hcell2
  go_wp2_with fail
  refine (HER.out W2 HB2.out (w.heap.size + 1) HCELL2.out).mono ?_
  rintro e w3 ⟨g, cs, rfl, hrr, hge, hb3⟩
  have HRR := Lib.hid hrr
  have HB3 := Lib.hid (HB2.out.trans (hb3.mono HB2.out.size))
  have HY1 := Lib.hid (HX1.out.below hb3 HX1.out.lt)
  have HY2 := Lib.hid (HX2.out.below hb3 HX2.out.lt)
  clear hrr hge hb3 HX1 HX2 HER HCELL2
  have y0 := HY2.out.cell 0
  have y1 := (HY2.out.alloc (.cells (pairCells (List.replicate hs.length (0, ⟨#[]⟩))).toArray 86)).cell 0
  simp only [List.getElem?_toArray, List.getElem?_cons_zero, List.getElem?_cons_succ] at y0 y1
  go_wp2
  clear y0 y1
  go_loopw [34] (fun i w' => ∃ (k : Nat) (l : List (Int × ByteArray)), k ≤ hs.length ∧ i = .int .i64 k ∧ l.length = hs.length ∧ NetBlk w' w3.heap.size l ∧ (∀ j, j < k → l.getD j (0, ByteArray.empty) = totalM (netsAt hs ps j)) ∧ Below w3.heap.size w3 w') (fun i _ => hs.length - (intOf i).toNat)
  case atStart => exact ⟨0, _, Nat.zero_le _, rfl, by simp, BlkV.new w3 _ _, fun j hj => absurd hj (Nat.not_lt_zero _), (Below.refl _ _).alloc (Nat.le_refl _) _⟩
  case round =>
    obtain ⟨k, l, hk, rfl, hll, hblk, hpre, hb⟩ := hrel
    have HLL := Lib.hid hll
    have HBLK := Lib.hid hblk
    have HPRE := Lib.hid hpre
    have HB := Lib.hid hb
    clear hll hblk hpre hb
    by_cases hlt : k < hs.length
    · have HJK := Lib.hid (fun W g2 => HJN.out W g2 k hlt)
      have hk0 : (0 : Int) ≤ (k : Int) := Int.natCast_nonneg _
      have hk1 : (k : Int) < (hs.length : Int) := by omega
      generalize hjv : totalM (netsAt hs ps k) = jv at HJK
      have HJV := Lib.hid hjv
      clear hjv
      obtain ⟨s, m⟩ := jv
      simp only at HJK
      go_wp2_with fail
      generalize hW4 : wr.alloc (.cells #[.int .i64 (k : Int)] 3) = W4
      have hb4 : Below wr.heap.size wr W4 := by subst hW4; exact (Below.refl _ _).alloc (Nat.le_refl _) _
      have hi4 : BlkV W4 wr.heap.size 3 #[.int .i64 (k : Int)] := by subst hW4; exact BlkV.new _ _ _
      have HB4 := Lib.hid hb4
      have HW4 := Lib.hid (HB.out.trans (hb4.mono HB.out.size))
      have HN4 : Hid (NetBlk W4 w3.heap.size l) := Lib.hid (BlkV.below HBLK.out hb4 (BlkV.lt HBLK.out))
      have HI4 := Lib.hid hi4
      have hi40 := hi4.cell 0
      simp only [List.getElem?_toArray, List.getElem?_cons_zero, List.getElem?_cons_succ] at hi40
      clear hW4 hb4 hi4
      have HRW := Lib.hid (HRR.out.keep (HW4.out))
      have HYW := Lib.hid (HY1.out.below HW4.out HY1.out.lt)
      have x2 := HYW.out.cell 2
      simp only [List.getElem?_toArray, List.getElem?_cons_zero, List.getElem?_cons_succ] at x2
      have HEN := Lib.hid (eachNet_any g wr.heap.size k cs hs ps W4.drew (HRW.out.keep ((Below.refl _ _).drew)) hi40 (by omega) (HNL.out k hlt))
      obtain ⟨n0, n1⟩ := HN4.out.cells (j := k) (by rw [HLL.out]; exact hlt)
      have m0 := BlkV.frozen HN4.out (k * 2)
      have m1 := BlkV.frozen HN4.out (k * 2 + 1)
      go_region_with (first
        | (go_at_call 126; refine HEN.out.mono ?_; rintro e w5 ⟨g2, rfl, hnet, hge2, hb5⟩; have hb5' : Below W4.heap.size W4 w5 := ((Below.refl _ _).drew).trans hb5; have q1 := (HI4.out.below hb5' HI4.out.lt).cell 0; have q2 := (HYW.out.below hb5' HYW.out.lt).cell 2; simp only [List.getElem?_toArray, List.getElem?_cons_zero, List.getElem?_cons_succ] at q1 q2; have HNET := Lib.hid hnet; have HB5 := Lib.hid hb5'; clear hnet hge2 hb5 hb5')
        | (go_at_call 123; refine (HJK.out _ _ HNET.out).mono ?_; rintro e w6 ⟨rfl, hb6⟩; have hb6' : Below W4.heap.size W4 w6 := HB5.out.trans (hb6.mono HB5.out.size); have q3 := (HI4.out.below hb6' HI4.out.lt).cell 0; simp only [List.getElem?_toArray, List.getElem?_cons_zero, List.getElem?_cons_succ] at q3; have hn6 : NetBlk w6 w3.heap.size l := BlkV.below HN4.out hb6' (BlkV.lt HN4.out); obtain ⟨z0, z1⟩ := hn6.cells (j := k) (by rw [HLL.out]; exact hlt); have f0 := BlkV.frozen hn6 (k * 2); have f1 := BlkV.frozen hn6 (k * 2 + 1); have HN6 := Lib.hid hn6; have HB6 := Lib.hid hb6'; clear hb6 hb6' hn6))
      all_goals
        go_wp2
        go_roundw
        case rel =>
          refine ⟨k + 1, _, by omega, by go_num, by rw [List.length_set]; exact HLL.out, HN6.out.set k s m (by rw [HLL.out]; exact hlt), fun j hj => ?_, ((HW4.out.trans (HB6.out.mono HW4.out.size)).setCell (by simp) _).setCell (by simp) _⟩
          by_cases hjk : j = k
          · subst hjk
            rw [HJV.out, List.getD, List.getElem?_set_self (by rw [HLL.out]; exact hlt)]
            rfl
          · rw [List.getD, List.getElem?_set_ne (by omega)]
            exact HPRE.out j (by omega)
        case measure => simp [intOf]; omega
    · have hle : l = joinedL totalM hs ps := same_list _ _ (by rw [HLL.out, HJL.out]) (fun j hj => by
        rw [HPRE.out j (by have := HLL.out; omega), joinedL_at _ _ _ _ (by have := HLL.out; omega)])
      have HLE := Lib.hid hle
      clear hle
      go_wp2
      go_ret2
      exact ⟨w3.heap.size, rfl, by rw [← HLE.out]; exact HBLK.out, HB3.out.size, HB3.out.trans (HB.out.mono HB3.out.size)⟩

end Go.Proofs.YtfpehblofokheaaGreatDoor
