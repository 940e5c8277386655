/- Merged: MatM SidM SidS SidB ParM ParN. -/
import Derived.Test.YtbckfkopdojggaaGreatDoorMgF
import Derived.Test.YtbckfkopdojggaaGreatDoorScoA
import Derived.Outline
import Derived.Test.YtbckfkopdojggaaGreatDoorRaiM
import Derived.Test.YtbckfkopdojggaaGreatDoorMgPx
import Derived.Test.YtbckfkopdojggaaGreatDoorMgLx
/- FormatMatches: holes and states by the reference: plain mathematics. -/
set_option linter.unusedVariables false
set_option linter.unusedSimpArgs false
namespace Go.Proofs.YtbckfkopdojggaaGreatDoor
open Go.RowKit

/-- Net strokes as a list of them that is right has them. -/
def fineN (e : Int × ByteArray) : Prop := e.2.toList.isEmpty = true ∨ (e.1 = 0 ∧ (e.2.toList == [120]) = true) ∨ (e.1 = 0 ∧ (e.2.toList == [45]) = true)
def holeI (a b : Int × ByteArray) : Int := if a.2.toList.isEmpty = true ∧ (b.2.toList.isEmpty = false ∨ a.1 < b.1) then 1 else if b.2.toList.isEmpty = true ∧ (a.2.toList.isEmpty = false ∨ b.1 < a.1) then -1 else 0
theorem rank_empty {m : ByteArray} (h : m.toList.isEmpty = true) : rankI m = 0 := by
  have e : markK m = 0 := by
    rcases mark_cases m with ⟨h1, h2, h3, h4, h5⟩ | ⟨h1, h2, h3, h4, h5⟩ | ⟨h1, h2, h3, h4, h5⟩ | ⟨h1, h2, h3, h4, h5⟩ | ⟨h1, h2, h3, h4, h5⟩
    · exact h5
    all_goals (rw [h] at h1; cases h1)
  unfold rankI
  rw [e]
  rfl
theorem rank_x {m : ByteArray} (h : (m.toList == [120]) = true) : rankI m = 1 ∧ m.toList.isEmpty = false := by
  have e : markK m = 2 ∧ m.toList.isEmpty = false := by
    rcases mark_cases m with ⟨h1, h2, h3, h4, h5⟩ | ⟨h1, h2, h3, h4, h5⟩ | ⟨h1, h2, h3, h4, h5⟩ | ⟨h1, h2, h3, h4, h5⟩ | ⟨h1, h2, h3, h4, h5⟩
    · rw [h] at h3; cases h3
    · rw [h] at h3; cases h3
    · exact ⟨h5, h1⟩
    · rw [h] at h3; cases h3
    · rw [h] at h3; cases h3
  unfold rankI
  rw [e.1]
  exact ⟨rfl, e.2⟩
theorem hole_res {a b : Int × ByteArray} (ha : fineN a) (hb : fineN b) (pa : (a.2.toList == [45]) = false) (pb : (b.2.toList == [45]) = false) : holeI a b = resI a b := by
  obtain ⟨s, m⟩ := a
  obtain ⟨t, n⟩ := b
  unfold holeI resI meritI
  rcases ha with ha | ⟨ha0, ha⟩ | ⟨_, ha⟩
  · rcases hb with hb | ⟨hb0, hb⟩ | ⟨_, hb⟩
    · simp only at ha hb
      rw [rank_empty ha, rank_empty hb, ha, hb]
      have c0 : cmpI 0 0 = 0 := rfl
      have hf : firstI [cmpI 0 0, cmpI s t] = cmpI s t := by
        rw [c0]
        simp only [firstI, if_true]
        split
        · omega
        · rfl
      rw [hf]
      unfold cmpI
      by_cases g1 : s < t
      · simp [g1]
      · by_cases g2 : s = t
        · subst g2; simp
        · have g3 : t < s := by omega
          simp [g1, g2, g3]
    · simp only at ha hb
      obtain ⟨r, e⟩ := rank_x hb
      rw [rank_empty ha, r, ha, e]
      have hf : firstI [cmpI 0 1, cmpI s t] = -1 := rfl
      rw [hf]
      simp
    · rw [hb] at pb; cases pb
  · rcases hb with hb | ⟨hb0, hb⟩ | ⟨_, hb⟩
    · simp only at ha hb
      obtain ⟨r, e⟩ := rank_x ha
      rw [rank_empty hb, r, hb, e]
      have hf : firstI [cmpI 1 0, cmpI s t] = 1 := rfl
      rw [hf]
      simp
    · simp only at ha hb ha0 hb0
      obtain ⟨r, e⟩ := rank_x ha
      obtain ⟨r2, e2⟩ := rank_x hb
      subst ha0; subst hb0
      rw [r, r2, e, e2]
      have hf : firstI [cmpI 1 1, cmpI 0 0] = 0 := rfl
      rw [hf]
      simp
    · rw [hb] at pb; cases pb
  · rw [ha] at pa; cases pa
theorem netV_fine (g : Int) (e : Int × ByteArray) : fineN (netV g e) := by
  unfold netV fineN
  rcases mark_cases e.2 with ⟨h1, h2, h3, h4, h5⟩ | ⟨h1, h2, h3, h4, h5⟩ | ⟨h1, h2, h3, h4, h5⟩ | ⟨h1, h2, h3, h4, h5⟩ | ⟨h1, h2, h3, h4, h5⟩
  all_goals
    rw [h5]
    simp [noMark, h3, h4]
    try rfl
theorem nets_fine (hs : List (Int × Int)) (h : Int) (l : List (Int × ByteArray)) : ∀ e ∈ netsOf hs h l, fineN e := fun e he => by
  unfold netsOf netsL at he
  obtain ⟨x, _, rfl⟩ := List.mem_map.1 he
  exact netV_fine _ _
theorem statesGo_len : ∀ (u : Int) (o : Bool) (l : List Du), (statesGo u o l).length ≤ l.length
  | _, _, [] => Nat.le_refl _
  | u, o, x :: l => by
    rw [statesGo]
    split
    · simp
    · have := statesGo_len (u + resI x.2.1 x.2.2) (overI (u + resI x.2.1 x.2.2) x.1) l
      simp only [List.length_cons]
      omega
theorem states_len (xa xb : List Ent) : (statesL xa xb).length ≤ xa.length := by
  have := statesGo_len 0 false (duels xa xb xa.length)
  rwa [duels_length] at this
theorem two_go (x y z0 z : Int) (h0 : z0 = 0) : firstI [x, y, z] = if firstI [x, z0] = 0 then (if firstI [y, z] = 0 then 0 else firstI [y, z]) else firstI [x, z0] := by
  subst h0
  by_cases hx : x = 0 <;> by_cases hy : y = 0 <;> by_cases hz : z = 0 <;> simp [firstI, hx, hy, hz]
/-- The error of two players, as the law finds it. -/
theorem players_two (hs : List (Int × Int)) (a b : Pl) : firstI [playerI hs a.nm a.l a.h, playerI hs b.nm b.l b.h, unlessI (!decide (a.nm = b.nm)) 9] = playersGo hs [] [a, b] := by
  have e0 : unlessI (!decide (a.nm ∈ ([] : List ByteArray))) 9 = 0 := by simp [unlessI]
  have e1 : unlessI (!decide (a.nm = b.nm)) 9 = unlessI (!decide (b.nm ∈ ([] ++ [a.nm] : List ByteArray))) 9 := by
    congr 2
    exact decide_eq_decide.2 ⟨fun h => by simp [h], fun h => by simpa [eq_comm] using h⟩
  rw [e1]
  exact two_go (plI hs a) (plI hs b) _ _ e0
end Go.Proofs.YtbckfkopdojggaaGreatDoor

/- Lists of net strokes: their errors: plain mathematics. -/
namespace Go.Proofs.YtbckfkopdojggaaGreatDoor
open Go.RowKit

def kindB (m : ByteArray) : Bool := m.toList.isEmpty || m.toList == [120] || m.toList == [45]
/-- The error of the net strokes of a hole. -/
def netI (e : Int × ByteArray) : Int := if kindB e.2 = true then (if e.2.toList.isEmpty = true then withinI e.1 (-999) 999 else withinI e.1 0 0) else 13
def eachN (l : List (Int × ByteArray)) : Int := firstI (l.map netI)
def netsI (l : List (Int × ByteArray)) : Int := if l.length = 0 then 12 else if (l.length : Int) ≤ 36 then eachN l else 5
theorem eachN_drop (l : List (Int × ByteArray)) (k : Nat) (h : k < l.length) : eachN (l.drop k) = if netI (l.getD k (0, ByteArray.empty)) = 0 then eachN (l.drop (k + 1)) else netI (l.getD k (0, ByteArray.empty)) := by
  rw [List.drop_eq_getElem_cons h]
  have e : l.getD k (0, ByteArray.empty) = l[k] := by simp [List.getD, List.getElem?_eq_getElem h]
  rw [e]
  simp only [eachN, List.map_cons, firstI]
theorem netI_fine {e : Int × ByteArray} (h : netI e = 0) : fineN e := by
  unfold netI at h
  unfold fineN
  by_cases hk : kindB e.2 = true
  · rw [if_pos hk] at h
    by_cases h0 : e.2.toList.isEmpty = true
    · exact .inl h0
    · rw [if_neg h0] at h
      have hz : e.1 = 0 := by
        unfold withinI at h
        by_cases g : 0 ≤ e.1 ∧ e.1 ≤ 0
        · omega
        · rw [if_neg g] at h; omega
      unfold kindB at hk
      simp only [Bool.or_eq_true] at hk
      rcases hk with (hk | hk) | hk
      · exact absurd hk h0
      · exact .inr (.inl ⟨hz, hk⟩)
      · exact .inr (.inr ⟨hz, hk⟩)
  · rw [if_neg hk] at h
    omega
theorem netI_bound {e : Int × ByteArray} (h : netI e = 0) : -999 ≤ e.1 ∧ e.1 ≤ 999 := by
  unfold netI at h
  by_cases hk : kindB e.2 = true
  · rw [if_pos hk] at h
    by_cases h0 : e.2.toList.isEmpty = true
    · rw [if_pos h0] at h
      unfold withinI at h
      by_cases g : -999 ≤ e.1 ∧ e.1 ≤ 999
      · exact g
      · rw [if_neg g] at h; omega
    · rw [if_neg h0] at h
      unfold withinI at h
      by_cases g : 0 ≤ e.1 ∧ e.1 ≤ 0
      · omega
      · rw [if_neg g] at h; omega
  · rw [if_neg hk] at h
    omega
theorem netsI_zero {l : List (Int × ByteArray)} (h : netsI l = 0) : 0 < l.length ∧ l.length ≤ 36 ∧ (∀ e ∈ l, fineN e) ∧ (∀ e ∈ l, -999 ≤ e.1 ∧ e.1 ≤ 999) := by
  unfold netsI at h
  by_cases h0 : l.length = 0
  · rw [if_pos h0] at h; omega
  · rw [if_neg h0] at h
    by_cases h1 : (l.length : Int) ≤ 36
    · rw [if_pos h1] at h
      have hz := firstI_zero _ h
      have hz2 : ∀ e ∈ l, netI e = 0 := fun e he => hz _ (List.mem_map.2 ⟨e, he, rfl⟩)
      exact ⟨by omega, by omega, fun e he => netI_fine (hz2 e he), fun e he => netI_bound (hz2 e he)⟩
    · rw [if_neg h1] at h; omega
/-- The error of the net strokes of two sides. -/
def sidesE (xa xb : List (Int × ByteArray)) : Int := firstI [netsI xa, netsI xb, unlessI (decide (xa.length = xb.length)) 2]
theorem sidesE_zero {xa xb : List (Int × ByteArray)} (h : sidesE xa xb = 0) : netsI xa = 0 ∧ netsI xb = 0 ∧ xa.length = xb.length := by
  refine ⟨firstI_zero _ h _ (by simp), firstI_zero _ h _ (by simp), ?_⟩
  have := firstI_zero _ h (unlessI (decide (xa.length = xb.length)) 2) (by simp)
  unfold unlessI at this
  by_cases g : xa.length = xb.length
  · exact g
  · rw [decide_eq_false g] at this; simp at this
theorem sidesE_of {xa xb : List (Int × ByteArray)} (h1 : netsI xa = 0) (h2 : netsI xb = 0) (h3 : xa.length = xb.length) : sidesE xa xb = 0 := by
  unfold sidesE
  rw [h1, h2, decide_eq_true h3]
  rfl
def briefB (l : List (Int × ByteArray)) : Bool := (l.all fun e => decide (e.2.size ≤ 60)) && decide (l.length ≤ 39)
theorem briefB_len {l : List (Int × ByteArray)} (h : briefB l = true) : l.length ≤ 39 := by
  unfold briefB at h
  simp only [Bool.and_eq_true, decide_eq_true_eq] at h
  exact h.2
end Go.Proofs.YtbckfkopdojggaaGreatDoor

/- The check of net strokes. -/
namespace Go.Proofs.YtbckfkopdojggaaGreatDoor
open Go.RowKit

set_option maxRecDepth 100000 in
set_option maxHeartbeats 1000000 in
theorem netCheck_any (s : Int) (m : ByteArray) (w : World) :
    Calls Tryz.prog 147 #[.agg #[.int .i64 s, .string m]] w fun e w' => e = .returned (.int .i64 (netI (s, m))) ∧ Below w.heap.size w w' := by
  have HV : Hid (netI (s, m) = if kindB m = true then (if m.toList.isEmpty = true then withinI s (-999) 999 else withinI s 0 0) else 13) := Lib.hid rfl
  have HB : Hid (∀ o, Below w.heap.size w (w.alloc o)) := Lib.hid (fun o => (Below.refl _ _).alloc (Nat.le_refl _) _)
  unfold kindB at HV
  rcases mark_cases m with ⟨h1, h2, h3, h4, h5⟩ | ⟨h1, h2, h3, h4, h5⟩ | ⟨h1, h2, h3, h4, h5⟩ | ⟨h1, h2, h3, h4, h5⟩ | ⟨h1, h2, h3, h4, h5⟩
  all_goals
    rw [h1, h3, h4] at HV
    clear h5
    generalize netI (s, m) = z at HV ⊢
    go_enter Tryz.func147, Tryz.ntmps147
    first
      | (go_wp2_with fail
         refine (fmWithin_any _ _ _ _).mono ?_; rintro e w2 ⟨rfl, rfl⟩
         go_wp2
         go_ret
         exact ⟨by rw [HV.out]; rfl, HB.out _⟩)
      | (go_wp2
         go_ret
         exact ⟨by rw [HV.out]; rfl, HB.out _⟩)

set_option maxHeartbeats 400000 in
theorem sizedNet_any (A : Option Addr) (n c : Nat) (m : Int) (w : World) (hn : n ≤ 4611686018427387904) :
    Calls Tryz.prog 146 #[.slice A n c, .int .i64 m] w fun e w' => e = .returned (.int .i64 (sizedI n m)) ∧ Below w.heap.size w w' := by
  by_cases h1 : 0 < n <;> by_cases h2 : (n : Int) ≤ m
  all_goals
    go_enter Tryz.func146, Tryz.ntmps146
    go_wp2_with fail
    refine (fmUnless_any _ _ _).mono ?_; rintro e w' ⟨rfl, rfl⟩
    go_wp2_with fail
    refine (fmUnless_any _ _ _).mono ?_; rintro e w' ⟨rfl, rfl⟩
    go_wp2_with fail
    refine (fmFirst_any _ _ [_, _] _ (by simp) (Ints.two _ _ _ _ _ rfl)).mono ?_; rintro e w' ⟨rfl, rfl⟩
    go_wp2
    go_ret
    exact ⟨by simp [sizedI, firstI, unlessI, h2]; omega, (Below.refl _ _).alloc (Nat.le_refl _) _⟩

set_option maxRecDepth 100000 in
set_option maxHeartbeats 2000000 in
theorem checkNets_any (A : Option Addr) (c : Nat) (l : List (Int × ByteArray)) (w : World) (hl : l.length ≤ 4611686018427387904) (he : EntriesR w A l) :
    Calls Tryz.prog 81 #[.slice A l.length c] w fun e w' => e = .returned (.int .i64 (netsI l)) ∧ Below w.heap.size w w' := by
  have HE := Lib.hid he
  have HV : Hid (netsI l = if l.length = 0 then 12 else if (l.length : Int) ≤ 36 then eachN l else 5) := Lib.hid rfl
  have HSZ : Hid (sizedI l.length 36 = if l.length = 0 then 12 else if (l.length : Int) ≤ 36 then 0 else 5) := Lib.hid rfl
  have HC := Lib.hid (fun W => sizedNet_any A l.length c 36 W hl)
  clear he
  generalize netsI l = res at HV ⊢
  generalize sizedI l.length 36 = z at HSZ HC
  by_cases hz : z = 0
  · subst hz
    have HR : Hid (eachN l = res) := Lib.hid (by
      have h1 := HSZ.out
      have h2 := HV.out
      by_cases g0 : l.length = 0
      · rw [if_pos g0] at h1; omega
      · rw [if_neg g0] at h1 h2
        by_cases g1 : (l.length : Int) ≤ 36
        · rw [if_pos g1] at h2; exact h2.symm
        · rw [if_neg g1] at h1; omega)
    clear HV HSZ
    go_enter Tryz.func81, Tryz.ntmps81
    go_wp2_with fail
    refine (HC.out _).mono ?_; rintro e w1 ⟨rfl, hb1⟩
    have HB1 := Lib.hid hb1
    clear hb1 HC
    go_wp2
    go_loopw [14] (fun kv w' => ∃ k : Nat, k ≤ l.length ∧ kv = .int .i64 k ∧ eachN (l.drop k) = res ∧ Below w.heap.size w w') (fun kv _ => l.length - (intOf kv).toNat)
    case atStart => exact ⟨0, Nat.zero_le _, rfl, HR.out, HB1.out⟩
    case round =>
      obtain ⟨k, hk, rfl, hd, hb⟩ := hrel
      have HD := Lib.hid hd
      have HB := Lib.hid hb
      clear hd hb
      by_cases hlt : k < l.length
      · have hk0 : (0 : Int) ≤ (k : Int) := Int.natCast_nonneg _
        have hk1 : (k : Int) < (l.length : Int) := by omega
        obtain ⟨a, rfl, d0, d1, _⟩ := (HE.out.keep HB.out) k hlt
        have HS := Lib.hid (eachN_drop l k hlt)
        generalize l.getD k (0, ByteArray.empty) = en at d0 d1 HS
        obtain ⟨s, m⟩ := en
        simp only at d0 d1
        have HN := Lib.hid (fun W => netCheck_any s m W)
        generalize netI (s, m) = y at HS HN
        by_cases hy : y = 0
        · subst hy
          go_wp2_with fail
          refine (HN.out _).mono ?_; rintro e w2 ⟨rfl, hb2⟩
          have HB2 : Hid (Below w.heap.size w w2) := Lib.hid (HB.out.trans ((((Below.refl _ _).alloc (Nat.le_refl _) _).trans (hb2.mono (by simp))).mono HB.out.size))
          clear hb2 HN
          go_wp2
          go_roundw
          case rel => exact ⟨k + 1, by omega, by go_num, by rw [← HD.out, HS.out]; simp, HB2.out⟩
          case measure => simp [intOf]; omega
        · have hyb : (y != 0) = true := by simpa using hy
          go_wp2_with fail
          refine (HN.out _).mono ?_; rintro e w2 ⟨rfl, hb2⟩
          have HB2 : Hid (Below w.heap.size w w2) := Lib.hid (HB.out.trans ((((Below.refl _ _).alloc (Nat.le_refl _) _).trans (hb2.mono (by simp))).mono HB.out.size))
          clear hb2 HN
          go_wp2
          go_ret
          exact ⟨by rw [← HD.out, HS.out, if_neg hy]; rfl, HB2.out⟩
      · have hke : l.drop k = [] := List.drop_eq_nil_of_le (by omega)
        have HZ : Hid (res = 0) := Lib.hid (by rw [← HD.out, hke]; rfl)
        clear hke
        go_wp2
        go_ret
        exact ⟨by rw [HZ.out]; rfl, HB.out⟩
  · have hzb : (z != 0) = true := by simpa using hz
    have HR : Hid (z = res) := Lib.hid (by
      have h1 := HSZ.out
      have h2 := HV.out
      by_cases g0 : l.length = 0
      · rw [if_pos g0] at h1 h2; omega
      · rw [if_neg g0] at h1 h2
        by_cases g1 : (l.length : Int) ≤ 36
        · rw [if_pos g1] at h1; omega
        · rw [if_neg g1] at h1 h2; omega)
    clear HV HSZ
    go_enter Tryz.func81, Tryz.ntmps81
    go_wp2_with fail
    refine (HC.out _).mono ?_; rintro e w1 ⟨rfl, hb1⟩
    have HB1 := Lib.hid hb1
    clear hb1 HC
    go_wp2
    go_ret
    exact ⟨by rw [HR.out]; rfl, HB1.out⟩
end Go.Proofs.YtbckfkopdojggaaGreatDoor

/- Sides: the states, or the error. -/
namespace Go.Proofs.YtbckfkopdojggaaGreatDoor
open Go.RowKit

set_option maxRecDepth 100000 in
set_option maxHeartbeats 2000000 in
theorem fmSides_yes (A B : Option Addr) (c d : Nat) (xa xb : List (Int × ByteArray)) (w : World) (ha : EntriesR w A xa) (hb : EntriesR w B xb) (hE : sidesE xa xb = 0) :
    Calls Tryz.prog 32 #[.slice A xa.length c, .slice B xb.length d] w (MatchOut (statesL xa xb) w) := by
  obtain ⟨ea, eb, hab⟩ := sidesE_zero hE
  have la := (netsI_zero ea).2.1
  have lb := (netsI_zero eb).2.1
  have HE : Hid (firstI [netsI xa, netsI xb, unlessI (decide (xa.length = xb.length)) 2] = 0) := Lib.hid hE
  have HA := Lib.hid ha
  have HB := Lib.hid hb
  have HAB := Lib.hid hab
  have HC : Hid (∀ W, Below w.heap.size w W → Calls Tryz.prog 81 #[.slice A xa.length c] W fun e w' => e = .returned (.int .i64 (netsI xa)) ∧ Below W.heap.size W w') := Lib.hid (fun W hW => checkNets_any A c xa W (by omega) (ha.keep hW))
  have HD : Hid (∀ W, Below w.heap.size w W → Calls Tryz.prog 81 #[.slice B xb.length d] W fun e w' => e = .returned (.int .i64 (netsI xb)) ∧ Below W.heap.size W w') := Lib.hid (fun W hW => checkNets_any B d xb W (by omega) (hb.keep hW))
  have hbe : ((xa.length : Int) == (xb.length : Int)) = decide (xa.length = xb.length) := by
    rw [hab, beq_self_eq_true, decide_eq_true rfl]
  have HST := Lib.hid (fun W (hW : Below w.heap.size w W) => states_any A B c d xa xb W (by omega) hab (ha.keep hW) (hb.keep hW))
  clear ha hb hE hab ea eb
  generalize statesL xa xb = sl at HST ⊢
  generalize netsI xa = ea at HC HE
  generalize netsI xb = eb at HD HE
  go_enter Tryz.func32, Tryz.ntmps32
  go_wp2_with fail
  refine (HC.out _ (Below.refl _ _)).mono ?_; rintro e w1 ⟨rfl, hb1⟩
  have HB1 := Lib.hid hb1
  clear hb1
  go_wp2_with fail
  refine (HD.out _ HB1.out).mono ?_; rintro e w2 ⟨rfl, hb2⟩
  have HB2 := Lib.hid (HB1.out.trans (hb2.mono HB1.out.size))
  clear hb2
  go_wp2_with fail
  refine (fmUnless_any _ _ _).mono ?_; rintro e w3 ⟨rfl, rfl⟩
  go_wp2_with fail
  refine (fmFirst_any _ _ [_, _, _] _ (by simp) (Ints.three _ _ _ _ _ _ rfl)).mono ?_; rintro e w3 ⟨rfl, rfl⟩
  rw [HE.out]
  go_wp2_with fail
  refine (HST.out _ (HB2.out.alloc HB2.out.size _)).mono ?_; rintro e w4 ⟨A4, c4, rfl, hst, hge, hb4⟩
  have HB4 := Lib.hid ((HB2.out.alloc HB2.out.size _).trans (hb4.mono (by have := HB2.out.size; simp; omega)))
  have HS4 := Lib.hid hst
  have HG4 := Lib.hid (fun a (ha : A4 = some a) => Nat.le_trans (show w.heap.size ≤ _ by have := HB2.out.size; simp; omega) (hge a ha))
  clear hst hge hb4
  go_wp2
  go_ret2
  exact ⟨A4, c4, rfl, HS4.out, HG4.out, HB4.out⟩

set_option maxRecDepth 100000 in
set_option maxHeartbeats 2000000 in
theorem fmSides_no (A B : Option Addr) (c d : Nat) (xa xb : List (Int × ByteArray)) (w : World) (ha : EntriesR w A xa) (hb : EntriesR w B xb) (la : xa.length ≤ 1000) (lb : xb.length ≤ 1000) (z : Int) (hz : sidesE xa xb = z) (hn : z ≠ 0) :
    Calls Tryz.prog 32 #[.slice A xa.length c, .slice B xb.length d] w fun e w' => e = .returned (.tuple #[.slice none 0 0, .int .i64 z]) ∧ Below w.heap.size w w' := by
  have HE : Hid (firstI [netsI xa, netsI xb, unlessI (decide (xa.length = xb.length)) 2] = z) := Lib.hid hz
  have HC : Hid (∀ W, Below w.heap.size w W → Calls Tryz.prog 81 #[.slice A xa.length c] W fun e w' => e = .returned (.int .i64 (netsI xa)) ∧ Below W.heap.size W w') := Lib.hid (fun W hW => checkNets_any A c xa W (by omega) (ha.keep hW))
  have HD : Hid (∀ W, Below w.heap.size w W → Calls Tryz.prog 81 #[.slice B xb.length d] W fun e w' => e = .returned (.int .i64 (netsI xb)) ∧ Below W.heap.size W w') := Lib.hid (fun W hW => checkNets_any B d xb W (by omega) (hb.keep hW))
  have hbe : ((xa.length : Int) == (xb.length : Int)) = decide (xa.length = xb.length) := by
    by_cases g : xa.length = xb.length
    · rw [g, beq_self_eq_true, decide_eq_true rfl]
    · rw [decide_eq_false g, beq_eq_false_iff_ne]; omega
  have hzb : (z != 0) = true := by simpa using hn
  clear ha hb hz hn
  generalize netsI xa = ea at HC HE
  generalize netsI xb = eb at HD HE
  generalize decide (xa.length = xb.length) = q at hbe HE
  have HQ := Lib.hid hbe
  clear hbe
  go_enter Tryz.func32, Tryz.ntmps32
  go_wp2_with fail
  refine (HC.out _ (Below.refl _ _)).mono ?_; rintro e w1 ⟨rfl, hb1⟩
  have HB1 := Lib.hid hb1
  clear hb1
  go_wp2_with fail
  refine (HD.out _ HB1.out).mono ?_; rintro e w2 ⟨rfl, hb2⟩
  have HB2 := Lib.hid (HB1.out.trans (hb2.mono HB1.out.size))
  clear hb2
  go_wp2_with fail
  refine (fmUnless_any _ _ _).mono ?_; rintro e w3 ⟨rfl, rfl⟩
  rw [HQ.out]
  go_wp2_with fail
  refine (fmFirst_any _ _ [_, _, _] _ (by simp) (Ints.three _ _ _ _ _ _ rfl)).mono ?_; rintro e w3 ⟨rfl, rfl⟩
  rw [HE.out]
  go_wp2
  go_ret2
  exact ⟨rfl, HB2.out.alloc HB2.out.size _⟩
end Go.Proofs.YtbckfkopdojggaaGreatDoor

/- TopLinksPartners: a partner never hurts, the least aggregate, the order of the leaders: plain mathematics. -/
namespace Go.Proofs.YtbckfkopdojggaaGreatDoor
open Go.RowKit

theorem merit_ofP (a b : Ent) : meritI a b = if rankI a.2 < rankI b.2 then -1 else if rankI a.2 = rankI b.2 then (if a.1 < b.1 then -1 else if a.1 = b.1 then 0 else 1) else 1 := by
  unfold meritI cmpI
  by_cases h1 : rankI a.2 < rankI b.2
  · simp [firstI, h1]
  · by_cases h2 : rankI a.2 = rankI b.2
    · rw [h2]
      by_cases h3 : a.1 < b.1
      · simp [firstI, h3]
      · by_cases h4 : a.1 = b.1
        · simp [firstI, h4]
        · simp [firstI, h3, h4]
    · simp [firstI, h1, h2]
theorem merit_bound (a b : Ent) : -1 ≤ meritI a b ∧ meritI a b ≤ 1 := by
  rw [merit_ofP]
  repeat' split
  all_goals omega
theorem merit_chain {a b c : Ent} (h : meritI a b ≤ 0) : meritI a c ≤ meritI b c := by
  rw [merit_ofP] at h ⊢
  rw [merit_ofP]
  generalize rankI a.2 = p at h ⊢
  generalize rankI b.2 = q at h ⊢
  generalize rankI c.2 = r
  generalize a.1 = s at h ⊢
  generalize b.1 = t at h ⊢
  generalize c.1 = u
  repeat' split at h
  all_goals
    repeat' split
    all_goals omega
theorem res_better {a b c : Ent} (h : meritI a b ≤ 0) : resI b c ≤ resI a c := by
  have h1 := merit_chain (c := c) h
  have h2 := merit_bound a c
  have h3 := merit_bound b c
  unfold resI
  repeat' split
  all_goals omega

def sumR : List Du → Int
  | [] => 0
  | x :: l => resI x.2.1 x.2.2 + sumR l
theorem go_ups : ∀ (l : List Du) (u : Int) (o : Bool) (i : Nat), i < (statesGo u o l).length → i < l.length ∧ ((statesGo u o l).getD i (0, 0, false)).1 = u + sumR (l.take (i + 1))
  | [], _, _, i, h => by simp [statesGo] at h
  | x :: l, u, o, i, h => by
    rw [statesGo] at h ⊢
    by_cases hp : o = true ∨ playedB x.2.1.2 x.2.2.2 = false
    · rw [if_pos hp] at h; simp at h
    · rw [if_neg hp] at h ⊢
      match i, h with
      | 0, _ =>
        refine ⟨by simp, ?_⟩
        simp [sumR]
      | j + 1, h =>
        have ih := go_ups l (u + resI x.2.1 x.2.2) (overI (u + resI x.2.1 x.2.2) x.1) j (by simpa using h)
        refine ⟨by simp; exact ih.1, ?_⟩
        rw [List.getD_cons_succ, ih.2, List.take_succ_cons, sumR]
        omega
theorem sumR_le : ∀ (f g : Nat → Du) (l : List Nat), (∀ i ∈ l, resI (f i).2.1 (f i).2.2 ≤ resI (g i).2.1 (g i).2.2) → sumR (l.map f) ≤ sumR (l.map g)
  | _, _, [], _ => Int.le_refl _
  | f, g, i :: l, h => by
    have h0 := h i (by simp)
    have ih := sumR_le f g l (fun j hj => h j (by simp [hj]))
    simp only [List.map_cons, sumR]
    omega
/-- A partner never hurts. -/
theorem partner_up {xa xb xo : List Ent} (h1 : xa.length = xb.length) (hm : ∀ k, k < xa.length → meritI (xb.getD k (0, ByteArray.empty)) (xa.getD k (0, ByteArray.empty)) ≤ 0) (i : Nat) (ha : i < (statesL xa xo).length) (hb : i < (statesL xb xo).length) :
    ((statesL xa xo).getD i (0, 0, false)).1 ≤ ((statesL xb xo).getD i (0, 0, false)).1 := by
  unfold statesL at ha hb ⊢
  obtain ⟨g1, e1⟩ := go_ups _ _ _ i ha
  obtain ⟨g2, e2⟩ := go_ups _ _ _ i hb
  rw [duels_length] at g1 g2
  rw [e1, e2]
  have ht : ∀ (ys : List Ent) (k : Nat), i + 1 ≤ k → (duels ys xo k).take (i + 1) = (List.range (i + 1)).map fun j => ((ys.length - 1 - j, ys.getD j (0, ByteArray.empty), xo.getD j (0, ByteArray.empty)) : Du) := fun ys k hk => by
    unfold duels
    rw [← List.map_take, List.take_range, Nat.min_eq_left hk]
  rw [ht xa _ (by omega), ht xb _ (by omega)]
  have := sumR_le (fun j => ((xa.length - 1 - j, xa.getD j (0, ByteArray.empty), xo.getD j (0, ByteArray.empty)) : Du)) (fun j => ((xb.length - 1 - j, xb.getD j (0, ByteArray.empty), xo.getD j (0, ByteArray.empty)) : Du)) (List.range (i + 1)) (fun j hj => by
    have hj := List.mem_range.1 hj
    exact res_better (hm j (by omega)))
  omega

/-- The better one of two, and both together. -/
theorem min_two (x y : Ent) : meritI (minM [x, y]) x ≤ 0 := by
  show meritI (if meritI y x < 0 then y else x) x ≤ 0
  split
  · omega
  · rw [merit_ofP]; simp
theorem counts_rank {e : Ent} (h : netLike e) : countsB e.2 = true ↔ rankI e.2 = 0 := by
  rcases h with h | ⟨_, h | h⟩
  · refine ⟨fun _ => rank_of0 h, fun _ => ?_⟩
    rcases mark_cases e.2 with ⟨g, _, _, _, q⟩ | ⟨_, _, _, _, q⟩ | ⟨_, _, _, _, q⟩ | ⟨_, _, _, _, q⟩ | ⟨_, _, _, _, q⟩
    · exact g
    all_goals omega
  · rw [rank_of2 h]
    refine ⟨fun g => ?_, fun g => by cases g⟩
    rcases mark_cases e.2 with ⟨_, _, _, _, q⟩ | ⟨_, _, _, _, q⟩ | ⟨q0, _, _, _, q⟩ | ⟨_, _, _, _, q⟩ | ⟨_, _, _, _, q⟩
    · omega
    · omega
    · unfold countsB at g; rw [q0] at g; cases g
    all_goals omega
  · rw [rank_of3 h]
    refine ⟨fun g => ?_, fun g => by cases g⟩
    rcases mark_cases e.2 with ⟨_, _, _, _, q⟩ | ⟨_, _, _, _, q⟩ | ⟨_, _, _, _, q⟩ | ⟨q0, _, _, _, q⟩ | ⟨_, _, _, _, q⟩
    · omega
    · omega
    · omega
    · unfold countsB at g; rw [q0] at g; cases g
    · omega
theorem rank_pos {e : Ent} (h : netLike e) : 0 ≤ rankI e.2 := by
  rcases h with h | ⟨_, h | h⟩
  · rw [rank_of0 h]; decide
  · rw [rank_of2 h]; decide
  · rw [rank_of3 h]; decide
theorem total_two {x y : Ent} (hx : netLike x) (hy : netLike y) (h : (totalM [x, y]).2.toList.isEmpty = true) : (minM [x, y]).2.toList.isEmpty = true ∧ 2 * (minM [x, y]).1 ≤ (totalM [x, y]).1 := by
  have px := rank_pos hx
  have py := rank_pos hy
  have hmx : maxM [x, y] = if 0 < meritI y x then y else x := rfl
  have hmn : minM [x, y] = if meritI y x < 0 then y else x := rfl
  have hc : countsB (maxM [x, y]).2 = true := by
    cases hb : countsB (maxM [x, y]).2
    · exfalso
      unfold totalM at h
      rw [if_neg (by rw [hb]; decide)] at h
      unfold countsB at hb
      rw [hb] at h
      cases h
    · rfl
  have hmy := merit_ofP y x
  have hboth : rankI x.2 = 0 ∧ rankI y.2 = 0 := by
    rw [hmx] at hc
    by_cases g : 0 < meritI y x
    · rw [if_pos g] at hc
      have r := (counts_rank hy).1 hc
      refine ⟨?_, r⟩
      rw [hmy] at g
      repeat' split at g
      all_goals omega
    · rw [if_neg g] at hc
      have r := (counts_rank hx).1 hc
      refine ⟨r, ?_⟩
      rw [hmy] at g
      repeat' split at g
      all_goals omega
  have cx := (counts_rank hx).2 hboth.1
  have cy := (counts_rank hy).2 hboth.2
  have ht : (totalM [x, y]).1 = x.1 + y.1 := by
    unfold totalM
    rw [if_pos hc]
    simp [sumS, firsts, ForMath.sumI]
  rw [ht, hmn]
  rw [hboth.1, hboth.2] at hmy
  simp only [Int.lt_irrefl, if_false, if_true] at hmy
  by_cases g : meritI y x < 0
  · rw [if_pos g]
    rw [hmy] at g
    refine ⟨cy, ?_⟩
    repeat' split at g
    all_goals omega
  · rw [if_neg g]
    rw [hmy] at g
    refine ⟨cx, ?_⟩
    repeat' split at g
    all_goals omega

/-- The classes come in the order of their ranks. -/
theorem cls_sorted (l : List (Int × Int)) : ∀ m, (clsL m l).Pairwise fun x y => x.2 ≤ y.2
  | 0 => by simp [clsL]
  | m + 1 => by
    have h : clsL (m + 1) l = clsL m l ++ clsOf l m := by
      unfold clsL
      rw [List.range_succ, List.flatMap_append]
      simp
    rw [h]
    refine List.pairwise_append.2 ⟨cls_sorted l m, ?_, fun x hx y hy => ?_⟩
    · have : ∀ (q : List (Int × Int)), (∀ z ∈ q, z.2 = ((m + 1 : Nat) : Int)) → q.Pairwise fun x y => x.2 ≤ y.2 := fun q hq => by
        induction q with
        | nil => exact List.Pairwise.nil
        | cons z q ih => exact List.Pairwise.cons (fun y hy => by rw [hq z (by simp), hq y (by simp [hy])]; exact Int.le_refl _) (ih fun y hy => hq y (by simp [hy]))
      exact this _ fun z hz => (mem_cls hz).2
    · unfold clsL at hx
      obtain ⟨n, hn, hx⟩ := List.mem_flatMap.1 hx
      have h1 := (mem_cls hx).2
      have h2 := (mem_cls hy).2
      have := List.mem_range.1 hn
      omega
theorem cls_mem {m : Nat} {l : List (Int × Int)} {y : Int × Int} (h : y ∈ clsL m l) : y ∈ l := by
  unfold clsL at h
  obtain ⟨n, _, h⟩ := List.mem_flatMap.1 h
  exact (mem_cls h).1
/-- A leader: a player whose holes all count, and the rank. -/
theorem lead_mem {hs : List (Int × Int)} {ps : List Pl} {y : Int × Int} (h : y ∈ ldP hs ps) : ∃ i : Nat, i < ps.length ∧ y.1 = (i : Int) ∧ isLd hs (ps.getD i plD) = true ∧ ldS hs (ps.getD i plD) ∈ ldLs hs ps ps.length ∧ y.2 = 1 + ((ForMath.ahead (ldLs hs ps ps.length) (ldS hs (ps.getD i plD)) : Nat) : Int) := by
  unfold ldP at h
  obtain ⟨j, hj, e⟩ := List.mem_iff_getElem.1 h
  have hj2 : j < (ldIx hs ps ps.length).length := by simp at hj; omega
  have hj3 : j < (ForMath.ranks (ldLs hs ps ps.length)).length := by simp at hj; omega
  rw [List.getElem_zip] at e
  have hm : (ldIx hs ps ps.length)[j] ∈ ldIx hs ps ps.length := List.getElem_mem _
  have hlt := ldIx_lt hm
  have hld : isLd hs (ps.getD (ldIx hs ps ps.length)[j] plD) = true := by
    unfold ldIx at hm
    exact (List.mem_filter.1 hm).2
  refine ⟨(ldIx hs ps ps.length)[j], hlt, ?_, hld, ?_, ?_⟩
  · rw [← e]; simp
  · exact List.mem_map.2 ⟨_, hm, rfl⟩
  · rw [← e]
    simp [ForMath.ranks, ForMath.ahead, ldLs]
theorem back_sum {n : Nat} {x z : List Int} (hx : x.length = n) (hz : z.length = n) (h : ForMath.sumI z < ForMath.sumI x) : ForMath.cback z x < 0 := by
  unfold ForMath.cback ForMath.cbGo
  have e1 : ForMath.lastSum z z.length = ForMath.sumI z := by simp [ForMath.lastSum]
  have e2 : ForMath.lastSum x z.length = ForMath.sumI x := by rw [hz, ← hx]; simp [ForMath.lastSum]
  rw [e1, e2]
  simp [h]
/-- Who comes later in the order has no lesser sum. -/
theorem lead_sums {hs : List (Int × Int)} {ps : List Pl} {n : Nat} (hal : ∀ y ∈ ldLs hs ps ps.length, y.length = n) {i k : Nat} (hi : ldS hs (ps.getD i plD) ∈ ldLs hs ps ps.length) (hk : ldS hs (ps.getD k plD) ∈ ldLs hs ps ps.length)
    (h : ForMath.ahead (ldLs hs ps ps.length) (ldS hs (ps.getD i plD)) ≤ ForMath.ahead (ldLs hs ps ps.length) (ldS hs (ps.getD k plD))) : sumS (netsOf hs (ps.getD i plD).h (ps.getD i plD).l) ≤ sumS (netsOf hs (ps.getD k plD).h (ps.getD k plD).l) := by
  rcases Int.lt_or_le (sumS (netsOf hs (ps.getD k plD).h (ps.getD k plD).l)) (sumS (netsOf hs (ps.getD i plD).h (ps.getD i plD).l)) with g | g
  · exfalso
    have := (ForMath.ahead_lt n _ hal _ _ hk hi).2 (back_sum (hal _ hi) (hal _ hk) g)
    omega
  · exact g
end Go.Proofs.YtbckfkopdojggaaGreatDoor

/- TopLinksPartners: net strokes are in order, the law's premises out of a field that is in order: plain mathematics. -/
namespace Go.Proofs.YtbckfkopdojggaaGreatDoor
open Go.RowKit

theorem given_501 {h : Int} {n : Nat} (h1 : -99 ≤ h) (h2 : h ≤ 99) (hn : 0 < n) (hs : List (Int × Int)) : ∀ z ∈ givenL (h / (n : Int)) (h % (n : Int)) hs, -501 ≤ z ∧ z ≤ 501 := fun z hz => by
  unfold givenL at hz
  obtain ⟨x, _, rfl⟩ := List.mem_map.1 hz
  have a := Int.ediv_mul_le h (show (n : Int) ≠ 0 by omega)
  have b := Int.lt_ediv_add_one_mul_self h (show (0 : Int) < n by omega)
  have hq : -500 ≤ h / (n : Int) ∧ h / (n : Int) ≤ 500 := by
    constructor
    · by_cases g : h / (n : Int) + 1 ≤ -100
      · have := Int.mul_le_mul_of_nonneg_right g (show (0 : Int) ≤ n by omega)
        omega
      · omega
    · by_cases g : (100 : Int) ≤ h / (n : Int)
      · have := Int.mul_le_mul_of_nonneg_right g (show (0 : Int) ≤ n by omega)
        omega
      · omega
  show -501 ≤ addI _ _ _ ∧ addI _ _ _ ≤ 501
  unfold addI
  split <;> omega
theorem netI_of {e : Ent} (h : fineN e) (hb : -999 ≤ e.1 ∧ e.1 ≤ 999) : netI e = 0 := by
  unfold netI kindB
  rcases h with h | ⟨h0, h⟩ | ⟨h0, h⟩
  · rw [if_pos (by rw [h]; rfl), if_pos h]
    unfold withinI
    rw [if_pos hb]
  · rw [if_pos (by rw [h]; simp)]
    split
    · unfold withinI; rw [if_pos hb]
    · unfold withinI; rw [if_pos (by omega)]
  · rw [if_pos (by rw [h]; simp)]
    split
    · unfold withinI; rw [if_pos hb]
    · unfold withinI; rw [if_pos (by omega)]
theorem nets_in {hs : List (Int × Int)} {l : List Ent} {h : Int} (F : Fit hs l h) : ∀ e ∈ netsOf hs h l, netI e = 0 := fun e he => by
  refine netI_of (nets_fine hs h l e he) ?_
  unfold netsOf netsL at he
  obtain ⟨⟨g, n⟩, hz, rfl⟩ := List.mem_map.1 he
  have h1 := List.of_mem_zip hz
  have h2 := F.strokes n h1.2
  have h3 := given_501 F.lo F.hi F.pos hs g h1.1
  show -999 ≤ (netV g n).1 ∧ (netV g n).1 ≤ 999
  unfold netV
  split
  · simp
  · simp only; omega
theorem netsI_of {l : List Ent} (h0 : 0 < l.length) (h36 : l.length ≤ 36) (h : ∀ e ∈ l, netI e = 0) : netsI l = 0 := by
  unfold netsI
  rw [if_neg (by omega), if_pos (by omega)]
  exact firstI_all _ fun x hx => by
    obtain ⟨e, he, rfl⟩ := List.mem_map.1 hx
    exact h e he
theorem at_in {l : List Ent} {k : Nat} (h : k < l.length) : l.getD k (0, ByteArray.empty) ∈ l := by
  simp [List.getD, List.getElem?_eq_getElem h]
theorem min_either (x y : Ent) : minM [x, y] = x ∨ minM [x, y] = y := by
  show (if meritI y x < 0 then y else x) = x ∨ (if meritI y x < 0 then y else x) = y
  split
  · exact .inr rfl
  · exact .inl rfl
theorem pair_at (hs : List (Int × Int)) (a b : Pl) (i : Nat) : netsAt hs [a, b] i = [(netsOf hs a.h a.l).getD i (0, ByteArray.empty), (netsOf hs b.h b.l).getD i (0, ByteArray.empty)] := rfl

section
variable {hs : List (Int × Int)} {a b : Pl} (FA : Fit hs a.l a.h) (FB : Fit hs b.l b.h)
include FA FB
theorem best_in : ∀ e ∈ joinedL minM hs [a, b], netI e = 0 := fun e he => by
  unfold joinedL at he
  obtain ⟨i, hi, rfl⟩ := List.mem_map.1 he
  have hi := List.mem_range.1 hi
  rw [pair_at]
  rcases min_either ((netsOf hs a.h a.l).getD i (0, ByteArray.empty)) ((netsOf hs b.h b.l).getD i (0, ByteArray.empty)) with h | h
  · rw [h]; exact nets_in FA _ (at_in (by rw [FA.netsLen]; exact hi))
  · rw [h]; exact nets_in FB _ (at_in (by rw [FB.netsLen]; exact hi))
omit FB in
theorem best_ups (xo : List Ent) (i : Nat) (h1 : i < (statesL (netsOf hs a.h a.l) xo).length) (h2 : i < (statesL (joinedL minM hs [a, b]) xo).length) :
    ((statesL (netsOf hs a.h a.l) xo).getD i (0, 0, false)).1 ≤ ((statesL (joinedL minM hs [a, b]) xo).getD i (0, 0, false)).1 :=
  partner_up (by rw [joinedL_len, FA.netsLen]) (fun k hk => by
    rw [FA.netsLen] at hk
    rw [joinedL_at _ _ _ _ hk, pair_at]
    exact min_two _ _) i h1 h2
theorem best_bound (i : Nat) (hi : i < hs.length) : -20000 ≤ ((joinedL minM hs [a, b]).getD i (0, ByteArray.empty)).1 ∧ ((joinedL minM hs [a, b]).getD i (0, ByteArray.empty)).1 ≤ 20000 := by
  have := netI_bound (best_in FA FB _ (at_in (k := i) (by rw [joinedL_len]; exact hi)))
  omega
theorem both_least (i : Nat) (hi : i < hs.length) (h : ((joinedL totalM hs [a, b]).getD i (0, ByteArray.empty)).2.toList.isEmpty = true) :
    ((joinedL minM hs [a, b]).getD i (0, ByteArray.empty)).2.toList.isEmpty = true ∧ 2 * ((joinedL minM hs [a, b]).getD i (0, ByteArray.empty)).1 ≤ ((joinedL totalM hs [a, b]).getD i (0, ByteArray.empty)).1 := by
  rw [joinedL_at _ _ _ _ hi, pair_at] at h ⊢
  rw [joinedL_at _ _ _ _ hi, pair_at]
  have like : ∀ (p : Pl), Fit hs p.l p.h → netLike ((netsOf hs p.h p.l).getD i (0, ByteArray.empty)) := fun p F => by
    have hm := at_in (l := netsOf hs p.h p.l) (k := i) (by rw [F.netsLen]; exact hi)
    revert hm
    generalize (netsOf hs p.h p.l).getD i (0, ByteArray.empty) = e
    intro hm
    unfold netsOf netsL at hm
    obtain ⟨⟨g, n⟩, _, rfl⟩ := List.mem_map.1 hm
    exact netV_like g n
  exact total_two (like a FA) (like b FB) h
end
theorem states_few {xa xo : List Ent} (h : xa.length ≤ 36) : (statesL xa xo).length ≤ 36 := by
  have go : ∀ (u : Int) (o : Bool) (l : List Du), (statesGo u o l).length ≤ l.length := by
    intro u o l
    induction l generalizing u o with
    | nil => simp [statesGo]
    | cons x l ih =>
      have := ih (u + resI x.2.1 x.2.2) (overI (u + resI x.2.1 x.2.2) x.1)
      rw [statesGo]
      split
      · simp
      · simp only [List.length_cons]; omega
  have h1 := go 0 false (duels xa xo xa.length)
  rw [duels_length] at h1
  unfold statesL
  omega

/-- The leaders' order, as the law asks it. -/
theorem order_facts {hs : List (Int × Int)} {ps : List Pl} (hn : ∀ p ∈ ps, plI hs p = 0) (h0 : 0 < hs.length) (h36 : hs.length ≤ 36) (P : List (Int × Int)) (hP : P = clsL (ldP hs ps).length (ldP hs ps)) :
    (∀ i, i < P.length → ∃ k : Nat, (P.getD i (0, 0)).1 = (k : Int) ∧ k < ps.length ∧ isLd hs (ps.getD k plD) = true) ∧
    (∀ i, i + 1 < P.length → (P.getD i (0, 0)).2 ≤ (P.getD (i + 1) (0, 0)).2) ∧
    (∀ i (k l : Nat), i + 1 < P.length → (P.getD i (0, 0)).1 = (k : Int) → (P.getD (i + 1) (0, 0)).1 = (l : Int) →
      sumS (netsOf hs (ps.getD k plD).h (ps.getD k plD).l) ≤ sumS (netsOf hs (ps.getD l plD).h (ps.getD l plD).l)) := by
  have hin : ∀ i, i < P.length → P.getD i (0, 0) ∈ ldP hs ps := fun i hi => by
    have : P.getD i (0, 0) ∈ P := by simp [List.getD, List.getElem?_eq_getElem hi]
    rw [hP] at this
    rw [hP]
    exact cls_mem this
  have hrk : ∀ i, i + 1 < P.length → (P.getD i (0, 0)).2 ≤ (P.getD (i + 1) (0, 0)).2 := fun i hi => by
    have hs := List.pairwise_iff_getElem.1 (cls_sorted (ldP hs ps) (ldP hs ps).length)
    rw [← hP] at hs
    have := hs i (i + 1) (by omega) hi (by omega)
    simpa [List.getD, List.getElem?_eq_getElem hi, List.getElem?_eq_getElem (show i < P.length by omega)] using this
  refine ⟨fun i hi => ?_, hrk, fun i k l hi hk hl => ?_⟩
  · obtain ⟨k, h1, h2, h3, _⟩ := lead_mem (hin i hi)
    exact ⟨k, h2, h1, h3⟩
  · obtain ⟨k', _, e1, _, m1, r1⟩ := lead_mem (hin i (by omega))
    obtain ⟨l', _, e2, _, m2, r2⟩ := lead_mem (hin (i + 1) hi)
    have ek : k' = k := by rw [e1] at hk; omega
    have el : l' = l := by rw [e2] at hl; omega
    subst ek
    subst el
    have := hrk i hi
    rw [r1, r2] at this
    exact lead_sums (ldLs_alike hs ps hn h0 h36).1 m1 m2 (by omega)
theorem three_first {hs : List (Int × Int)} {a b c : Pl} {rest : List Pl} (h : playersGo hs [] (a :: b :: c :: rest) = 0) : playersGo hs [] [a, b] = 0 := two_first h
end Go.Proofs.YtbckfkopdojggaaGreatDoor
