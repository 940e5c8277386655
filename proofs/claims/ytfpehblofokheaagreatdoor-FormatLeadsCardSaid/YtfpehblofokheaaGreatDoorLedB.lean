/- leaders: the players with a net score, ranked and sorted. -/
import Derived.Test.YtfpehblofokheaaGreatDoorLedA
import Derived.Test.YtfpehblofokheaaGreatDoorLedS
import Derived.Test.YtfpehblofokheaaGreatDoorMgG
import Derived.Test.YtfpehblofokheaaGreatDoorScoA
import Derived.Outline
set_option linter.unusedVariables false
set_option linter.unusedSimpArgs false
namespace Go.Proofs.YtfpehblofokheaaGreatDoor
open Go.RowKit

/-- The numbers of the first k players who have a net score. -/
def isLd (hs : List (Int × Int)) (p : Pl) : Bool := allCount (netsOf hs p.h p.l)
def ldIx (hs : List (Int × Int)) (ps : List Pl) (k : Nat) : List Nat := (List.range k).filter fun i => isLd hs (ps.getD i plD)
def ldS (hs : List (Int × Int)) (p : Pl) : List Int := firsts (netsOf hs p.h p.l)
def ldLs (hs : List (Int × Int)) (ps : List Pl) (k : Nat) : List (List Int) := (ldIx hs ps k).map fun i => ldS hs (ps.getD i plD)
def ldZ (hs : List (Int × Int)) (ps : List Pl) (k : Nat) : List (Int × Int) := (ldIx hs ps k).map fun i => (((i : Nat) : Int), (0 : Int))
theorem ldIx_succ (hs : List (Int × Int)) (ps : List Pl) (k : Nat) : ldIx hs ps (k + 1) = if isLd hs (ps.getD k plD) = true then ldIx hs ps k ++ [k] else ldIx hs ps k := by
  unfold ldIx
  rw [List.range_succ, List.filter_append]
  by_cases h : isLd hs (ps.getD k plD) = true
  · rw [if_pos h, List.filter_cons_of_pos (p := fun i => isLd hs (ps.getD i plD)) h]; rfl
  · rw [if_neg h, List.filter_cons_of_neg (p := fun i => isLd hs (ps.getD i plD)) h]; simp
theorem ldIx_lt {hs : List (Int × Int)} {ps : List Pl} {k i : Nat} (h : i ∈ ldIx hs ps k) : i < k := by
  unfold ldIx at h
  exact List.mem_range.1 (List.mem_filter.1 h).1
theorem ldIx_len (hs : List (Int × Int)) (ps : List Pl) (k : Nat) : (ldIx hs ps k).length ≤ k := by
  unfold ldIx
  have := List.length_filter_le (fun i => isLd hs (ps.getD i plD)) (List.range k)
  simpa using this
theorem ldZ_len (hs : List (Int × Int)) (ps : List Pl) (k : Nat) : (ldZ hs ps k).length = (ldIx hs ps k).length := by simp [ldZ]
theorem ldLs_len (hs : List (Int × Int)) (ps : List Pl) (k : Nat) : (ldLs hs ps k).length = (ldIx hs ps k).length := by simp [ldLs]
/-- The leaders with their ranks, in the players' order. -/
def ldP (hs : List (Int × Int)) (ps : List Pl) : List (Int × Int) := ((ldIx hs ps ps.length).map fun i => ((i : Nat) : Int)).zip (ForMath.ranks (ldLs hs ps ps.length))
theorem ldZP (hs : List (Int × Int)) (ps : List Pl) : (ldZ hs ps ps.length).length = (ldP hs ps).length := by
  unfold ldP
  simp [ranks_len, ldLs_len, ldZ_len]
theorem ldLP (hs : List (Int × Int)) (ps : List Pl) : (ldLs hs ps ps.length).length = (ldP hs ps).length := by
  unfold ldP
  simp [ranks_len, ldLs_len]
theorem ldP_len (hs : List (Int × Int)) (ps : List Pl) : (ldP hs ps).length = (ldIx hs ps ps.length).length := by
  unfold ldP
  simp [ranks_len, ldLs_len]
theorem ranks_bound {ls : List (List Int)} {r : Int} (h : r ∈ ForMath.ranks ls) : 1 ≤ r ∧ r ≤ ((ls.length : Nat) : Int) := by
  unfold ForMath.ranks at h
  obtain ⟨x, hx, rfl⟩ := List.mem_map.1 h
  have hlt : (ls.filter fun y => decide (ForMath.cback y x < 0)).length < ls.length := by
    rw [List.length_filter_lt_length_iff_exists]
    exact ⟨x, hx, by rw [ForMath.cback_self]; decide⟩
  omega
theorem ldP_ranks (hs : List (Int × Int)) (ps : List Pl) : ∀ y ∈ ldP hs ps, 1 ≤ y.2 ∧ y.2 ≤ (((ldP hs ps).length : Nat) : Int) := fun y hy => by
  rw [ldP_len, ← ldLs_len]
  unfold ldP at hy
  obtain ⟨a, b⟩ := y
  exact ranks_bound (List.of_mem_zip hy).2
/-- Ranks written so far. -/
def ldK (hs : List (Int × Int)) (ps : List Pl) (k : Nat) : List (Int × Int) := (ldP hs ps).take k ++ (ldZ hs ps ps.length).drop k
theorem ldK_zero (hs : List (Int × Int)) (ps : List Pl) : ldK hs ps 0 = ldZ hs ps ps.length := by simp [ldK]
theorem ldK_all (hs : List (Int × Int)) (ps : List Pl) (k : Nat) (h : (ldP hs ps).length ≤ k) : ldK hs ps k = ldP hs ps := by
  unfold ldK
  rw [List.take_of_length_le h, List.drop_of_length_le (by rw [ldZ_len, ← ldP_len]; exact h), List.append_nil]
theorem ldK_len (hs : List (Int × Int)) (ps : List Pl) (k : Nat) : (ldK hs ps k).length = (ldP hs ps).length := by
  unfold ldK
  have h1 := ldZ_len hs ps ps.length
  have h2 := ldP_len hs ps
  simp
  omega
theorem ldK_set (hs : List (Int × Int)) (ps : List Pl) (k : Nat) (h : k < (ldP hs ps).length) : (ldK hs ps k).set k (((ldK hs ps k).getD k (0, 0)).1, (ForMath.ranks (ldLs hs ps ps.length)).getD k 0) = ldK hs ps (k + 1) := by
  have h1 := ldZ_len hs ps ps.length
  have h2 := ldP_len hs ps
  have hz : k < (ldZ hs ps ps.length).length := by omega
  have hi : k < (ldIx hs ps ps.length).length := by omega
  have hrk : k < (ForMath.ranks (ldLs hs ps ps.length)).length := by rw [ranks_len, ldLs_len]; omega
  have hg : (ldK hs ps k).getD k (0, 0) = (ldZ hs ps ps.length)[k] := by
    unfold ldK
    rw [List.getD, List.getElem?_append_right (by simp; omega), List.length_take, Nat.min_eq_left (by omega), Nat.sub_self]
    simp [hz]
  have hp : (((ldZ hs ps ps.length)[k]).1, (ForMath.ranks (ldLs hs ps ps.length)).getD k 0) = (ldP hs ps)[k] := by
    simp [ldP, ldZ, List.getD, List.getElem?_eq_getElem hrk]
  rw [hg, hp]
  unfold ldK
  rw [List.set_append_right _ _ (by simp; omega), List.length_take, Nat.min_eq_left (by omega), Nat.sub_self, List.drop_eq_getElem_cons hz, List.set_cons_zero, List.take_succ_eq_append_getElem h, List.append_assoc]
  rfl

theorem cls_whole (hs : List (Int × Int)) (ps : List Pl) : (clsL (ldP hs ps).length (ldP hs ps)).length = (ldP hs ps).length := by
  have h := cls_take (ldP hs ps).length (ldP hs ps) (ldP_ranks hs ps) (ldP hs ps).length (Nat.le_refl _)
  rwa [List.take_length] at h
theorem own_types {w : World} {b1 b2 s1 s2 n1 n2 : Nat} {e1 e2 : TypeId} {v1 v2 : Value} {x1 x2 : List Value} (h1 : w.ownsRow b1 e1 s1 v1 n1 x1) (h2 : w.ownsRow b2 e2 s2 v2 n2 x2) (he : e1 ≠ e2) : v1.ownBlock = none ∨ v1.ownBlock ≠ v2.ownBlock := by
  rcases h1.2 with ⟨rfl, _⟩ | ⟨g, cap, cur, rfl, _, hg, _⟩
  · left; rfl
  · right
    rcases h2.2 with ⟨rfl, _⟩ | ⟨g2, cap2, cur2, rfl, _, hg2, _⟩
    · simp [Value.ownBlock]
    · intro e
      simp [Value.ownBlock] at e
      subst e
      rw [hg2] at hg
      injection hg with hg
      injection hg with _ hg _
      exact he hg.symm
theorem one_append (base : Nat) (y : Int × Int) (w : World) (v : Value) (tk : List (Int × Int)) (hb : base ≤ w.heap.size) (hl : tk.length ≤ 1000) (hown : w.ownsRow base 93 2 v tk.length (ldCells tk)) :
    ∃ v' w', (Builtin.append_ #[89, 89] 89 #[v, .slice (some ⟨w.heap.size, 0, none⟩) 1 1]).run Tryz.prog (w.alloc (.cells #[.int .i64 y.1, .int .i64 y.2] 93)) = .ok v' w' ∧ w'.ownsRow base 93 2 v' (tk ++ [y]).length (ldCells (tk ++ [y])) ∧ Below base w w' ∧
      w.grownBy w' v.ownBlock := by
  obtain ⟨v', w', hr, ho, hbw, hgr, _⟩ := append_grown base 89 93 (.agg #[.int .i64 0, .int .i64 0]) 2 16 Tryz.underlying89 info_led rfl (by decide) [.int .i64 y.1, .int .i64 y.2] rfl (by simp [Value.oneCell']) w v tk.length _ hb (by omega) (by omega) hown
  exact ⟨v', w', hr, by rw [List.length_append, ldCells_snoc]; exact ho, hbw, hgr⟩
/-- Lists of integers stay where leaders' rows grow. -/
theorem LsOwn.led {w w' : World} {base b2 n : Nat} {v v2 : Value} {ls : List (List Int)} {xs : List Value} (h : LsOwn w base v ls none) (h2 : w.ownsRow b2 93 2 v2 n xs) (hg : w.grownBy w' v2.ownBlock) : LsOwn w' base v ls none := by
  have ht : (93 : TypeId) ≠ 35 := by decide
  have ht2 : (93 : TypeId) ≠ 3 := by decide
  refine h.kept hg ?_ (fun b e => .inr (fun cur fz hc => ?_)) (.inl rfl)
  · obtain ⟨cs, h1, _⟩ := h
    exact own_types h1 h2 (Ne.symm ht)
  · rcases h2.2 with ⟨rfl, _⟩ | ⟨g, cap, cur2, rfl, _, hg2, _⟩
    · simp [Value.ownBlock] at e
    · simp [Value.ownBlock] at e
      subst e
      rw [hg2] at hc
      injection hc with hc
      injection hc with _ hc _
      exact ht2 hc

theorem own_keep {w w' : World} {base n s : Nat} {e : TypeId} {v : Value} {xs : List Value} (h : w.ownsRow base e s v n xs) (hb : Below w.heap.size w w') : w'.ownsRow base e s v n xs := by
  refine ⟨h.1, ?_⟩
  rcases h.2 with hn | ⟨g, cap, cur, e1, e2, e3, rest⟩
  · exact .inl hn
  · exact .inr ⟨g, cap, cur, e1, e2, (hb.block g (Array.getElem?_eq_some_iff.1 e3).1).trans e3, rest⟩
theorem own_lt {w : World} {base n s : Nat} {e : TypeId} {v : Value} {xs : List Value} (h : w.ownsRow base e s v n xs) : ∀ b, v.ownBlock = some b → base ≤ b ∧ b < w.heap.size := fun b hb => by
  rcases h.2 with ⟨rfl, _⟩ | ⟨g, cap, cur, rfl, hg, hgb, _⟩
  · simp [Value.ownBlock] at hb
  · simp [Value.ownBlock] at hb
    subst hb
    exact ⟨hg, (Array.getElem?_eq_some_iff.1 hgb).1⟩
theorem entries_grown {w w' : World} {A : Option Addr} {l : List (Int × ByteArray)} {row : Option Nat} (h : EntriesR w A l) (hg : w.grownBy w' row) (hA : ∀ a, A = some a → ∀ b, row = some b → b < a.block) : EntriesR w' A l := fun j hj => by
  obtain ⟨a, rfl, h1, h2, h3⟩ := h j hj
  have hne : some (a.add (j * 2)).block ≠ row := fun e => by
    have := hA a rfl _ e.symm
    rw [block_of_add] at this
    omega
  exact ⟨a, rfl, hg.cell h1 hne, hg.cell h2 hne, Nat.lt_of_lt_of_le h3 hg.size⟩
/-- What leaders hands over: the sorted pairs. -/
def LedOut (l : List (Int × Int)) (w : World) (e : Ending) (w' : World) : Prop := ∃ A c, e = .returned (.slice A l.length c) ∧ LdAt w' A l ∧ Below w.heap.size w w'
theorem ldLs_alike (hs : List (Int × Int)) (ps : List Pl) (hn : ∀ p ∈ ps, plI hs p = 0) (h0 : 0 < hs.length) (h36 : hs.length ≤ 36) : Alike hs.length (ldLs hs ps ps.length) := by
  have hm : ∀ y ∈ ldLs hs ps ps.length, ∃ p ∈ ps, y = ldS hs p := fun y hy => by
    obtain ⟨i, hi, rfl⟩ := List.mem_map.1 hy
    have := ldIx_lt hi
    exact ⟨ps.getD i plD, by simp [List.getD, List.getElem?_eq_getElem this], rfl⟩
  refine ⟨fun y hy => ?_, fun y hy => ?_, h0, by omega⟩
  · obtain ⟨p, hp, rfl⟩ := hm y hy
    unfold ldS
    rw [firsts_len, (fit_of (hn p hp)).netsLen]
  · obtain ⟨p, hp, rfl⟩ := hm y hy
    exact (fit_of (hn p hp)).netsSmall

set_option maxRecDepth 100000 in
set_option maxHeartbeats 8000000 in
theorem leaders_any (A H : Option Addr) (c ch : Nat) (hs : List (Int × Int)) (ps : List Pl) (w : World) (hr : HolesR w H hs) (hbl : ∀ a, H = some a → a.block < w.heap.size) (hp : PlayersR w A ps) (hl : ps.length ≤ 19) (hn : ∀ p ∈ ps, plI hs p = 0) (h0 : 0 < hs.length) (h36 : hs.length ≤ 36) :
    Calls Tryz.prog 38 #[.agg #[.slice H hs.length ch, .slice A ps.length c]] w (LedOut (clsL (ldP hs ps).length (ldP hs ps)) w) := by
  have HRD := Lib.hid (fun W (hb : Below w.heap.size w W) B d (p : Pl) (he : EntriesR W B p.l) (hn : plI hs p = 0) =>
    roundOf_any H B ch d hs p.nm p.l p.h W (hr.keep hbl hb) (fun a ha => Nat.lt_of_lt_of_le (hbl a ha) hb.size) he h0 (by omega) (fit_of hn).len (fit_of hn).strokes (fit_of hn).lo (fit_of hn).hi)
  have HP := Lib.hid hp
  have HN := Lib.hid hn
  have HAL := Lib.hid (ldLs_alike hs ps hn h0 h36)
  clear hr hp hn
  go_enter Tryz.func38, Tryz.ntmps38
  go_wp2
  generalize hW0 : w.alloc (.cells #[.slice H hs.length ch, .slice A ps.length c] 25) = W0
  obtain ⟨a1, a2, a3⟩ := one_alloc w _ _ hW0
  have HBX := Lib.hid a1
  have HB0 := Lib.hid a2
  have HSZ0 := Lib.hid a3
  clear hW0 a1 a2 a3
  go_loopw [3, 4, 13] (fun vl vL iv w' => ∃ k : Nat, k ≤ ps.length ∧ iv = .int .i64 k ∧ w'.ownsRow W0.heap.size 93 2 vl (ldZ hs ps k).length (ldCells (ldZ hs ps k)) ∧ LsOwn w' W0.heap.size vL (ldLs hs ps k) none ∧ Below W0.heap.size W0 w') (fun _ _ iv _ => ps.length - (intOf iv).toNat)
  case atStart => exact ⟨0, Nat.zero_le _, rfl, World.ownsRow_nil _ _ _ 2, LsOwn.nil _ _ _, Below.refl _ _⟩
  case round =>
    obtain ⟨k, hk, rfl, ho, hL, hb⟩ := hrel
    have HO := Lib.hid ho
    have HL := Lib.hid hL
    have HB := Lib.hid hb
    have hbx := HBX.out.below hb HBX.out.lt
    have x0 := hbx.cell 0
    have x1 := hbx.cell 1
    simp only [List.getElem?_toArray, List.getElem?_cons_zero, List.getElem?_cons_succ] at x0 x1
    have HBK := Lib.hid (HB0.out.trans (hb.mono HB0.out.size))
    clear ho hL hb hbx
    by_cases hlt : k < ps.length
    · have hk0 : (0 : Int) ≤ (k : Int) := Int.natCast_nonneg _
      have hk1 : (k : Int) < (ps.length : Int) := by omega
      have HMEM : Hid (ps.getD k plD ∈ ps) := Lib.hid (by simp [List.getD, List.getElem?_eq_getElem hlt])
      have HPN := Lib.hid (HN.out _ HMEM.out)
      have HFL := Lib.hid (fit_of HPN.out).netsLen
      obtain ⟨a, B, d, rfl, d0, d1, d2, _, hent⟩ := (HP.out.keep HBK.out) k hlt
      have HENT := Lib.hid hent
      have HSUC := Lib.hid (ldIx_succ hs ps k)
      have HDS : Hid (ldS hs (ps.getD k plD) = firsts (netsOf hs (ps.getD k plD).h (ps.getD k plD).l)) := Lib.hid rfl
      have HDI : Hid (isLd hs (ps.getD k plD) = allCount (netsOf hs (ps.getD k plD).h (ps.getD k plD).l)) := Lib.hid rfl
      have HZ1 : Hid (ldLs hs ps (k + 1) = if isLd hs (ps.getD k plD) = true then ldLs hs ps k ++ [ldS hs (ps.getD k plD)] else ldLs hs ps k) := Lib.hid (by
        unfold ldLs; rw [HSUC.out]; split
        · rw [List.map_append]; rfl
        · rfl)
      have HZ2 : Hid (ldZ hs ps (k + 1) = if isLd hs (ps.getD k plD) = true then ldZ hs ps k ++ [((k : Int), 0)] else ldZ hs ps k) := Lib.hid (by
        unfold ldZ; rw [HSUC.out]; split
        · rw [List.map_append]; rfl
        · rfl)
      have HLEN := Lib.hid (ldIx_len hs ps k)
      have HZL := Lib.hid (ldZ_len hs ps k)
      have HLL := Lib.hid (ldLs_len hs ps k)
      clear hent HMEM HSUC
      generalize ps.getD k plD = p at d0 d1 d2 HENT HPN HFL HDS HDI HZ1 HZ2
      obtain ⟨nm, l, h⟩ := p
      simp only at d0 d1 d2
      have x2 := (World.cell?_alloc_lt wr (.cells #[.string nm, .slice B l.length d, .int .i64 h] 55) ⟨w.heap.size, 0, none⟩ (World.block_lt_of_cell? _ _ x0)).trans x0
      go_wp2_with fail
      generalize hW2 : wr.alloc (.cells #[.string nm, .slice B l.length d, .int .i64 h] 55) = W2
      have hB2 : Below wr.heap.size wr W2 := by subst hW2; exact (Below.refl _ _).alloc (Nat.le_refl _) _
      have HB2 := Lib.hid hB2
      clear hW2 hB2 d0 d1 d2 x0 x1 x2
      refine (HRD.out W2 (HBK.out.trans (HB2.out.mono HBK.out.size)) B d ⟨nm, l, h⟩ (HENT.out.keep HB2.out) HPN.out).mono ?_
      rintro e w3 ⟨A3, c3, rfl, hen3, hge3, hb3⟩
      have HB3 := Lib.hid (HB2.out.trans (hb3.mono HB2.out.size))
      have HEN3 := Lib.hid hen3
      have HGE3 : Hid (∀ a, A3 = some a → wr.heap.size ≤ a.block) := Lib.hid (fun a ha => Nat.le_trans HB2.out.size (hge3 a ha))
      clear hen3 hge3 hb3
      have HDS2 : Hid (ldS hs ⟨nm, l, h⟩ = firsts (netsOf hs h l)) := HDS
      have HDI2 : Hid (isLd hs ⟨nm, l, h⟩ = allCount (netsOf hs h l)) := HDI
      have HFL2 : Hid ((netsOf hs h l).length = hs.length) := HFL
      clear HDS HDI HFL HPN
      have HFL36 : Hid ((netsOf hs h l).length ≤ 36) := Lib.hid (by rw [HFL2.out]; exact h36)
      have HFL0 : Hid (0 < (netsOf hs h l).length) := Lib.hid (by rw [HFL2.out]; exact h0)
      generalize netsOf hs h l = nl at HEN3 HFL2 HDS2 HDI2 HFL36 HFL0
      go_wp2_with fail
      generalize hW4 : w3.alloc (.cells #[.slice B l.length d, .slice A3 nl.length c3] 119) = W4
      obtain ⟨b1, b2, b3⟩ := one_alloc w3 _ _ hW4
      have HBX4 := Lib.hid b1
      have HB4 := Lib.hid (HB3.out.trans (b2.mono HB3.out.size))
      have HEN4 := Lib.hid (HEN3.out.keep b2)
      have HBX3 : Hid (wr.heap.size ≤ w3.heap.size) := Lib.hid HB3.out.size
      clear hW4 b1 b2 b3 HB3 HEN3
      refine (isWhole_any A3 B c3 d l.length nl W4 HEN4.out (by have := HFL36.out; omega)).mono ?_
      rintro e w5 ⟨rfl, hb5⟩
      have HBX5 := Lib.hid (HBX4.out.below hb5 HBX4.out.lt)
      have HEN5 := Lib.hid (HEN4.out.keep hb5)
      have HB5 := Lib.hid (HB4.out.trans (hb5.mono HB4.out.size))
      clear hb5 HBX4 HEN4 HB4
      rw [← HDI2.out]
      cases hld : isLd hs ⟨nm, l, h⟩
      · have HZ1' : Hid (ldLs hs ps (k + 1) = ldLs hs ps k) := Lib.hid (by have := HZ1.out; rwa [hld] at this)
        have HZ2' : Hid (ldZ hs ps (k + 1) = ldZ hs ps k) := Lib.hid (by have := HZ2.out; rwa [hld] at this)
        clear hld
        go_wp2
        go_roundw
        case rel => exact ⟨k + 1, by omega, by go_num, by rw [HZ2'.out]; exact own_keep HO.out HB5.out, by rw [HZ1'.out]; exact HL.out.below HB5.out, HB.out.trans (HB5.out.mono HB.out.size)⟩
        case measure => simp [intOf]; omega
      · have HZ1' : Hid (ldLs hs ps (k + 1) = ldLs hs ps k ++ [ldS hs ⟨nm, l, h⟩]) := Lib.hid (by have := HZ1.out; rwa [hld, if_pos rfl] at this)
        have HZ2' : Hid (ldZ hs ps (k + 1) = ldZ hs ps k ++ [((k : Int), 0)]) := Lib.hid (by have := HZ2.out; rwa [hld, if_pos rfl] at this)
        clear hld
        obtain ⟨v1, w6, hr6, ho6, hb6, hg6⟩ := one_append W0.heap.size ((k : Int), 0) w5 u3 (ldZ hs ps k) (Nat.le_trans HB.out.size HB5.out.size) (by have := HLEN.out; have := HZL.out; omega) (own_keep HO.out HB5.out)
        have hul := own_lt HO.out
        have hen6 := entries_grown HEN5.out hg6 (fun x hx b hb => by have := HGE3.out x hx; have := (hul b hb).2; omega)
        have hbx6 := HBX5.out.grown hg6 (fun e => by have := (hul _ e.symm).2; have := HBX3.out; omega)
        have hL6 := (HL.out.below HB5.out).led (own_keep HO.out HB5.out) hg6
        have hb06 : Below W0.heap.size W0 w6 := (HB.out.trans (HB5.out.mono HB.out.size)).trans hb6
        have y1 := hbx6.cell 1
        simp only [List.getElem?_toArray, List.getElem?_cons_zero, List.getElem?_cons_succ] at y1
        have HEN6 := Lib.hid hen6
        have HL6 := Lib.hid hL6
        have HO6 := Lib.hid ho6
        have HB6 := Lib.hid hb06
        have HRUN6 := Lib.hid hr6
        clear hul hen6 hbx6 hL6 hb06 ho6 hb6 hg6 hr6
        go_wp2_with (at_builtin; refine wpList_append_go rfl _ _ 89 rfl _ _ v1 w6 rfl rfl HRUN6.out ?_)
        refine (eachNets_any A3 c3 nl w6 HEN6.out (by have := HFL36.out; omega)).mono ?_
        rintro e w7 ⟨rfl, hrow7, hb7⟩
        obtain ⟨v2, w8, hr8, ho8, hb8, hg8, _⟩ := append_ls W0.heap.size w6.heap.size nl.length (firsts nl) [] none w7 u4 (ldLs hs ps k) (Nat.le_trans HB6.out.size hb7.size) (by have := HLEN.out; have := HLL.out; omega) (HL6.out.below hb7) (PreR.of_row hrow7) (by rw [firsts_len]; exact Nat.le_refl _) (by simp)
        rw [firsts_len] at hr8
        have HRUN8 := Lib.hid hr8
        have HL8 : Hid (LsOwn w8 W0.heap.size v2 (ldLs hs ps (k + 1)) none) := Lib.hid (by rw [HZ1'.out, HDS2.out]; exact ho8)
        have HO8 : Hid (w8.ownsRow W0.heap.size 93 2 v1 (ldZ hs ps (k + 1)).length (ldCells (ldZ hs ps (k + 1)))) := Lib.hid (by
          rw [HZ2'.out]
          refine (own_keep HO6.out hb7).kept hg8 ?_
          obtain ⟨cs, q, _⟩ := HL6.out.below hb7
          exact own_types (own_keep HO6.out hb7) q (by decide))
        have HB8 := Lib.hid ((HB6.out.trans (hb7.mono HB6.out.size)).trans hb8)
        clear hr8 ho8 hb8 hg8 hb7 hrow7
        go_wp2_with (at_builtin; refine wpList_append_go rfl _ _ 26 rfl _ _ v2 w8 rfl rfl HRUN8.out ?_)
        go_roundw
        case rel => exact ⟨k + 1, by omega, by go_num, HO8.out, HL8.out, HB8.out⟩
        case measure => simp [intOf]; omega
    · have hkn : k = ps.length := by omega
      subst hkn
      have HM19 : Hid ((ldP hs ps).length ≤ 19) := Lib.hid (by rw [ldP_len]; have := ldIx_len hs ps ps.length; omega)
      have HRL : Hid ((ForMath.ranks (ldLs hs ps ps.length)).length = (ldP hs ps).length) := Lib.hid (by rw [ranks_len, ldLP])
      obtain ⟨AL, cL, rfl, hLR⟩ := HL.out.lists
      have HLR := Lib.hid hLR
      have HCW := Lib.hid (cls_whole hs ps)
      have HPR := Lib.hid (ldP_ranks hs ps)
      have HK0 := Lib.hid (ldK_zero hs ps)
      have HKS := Lib.hid (ldK_set hs ps)
      have HKL := Lib.hid (ldK_len hs ps)
      have HKA := Lib.hid (ldK_all hs ps)
      have HZP := Lib.hid (ldZP hs ps)
      clear hLR x0 x1
      rw [ldLP]
      have HRK := Lib.hid (fun W (h : ListsR W AL (ldLs hs ps ps.length)) => by
        have hh := ranks_any AL cL hs.length (ldLs hs ps ps.length) W h HAL.out (by rw [ldLP]; have := HM19.out; omega)
        rw [ldLP] at hh
        exact hh)
      by_cases hm : (ldP hs ps).length = 0
      · have hz : (ldZ hs ps ps.length).length = 0 := by rw [HZP.out]; exact hm
        obtain ⟨A3, c3, rfl⟩ : ∃ A3 c3, u3 = .slice A3 0 c3 := by
          rcases HO.out.2 with ⟨rfl, _⟩ | ⟨g, cap, cur, rfl, _⟩
          · exact ⟨none, 0, rfl⟩
          · exact ⟨some ⟨g, 0, none⟩, cap, by rw [hz]⟩
        have HCL : Hid (clsL (ldP hs ps).length (ldP hs ps) = []) := Lib.hid (List.eq_nil_of_length_eq_zero (by rw [HCW.out]; exact hm))
        rw [HCL.out]
        rw [hm] at HRK HRL ⊢
        clear hz
        go_wp2_with fail
        refine (HRK.out _ HLR.out).mono ?_
        rintro e w2 ⟨g, rfl, hrow, hg, hb2⟩
        have HB2 := Lib.hid (HBK.out.trans (hb2.mono HBK.out.size))
        rw [HRL.out]
        clear hrow hg hb2
        go_wp2
        go_loopw [39] (fun iv w' => iv = .int .i64 0 ∧ w2 = w') (fun _ _ => 0)
        case atStart => exact ⟨rfl, rfl⟩
        case round =>
          obtain ⟨rfl, rfl⟩ := hrel
          go_wp2_with fail
          refine (sortNil_any A3 c3 _).mono ?_
          rintro e w3 ⟨rfl, rfl⟩
          go_wp2
          go_ret
          exact ⟨A3, c3, by rw [HCL.out]; rfl, fun j hj => by rw [HCL.out] at hj; exact absurd hj (Nat.not_lt_zero _), HB2.out⟩
      · obtain ⟨gl, capl, restl, rfl, hR, hgl, hcapl⟩ := LdR.of_own HO.out (by rw [HZP.out]; omega)
        have HR := Lib.hid (hR.eq_ HK0.out.symm)
        have HGL : Hid (w.heap.size ≤ gl) := Lib.hid (Nat.le_trans HB0.out.size hgl)
        rw [HZP.out]
        clear hR hgl hcapl
        go_wp2_with fail
        refine (HRK.out _ HLR.out).mono ?_
        rintro e w2 ⟨g, rfl, hrow, hg, hb2⟩
        have HB2 := Lib.hid (HBK.out.trans (hb2.mono HBK.out.size))
        have HR2 := Lib.hid (HR.out.below hb2 HR.out.lt)
        have HROW2 := Lib.hid hrow
        have HNE : Hid (gl ≠ g) := Lib.hid (by have := HR.out.lt; omega)
        rw [HRL.out]
        clear hrow hg hb2
        go_wp2
        go_loopw [39] (fun iv w' => ∃ k : Nat, k ≤ (ldP hs ps).length ∧ iv = .int .i64 k ∧ LdR w' gl (ldK hs ps k) restl ∧ RowI w' g (ForMath.ranks (ldLs hs ps ps.length)) ∧ Below w.heap.size w w') (fun iv _ => (ldP hs ps).length - (intOf iv).toNat)
        case atStart => exact ⟨0, Nat.zero_le _, rfl, HR2.out, HROW2.out, HB2.out⟩
        case round =>
          obtain ⟨k, hk, rfl, hr, hrow, hb⟩ := hrel
          have HR3 := Lib.hid hr
          have HROW3 := Lib.hid hrow
          have HB3 := Lib.hid hb
          clear hr hrow hb
          by_cases hlt : k < (ldP hs ps).length
          · have hk0 : (0 : Int) ≤ (k : Int) := Int.natCast_nonneg _
            have hk1 : (k : Int) < (((ldP hs ps).length : Nat) : Int) := by omega
            have hk19 : (k : Int) < 19 := by have := HM19.out; omega
            have c0 := HROW3.out.cell (j := k) (by rw [HRL.out]; exact hlt)
            obtain ⟨e1, e2⟩ := HR3.out.cells (j := k) (by rw [HKL.out]; exact hlt)
            have f1 := HR3.out.frozen (k * 2 + 1)
            have HSE := Lib.hid (HKS.out k hlt)
            have HRS := Lib.hid (fun m => HR3.out.rank (k := k) (by rw [HKL.out]; exact hlt) m)
            have HRW := Lib.hid (fun m => HROW3.out.far (p := ⟨gl, k * 2 + 1, none⟩) (fun e => HNE.out e.symm) (.int .i64 m))
            have HBS := Lib.hid (fun m => HB3.out.setCell (p := ⟨gl, k * 2 + 1, none⟩) HGL.out (.int .i64 m))
            generalize (ForMath.ranks (ldLs hs ps ps.length)).getD k 0 = q at c0 HSE
            generalize ((ldK hs ps k).getD k (0, 0)).1 = q1 at e1 HSE HRS
            generalize ((ldK hs ps k).getD k (0, 0)).2 = q2 at e2
            go_wp2
            go_roundw
            case rel => exact ⟨k + 1, by omega, by go_num, (HRS.out q).eq_ HSE.out, HRW.out q, HBS.out q⟩
            case measure => simp [intOf]; omega
          · have HR4 := Lib.hid (HR3.out.eq_ (HKA.out k (by omega)))
            have hkn : ¬ (k : Int) < (((ldP hs ps).length : Nat) : Int) := by omega
            go_wp2_with fail
            refine (sortLed_any gl capl w.heap.size (ldP hs ps) restl _ HR4.out (by omega) HM19.out HPR.out HGL.out).mono ?_
            rintro e w3 ⟨rfl, hsr, hb4⟩
            have HSR := Lib.hid hsr
            have HB4 := Lib.hid (HB3.out.trans hb4)
            clear hsr hb4
            go_wp2
            go_ret
            exact ⟨some ⟨gl, 0, none⟩, capl, by rw [HCW.out]; rfl, HSR.out.ldAt, HB4.out⟩
end Go.Proofs.YtfpehblofokheaaGreatDoor
