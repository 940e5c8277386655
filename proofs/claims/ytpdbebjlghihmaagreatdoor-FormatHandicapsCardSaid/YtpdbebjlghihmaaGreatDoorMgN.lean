/- Merged: HanM HanA HanB HanC HanD HanE HanF HanG HanH HanI HanJ HanK HanL HanN HanO HanQ HanR HanS. -/
import Derived.Test.YtpdbebjlghihmaaGreatDoorNumA
import Derived.Laws.Concat
import Derived.Outline
import Derived.BigQuiet
import Derived.Deep.QuietTactic
import Derived.IntWalk
import Derived.OwnWalk
import Derived.Laws.MakeOwn
/- Numerals: what is printed is read again: plain mathematics. -/
set_option linter.unusedVariables false
set_option linter.unusedSimpArgs false
namespace Go.Proofs.YtpdbebjlghihmaaGreatDoor
open Go.RowKit

def decOr (a : Nat) : List UInt8 := if a = 0 then [] else Lib.decDigits a
theorem dec_step (a : Nat) : Lib.decDigits a = decOr (a / 10) ++ [UInt8.ofNat (48 + a % 10)] := by
  unfold decOr
  by_cases h : a < 10
  · rw [Lib.decDigits, dif_pos h, if_pos (by omega), show a % 10 = a by omega]
    rfl
  · rw [if_neg (by omega)]
    conv => lhs; rw [Lib.decDigits, dif_neg h]
theorem decOr_step {a : Nat} (h : 0 < a) : decOr a = decOr (a / 10) ++ [UInt8.ofNat (48 + a % 10)] := by
  rw [← dec_step]
  unfold decOr
  rw [if_neg (by omega)]
/-- The number that digits are. -/
def valD (l : List UInt8) : Nat := l.foldl (fun n c => 10 * n + (c.toNat - 48)) 0
theorem valD_snoc (l : List UInt8) (c : UInt8) : valD (l ++ [c]) = 10 * valD l + (c.toNat - 48) := by
  unfold valD
  rw [List.foldl_append]
  rfl
theorem dig_nat {r : Nat} (h : r < 10) : (UInt8.ofNat (48 + r)).toNat = 48 + r := by
  simp [UInt8.toNat_ofNat']
  omega
theorem valD_or : ∀ n : Nat, valD (decOr n) = n := fun n => by
  induction n using Nat.strongRecOn with
  | _ n ih =>
    by_cases h : n = 0
    · subst h; rfl
    · rw [decOr_step (by omega), valD_snoc, ih (n / 10) (by omega), dig_nat (by omega)]
      omega
theorem valD_dec (n : Nat) : valD (Lib.decDigits n) = n := by
  rw [dec_step, valD_snoc, valD_or, dig_nat (by omega)]
  omega
theorem decOr_digit : ∀ (n : Nat), ∀ c ∈ decOr n, 48 ≤ c.toNat ∧ c.toNat ≤ 57 := fun n => by
  induction n using Nat.strongRecOn with
  | _ n ih =>
    intro c hc
    by_cases h : n = 0
    · subst h; simp [decOr] at hc
    · rw [decOr_step (by omega), List.mem_append, List.mem_singleton] at hc
      rcases hc with hc | rfl
      · exact ih (n / 10) (by omega) c hc
      · rw [dig_nat (by omega)]; omega
theorem dec_digit (n : Nat) : ∀ c ∈ Lib.decDigits n, 48 ≤ c.toNat ∧ c.toNat ≤ 57 := fun c hc => by
  rw [dec_step, List.mem_append, List.mem_singleton] at hc
  rcases hc with hc | rfl
  · exact decOr_digit _ c hc
  · rw [dig_nat (by omega)]; omega
theorem decOr_len : ∀ (k n : Nat), n < 10 ^ k → (decOr n).length ≤ k
  | 0, n, h => by
    have : n = 0 := by simpa using h
    subst this; simp [decOr]
  | k + 1, n, h => by
    by_cases h0 : n = 0
    · subst h0; simp [decOr]
    · rw [decOr_step (by omega), List.length_append]
      have := decOr_len k (n / 10) (by rw [Nat.pow_succ] at h; omega)
      simp
      omega
theorem dec_len {k n : Nat} (h : n < 10 ^ (k + 1)) : 1 ≤ (Lib.decDigits n).length ∧ (Lib.decDigits n).length ≤ k + 1 := by
  rw [dec_step, List.length_append]
  have := decOr_len k (n / 10) (by rw [Nat.pow_succ] at h; omega)
  simp
  omega
theorem numB_len {n : Nat} (h : n < 1000000000) : 1 ≤ (numB n).size ∧ (numB n).size ≤ 9 := by
  have := dec_len (k := 8) (n := n) (by omega)
  unfold numB
  simpa [ByteArray.size] using this
end Go.Proofs.YtpdbebjlghihmaaGreatDoor

/- The reference's digits of a machine integer. -/
namespace Go.Proofs.YtpdbebjlghihmaaGreatDoor
open Go.RowKit

def bytesL (l : List UInt8) : ByteArray := ⟨l.toArray⟩
theorem bytesL_cons (x : UInt8) (l : List UInt8) : (⟨#[x]⟩ : ByteArray) ++ bytesL l = bytesL (x :: l) := by
  unfold bytesL
  apply ByteArray.ext
  simp [ByteArray.data_append]
theorem bytesL_size (l : List UInt8) : (bytesL l).size = l.length := by simp [bytesL, ByteArray.size]

theorem size_one (X Y : ByteArray) (h : X.size = 1) : ¬ (X ++ Y).size = 0 := by rw [ByteArray.size_append, h]; omega

set_option maxRecDepth 100000 in
set_option maxHeartbeats 4000000 in
theorem decimal_any (n : Nat) (w : World) (hn : n < 1000000000) :
    Calls Tryz.prog 144 #[.int .i64 (n : Int), .int .i64 1] w fun e w' => e = .returned (.string (numB n)) ∧ w = w' := by
  have HL := Lib.hid (decOr_len 9 n (by omega))
  have HD : Hid (numB n = bytesL (Lib.decDigits n)) := Lib.hid rfl
  rw [HD.out]
  have HN : Hid (n < 1000000000) := Lib.hid hn
  go_enter Tryz.func144, Tryz.ntmps144
  go_wp2
  go_loop [0, 5] (fun av sv => ∃ (a : Nat) (l : List UInt8), av = .int .i64 (a : Int) ∧ sv = .string (bytesL l) ∧ a ≤ n ∧ ((l = [] ∧ a = n) ∨ (0 < l.length ∧ decOr a ++ l = Lib.decDigits n))) (fun av sv => match sv with | .string b => if b.size = 0 then n + 1 else (intOf av).toNat | _ => 0)
  case atStart => exact ⟨n, [], rfl, rfl, Nat.le_refl _, .inl ⟨rfl, rfl⟩⟩
  case round =>
    obtain ⟨a, l, rfl, rfl, ha, hor⟩ := hrel
    have HOR := Lib.hid hor
    have ha0 : (0 : Int) ≤ (a : Int) := Int.natCast_nonneg _
    have HA : Hid (a ≤ n) := Lib.hid ha
    have HLL : Hid (l.length ≤ 10) := Lib.hid (by
      rcases hor with ⟨h, _⟩ | ⟨_, h⟩
      · rw [h]; simp
      · have h2 := congrArg List.length h
        rw [List.length_append] at h2
        have := (dec_len (k := 8) (n := n) (by omega)).2
        omega)
    clear hor
    have HSZ := Lib.hid (bytesL_size l)
    have HS10 : Hid ((bytesL l).size ≤ 10) := Lib.hid (by rw [bytesL_size]; exact HLL.out)
    by_cases hp : 0 < a
    · have hpi : (0 : Int) < (a : Int) := by omega
      have hsl : (bytesL l).size ≤ 10 := HS10.out
      have hx : a % 10 = 0 ∨ a % 10 = 1 ∨ a % 10 = 2 ∨ a % 10 = 3 ∨ a % 10 = 4 ∨ a % 10 = 5 ∨ a % 10 = 6 ∨ a % 10 = 7 ∨ a % 10 = 8 ∨ a % 10 = 9 := by omega
      have HNX : Hid (0 < (UInt8.ofNat (48 + a % 10) :: l).length ∧ decOr (a / 10) ++ (UInt8.ofNat (48 + a % 10) :: l) = Lib.decDigits n) := Lib.hid (by
        refine ⟨by simp, ?_⟩
        rw [show decOr (a / 10) ++ (UInt8.ofNat (48 + a % 10) :: l) = (decOr (a / 10) ++ [UInt8.ofNat (48 + a % 10)]) ++ l by simp]
        rcases HOR.out with ⟨rfl, rfl⟩ | ⟨_, h⟩
        · rw [← dec_step, List.append_nil]
        · rw [← decOr_step hp]; exact h)
      obtain ⟨b, hb⟩ : ∃ b, a / 10 = b := ⟨_, rfl⟩
      have HDIV : Hid (b < a) := Lib.hid (by omega)
      have hq : (a : Int) / 10 = (b : Int) := by omega
      rw [hb] at HNX
      have hb0 : (0 : Int) ≤ (b : Int) := Int.natCast_nonneg _
      rcases hx with hx | hx | hx | hx | hx | hx | hx | hx | hx | hx
      all_goals
        rw [hx] at HNX
        first
          | have hm : (a : Int) % 10 = 0 := by omega
          | have hm : (a : Int) % 10 = 1 := by omega
          | have hm : (a : Int) % 10 = 2 := by omega
          | have hm : (a : Int) % 10 = 3 := by omega
          | have hm : (a : Int) % 10 = 4 := by omega
          | have hm : (a : Int) % 10 = 5 := by omega
          | have hm : (a : Int) % 10 = 6 := by omega
          | have hm : (a : Int) % 10 = 7 := by omega
          | have hm : (a : Int) % 10 = 8 := by omega
          | have hm : (a : Int) % 10 = 9 := by omega
        clear hx hb
        go_wp2
        go_round
        case rel => exact ⟨b, _, by first | rfl | rw [hq], by rw [← bytesL_cons]; rfl, by have := HA.out; have := HDIV.out; omega, .inr HNX.out⟩
        case measure =>
          have h1 := HDIV.out
          have h2 := HA.out
          show (if ((_ : ByteArray) ++ bytesL l).size = 0 then n + 1 else (intOf (.int .i64 (b : Int))).toNat) < (if (bytesL l).size = 0 then n + 1 else (intOf (.int .i64 (a : Int))).toNat)
          rw [if_neg (size_one _ _ (by kernel_rfl))]
          split
          · simp [intOf]; omega
          · simp [intOf]; omega
    · have hz : a = 0 := by omega
      subst hz
      by_cases hl : l = []
      · subst hl
        have hn0 : n = 0 := by
          rcases HOR.out with ⟨_, h⟩ | ⟨h, _⟩
          · exact h.symm
          · simp at h
        have HN0 := Lib.hid hn0
        have HDD : Hid (decOr 0 ++ [(48 : UInt8)] = Lib.decDigits n) := Lib.hid (by rw [hn0, Lib.decDigits_one (by omega)]; rfl)
        have hs0 : (bytesL []).size = 0 := rfl
        clear hn0
        go_wp2
        go_round
        case rel => exact ⟨0, [48], rfl, by kernel_rfl, Nat.zero_le _, .inr ⟨by simp, HDD.out⟩⟩
        case measure =>
          have := HN0.out
          simp [intOf, bytesL, ByteArray.size]
      · have hlen : 0 < l.length := List.length_pos_iff.2 hl
        have hs1 : (1 : Int) ≤ ((bytesL l).size : Int) := by rw [bytesL_size]; omega
        have HRES : Hid (l = Lib.decDigits n) := Lib.hid (by
          rcases HOR.out with ⟨h, _⟩ | ⟨_, h⟩
          · exact absurd h hl
          · simpa [decOr] using h)
        clear hl hlen
        go_wp2
        go_ret
        exact ⟨by rw [← HRES.out]; rfl, rfl⟩
end Go.Proofs.YtpdbebjlghihmaaGreatDoor

/- The reference's greatest common divisor of machine integers. -/
namespace Go.Proofs.YtpdbebjlghihmaaGreatDoor
open Go.RowKit

theorem gcd_step (x y : Int) (hx : 0 ≤ x) (hy : 0 < y) : Nat.gcd y.toNat (x.tmod y).toNat = Nat.gcd x.toNat y.toNat ∧ 0 ≤ x.tmod y ∧ x.tmod y < y := by
  obtain ⟨a, rfl⟩ := Int.eq_ofNat_of_zero_le hx
  obtain ⟨b, rfl⟩ := Int.eq_ofNat_of_zero_le (Int.le_of_lt hy)
  have hb : 0 < b := by omega
  rw [← Int.ofNat_tmod]
  refine ⟨?_, by omega, ?_⟩
  · simp only [Int.toNat_natCast]
    rw [Nat.gcd_comm b, ← Nat.gcd_rec, Nat.gcd_comm]
  · have := Nat.mod_lt a hb
    omega

set_option maxRecDepth 100000 in
set_option maxHeartbeats 4000000 in
theorem gcd_any (a b : Int) (w : World) (ha0 : 0 ≤ a) (ha : a < 4000000000000000001) (hb0 : 0 ≤ b) (hb : b < 4000000000000000001) :
    Calls Tryz.prog 143 #[.int .i64 a, .int .i64 b] w fun e w' => e = .returned (.int .i64 ((Nat.gcd a.toNat b.toNat : Nat) : Int)) ∧ ∃ m, w' = w.drewN m := by
  have HA0 := Lib.hid ha0
  have HB0 := Lib.hid hb0
  have HA := Lib.hid ha
  have HB := Lib.hid hb
  obtain ⟨g, hg0⟩ : ∃ g, Nat.gcd a.toNat b.toNat = g := ⟨_, rfl⟩
  have HG0 := Lib.hid hg0
  rw [hg0]
  clear ha0 hb0 ha hb hg0
  go_enter Tryz.func143, Tryz.ntmps143
  go_wp2
  go_loopw [0, 1] (fun av bv w' => ∃ (x y : Int) (n : Nat), av = .int .i64 x ∧ bv = .int .i64 y ∧ w' = w.drewN n ∧ (0 ≤ x ∧ x < 4000000000000000001) ∧ (0 ≤ y ∧ y < 4000000000000000001) ∧ Nat.gcd x.toNat y.toNat = g) (fun _ bv _ => (intOf bv).toNat)
  case atStart => exact ⟨a, b, 0, rfl, rfl, rfl, ⟨HA0.out, HA.out⟩, ⟨HB0.out, HB.out⟩, HG0.out⟩
  case round =>
    obtain ⟨x, y, n, rfl, rfl, rfl, ⟨hx0, hx⟩, ⟨hy0, hy⟩, hg⟩ := hrel
    have HG := Lib.hid hg
    clear hg
    by_cases hp : 0 < y
    · have hyb : (y == 0) = false := by simp; omega
      obtain ⟨hs1, hs2, hs3⟩ := gcd_step x y hx0 hp
      have HS := Lib.hid hs1
      have HS3 := Lib.hid hs3
      have HY := Lib.hid (And.intro hy0 hy)
      clear hs1
      generalize hr : x.tmod y = r at HS HS3 hs2 hs3
      have hr1 : r < 4000000000000000001 := by omega
      go_wp2
      go_quiet (fail)
      go_wp2
      go_roundw
      case rel => exact ⟨y, r, _, rfl, by first | rfl | rw [hr], World.drewN_drewN _ _ _, HY.out, ⟨hs2, hr1⟩, HS.out.trans HG.out⟩
      case measure => have := HS3.out; simp [intOf]; omega
    · have hz : y = 0 := by omega
      subst hz
      have HRES : Hid (x = ((g : Nat) : Int)) := Lib.hid (by rw [← HG.out]; simp; omega)
      go_wp2
      go_ret
      exact ⟨by rw [HRES.out]; rfl, _, rfl⟩
end Go.Proofs.YtpdbebjlghihmaaGreatDoor

/- The reference's Of for small numbers. -/
namespace Go.Proofs.YtpdbebjlghihmaaGreatDoor
open Go.RowKit

/-- The text of the rational number p/q in lowest terms. -/
def ratB (p : Int) (q : Nat) : ByteArray :=
  if p < 0 then (if 1 < q then ((⟨#[45]⟩ ++ numB p.natAbs) ++ ⟨#[47]⟩) ++ numB q else ⟨#[45]⟩ ++ numB p.natAbs)
  else (if 1 < q then (numB p.natAbs ++ ⟨#[47]⟩) ++ numB q else numB p.natAbs)
def ofB (n d : Int) : ByteArray := ratB (n.tdiv (Nat.gcd n.natAbs d.toNat)) (d.tdiv (Nat.gcd n.natAbs d.toNat)).toNat

theorem tdiv_small (n g : Int) (hg : 0 < g) (h1 : -1000000000 < n) (h2 : n < 1000000000) : -1000000000 < n.tdiv g ∧ n.tdiv g < 1000000000 := by
  have e := Int.natAbs_tdiv_le_natAbs n g
  omega

theorem of_facts (n d : Int) (hd : 0 < d) : 0 < Nat.gcd n.natAbs d.toNat ∧ (Nat.gcd n.natAbs d.toNat : Int) ≤ d ∧ 0 < d.tdiv (Nat.gcd n.natAbs d.toNat) ∧ (n < 0 → n.tdiv (Nat.gcd n.natAbs d.toNat) < 0) ∧ (0 ≤ n → 0 ≤ n.tdiv (Nat.gcd n.natAbs d.toNat)) := by
  have hg : 0 < Nat.gcd n.natAbs d.toNat := Nat.gcd_pos_of_pos_right _ (by omega)
  have hgd : Nat.gcd n.natAbs d.toNat ≤ d.toNat := Nat.gcd_le_right _ (by omega)
  have hdv : Nat.gcd n.natAbs d.toNat ∣ d.toNat := Nat.gcd_dvd_right _ _
  have hnv : Nat.gcd n.natAbs d.toNat ∣ n.natAbs := Nat.gcd_dvd_left _ _
  generalize Nat.gcd n.natAbs d.toNat = g at hg hgd hdv hnv ⊢
  obtain ⟨k, hk⟩ := hdv
  obtain ⟨m, hm⟩ := hnv
  have hgi : (0 : Int) < (g : Int) := by omega
  have hk0 : 0 < k := by rcases Nat.eq_zero_or_pos k with h | h; · subst h; simp at hk; omega
                         · exact h
  have hd2 : d = (g : Int) * (k : Int) := by have : d = (d.toNat : Int) := by omega
                                             rw [this, hk]; push_cast; rfl
  refine ⟨hg, by omega, ?_, ?_, ?_⟩
  · rw [hd2, Int.mul_tdiv_cancel_left _ (by omega)]; omega
  · intro hn
    have hm0 : 0 < m := by rcases Nat.eq_zero_or_pos m with h | h; · subst h; simp at hm; omega
                           · exact h
    have : n = (g : Int) * (-(m : Int)) := by have : n = -(n.natAbs : Int) := by omega
                                              rw [this, hm]; push_cast; rw [Int.mul_neg]
    rw [this, Int.mul_tdiv_cancel_left _ (by omega)]; omega
  · intro hn
    exact Int.tdiv_nonneg hn (by omega)

set_option maxRecDepth 100000 in
set_option maxHeartbeats 4000000 in
theorem of_any (n d : Int) (w : World) (h1 : -1000000000 < n) (h2 : n < 1000000000) (hd0 : 0 < d) (hd : d < 1000000000) :
    Calls Tryz.prog 92 #[.int .i64 n, .int .i64 d] w fun e w' => e = .returned (.string (ofB n d)) ∧ ∃ m, w' = w.drewN m := by
  obtain ⟨hg0, hgd, hq0, hn1, hn2⟩ := of_facts n d hd0
  obtain ⟨hp1, hp2⟩ := tdiv_small n (Nat.gcd n.natAbs d.toNat) (by omega) h1 h2
  obtain ⟨_, hq2⟩ := tdiv_small d (Nat.gcd n.natAbs d.toNat) (by omega) (by omega) hd
  have HV : Hid (ofB n d = ratB (n.tdiv (Nat.gcd n.natAbs d.toNat)) (d.tdiv (Nat.gcd n.natAbs d.toNat)).toNat) := Lib.hid rfl
  have HG := Lib.hid (fun (a : Int) (ha : 0 ≤ a) (haa : a < 1000000000) (hna : a.toNat = n.natAbs) (W : World) => by
    have h := gcd_any a d W ha (by omega) (by omega) (by omega)
    rw [hna] at h
    exact h)
  have HDEC := Lib.hid (fun (k : Int) (hk0 : 0 ≤ k) (hk : k < 1000000000) (W : World) => by
    have h := decimal_any k.toNat W (by omega)
    rw [show ((k.toNat : Nat) : Int) = k by omega] at h
    exact h)
  rw [HV.out]
  clear HV
  obtain ⟨G, hGI⟩ : ∃ G : Int, ((Nat.gcd n.natAbs d.toNat : Nat) : Int) = G := ⟨_, rfl⟩
  have hg1 : 0 < G := by omega
  rw [hGI] at hgd hq0 hn1 hn2 hp1 hp2 hq2 HG ⊢
  clear hGI hg0
  obtain ⟨p, hpp⟩ : ∃ p : Int, n.tdiv G = p := ⟨_, rfl⟩
  obtain ⟨q, hqq⟩ : ∃ q : Int, d.tdiv G = q := ⟨_, rfl⟩
  rw [hpp] at hn1 hn2 hp1 hp2 ⊢
  rw [hqq] at hq0 hq2 ⊢
  have hgb : (G == 0) = false := by simp; omega
  have HP : Hid (ratB p q.toNat = if p < 0 then (if 1 < q then ((⟨#[45]⟩ ++ numB (-p).toNat) ++ ⟨#[47]⟩) ++ numB q.toNat else ⟨#[45]⟩ ++ numB (-p).toNat)
      else (if 1 < q then (numB p.toNat ++ ⟨#[47]⟩) ++ numB q.toNat else numB p.toNat)) := Lib.hid (by
    unfold ratB
    by_cases hp : p < 0
    · rw [if_pos hp, if_pos hp, show p.natAbs = (-p).toNat by omega]
      by_cases hq : 1 < q
      · rw [if_pos hq, if_pos (by omega)]
      · rw [if_neg hq, if_neg (by omega)]
    · rw [if_neg hp, if_neg hp, show p.natAbs = p.toNat by omega]
      by_cases hq : 1 < q
      · rw [if_pos hq, if_pos (by omega)]
      · rw [if_neg hq, if_neg (by omega)])
  rw [HP.out]
  clear HP
  have HNP : Hid (0 ≤ n → 0 ≤ p) := Lib.hid hn2
  have HNN : Hid (n < 0 → p < 0) := Lib.hid hn1
  clear hn1 hn2
  have HL1 := Lib.hid (fun k (hk : k < 1000000000) => numB_len (n := k) hk)
  by_cases hn : n < 0
  · have hp : p < 0 := HNN.out hn
    have kG := HG.out (-n) (by omega) (by omega) (by omega)
    have kP := HDEC.out (-p) (by omega) (by omega)
    have kQ := HDEC.out q (by omega) (by omega)
    have l1 := HL1.out (-p).toNat (by omega)
    have l2 := HL1.out q.toNat (by omega)
    generalize numB (-p).toNat = P at kP l1 ⊢
    generalize numB q.toNat = Q at kQ l2 ⊢
    rw [if_pos hp]
    have hmx : max n (-n) = -n := by omega
    have hmp : max p (-p) = -p := by omega
    by_cases hq : 1 < q
    · rw [if_pos hq]
      go_enter Tryz.func92, Tryz.ntmps92
      go_wp2_with fail
      refine (kG _).mono ?_; rintro e w1 ⟨rfl, m, rfl⟩
      go_wp2
      go_quiet (fail)
      go_wp2_with fail
      refine (kP _).mono ?_; rintro e w2 ⟨rfl, rfl⟩
      go_wp2_with fail
      refine (kQ _).mono ?_; rintro e w3 ⟨rfl, rfl⟩
      go_wp2
      go_ret
      exact ⟨rfl, _, rfl⟩
    · rw [if_neg hq]
      go_enter Tryz.func92, Tryz.ntmps92
      go_wp2_with fail
      refine (kG _).mono ?_; rintro e w1 ⟨rfl, m, rfl⟩
      go_wp2
      go_quiet (fail)
      go_wp2_with fail
      refine (kP _).mono ?_; rintro e w2 ⟨rfl, rfl⟩
      go_wp2
      go_ret
      exact ⟨rfl, _, rfl⟩
  · have hp : 0 ≤ p := HNP.out (by omega)
    have kG := HG.out n (by omega) (by omega) (by omega)
    have kP := HDEC.out p (by omega) (by omega)
    have kQ := HDEC.out q (by omega) (by omega)
    have l1 := HL1.out p.toNat (by omega)
    have l2 := HL1.out q.toNat (by omega)
    generalize numB p.toNat = P at kP l1 ⊢
    generalize numB q.toNat = Q at kQ l2 ⊢
    rw [if_neg (by omega)]
    have hmx : max n (-n) = n := by omega
    have hmp : max p (-p) = p := by omega
    by_cases hq : 1 < q
    · rw [if_pos hq]
      go_enter Tryz.func92, Tryz.ntmps92
      go_wp2_with fail
      refine (kG _).mono ?_; rintro e w1 ⟨rfl, m, rfl⟩
      go_wp2
      go_quiet (fail)
      go_wp2_with fail
      refine (kP _).mono ?_; rintro e w2 ⟨rfl, rfl⟩
      go_wp2_with fail
      refine (kQ _).mono ?_; rintro e w3 ⟨rfl, rfl⟩
      go_wp2
      go_ret
      exact ⟨rfl, _, rfl⟩
    · rw [if_neg hq]
      go_enter Tryz.func92, Tryz.ntmps92
      go_wp2_with fail
      refine (kG _).mono ?_; rintro e w1 ⟨rfl, m, rfl⟩
      go_wp2
      go_quiet (fail)
      go_wp2_with fail
      refine (kP _).mono ?_; rintro e w2 ⟨rfl, rfl⟩
      go_wp2
      go_ret
      exact ⟨rfl, _, rfl⟩
end Go.Proofs.YtpdbebjlghihmaaGreatDoor

/- The reference's readings of a text: value, slash. -/
namespace Go.Proofs.YtpdbebjlghihmaaGreatDoor
open Go.RowKit

theorem bytesL_get (l : List UInt8) (k : Nat) (h : k < (bytesL l).size) (h2 : k < l.length) : (bytesL l)[k]'h = l[k] := by
  simp [bytesL, ByteArray.getElem_eq_getElem_data]
theorem valD_take (l : List UInt8) (k : Nat) (h : k < l.length) : valD (l.take (k + 1)) = 10 * valD (l.take k) + (l[k].toNat - 48) := by
  rw [List.take_succ_eq_append_getElem h, valD_snoc]
theorem valD_bound (l : List UInt8) (hd : ∀ c ∈ l, 48 ≤ c.toNat ∧ c.toNat ≤ 57) : ∀ k, k ≤ l.length → valD (l.take k) < 10 ^ k
  | 0, _ => by simp [valD]
  | k + 1, h => by
    have h1 := valD_bound l hd k (by omega)
    have h2 := hd l[k] (List.getElem_mem _)
    rw [valD_take l k (by omega), Nat.pow_succ]
    omega
theorem pow10_le {k : Nat} (h : k ≤ 9) : 10 ^ k ≤ 1000000000 := Nat.pow_le_pow_right (n := 10) (by omega) h

set_option maxRecDepth 100000 in
set_option maxHeartbeats 4000000 in
theorem value_any (l : List UInt8) (w : World) (hl : l.length ≤ 9) (hd : ∀ c ∈ l, 48 ≤ c.toNat ∧ c.toNat ≤ 57) :
    Calls Tryz.prog 167 #[.string (bytesL l)] w fun e w' => e = .returned (.int .i64 ((valD l : Nat) : Int)) ∧ w = w' := by
  have HGET := Lib.hid (bytesL_get l)
  have HD := Lib.hid hd
  have HT := Lib.hid (valD_take l)
  have HB := Lib.hid (fun k hk => Nat.lt_of_lt_of_le (valD_bound l hd k hk) (pow10_le (Nat.le_trans hk hl)))
  have hsz := bytesL_size l
  have HAll : Hid (l.take l.length = l) := Lib.hid (List.take_length)
  clear hd
  generalize bytesL l = S at HGET hsz ⊢
  have hs9 : S.size ≤ 9 := by omega
  go_enter Tryz.func167, Tryz.ntmps167
  go_wp2
  go_loop [3, 4] (fun nv iv => ∃ k : Nat, k ≤ l.length ∧ iv = .int .i64 (k : Int) ∧ nv = .int .i64 ((valD (l.take k) : Nat) : Int)) (fun _ iv => l.length - (intOf iv).toNat)
  case atStart => exact ⟨0, Nat.zero_le _, rfl, by simp [valD]⟩
  case round =>
    obtain ⟨k, hk, rfl, rfl⟩ := hrel
    have hb := HB.out k hk
    have hk0 : (0 : Int) ≤ (k : Int) := Int.natCast_nonneg _
    by_cases hlt : k < l.length
    · have hks : (k : Int) < (S.size : Int) := by omega
      have hks2 : k < S.size := by omega
      have hget := fun h => HGET.out k h hlt
      have hdc := HD.out l[k] (List.getElem_mem _)
      have HN := Lib.hid (HT.out k hlt)
      generalize l[k] = c at hget hdc HN
      generalize hv2 : valD (l.take (k + 1)) = v2 at HN
      have HV2 := Lib.hid hv2
      clear hv2
      generalize valD (l.take k) = v at hb HN ⊢
      obtain ⟨x, hx⟩ : ∃ x : Int, (c.toNat : Int) = x := ⟨_, rfl⟩
      have HX : Hid ((v2 : Int) = 10 * (v : Int) + x - 48) := Lib.hid (by have := HN.out; omega)
      have hx1 : 48 ≤ x := by omega
      have hx2 : x ≤ 57 := by omega
      have hv0 : (0 : Int) ≤ (v : Int) := Int.natCast_nonneg _
      have hv1 : (v : Int) < 1000000000 := by omega
      clear hdc hb HN
      go_wp2
      go_round
      case rel => exact ⟨k + 1, by omega, by go_num, by rw [HV2.out]; have := HX.out; go_num⟩
      case measure => simp [intOf]; omega
    · have hkl : k = l.length := by omega
      have hks : ¬ (k : Int) < (S.size : Int) := by omega
      have HR : Hid (valD (l.take k) = valD l) := Lib.hid (by rw [hkl, HAll.out])
      generalize valD (l.take k) = v at HR hb ⊢
      clear hkl
      go_wp2
      go_ret
      exact ⟨by rw [← HR.out]; rfl, rfl⟩

/-- Where the slash is in a text without one, or with one behind k others. -/
def slashAt : List UInt8 → Nat
  | [] => 0
  | c :: l => if c = 47 then 0 else slashAt l + 1
theorem slashAt_le : ∀ l, slashAt l ≤ l.length
  | [] => Nat.le_refl _
  | c :: l => by unfold slashAt; split; · exact Nat.zero_le _
                 · have := slashAt_le l; simp; omega
theorem slashAt_app (l r : List UInt8) (h : ∀ c ∈ l, c ≠ 47) : slashAt (l ++ 47 :: r) = l.length := by
  induction l with
  | nil => rfl
  | cons c l ih =>
    have := ih (fun x hx => h x (List.mem_cons_of_mem _ hx))
    simp only [List.cons_append, slashAt, if_neg (h c (List.mem_cons_self ..)), this, List.length_cons]
theorem slashAt_none (l : List UInt8) (h : ∀ c ∈ l, c ≠ 47) : slashAt l = l.length := by
  induction l with
  | nil => rfl
  | cons c l ih =>
    have := ih (fun x hx => h x (List.mem_cons_of_mem _ hx))
    simp only [slashAt, if_neg (h c (List.mem_cons_self ..)), this, List.length_cons]
theorem slashAt_step : ∀ (l : List UInt8) (k : Nat) (h : k < l.length), k ≤ slashAt l → (l[k] = 47 → slashAt l = k) ∧ (l[k] ≠ 47 → k + 1 ≤ slashAt l)
  | c :: l, 0, _, _ => by
    constructor
    · intro e; simp only [List.getElem_cons_zero] at e; simp [slashAt, e]
    · intro e; simp only [List.getElem_cons_zero] at e; simp [slashAt, e]
  | c :: l, k + 1, h, hk => by
    have hc : c ≠ 47 := fun e => by simp [slashAt, e] at hk
    simp only [slashAt, if_neg hc] at hk ⊢
    have := slashAt_step l k (by simpa using h) (by omega)
    simp only [List.getElem_cons_succ]
    exact ⟨fun e => by rw [this.1 e], fun e => by have := this.2 e; omega⟩

set_option maxRecDepth 100000 in
set_option maxHeartbeats 4000000 in
theorem slash_any (l : List UInt8) (w : World) (hl : l.length ≤ 1000000) :
    Calls Tryz.prog 166 #[.string (bytesL l)] w fun e w' => e = .returned (.int .i64 ((slashAt l : Nat) : Int)) ∧ w = w' := by
  have HGET := Lib.hid (bytesL_get l)
  have HT := Lib.hid (slashAt_step l)
  have HLE := Lib.hid (slashAt_le l)
  have hsz := bytesL_size l
  generalize bytesL l = S at HGET hsz ⊢
  have hs9 : S.size ≤ 1000000 := by omega
  go_enter Tryz.func166, Tryz.ntmps166
  go_wp2
  go_loop [3] (fun iv => ∃ k : Nat, k ≤ l.length ∧ k ≤ slashAt l ∧ iv = .int .i64 (k : Int)) (fun iv => l.length - (intOf iv).toNat)
  case atStart => exact ⟨0, Nat.zero_le _, Nat.zero_le _, rfl⟩
  case round =>
    obtain ⟨k, hk, hks, rfl⟩ := hrel
    have HK := Lib.hid hks
    clear hks
    have hk0 : (0 : Int) ≤ (k : Int) := Int.natCast_nonneg _
    by_cases hlt : k < l.length
    · have hks : (k : Int) < (S.size : Int) := by omega
      have hks2 : k < S.size := by omega
      have hget := fun h => HGET.out k h hlt
      have HN := Lib.hid (HT.out k hlt HK.out)
      generalize l[k] = c at hget HN
      by_cases hc : c = 47
      · have HR := Lib.hid (HN.out.1 hc)
        subst hc
        go_wp2
        go_ret
        exact ⟨by rw [HR.out]; rfl, rfl⟩
      · have HR := Lib.hid (HN.out.2 hc)
        have hcb : ((c.toNat : Int) == 47) = false := by
          rw [beq_eq_false_iff_ne]
          intro e
          exact hc (UInt8.toNat_inj.1 (show c.toNat = (47 : UInt8).toNat by have h47 : (47 : UInt8).toNat = 47 := rfl; omega))
        go_wp2
        go_round
        case rel => exact ⟨k + 1, by omega, HR.out, by go_num⟩
        case measure => simp [intOf]; omega
    · have hkl : k = l.length := by omega
      have hks : ¬ (k : Int) < (S.size : Int) := by omega
      have HR : Hid (l.length = slashAt l) := Lib.hid (by have := HLE.out; have := HK.out; omega)
      clear hkl
      go_wp2
      go_ret
      exact ⟨by rw [← HR.out]; rfl, rfl⟩
end Go.Proofs.YtpdbebjlghihmaaGreatDoor

/- The reference's quick. -/
namespace Go.Proofs.YtpdbebjlghihmaaGreatDoor
open Go.RowKit

set_option maxRecDepth 100000 in
set_option maxHeartbeats 1000000 in
theorem quick_gen (S T A D : ByteArray) (neg has : Bool) (ka : Nat) (n d : Int) (c0 : UInt8) (w : World)
    (hs : S.size ≤ 20) (hs1 : 0 < S.size) (hc : ∀ h : 0 < S.size, S[0]'h = c0) (hcn : ((c0.toNat : Int) == 45) = neg)
    (hT : (if neg = true then S.extract 1 S.size else S) = T)
    (kS : ∀ W, Calls Tryz.prog 166 #[.string T] W fun e w' => e = .returned (.int .i64 (ka : Int)) ∧ W = w')
    (hts : T.size ≤ 20) (hk9 : ka ≤ 9) (hlen : T.size ≤ ka + 10) (hke : ka ≤ T.size) (hhas : has = decide (ka < T.size))
    (eA : T.extract 0 ka = A) (kA : ∀ W, Calls Tryz.prog 167 #[.string A] W fun e w' => e = .returned (.int .i64 n) ∧ W = w')
    (eD : has = true → T.extract (ka + 1) T.size = D) (kD : has = true → ∀ W, Calls Tryz.prog 167 #[.string D] W fun e w' => e = .returned (.int .i64 d) ∧ W = w')
    (hd : has = false → d = 1) (hn0 : 0 ≤ n) (hn1 : n < 1000000000) :
    Calls Tryz.prog 138 #[.string S] w fun e w' => e = .returned (.tuple #[.int .i64 (if neg = true then -n else n), .int .i64 d, .bool true]) ∧ w = w' := by
  have KS := Lib.hid kS
  have KA := Lib.hid kA
  have hka0 : (0 : Int) ≤ (ka : Int) := Int.natCast_nonneg _
  have hk9i : (ka : Int) ≤ 9 := by omega
  have hlen2 : (T.size : Int) - (ka : Int) ≤ 10 := by omega
  have hkei : (ka : Int) ≤ (T.size : Int) := by omega
  have hs0 : (0 : Int) < (S.size : Int) := by omega
  cases neg
  · simp only [if_false, Bool.false_eq_true] at hT ⊢
    cases has
    · have hnl : ¬ (ka : Int) < (T.size : Int) := by have := of_decide_eq_false hhas.symm; omega
      have HD := Lib.hid (hd rfl)
      clear hd eD kD hhas kS kA
      subst hT
      go_enter Tryz.func138, Tryz.ntmps138
      go_wp2_with fail
      refine (KS.out _).mono ?_; rintro e w1 ⟨rfl, rfl⟩
      go_wp2_with fail
      refine (KA.out _).mono ?_; rintro e w2 ⟨rfl, rfl⟩
      go_wp2
      go_ret3
      exact ⟨by rw [HD.out]; rfl, rfl⟩
    · have hnl : (ka : Int) < (T.size : Int) := by have := of_decide_eq_true hhas.symm; omega
      have KD := Lib.hid (kD rfl)
      have ED := Lib.hid (eD rfl)
      clear hd eD kD hhas kS kA
      subst hT
      go_enter Tryz.func138, Tryz.ntmps138
      go_wp2_with fail
      refine (KS.out _).mono ?_; rintro e w1 ⟨rfl, rfl⟩
      go_wp2_with fail
      refine (KA.out _).mono ?_; rintro e w2 ⟨rfl, rfl⟩
      go_wp2_with fail
      first | rw [ED.out] | (rw [show ((ka : Int) + 1).toNat = ka + 1 by omega]; rw [ED.out])
      refine (KD.out _).mono ?_; rintro e w3 ⟨rfl, rfl⟩
      go_wp2
      go_ret3
      exact ⟨rfl, rfl⟩
  · simp only [if_true] at hT ⊢
    cases has
    · have hnl : ¬ (ka : Int) < (T.size : Int) := by have := of_decide_eq_false hhas.symm; omega
      have HD := Lib.hid (hd rfl)
      clear hd eD kD hhas kS kA
      go_enter Tryz.func138, Tryz.ntmps138
      go_wp2_with fail
      refine (KS.out _).mono ?_; rintro e w1 ⟨rfl, rfl⟩
      go_wp2_with fail
      refine (KA.out _).mono ?_; rintro e w2 ⟨rfl, rfl⟩
      go_wp2
      go_ret3
      exact ⟨by rw [HD.out]; rfl, rfl⟩
    · have hnl : (ka : Int) < (T.size : Int) := by have := of_decide_eq_true hhas.symm; omega
      have KD := Lib.hid (kD rfl)
      have ED := Lib.hid (eD rfl)
      clear hd eD kD hhas kS kA
      go_enter Tryz.func138, Tryz.ntmps138
      go_wp2_with fail
      refine (KS.out _).mono ?_; rintro e w1 ⟨rfl, rfl⟩
      go_wp2_with fail
      refine (KA.out _).mono ?_; rintro e w2 ⟨rfl, rfl⟩
      go_wp2_with fail
      first | rw [ED.out] | (rw [show ((ka : Int) + 1).toNat = ka + 1 by omega]; rw [ED.out])
      refine (KD.out _).mono ?_; rintro e w3 ⟨rfl, rfl⟩
      go_wp2
      go_ret3
      exact ⟨rfl, rfl⟩
end Go.Proofs.YtpdbebjlghihmaaGreatDoor

/- The reference's quick on a rational number's text; Add where both are small. -/
namespace Go.Proofs.YtpdbebjlghihmaaGreatDoor
open Go.RowKit

theorem bytesL_app (a b : List UInt8) : bytesL a ++ bytesL b = bytesL (a ++ b) := by
  unfold bytesL
  apply ByteArray.ext
  simp [ByteArray.data_append]
theorem bytesL_extract (l : List UInt8) (i j : Nat) : (bytesL l).extract i j = bytesL ((l.drop i).take (j - i)) := by
  unfold bytesL
  apply ByteArray.ext
  rw [ByteArray.data_extract]
  apply Array.toList_inj.1
  rw [Array.toList_extract]
def bodyL (p : Int) (q : Nat) : List UInt8 := Lib.decDigits p.natAbs ++ (if 1 < q then 47 :: Lib.decDigits q else [])
def ratL (p : Int) (q : Nat) : List UInt8 := if p < 0 then 45 :: bodyL p q else bodyL p q
theorem numB_bytes (n : Nat) : numB n = bytesL (Lib.decDigits n) := rfl
theorem ratB_bytes (p : Int) (q : Nat) : ratB p q = bytesL (ratL p q) := by
  have e1 : (⟨#[45]⟩ : ByteArray) = bytesL [45] := rfl
  have e2 : (⟨#[47]⟩ : ByteArray) = bytesL [47] := rfl
  unfold ratB ratL bodyL
  rw [e1, e2, numB_bytes, numB_bytes]
  split <;> split <;> simp [bytesL_app]

theorem quick_rat (p : Int) (q : Nat) (w : World) (h1 : -1000000000 < p) (h2 : p < 1000000000) (hq0 : 0 < q) (hq : q < 1000000000) :
    Calls Tryz.prog 138 #[.string (ratB p q)] w fun e w' => e = .returned (.tuple #[.int .i64 p, .int .i64 (q : Int), .bool true]) ∧ w = w' := by
  have la := dec_len (k := 8) (n := p.natAbs) (by omega)
  have ld := dec_len (k := 8) (n := q) (by omega)
  have da := dec_digit p.natAbs
  have dd := dec_digit q
  have va := valD_dec p.natAbs
  have vd := valD_dec q
  have hb : bodyL p q = Lib.decDigits p.natAbs ++ (if 1 < q then 47 :: Lib.decDigits q else []) := rfl
  rw [ratB_bytes]
  generalize Lib.decDigits p.natAbs = a at la da va hb
  generalize Lib.decDigits q = d at ld dd vd hb
  have hna : ∀ c ∈ a, c ≠ 47 := fun c hc e => by have := da c hc; subst e; simp at this
  have hbl : (bodyL p q).length = a.length + (if 1 < q then d.length + 1 else 0) := by rw [hb, List.length_append]; split <;> simp
  have hbl2 : a.length ≤ (bodyL p q).length ∧ (bodyL p q).length ≤ a.length + 10 ∧ (decide (1 < q) = decide (a.length < (bodyL p q).length)) := by
    rw [hbl]; split
    · exact ⟨by omega, by omega, by rw [decide_eq_true ‹_›, decide_eq_true (by omega)]⟩
    · exact ⟨by omega, by omega, by rw [decide_eq_false ‹_›, decide_eq_false (by omega)]⟩
  have hsl : slashAt (bodyL p q) = a.length := by
    rw [hb]; split
    · exact slashAt_app a d hna
    · rw [List.append_nil]; exact slashAt_none a hna
  have hta : (bodyL p q).take a.length = a := by rw [hb]; simp
  have htd : 1 < q → (bodyL p q).drop (a.length + 1) = d := fun h => by rw [hb, if_pos h]; simp [List.drop_append]
  have hhead : ∃ c l, bodyL p q = c :: l ∧ c ≠ 45 := by
    cases a with
    | nil => simp at la
    | cons c l => exact ⟨c, _, hb, fun e => by have := da c (List.mem_cons_self ..); subst e; simp at this⟩
  have hrl : ratL p q = if p < 0 then 45 :: bodyL p q else bodyL p q := rfl
  generalize bodyL p q = B at *
  obtain ⟨c, l, hB, hc⟩ := hhead
  have hS : ∃ c0 l0, ratL p q = c0 :: l0 ∧ ((c0.toNat : Int) == 45) = decide (p < 0) ∧ (ratL p q).length ≤ B.length + 1 := by
    rw [hrl]
    by_cases hp : p < 0
    · rw [if_pos hp, decide_eq_true hp]; exact ⟨45, B, rfl, rfl, by simp⟩
    · rw [if_neg hp, decide_eq_false hp, hB]
      refine ⟨c, l, rfl, ?_, by simp⟩
      rw [beq_eq_false_iff_ne]
      intro e
      exact hc (UInt8.toNat_inj.1 (show c.toNat = (45 : UInt8).toNat by have h47 : (45 : UInt8).toNat = 45 := rfl; omega))
  obtain ⟨c0, l0, hS0, hc0, hSl⟩ := hS
  have hTT : (if decide (p < 0) = true then (bytesL (ratL p q)).extract 1 (bytesL (ratL p q)).size else bytesL (ratL p q)) = bytesL B := by
    rw [hrl]
    by_cases hp : p < 0
    · rw [if_pos (by simpa using hp), if_pos hp, bytesL_extract, bytesL_size]; simp
    · rw [if_neg (by simpa using hp), if_neg hp]
  have hres := quick_gen (bytesL (ratL p q)) (bytesL B) (bytesL a) (bytesL d) (decide (p < 0)) (decide (1 < q)) a.length (p.natAbs : Int) (q : Int) c0 w
    (by rw [bytesL_size]; omega) (by rw [bytesL_size, hS0]; simp)
    (fun h => by rw [bytesL_get _ _ _ (by rw [hS0]; simp)]; simp [hS0]) hc0 hTT
    (fun W => by have := slash_any B W (by omega); rw [hsl] at this; exact this)
    (by rw [bytesL_size]; omega) (by omega) (by rw [bytesL_size]; omega) (by rw [bytesL_size]; omega) (by rw [bytesL_size]; exact hbl2.2.2)
    (by rw [bytesL_extract]; simp [hta]) (fun W => by have := value_any a W (by omega) da; rw [va] at this; exact this)
    (fun h => by rw [bytesL_extract, htd (of_decide_eq_true h), bytesL_size]; congr 1; apply List.take_of_length_le; rw [hbl, if_pos (of_decide_eq_true h)]; omega)
    (fun h W => by have := value_any d W (by omega) dd; rw [vd] at this; exact this)
    (fun h => by have := of_decide_eq_false h; omega) (by omega) (by omega)
  refine hres.mono ?_
  rintro e w' ⟨he, hw⟩
  refine ⟨?_, hw⟩
  rw [he]
  by_cases hp : p < 0
  · rw [if_pos (by simpa using hp), show -(p.natAbs : Int) = p by omega]
  · rw [if_neg (by simpa using hp), show (p.natAbs : Int) = p by omega]

set_option maxRecDepth 100000 in
set_option maxHeartbeats 2000000 in
theorem add_any (n m : Int) (d e : Nat) (w : World) (h1 : -10000 < n) (h2 : n < 10000) (h3 : -10000 < m) (h4 : m < 10000) (hd0 : 0 < d) (hd : d < 10000) (he0 : 0 < e) (he : e < 10000) :
    Calls Tryz.prog 91 #[.string (ratB n d), .string (ratB m e)] w fun r w' => r = .returned (.string (ofB (n * (e : Int) + m * (d : Int)) ((d : Int) * (e : Int)))) ∧ ∃ k, w' = w.drewN k := by
  have K1 := Lib.hid (fun W => quick_rat n d W (by omega) (by omega) hd0 (by omega))
  have K2 := Lib.hid (fun W => quick_rat m e W (by omega) (by omega) he0 (by omega))
  generalize ratB n d = A at K1 ⊢
  generalize ratB m e = B at K2 ⊢
  have b1 : -100000000 < n * (e : Int) ∧ n * (e : Int) < 100000000 := by
    have := Int.mul_le_mul_of_nonneg_right (show n ≤ 9999 by omega) (show (0 : Int) ≤ (e : Int) by omega)
    have := Int.mul_le_mul_of_nonneg_right (show -9999 ≤ n by omega) (show (0 : Int) ≤ (e : Int) by omega)
    omega
  have b2 : -100000000 < m * (d : Int) ∧ m * (d : Int) < 100000000 := by
    have := Int.mul_le_mul_of_nonneg_right (show m ≤ 9999 by omega) (show (0 : Int) ≤ (d : Int) by omega)
    have := Int.mul_le_mul_of_nonneg_right (show -9999 ≤ m by omega) (show (0 : Int) ≤ (d : Int) by omega)
    omega
  have b3 : 0 < (d : Int) * (e : Int) ∧ (d : Int) * (e : Int) < 100000000 := by
    have := Int.mul_le_mul_of_nonneg_right (show (d : Int) ≤ 9999 by omega) (show (0 : Int) ≤ (e : Int) by omega)
    have := Int.mul_pos (show (0 : Int) < (d : Int) by omega) (show (0 : Int) < (e : Int) by omega)
    omega
  have KO := Lib.hid (fun W => of_any (n * (e : Int) + m * (d : Int)) ((d : Int) * (e : Int)) W (by omega) (by omega) b3.1 (by omega))
  generalize hE : (e : Int) = E at *
  generalize hD : (d : Int) = D at *
  generalize hne : n * E = x at *
  generalize hmd : m * D = y at *
  generalize hde : D * E = z at *
  clear hE hD
  go_enter Tryz.func91, Tryz.ntmps91
  go_wp2_with fail
  refine (K1.out _).mono ?_; rintro e w1 ⟨rfl, rfl⟩
  go_wp2_with fail
  refine (K2.out _).mono ?_; rintro e w2 ⟨rfl, rfl⟩
  go_wp2_with fail
  refine (KO.out _).mono ?_; rintro e w3 ⟨rfl, k, rfl⟩
  go_wp2
  go_ret
  exact ⟨rfl, k, rfl⟩
end Go.Proofs.YtpdbebjlghihmaaGreatDoor

/- The reference's integers of one word: trim, signed, parse. -/
namespace Go.Proofs.YtpdbebjlghihmaaGreatDoor
open Go.RowKit

theorem trim_one (g c : Nat) (n : Int) (w : World) (hc : w.cell? ⟨g, 0, none⟩ = some (.int .i64 n)) :
    Calls Tryz.prog 186 #[.slice (some ⟨g, 0, none⟩) 1 c] w fun e w' => e = .returned (.slice (some ⟨g, 0, none⟩) (if n = 0 then 0 else 1) c) ∧ w = w' := by
  by_cases hn : n = 0
  · rw [if_pos hn]
    subst hn
    go_enter Tryz.func186, Tryz.ntmps186
    go_wp2
    go_loop [0] (fun i => i = .slice (some ⟨g, 0, none⟩) 1 c ∨ i = .slice (some ⟨g, 0, none⟩) 0 c) (fun i => match i with | .slice _ l _ => l | _ => 0)
    case atStart => exact .inl rfl
    case round =>
      rcases hrel with rfl | rfl
      · go_wp2
        go_round
        case rel => exact .inr rfl
        case measure => simp
      · go_wp2
        go_ret
        exact ⟨rfl, rfl⟩
  · have hb : (n == 0) = false := beq_eq_false_iff_ne.2 hn
    rw [if_neg hn]
    clear hn
    go_enter Tryz.func186, Tryz.ntmps186
    go_wp2
    go_loop [0] (fun i => i = .slice (some ⟨g, 0, none⟩) 1 c) (fun _ => 0)
    case atStart => rfl
    case round =>
      subst hrel
      go_wp2
      go_ret
      exact ⟨rfl, rfl⟩

def oneL (n : Int) : Nat := if n = 0 then 0 else 1

set_option maxHeartbeats 1000000 in
theorem signed_one (neg : Bool) (g c : Nat) (n : Int) (w : World) (hc : w.cell? ⟨g, 0, none⟩ = some (.int .i64 n)) :
    Calls Tryz.prog 168 #[.bool neg, .slice (some ⟨g, 0, none⟩) 1 c] w fun e w' => e = .returned (.agg #[.bool (neg && decide (n ≠ 0)), .slice (some ⟨g, 0, none⟩) (oneL n) c]) ∧ Below w.heap.size w w' := by
  have HT := Lib.hid (fun W h => trim_one g c n W h)
  have hb := World.block_lt_of_cell? w _ hc
  have HC := Lib.hid ((World.cell?_alloc_lt w (.cells #[.bool false, .slice none 0 0] 177) ⟨g, 0, none⟩ hb).trans hc)
  clear hc
  by_cases hn : n = 0
  all_goals
    unfold oneL
    first | rw [if_pos hn] at HT ⊢ | rw [if_neg hn] at HT ⊢
    first | rw [decide_eq_true hn] | rw [decide_eq_false (show ¬ n ≠ 0 from fun h => h hn)]
    cases neg
    all_goals
      go_enter Tryz.func168, Tryz.ntmps168
      go_wp2_with fail
      refine (HT.out _ HC.out).mono ?_; rintro e w1 ⟨rfl, rfl⟩
      go_wp2
      refine bodyPost_ret (by simp [results, Tryz.results168, go_sem]) rfl ⟨rfl, ?_⟩
      exact (Below.refl _ _).alloc (Nat.le_refl _) _
end Go.Proofs.YtpdbebjlghihmaaGreatDoor

/- The reference's parse of a text of at most nine digits. -/
namespace Go.Proofs.YtpdbebjlghihmaaGreatDoor
open Go.RowKit

theorem info_intH : (Tryz.prog.info? 3).map (fun i => (i.zero, i.size, i.bytes)) = some (some (.int .i64 0), 1, 8) := by kernel_rfl

/-- Block g is just these cells of type t, none frozen. -/
def BlkH (w : World) (g : Nat) (t : TypeId) (cs : Array Value) : Prop := w.heap[g]? = some (.cells cs t (0, 0))
theorem BlkH.cell {w : World} {g : Nat} {t : TypeId} {cs : Array Value} (h : BlkH w g t cs) (i : Nat) : w.cell? ⟨g, i, none⟩ = cs[i]? := cell_of_row w g i _ _ _ h
theorem BlkH.frozen {w : World} {g : Nat} {t : TypeId} {cs : Array Value} (h : BlkH w g t cs) (j : Nat) : w.frozen? ⟨g, j, none⟩ = false := by
  unfold BlkH at h
  simp [World.frozen?, h]
theorem BlkH.new (w : World) (t : TypeId) (cs : Array Value) : BlkH (w.alloc (.cells cs t)) w.heap.size t cs := heap_alloc_new w _
theorem BlkH.below {w w' : World} {g : Nat} {t : TypeId} {cs : Array Value} {B : Nat} (h : BlkH w g t cs) (hb : Below B w w') (hg : g < B) : BlkH w' g t cs := (hb.block g hg).trans h
theorem cell_app (W : World) (v : Value) (R : Array Value) (T : TypeId) : (W.alloc (.cells (#[v] ++ R) T)).drew.cell? ⟨W.heap.size, 0, none⟩ = some v :=
  (cell_of_row (W.alloc (.cells (#[v] ++ R) T)) W.heap.size 0 _ _ _ (heap_alloc_new W _)).trans (by rw [Array.getElem?_append_left (by simp)]; rfl)

/-- What the calls of signed leave of an own block below. -/
theorem store_back (w w1 : World) (X Y Z : Obj) (t : TypeId) (cs : Array Value) (hX : X = .cells cs t) (hb : Below (((w.alloc X).alloc Y).alloc Z).drew.heap.size (((w.alloc X).alloc Y).alloc Z).drew w1) :
    BlkH w1 w.heap.size t cs ∧ Below w.heap.size w w1 ∧ (∀ v, (((w.alloc X).alloc Y).alloc Z).drew.cell? ⟨w.heap.size + 1 + 1, 0, none⟩ = some v → w1.cell? ⟨w.heap.size + 1 + 1, 0, none⟩ = some v) := by
  subst hX
  have hbw : Below w.heap.size w (((w.alloc (.cells cs t)).alloc Y).alloc Z).drew := ((((Below.refl _ _).alloc (Nat.le_refl _) _).alloc (by simp) _).alloc (by simp; omega) _).drew
  have hk : BlkH (((w.alloc (.cells cs t)).alloc Y).alloc Z).drew w.heap.size t cs :=
    (((Below.heap_alloc _ Z w.heap.size (by simp; omega)).trans ((Below.heap_alloc _ Y w.heap.size (by simp)).trans (BlkH.new w t cs))))
  refine ⟨hk.below hb ?_, hbw.trans (hb.mono hbw.size), fun v hv => ?_⟩
  · show w.heap.size < (((w.alloc (.cells cs t)).alloc Y).alloc Z).heap.size
    simp; omega
  · exact (hb.cell (p := ⟨w.heap.size + 1 + 1, 0, none⟩) (World.block_lt_of_cell? _ _ hv)).trans hv

set_option maxRecDepth 100000 in
set_option maxHeartbeats 2000000 in
theorem parse_gen (S T : ByteArray) (neg : Bool) (m : Int) (c0 : UInt8) (w : World)
    (hs : S.size ≤ 20) (hs1 : 0 < S.size) (hc : ∀ h : 0 < S.size, S[0]'h = c0) (hcn : ((c0.toNat : Int) == 45) = neg)
    (hT : (if neg = true then S.extract 1 S.size else S) = T) (hts : T.size ≤ 9)
    (kV : ∀ W, Calls Tryz.prog 167 #[.string T] W fun e w' => e = .returned (.int .i64 m) ∧ W = w') :
    Calls Tryz.prog 134 #[.string S] w fun e w' => ∃ g c, e = .returned (.agg #[.bool (neg && decide (m ≠ 0)), .slice (some ⟨g, 0, none⟩) (oneL m) c]) ∧ w'.cell? ⟨g, 0, none⟩ = some (.int .i64 m) ∧ Below w.heap.size w w' := by
  obtain ⟨i0, hi, hz0, hz1, hz2⟩ := info_parts info_intH
  have KV := Lib.hid kV
  have HTS := Lib.hid hts
  have hs0 : (0 : Int) < (S.size : Int) := by omega
  clear kV
  cases neg
  · simp only [if_false, Bool.false_eq_true] at hT ⊢
    subst hT
    go_enter Tryz.func134, Tryz.ntmps134
    go_wp2
    go_loop [0, 4] (fun s i => s = .string S ∧ i = .slice none 0 0) (fun _ _ => 0)
    case atStart => exact ⟨rfl, rfl⟩
    case round =>
      obtain ⟨rfl, rfl⟩ := hrel
      go_wp2_with fail
      refine (KV.out _).mono ?_; rintro e w1 ⟨rfl, rfl⟩
      go_wp2_with fail
      refine (signed_one _ _ _ m _ (by
        have h := cell_app ((w.alloc (.cells #[.bool false, .slice none 0 0] 177)).alloc (.cells #[.int .i64 m] 3)) (.int .i64 m) (Builtin.zeroCells #[Value.int .i64 0] ((Question.appendCap 1 0 3).cut (w.tape w.drawn (Question.appendCap 1 0 3)) - 1)) 3
        rw [World.size_alloc, World.size_alloc] at h
        exact h)).mono ?_
      rintro e w1 ⟨rfl, hb1⟩
      obtain ⟨hk, hbw, hcl⟩ := store_back w w1 _ _ _ _ _ rfl hb1
      have HC1 := Lib.hid (hcl _ (by
        have h := cell_app ((w.alloc (.cells #[.bool false, .slice none 0 0] 177)).alloc (.cells #[.int .i64 m] 3)) (.int .i64 m) (Builtin.zeroCells #[Value.int .i64 0] ((Question.appendCap 1 0 3).cut (w.tape w.drawn (Question.appendCap 1 0 3)) - 1)) 3
        rw [World.size_alloc, World.size_alloc] at h
        exact h))
      have HBW := Lib.hid hbw
      generalize (Question.appendCap 1 0 3).cut (w.tape w.drawn (Question.appendCap 1 0 3)) = c
      clear hb1 hcl hbw
      have k0 := hk.cell 0
      have k1 := hk.cell 1
      have kf0 := hk.frozen 0
      have kf1 := hk.frozen 1
      simp only [List.getElem?_toArray, List.getElem?_cons_succ, List.getElem?_cons_zero] at k0 k1
      clear hk
      generalize hV0 : (_ && decide (m ≠ 0)) = nb
      have HNB := Lib.hid hV0
      clear hV0
      generalize hlm : oneL m = lm
      have HLM := Lib.hid hlm
      clear hlm
      go_wp2
      refine bodyPost_ret (v := .agg #[.bool nb, .slice (some ⟨w.heap.size + 1 + 1, 0, none⟩) lm c]) (by simp [results, Tryz.results134, go_sem, k0, k1]) rfl ⟨_, c, by rw [HNB.out, HLM.out], ?_, ?_⟩
      · exact ((World.cell?_setCell_other _ _ _ _ (fun e => by have := congrArg Addr.block e; simp at this; omega)).trans ((World.cell?_setCell_other _ _ _ _ (fun e => by have := congrArg Addr.block e; simp at this; omega)).trans HC1.out))
      · exact (HBW.out.setCell (Nat.le_refl _) _).setCell (Nat.le_refl _) _
  · simp only [if_true] at hT ⊢
    go_enter Tryz.func134, Tryz.ntmps134
    go_wp2
    go_loop [0, 4] (fun s i => s = .string T ∧ i = .slice none 0 0) (fun _ _ => 0)
    case atStart => exact ⟨rfl, rfl⟩
    case round =>
      obtain ⟨rfl, rfl⟩ := hrel
      go_wp2_with fail
      refine (KV.out _).mono ?_; rintro e w1 ⟨rfl, rfl⟩
      go_wp2_with fail
      refine (signed_one _ _ _ m _ (by
        have h := cell_app ((w.alloc (.cells #[.bool false, .slice none 0 0] 177)).alloc (.cells #[.int .i64 m] 3)) (.int .i64 m) (Builtin.zeroCells #[Value.int .i64 0] ((Question.appendCap 1 0 3).cut (w.tape w.drawn (Question.appendCap 1 0 3)) - 1)) 3
        rw [World.size_alloc, World.size_alloc] at h
        exact h)).mono ?_
      rintro e w1 ⟨rfl, hb1⟩
      obtain ⟨hk, hbw, hcl⟩ := store_back w w1 _ _ _ _ _ rfl hb1
      have HC1 := Lib.hid (hcl _ (by
        have h := cell_app ((w.alloc (.cells #[.bool false, .slice none 0 0] 177)).alloc (.cells #[.int .i64 m] 3)) (.int .i64 m) (Builtin.zeroCells #[Value.int .i64 0] ((Question.appendCap 1 0 3).cut (w.tape w.drawn (Question.appendCap 1 0 3)) - 1)) 3
        rw [World.size_alloc, World.size_alloc] at h
        exact h))
      have HBW := Lib.hid hbw
      generalize (Question.appendCap 1 0 3).cut (w.tape w.drawn (Question.appendCap 1 0 3)) = c
      clear hb1 hcl hbw
      have k0 := hk.cell 0
      have k1 := hk.cell 1
      have kf0 := hk.frozen 0
      have kf1 := hk.frozen 1
      simp only [List.getElem?_toArray, List.getElem?_cons_succ, List.getElem?_cons_zero] at k0 k1
      clear hk
      generalize hV0 : (_ && decide (m ≠ 0)) = nb
      have HNB := Lib.hid hV0
      clear hV0
      generalize hlm : oneL m = lm
      have HLM := Lib.hid hlm
      clear hlm
      go_wp2
      refine bodyPost_ret (v := .agg #[.bool nb, .slice (some ⟨w.heap.size + 1 + 1, 0, none⟩) lm c]) (by simp [results, Tryz.results134, go_sem, k0, k1]) rfl ⟨_, c, by rw [HNB.out, HLM.out], ?_, ?_⟩
      · exact ((World.cell?_setCell_other _ _ _ _ (fun e => by have := congrArg Addr.block e; simp at this; omega)).trans ((World.cell?_setCell_other _ _ _ _ (fun e => by have := congrArg Addr.block e; simp at this; omega)).trans HC1.out))
      · exact (HBW.out.setCell (Nat.le_refl _) _).setCell (Nat.le_refl _) _
end Go.Proofs.YtpdbebjlghihmaaGreatDoor

/- The reference's compareDigits and divDigit where there is one word. -/
namespace Go.Proofs.YtpdbebjlghihmaaGreatDoor
open Go.RowKit

theorem cell_drewN {w : World} {a : Addr} {v : Value} (h : w.cell? a = some v) (k : Nat) : (w.drewN k).cell? a = some v := h

set_option maxRecDepth 100000 in
set_option maxHeartbeats 2000000 in
theorem compareDigits_one (ga ca gb cb : Nat) (m d : Int) (w : World) (hm0 : 0 ≤ m) (hd0 : 0 < d)
    (ha : w.cell? ⟨ga, 0, none⟩ = some (.int .i64 m)) (hb : w.cell? ⟨gb, 0, none⟩ = some (.int .i64 d)) :
    Calls Tryz.prog 173 #[.slice (some ⟨ga, 0, none⟩) (oneL m) ca, .slice (some ⟨gb, 0, none⟩) 1 cb] w fun e w' => e = .returned (.int .i64 (if m < d then -1 else if d < m then 1 else 0)) ∧ ∃ k, w' = w.drewN k := by
  by_cases hz : m = 0
  · subst hz
    rw [if_pos hd0]
    show Calls _ _ #[.slice (some ⟨ga, 0, none⟩) 0 ca, _] w _
    go_enter Tryz.func173, Tryz.ntmps173
    go_wp2
    go_ret
    exact ⟨rfl, 0, rfl⟩
  · rw [show oneL m = 1 by unfold oneL; rw [if_neg hz]]
    have HA := Lib.hid ha
    have HB := Lib.hid hb
    clear ha hb
    obtain ⟨res, hres⟩ : ∃ res : Int, (if m < d then -1 else if d < m then 1 else 0) = res := ⟨_, rfl⟩
    rw [hres]
    have HR := Lib.hid hres
    clear hres
    go_enter Tryz.func173, Tryz.ntmps173
    go_wp2
    go_loopw [5] (fun i w' => (i = .int .i64 0 ∧ w' = w) ∨ (i = .int .i64 (-1) ∧ m = d ∧ ∃ k, w' = w.drewN k)) (fun i _ => (intOf i + 1).toNat)
    case atStart => exact .inl ⟨rfl, rfl⟩
    case round =>
      rcases hrel with ⟨rfl, rfl⟩ | ⟨rfl, he, k, rfl⟩
      · have ha0 := HA.out
        have hb0 := HB.out
        rcases Int.lt_trichotomy m d with h | h | h
        · have HX : Hid (res = -1) := Lib.hid (HR.out.symm.trans (if_pos h))
          go_wp2
          go_quiet (fail)
          go_wp2
          go_ret
          exact ⟨by rw [HX.out]; rfl, _, rfl⟩
        · have HE := Lib.hid h
          have h1 : ¬ m < d := by omega
          have h2 : ¬ d < m := by omega
          clear h
          go_wp2
          go_quiet (fail)
          go_wp2
          go_quiet (fail)
          go_wp2
          go_roundw
          case rel => exact .inr ⟨rfl, HE.out, _, by first | rfl | exact World.drewN_drewN _ _ _⟩
          case measure => simp [intOf]
        · have h1 : ¬ m < d := by omega
          have HX : Hid (res = 1) := Lib.hid (HR.out.symm.trans ((if_neg h1).trans (if_pos h)))
          go_wp2
          go_quiet (fail)
          go_wp2
          go_quiet (fail)
          go_wp2
          go_ret
          exact ⟨by rw [HX.out]; rfl, _, by first | rfl | exact World.drewN_drewN _ _ _⟩
      · have HX : Hid (res = 0) := Lib.hid (HR.out.symm.trans ((if_neg (by omega)).trans (if_neg (by omega))))
        clear he
        go_wp2
        go_ret
        exact ⟨by rw [HX.out]; rfl, k, rfl⟩
end Go.Proofs.YtpdbebjlghihmaaGreatDoor

/- The reference's divDigit of one word. -/
namespace Go.Proofs.YtpdbebjlghihmaaGreatDoor
open Go.RowKit

theorem made_one : madeCells (Value.int .i64 0).cells 1 = #[.int .i64 0] := by
  unfold madeCells
  apply Array.ext
  · simp [Value.cells]
  · intro i h1 h2
    simp at h2
    subst h2
    simp [Value.cells]
theorem make_one (w : World) :
    (Instr.makeSlice 22 (.int .i64 1) (.int .i64 1)).run Tryz.prog w = .ok (.slice (some ⟨w.heap.size, 0, none⟩) 1 1) (w.alloc (.cells #[.int .i64 0] 3)) := by
  obtain ⟨i0, hi, hz0, hz1, hz2⟩ := info_parts info_intH
  have hr := run_make (P := Tryz.prog) w 22 3 i0 (.int .i64 0) Tryz.underlying22 hi hz0 .i64 .i64 1 1 (by omega) (by omega) (by rw [hz2]; omega) (by omega)
  rw [hz1] at hr
  simp only [Int.toNat_one, Nat.mul_one] at hr
  rw [made_one] at hr
  exact hr

theorem div_facts (m d : Int) (hd : 0 < d) (hm : d ≤ m) : 1 ≤ m.tdiv d ∧ m.tdiv d ≤ m ∧ 0 ≤ m.tmod d ∧ m.tmod d < d ∧ m.tdiv d = m / d ∧ m.tmod d = m % d := by
  have h0 : 0 ≤ m := by omega
  have e1 : m.tdiv d = m / d := Int.tdiv_eq_ediv_of_nonneg h0
  have e2 : m.tmod d = m % d := Int.tmod_eq_emod_of_nonneg h0
  rw [e1, e2]
  refine ⟨?_, ?_, Int.emod_nonneg _ (by omega), Int.emod_lt_of_pos _ hd, rfl, rfl⟩
  · exact (Int.le_ediv_iff_mul_le hd).2 (by omega)
  · exact Int.ediv_le_self _ h0

set_option maxRecDepth 100000 in
set_option maxHeartbeats 2000000 in
theorem divDigit_one (ga ca : Nat) (m d : Int) (w : World) (hd0 : 0 < d) (hm : d ≤ m) (hm2 : m < 1000000000)
    (ha : w.cell? ⟨ga, 0, none⟩ = some (.int .i64 m)) :
    Calls Tryz.prog 187 #[.slice (some ⟨ga, 0, none⟩) 1 ca, .int .i64 d] w fun e w' => e = .returned (.tuple #[.slice (some ⟨w.heap.size, 0, none⟩) 1 1, .int .i64 (m % d)]) ∧ w'.cell? ⟨w.heap.size, 0, none⟩ = some (.int .i64 (m / d)) ∧ Below w.heap.size w w' := by
  obtain ⟨hq1, hq2, hr0, hr1, hqe, hre⟩ := div_facts m d hd0 hm
  rw [← hqe, ← hre]
  clear hqe hre
  have hdb : (d == 0) = false := by simp; omega
  generalize hq : m.tdiv d = q at *
  generalize hr : m.tmod d = r at *
  have hmk := make_one w
  have ha1 := (World.cell?_alloc_lt w (.cells #[.int .i64 0] 3) ⟨ga, 0, none⟩ (World.block_lt_of_cell? w _ ha)).trans ha
  have hne : ga ≠ w.heap.size := by have := World.block_lt_of_cell? w _ ha; simp at this; omega
  obtain ⟨W, hW⟩ : ∃ W, w.alloc (.cells #[.int .i64 0] 3) = W := ⟨_, rfl⟩
  have HBW : Hid (Below w.heap.size w W) := by rw [← hW]; exact Lib.hid ((Below.refl _ _).alloc (Nat.le_refl _) _)
  have hk : BlkH W w.heap.size 3 #[.int .i64 0] := by rw [← hW]; exact BlkH.new _ _ _
  rw [hW] at hmk ha1
  clear hW ha
  have k0 := hk.cell 0
  have kf0 := hk.frozen 0
  simp only [List.getElem?_toArray, List.getElem?_cons_zero] at k0
  have HT := Lib.hid (fun W h => trim_one w.heap.size 1 q W h)
  rw [if_neg (by omega)] at HT
  clear hk
  go_enter Tryz.func187, Tryz.ntmps187
  go_wp2
  go_loopw [7, 8, 9] (fun rv i _ w' => (rv = .int .i64 0 ∧ i = .int .i64 0 ∧ w' = W) ∨ (rv = .int .i64 r ∧ i = .int .i64 (-1) ∧ w' = W.setCell ⟨w.heap.size, 0, none⟩ (.int .i64 q))) (fun _ i _ _ => (intOf i + 1).toNat)
  case atStart => exact .inl ⟨rfl, rfl, rfl⟩
  case round =>
    rcases hrel with ⟨rfl, rfl, rfl⟩ | ⟨rfl, rfl, rfl⟩
    · go_wp2
      go_roundw
      case rel => exact .inr ⟨rfl, rfl, by first | trivial | rfl⟩
      case measure => simp [intOf]
    · have hc : (W.setCell ⟨w.heap.size, 0, none⟩ (.int .i64 q)).cell? ⟨w.heap.size, 0, none⟩ = some (.int .i64 q) := World.cell?_setCell_same _ _ _ k0
      go_wp2_with fail
      refine (HT.out _ hc).mono ?_; rintro e w1 ⟨rfl, rfl⟩
      go_wp2
      go_ret2
      exact ⟨rfl, hc, HBW.out.setCell (Nat.le_refl _) _⟩
end Go.Proofs.YtpdbebjlghihmaaGreatDoor

/- The reference's divDigits by one word. -/
namespace Go.Proofs.YtpdbebjlghihmaaGreatDoor
open Go.RowKit

theorem trim_oneL (g c : Nat) (n : Int) (w : World) (hc : w.cell? ⟨g, 0, none⟩ = some (.int .i64 n)) :
    Calls Tryz.prog 186 #[.slice (some ⟨g, 0, none⟩) 1 c] w fun e w' => e = .returned (.slice (some ⟨g, 0, none⟩) (oneL n) c) ∧ w = w' := trim_one g c n w hc

set_option maxRecDepth 100000 in
set_option maxHeartbeats 2000000 in
theorem divDigits_less (ga ca gb cb : Nat) (m d : Int) (w : World) (hm0 : 0 ≤ m) (hd0 : 0 < d) (hlt : m < d)
    (ha : w.cell? ⟨ga, 0, none⟩ = some (.int .i64 m)) (hb : w.cell? ⟨gb, 0, none⟩ = some (.int .i64 d)) :
    Calls Tryz.prog 169 #[.slice (some ⟨ga, 0, none⟩) (oneL m) ca, .slice (some ⟨gb, 0, none⟩) 1 cb] w fun e w' => e = .returned (.tuple #[.slice none 0 0, .slice (some ⟨ga, 0, none⟩) (oneL m) ca]) ∧ ∃ k, w' = w.drewN k := by
  have HC := Lib.hid (compareDigits_one ga ca gb cb m d w hm0 hd0 ha hb)
  rw [if_pos hlt] at HC
  clear ha hb hm0 hlt
  generalize oneL m = lm at HC ⊢
  go_enter Tryz.func169, Tryz.ntmps169
  go_wp2_with fail
  refine HC.out.mono ?_; rintro e w1 ⟨rfl, k, rfl⟩
  go_wp2
  go_ret2
  exact ⟨rfl, k, rfl⟩

set_option maxRecDepth 100000 in
set_option maxHeartbeats 2000000 in
theorem divDigits_more (ga ca gb cb : Nat) (m d : Int) (w : World) (hd0 : 0 < d) (hle : d ≤ m) (hm2 : m < 1000000000)
    (ha : w.cell? ⟨ga, 0, none⟩ = some (.int .i64 m)) (hb : w.cell? ⟨gb, 0, none⟩ = some (.int .i64 d)) :
    Calls Tryz.prog 169 #[.slice (some ⟨ga, 0, none⟩) (oneL m) ca, .slice (some ⟨gb, 0, none⟩) 1 cb] w fun e w' => ∃ g h, e = .returned (.tuple #[.slice (some ⟨g, 0, none⟩) 1 1, .slice (some ⟨h, 0, none⟩) (oneL (m % d)) 1]) ∧ w'.cell? ⟨g, 0, none⟩ = some (.int .i64 (m / d)) ∧ Below w.heap.size w w' := by
  have HC := Lib.hid (compareDigits_one ga ca gb cb m d w (by omega) hd0 ha hb)
  obtain ⟨res, hres⟩ : ∃ res : Int, (if m < d then -1 else if d < m then 1 else 0) = res := ⟨_, rfl⟩
  have hr0 : ¬ res < 0 := by rw [← hres, if_neg (by omega)]; split <;> omega
  rw [hres] at HC
  clear hres
  obtain ⟨r, hr⟩ : ∃ r, m % d = r := ⟨_, rfl⟩
  rw [show oneL m = 1 by unfold oneL; rw [if_neg (by omega)]] at *
  have HA := Lib.hid ha
  have HBB := Lib.hid hb
  have HD := Lib.hid (fun W h => divDigit_one ga ca m d W hd0 hle hm2 h)
  rw [hr] at HD ⊢
  clear hr
  clear ha hb hle hm2
  go_enter Tryz.func169, Tryz.ntmps169
  go_wp2_with fail
  refine HC.out.mono ?_; rintro e w1 ⟨rfl, k, rfl⟩
  have hb1 := cell_drewN HBB.out k
  go_wp2_with fail
  refine (HD.out _ (cell_drewN HA.out k)).mono ?_; rintro e w2 ⟨rfl, hc2, hbl⟩
  have HC2 := Lib.hid hc2
  have HB2 := Lib.hid hbl
  generalize hg : (w.drewN k).heap.size = g at HC2 HB2
  have HG := Lib.hid hg
  clear hc2 hbl hb1 hg
  go_wp2_with fail
  refine (trim_oneL _ 1 r _ (cell_of_row _ _ 0 _ _ _ (heap_alloc_new w2 _))).mono ?_; rintro e w3 ⟨rfl, rfl⟩
  go_wp2
  go_ret2
  refine ⟨_, _, rfl, ?_, ?_⟩
  · exact (World.cell?_alloc_lt _ _ _ (World.block_lt_of_cell? _ _ HC2.out)).trans HC2.out
  · exact ((below_drewN (Below.refl _ _) k).trans ((HB2.out.mono (by rw [← HG.out]; exact Nat.le_refl _)))).alloc HB2.out.size _
end Go.Proofs.YtpdbebjlghihmaaGreatDoor

/- The reference's addDigits where one digit is added; signed of nothing; text of one word. -/
namespace Go.Proofs.YtpdbebjlghihmaaGreatDoor
open Go.RowKit

set_option maxRecDepth 100000 in
set_option maxHeartbeats 2000000 in
theorem addDigits_none (gb cb : Nat) (w : World) (hb : w.cell? ⟨gb, 0, none⟩ = some (.int .i64 1)) :
    Calls Tryz.prog 170 #[.slice none 0 0, .slice (some ⟨gb, 0, none⟩) 1 cb] w fun e w' => ∃ g c, e = .returned (.slice (some ⟨g, 0, none⟩) 1 c) ∧ w'.cell? ⟨g, 0, none⟩ = some (.int .i64 1) ∧ Below w.heap.size w w' := by
  obtain ⟨i0, hi, hz0, hz1, hz2⟩ := info_parts info_intH
  go_enter Tryz.func170, Tryz.ntmps170
  go_wp2
  go_loopw [5, 6, 7, 8] (fun o cv i _ w' => (o = .slice none 0 0 ∧ cv = .int .i64 0 ∧ i = .int .i64 0 ∧ w' = w) ∨ (cv = .int .i64 0 ∧ i = .int .i64 1 ∧ ∃ g c, o = .slice (some ⟨g, 0, none⟩) 1 c ∧ w'.cell? ⟨g, 0, none⟩ = some (.int .i64 1) ∧ Below w.heap.size w w')) (fun _ _ i _ _ => 1 - (intOf i).toNat)
  case atStart => exact .inl ⟨rfl, rfl, rfl, rfl⟩
  case round =>
    rcases hrel with ⟨rfl, rfl, rfl, rfl⟩ | ⟨rfl, rfl, g, c, rfl, hc, hbl⟩
    · go_wp2
      go_roundw
      case rel =>
        refine .inr ⟨rfl, rfl, _, _, rfl, ?_, (((Below.refl _ _).alloc (Nat.le_refl _) _).alloc (by simp) _).drew⟩
        have h := cell_app (wr.alloc (.cells #[.int .i64 1] 3)) (.int .i64 1) (Builtin.zeroCells #[Value.int .i64 0] ((Question.appendCap 1 0 3).cut (wr.tape wr.drawn (Question.appendCap 1 0 3)) - 1)) 3
        rw [World.size_alloc] at h
        exact h
      case measure => simp [intOf]
    · go_wp2
      go_ret
      exact ⟨g, c, rfl, hc, hbl⟩

set_option maxRecDepth 100000 in
set_option maxHeartbeats 2000000 in
theorem addDigits_one (ga ca gb cb : Nat) (v : Int) (w : World) (hv0 : 0 ≤ v) (hv : v < 999999999) (ha : w.cell? ⟨ga, 0, none⟩ = some (.int .i64 v)) (hb : w.cell? ⟨gb, 0, none⟩ = some (.int .i64 1)) :
    Calls Tryz.prog 170 #[.slice (some ⟨ga, 0, none⟩) 1 ca, .slice (some ⟨gb, 0, none⟩) 1 cb] w fun e w' => ∃ g c, e = .returned (.slice (some ⟨g, 0, none⟩) 1 c) ∧ w'.cell? ⟨g, 0, none⟩ = some (.int .i64 (v + 1)) ∧ Below w.heap.size w w' := by
  obtain ⟨i0, hi, hz0, hz1, hz2⟩ := info_parts info_intH
  obtain ⟨s, hs⟩ : ∃ s, v + 1 = s := ⟨_, rfl⟩
  have hs1 : s % 1000000000 = s := by omega
  have hs2 : s / 1000000000 = 0 := by omega
  have hs3 : s.tmod 1000000000 = s := by rw [Int.tmod_eq_emod_of_nonneg (by omega)]; exact hs1
  have hs4 : s.tdiv 1000000000 = 0 := by rw [Int.tdiv_eq_ediv_of_nonneg (by omega)]; exact hs2
  rw [hs]
  go_enter Tryz.func170, Tryz.ntmps170
  go_wp2
  go_loopw [5, 6, 7, 8] (fun o cv i _ w' => (o = .slice none 0 0 ∧ cv = .int .i64 0 ∧ i = .int .i64 0 ∧ w' = w) ∨ (cv = .int .i64 0 ∧ i = .int .i64 1 ∧ ∃ g c, o = .slice (some ⟨g, 0, none⟩) 1 c ∧ w'.cell? ⟨g, 0, none⟩ = some (.int .i64 s) ∧ Below w.heap.size w w')) (fun _ _ i _ _ => 1 - (intOf i).toNat)
  case atStart => exact .inl ⟨rfl, rfl, rfl, rfl⟩
  case round =>
    rcases hrel with ⟨rfl, rfl, rfl, rfl⟩ | ⟨rfl, rfl, g, c, rfl, hc, hbl⟩
    · go_wp2
      go_roundw
      case rel =>
        refine .inr ⟨by first | rfl | rw [hs2] | rw [hs4], rfl, _, _, rfl, ?_, (((Below.refl _ _).alloc (Nat.le_refl _) _).alloc (by simp) _).drew⟩
        have h := cell_app (wr.alloc (.cells #[.int .i64 s] 3)) (.int .i64 s) (Builtin.zeroCells #[Value.int .i64 0] ((Question.appendCap 1 0 3).cut (wr.tape wr.drawn (Question.appendCap 1 0 3)) - 1)) 3
        rw [World.size_alloc] at h
        first | exact h | (rw [hs1]; exact h)
      case measure => simp [intOf]
    · go_wp2
      go_ret
      exact ⟨g, c, rfl, hc, hbl⟩

set_option maxHeartbeats 1000000 in
theorem signed_none (w : World) :
    Calls Tryz.prog 168 #[.bool false, .slice none 0 0] w fun e w' => e = .returned (.agg #[.bool false, .slice none 0 0]) ∧ Below w.heap.size w w' := by
  have HT : Hid (∀ W, Calls Tryz.prog 186 #[.slice none 0 0] W fun e w' => e = .returned (.slice none 0 0) ∧ W = w') := Lib.hid (fun W => by
    go_enter Tryz.func186, Tryz.ntmps186
    go_wp2
    go_loop [0] (fun i => i = .slice none 0 0) (fun _ => 0)
    case atStart => rfl
    case round =>
      subst hrel
      go_wp2
      go_ret
      exact ⟨rfl, rfl⟩)
  go_enter Tryz.func168, Tryz.ntmps168
  go_wp2_with fail
  refine (HT.out _).mono ?_; rintro e w1 ⟨rfl, rfl⟩
  go_wp2
  refine bodyPost_ret (by simp [results, Tryz.results168, go_sem]) rfl ⟨rfl, ?_⟩
  exact (Below.refl _ _).alloc (Nat.le_refl _) _
end Go.Proofs.YtpdbebjlghihmaaGreatDoor

/- The reference's text of an integer of one word; floorDiv. -/
namespace Go.Proofs.YtpdbebjlghihmaaGreatDoor
open Go.RowKit

/-- A row of words that is the number v, at most one word. -/
def OneS (w : World) (X : Value) (v : Int) : Prop := (v = 0 ∧ X = .slice none 0 0) ∨ ∃ g c, X = .slice (some ⟨g, 0, none⟩) (oneL v) c ∧ w.cell? ⟨g, 0, none⟩ = some (.int .i64 v)
def intB (neg : Bool) (v : Int) : ByteArray := if neg = true then ⟨#[45]⟩ ++ numB v.toNat else numB v.toNat
theorem numB_zero : numB 0 = ⟨#[48]⟩ := by
  unfold numB
  rw [Lib.decDigits_one (by omega)]
  rfl

set_option maxRecDepth 100000 in
set_option maxHeartbeats 2000000 in
theorem text_one (neg : Bool) (X : Value) (v : Int) (w : World) (hv0 : 0 ≤ v) (hv : v < 1000000000) (hx : OneS w X v) (hn : neg = true → v ≠ 0) :
    Calls Tryz.prog 136 #[.agg #[.bool neg, X]] w fun e w' => e = .returned (.string (intB neg v)) ∧ Below w.heap.size w w' := by
  by_cases hz : v = 0
  · subst hz
    have hng : neg = false := by cases neg; · rfl
                                 · exact absurd rfl (hn rfl)
    subst hng
    rw [show intB false 0 = ⟨#[48]⟩ from numB_zero]
    rcases hx with ⟨_, rfl⟩ | ⟨g, c, rfl, hc⟩
    · go_enter Tryz.func136, Tryz.ntmps136
      go_wp2
      go_ret
      exact ⟨rfl, (Below.refl _ _).alloc (Nat.le_refl _) _⟩
    · show Calls _ _ #[.agg #[.bool false, .slice (some ⟨g, 0, none⟩) 0 c]] w _
      go_enter Tryz.func136, Tryz.ntmps136
      go_wp2
      go_ret
      exact ⟨rfl, (Below.refl _ _).alloc (Nat.le_refl _) _⟩
  · rcases hx with ⟨h, _⟩ | ⟨g, c, rfl, hc⟩
    · exact absurd h hz
    · rw [show oneL v = 1 by unfold oneL; rw [if_neg hz]]
      have hc' := (World.cell?_alloc_lt w (.cells #[.bool neg, .slice (some ⟨g, 0, none⟩) 1 c] 177) ⟨g, 0, none⟩ (World.block_lt_of_cell? w _ hc)).trans hc
      have HDEC := Lib.hid (fun (W : World) => by
        have h := decimal_any v.toNat W (by omega)
        rw [show ((v.toNat : Nat) : Int) = v by omega] at h
        exact h)
      have hl := numB_len (n := v.toNat) (by omega)
      unfold intB
      generalize numB v.toNat = V at HDEC hl ⊢
      clear hc hn
      cases neg
      all_goals
        simp only [if_true, if_false, Bool.false_eq_true]
        go_enter Tryz.func136, Tryz.ntmps136
        go_wp2_with fail
        refine (HDEC.out _).mono ?_; rintro e w1 ⟨rfl, rfl⟩
        go_wp2
        go_loop [3, 4] (fun s i => s = .string V ∧ i = .int .i64 (-1)) (fun _ _ => 0)
        case atStart => exact ⟨rfl, rfl⟩
        case round =>
          obtain ⟨rfl, rfl⟩ := hrel
          go_wp2
          go_ret
          exact ⟨rfl, (Below.refl _ _).alloc (Nat.le_refl _) _⟩
end Go.Proofs.YtpdbebjlghihmaaGreatDoor

/- The reference's floorDiv of one word by one word (written by tools/mkHan.py). -/
namespace Go.Proofs.YtpdbebjlghihmaaGreatDoor
open Go.RowKit

theorem boxes3 (w : World) (t : TypeId) (A B C : Array Value) : let W := ((w.alloc (.cells A t)).alloc (.cells B t)).alloc (.cells C t); BlkH W w.heap.size t A ∧ BlkH W (w.heap.size + 1) t B ∧ BlkH W (w.heap.size + 1 + 1) t C ∧ Below w.heap.size w W ∧ W.heap.size = w.heap.size + 1 + 1 + 1 := by
  intro W
  refine ⟨?_, ?_, ?_, (((Below.refl _ _).alloc (Nat.le_refl _) _).alloc (by simp) _).alloc (by simp; omega) _, by simp [W]⟩
  · exact (Below.heap_alloc _ _ w.heap.size (by simp; omega)).trans ((Below.heap_alloc _ _ w.heap.size (by simp)).trans (BlkH.new w t A))
  · have h := BlkH.new (w.alloc (.cells A t)) t B
    rw [World.size_alloc] at h
    exact (Below.heap_alloc _ _ (w.heap.size + 1) (by simp)).trans h
  · have h := BlkH.new ((w.alloc (.cells A t)).alloc (.cells B t)) t C
    rw [World.size_alloc, World.size_alloc] at h
    exact h
theorem cell_boxes (w : World) (t : TypeId) (A B C : Array Value) {p : Addr} {v : Value} (h : w.cell? p = some v) : (((w.alloc (.cells A t)).alloc (.cells B t)).alloc (.cells C t)).cell? p = some v := by
  have hb := World.block_lt_of_cell? w _ h
  have h1 := (World.cell?_alloc_lt w (.cells A t) p hb).trans h
  have h2 := (World.cell?_alloc_lt _ (.cells B t) p (World.block_lt_of_cell? _ _ h1)).trans h1
  exact (World.cell?_alloc_lt _ (.cells C t) p (World.block_lt_of_cell? _ _ h2)).trans h2

theorem signed_nz (neg : Bool) (g c : Nat) (n : Int) (w : World) (hn : n ≠ 0) (hc : w.cell? ⟨g, 0, none⟩ = some (.int .i64 n)) :
    Calls Tryz.prog 168 #[.bool neg, .slice (some ⟨g, 0, none⟩) 1 c] w fun e w' => e = .returned (.agg #[.bool neg, .slice (some ⟨g, 0, none⟩) (oneL n) c]) ∧ Below w.heap.size w w' := by
  have h := signed_one neg g c n w hc
  rw [decide_eq_true hn, Bool.and_true] at h
  exact h

set_option maxRecDepth 100000 in
set_option maxHeartbeats 2000000 in
theorem floorDiv_lp (ga ca gb cb : Nat) (m d : Int) (w : World) (hm0 : 0 ≤ m) (hm2 : m < 999999999) (hd0 : 0 < d) (ha : w.cell? ⟨ga, 0, none⟩ = some (.int .i64 m)) (hb : w.cell? ⟨gb, 0, none⟩ = some (.int .i64 d)) (hlt : m < d) :
    Calls Tryz.prog 137 #[.agg #[.bool false, .slice (some ⟨ga, 0, none⟩) (oneL m) ca], .agg #[.bool false, .slice (some ⟨gb, 0, none⟩) 1 cb]] w fun e w' => ∃ X, e = .returned (.agg #[.bool false, X]) ∧ OneS w' X (0) ∧ Below w.heap.size w w' := by
  obtain ⟨h0, h1, h2, hbw, hsz⟩ := boxes3 w 177 #[.bool false, .slice (some ⟨ga, 0, none⟩) (oneL m) ca] #[.bool false, .slice (some ⟨gb, 0, none⟩) 1 cb] #[.bool false, .slice none 0 0]
  have ha3 := cell_boxes w 177 #[.bool false, .slice (some ⟨ga, 0, none⟩) (oneL m) ca] #[.bool false, .slice (some ⟨gb, 0, none⟩) 1 cb] #[.bool false, .slice none 0 0] ha
  have hb3 := cell_boxes w 177 #[.bool false, .slice (some ⟨ga, 0, none⟩) (oneL m) ca] #[.bool false, .slice (some ⟨gb, 0, none⟩) 1 cb] #[.bool false, .slice none 0 0] hb
  obtain ⟨W, hW⟩ : ∃ W, ((w.alloc (.cells #[.bool false, .slice (some ⟨ga, 0, none⟩) (oneL m) ca] 177)).alloc (.cells #[.bool false, .slice (some ⟨gb, 0, none⟩) 1 cb] 177)).alloc (.cells #[.bool false, .slice none 0 0] 177) = W := ⟨_, rfl⟩
  rw [hW] at h0 h1 h2 hbw hsz ha3 hb3
  have H0 := Lib.hid h0
  have H2 := Lib.hid h2
  have HBW := Lib.hid hbw
  have HS := Lib.hid hsz
  have HA3 := Lib.hid ha3
  have HB3 := Lib.hid hb3
  have k0 := h0.cell 0
  have k1 := h0.cell 1
  have b1 := h1.cell 1
  simp only [List.getElem?_toArray, List.getElem?_cons_succ, List.getElem?_cons_zero] at k0 k1 b1
  clear h0 h1 h2 hbw hsz ha3 hb3 ha hb
  go_enter Tryz.func137, Tryz.ntmps137
  go_wp2_with fail
  clear hW k0 k1 b1
  refine (divDigits_less ga ca gb cb m d W hm0 hd0 hlt HA3.out HB3.out).mono ?_; rintro e w1 ⟨rfl, k, rfl⟩
  have HC1 : Hid (Below W.heap.size W (W.drewN k)) := Lib.hid (below_drewN (Below.refl _ _) k)
  have g0 := H0.out.below HC1.out (by have := HS.out; omega)
  have g2 := H2.out.below HC1.out (by have := HS.out; omega)
  have k0 := g0.cell 0
  have k1 := g0.cell 1
  have j0 := g2.cell 0
  have j1 := g2.cell 1
  have jf0 := g2.frozen 0
  have jf1 := g2.frozen 1
  simp only [List.getElem?_toArray, List.getElem?_cons_succ, List.getElem?_cons_zero] at k0 k1 j0 j1
  clear g0 g2
  go_wp2_with fail
  refine (signed_none _).mono ?_; rintro e w2 ⟨rfl, hb2⟩
  clear k0 k1 j0 j1 jf0 jf1
  have HC2 : Hid (Below W.heap.size W w2) := Lib.hid (HC1.out.trans (hb2.mono HC1.out.size))
  have g0 := H0.out.below HC2.out (by have := HS.out; omega)
  have g2 := H2.out.below HC2.out (by have := HS.out; omega)
  have k0 := g0.cell 0
  have k1 := g0.cell 1
  have j0 := g2.cell 0
  have j1 := g2.cell 1
  have jf0 := g2.frozen 0
  have jf1 := g2.frozen 1
  simp only [List.getElem?_toArray, List.getElem?_cons_succ, List.getElem?_cons_zero] at k0 k1 j0 j1
  clear g0 g2
  clear hb2
  have HBW9 := Lib.hid (HBW.out.trans (HC2.out.mono HBW.out.size))
  go_wp2
  refine bodyPost_ret (v := .agg #[.bool false, .slice none 0 0]) (by simp [results, Tryz.results137, go_sem, j0, j1]) rfl ⟨_, rfl, ?_, ?_⟩
  · exact .inl ⟨rfl, rfl⟩
  · exact (HBW9.out.setCell (by simp; omega) _).setCell (by simp; omega) _

set_option maxRecDepth 100000 in
set_option maxHeartbeats 2000000 in
theorem floorDiv_mp (ga ca gb cb : Nat) (m d : Int) (w : World) (hm0 : 0 ≤ m) (hm2 : m < 999999999) (hd0 : 0 < d) (ha : w.cell? ⟨ga, 0, none⟩ = some (.int .i64 m)) (hb : w.cell? ⟨gb, 0, none⟩ = some (.int .i64 d)) (hle : d ≤ m) :
    Calls Tryz.prog 137 #[.agg #[.bool false, .slice (some ⟨ga, 0, none⟩) (oneL m) ca], .agg #[.bool false, .slice (some ⟨gb, 0, none⟩) 1 cb]] w fun e w' => ∃ X, e = .returned (.agg #[.bool false, X]) ∧ OneS w' X (m / d) ∧ Below w.heap.size w w' := by
  have HNZ : Hid (1 ≤ m / d) := Lib.hid (by have h := div_facts m d hd0 hle; rw [← h.2.2.2.2.1]; exact h.1)
  obtain ⟨h0, h1, h2, hbw, hsz⟩ := boxes3 w 177 #[.bool false, .slice (some ⟨ga, 0, none⟩) (oneL m) ca] #[.bool false, .slice (some ⟨gb, 0, none⟩) 1 cb] #[.bool false, .slice none 0 0]
  have ha3 := cell_boxes w 177 #[.bool false, .slice (some ⟨ga, 0, none⟩) (oneL m) ca] #[.bool false, .slice (some ⟨gb, 0, none⟩) 1 cb] #[.bool false, .slice none 0 0] ha
  have hb3 := cell_boxes w 177 #[.bool false, .slice (some ⟨ga, 0, none⟩) (oneL m) ca] #[.bool false, .slice (some ⟨gb, 0, none⟩) 1 cb] #[.bool false, .slice none 0 0] hb
  obtain ⟨W, hW⟩ : ∃ W, ((w.alloc (.cells #[.bool false, .slice (some ⟨ga, 0, none⟩) (oneL m) ca] 177)).alloc (.cells #[.bool false, .slice (some ⟨gb, 0, none⟩) 1 cb] 177)).alloc (.cells #[.bool false, .slice none 0 0] 177) = W := ⟨_, rfl⟩
  rw [hW] at h0 h1 h2 hbw hsz ha3 hb3
  have H0 := Lib.hid h0
  have H2 := Lib.hid h2
  have HBW := Lib.hid hbw
  have HS := Lib.hid hsz
  have HA3 := Lib.hid ha3
  have HB3 := Lib.hid hb3
  have k0 := h0.cell 0
  have k1 := h0.cell 1
  have b1 := h1.cell 1
  simp only [List.getElem?_toArray, List.getElem?_cons_succ, List.getElem?_cons_zero] at k0 k1 b1
  clear h0 h1 h2 hbw hsz ha3 hb3 ha hb
  go_enter Tryz.func137, Tryz.ntmps137
  go_wp2_with fail
  clear hW k0 k1 b1
  refine (divDigits_more ga ca gb cb m d W hd0 hle (by omega) HA3.out HB3.out).mono ?_; rintro e w1 ⟨qg, rg, rfl, hqc, hb1⟩
  have HQC := Lib.hid hqc
  have HC1 : Hid (Below W.heap.size W w1) := Lib.hid (hb1)
  have g0 := H0.out.below HC1.out (by have := HS.out; omega)
  have g2 := H2.out.below HC1.out (by have := HS.out; omega)
  have k0 := g0.cell 0
  have k1 := g0.cell 1
  have j0 := g2.cell 0
  have j1 := g2.cell 1
  have jf0 := g2.frozen 0
  have jf1 := g2.frozen 1
  simp only [List.getElem?_toArray, List.getElem?_cons_succ, List.getElem?_cons_zero] at k0 k1 j0 j1
  clear g0 g2
  clear hqc hb1
  go_wp2_with fail
  refine (signed_nz false qg 1 (m / d) _ (by have := HNZ.out; omega) HQC.out).mono ?_; rintro e w2 ⟨rfl, hb2⟩
  have HQ2 := Lib.hid ((hb2.cell (p := ⟨qg, 0, none⟩) (World.block_lt_of_cell? _ _ HQC.out)).trans HQC.out)
  clear k0 k1 j0 j1 jf0 jf1
  have HC2 : Hid (Below W.heap.size W w2) := Lib.hid (HC1.out.trans (hb2.mono HC1.out.size))
  have g0 := H0.out.below HC2.out (by have := HS.out; omega)
  have g2 := H2.out.below HC2.out (by have := HS.out; omega)
  have k0 := g0.cell 0
  have k1 := g0.cell 1
  have j0 := g2.cell 0
  have j1 := g2.cell 1
  have jf0 := g2.frozen 0
  have jf1 := g2.frozen 1
  simp only [List.getElem?_toArray, List.getElem?_cons_succ, List.getElem?_cons_zero] at k0 k1 j0 j1
  clear g0 g2
  clear hb2
  have HBW9 := Lib.hid (HBW.out.trans (HC2.out.mono HBW.out.size))
  go_wp2
  refine bodyPost_ret (v := .agg #[.bool false, .slice (some ⟨qg, 0, none⟩) (oneL (m / d)) 1]) (by simp [results, Tryz.results137, go_sem, j0, j1]) rfl ⟨_, rfl, ?_, ?_⟩
  · have hne : w.heap.size + 1 + 1 ≠ qg := fun e => by
      have h1 := HQ2.out
      rw [← e, j0] at h1
      cases h1
    exact .inr ⟨qg, 1, rfl, ((World.cell?_setCell_other _ _ _ _ (fun e => hne (congrArg Addr.block e))).trans ((World.cell?_setCell_other _ _ _ _ (fun e => hne (congrArg Addr.block e))).trans HQ2.out))⟩
  · exact (HBW9.out.setCell (by simp; omega) _).setCell (by simp; omega) _

set_option maxRecDepth 100000 in
set_option maxHeartbeats 2000000 in
theorem floorDiv_ln (ga ca gb cb : Nat) (m d : Int) (w : World) (hm0 : 0 ≤ m) (hm2 : m < 999999999) (hd0 : 0 < d) (ha : w.cell? ⟨ga, 0, none⟩ = some (.int .i64 m)) (hb : w.cell? ⟨gb, 0, none⟩ = some (.int .i64 d)) (hm1 : 0 < m) (hlt : m < d) :
    Calls Tryz.prog 137 #[.agg #[.bool true, .slice (some ⟨ga, 0, none⟩) (oneL m) ca], .agg #[.bool false, .slice (some ⟨gb, 0, none⟩) 1 cb]] w fun e w' => ∃ X, e = .returned (.agg #[.bool true, X]) ∧ OneS w' X (1) ∧ Below w.heap.size w w' := by
  have ho : oneL m = 1 := by unfold oneL; rw [if_neg (by omega)]
  have HDL := Lib.hid (fun W h1 h2 => divDigits_less ga ca gb cb m d W hm0 hd0 hlt h1 h2)
  rw [ho] at HDL ⊢
  have HNZ : Hid ((0 : Int) < 1) := Lib.hid (by omega)
  obtain ⟨h0, h1, h2, hbw, hsz⟩ := boxes3 w 177 #[.bool true, .slice (some ⟨ga, 0, none⟩) 1 ca] #[.bool false, .slice (some ⟨gb, 0, none⟩) 1 cb] #[.bool false, .slice none 0 0]
  have ha3 := cell_boxes w 177 #[.bool true, .slice (some ⟨ga, 0, none⟩) 1 ca] #[.bool false, .slice (some ⟨gb, 0, none⟩) 1 cb] #[.bool false, .slice none 0 0] ha
  have hb3 := cell_boxes w 177 #[.bool true, .slice (some ⟨ga, 0, none⟩) 1 ca] #[.bool false, .slice (some ⟨gb, 0, none⟩) 1 cb] #[.bool false, .slice none 0 0] hb
  obtain ⟨W, hW⟩ : ∃ W, ((w.alloc (.cells #[.bool true, .slice (some ⟨ga, 0, none⟩) 1 ca] 177)).alloc (.cells #[.bool false, .slice (some ⟨gb, 0, none⟩) 1 cb] 177)).alloc (.cells #[.bool false, .slice none 0 0] 177) = W := ⟨_, rfl⟩
  rw [hW] at h0 h1 h2 hbw hsz ha3 hb3
  have H0 := Lib.hid h0
  have H2 := Lib.hid h2
  have HBW := Lib.hid hbw
  have HS := Lib.hid hsz
  have HA3 := Lib.hid ha3
  have HB3 := Lib.hid hb3
  have k0 := h0.cell 0
  have k1 := h0.cell 1
  have b1 := h1.cell 1
  simp only [List.getElem?_toArray, List.getElem?_cons_succ, List.getElem?_cons_zero] at k0 k1 b1
  clear h0 h1 h2 hbw hsz ha3 hb3 ha hb
  go_enter Tryz.func137, Tryz.ntmps137
  go_wp2_with fail
  clear hW k0 k1 b1
  refine (HDL.out W HA3.out HB3.out).mono ?_; rintro e w1 ⟨rfl, k, rfl⟩
  have HC1 : Hid (Below W.heap.size W (W.drewN k)) := Lib.hid (below_drewN (Below.refl _ _) k)
  have g0 := H0.out.below HC1.out (by have := HS.out; omega)
  have g2 := H2.out.below HC1.out (by have := HS.out; omega)
  have k0 := g0.cell 0
  have k1 := g0.cell 1
  have j0 := g2.cell 0
  have j1 := g2.cell 1
  have jf0 := g2.frozen 0
  have jf1 := g2.frozen 1
  simp only [List.getElem?_toArray, List.getElem?_cons_succ, List.getElem?_cons_zero] at k0 k1 j0 j1
  clear g0 g2
  go_wp2_with fail
  refine (addDigits_none _ _ _ (cell_of_row _ _ 0 _ _ _ (heap_alloc_new (W.drewN k) _))).mono ?_; rintro e w2 ⟨ag, ac, rfl, hac, hb2⟩
  have HAC := Lib.hid hac
  clear k0 k1 j0 j1 jf0 jf1
  have HC2 : Hid (Below W.heap.size W w2) := Lib.hid ((HC1.out.alloc HC1.out.size _).trans (hb2.mono (HC1.out.alloc HC1.out.size _).size))
  have g0 := H0.out.below HC2.out (by have := HS.out; omega)
  have g2 := H2.out.below HC2.out (by have := HS.out; omega)
  have k0 := g0.cell 0
  have k1 := g0.cell 1
  have j0 := g2.cell 0
  have j1 := g2.cell 1
  have jf0 := g2.frozen 0
  have jf1 := g2.frozen 1
  simp only [List.getElem?_toArray, List.getElem?_cons_succ, List.getElem?_cons_zero] at k0 k1 j0 j1
  clear g0 g2
  clear hb2 hac
  go_wp2_with fail
  refine (signed_nz true ag ac (1) _ (by have := HNZ.out; omega) HAC.out).mono ?_; rintro e w3 ⟨rfl, hb3⟩
  have HQ3 := Lib.hid ((hb3.cell (p := ⟨ag, 0, none⟩) (World.block_lt_of_cell? _ _ HAC.out)).trans HAC.out)
  clear k0 k1 j0 j1 jf0 jf1
  have HC3 : Hid (Below W.heap.size W w3) := Lib.hid (HC2.out.trans (hb3.mono HC2.out.size))
  have g0 := H0.out.below HC3.out (by have := HS.out; omega)
  have g2 := H2.out.below HC3.out (by have := HS.out; omega)
  have k0 := g0.cell 0
  have k1 := g0.cell 1
  have j0 := g2.cell 0
  have j1 := g2.cell 1
  have jf0 := g2.frozen 0
  have jf1 := g2.frozen 1
  simp only [List.getElem?_toArray, List.getElem?_cons_succ, List.getElem?_cons_zero] at k0 k1 j0 j1
  clear g0 g2
  clear hb3
  have HBW9 := Lib.hid (HBW.out.trans (HC3.out.mono HBW.out.size))
  go_wp2
  refine bodyPost_ret (v := .agg #[.bool true, .slice (some ⟨ag, 0, none⟩) (oneL 1) ac]) (by simp [results, Tryz.results137, go_sem, j0, j1]) rfl ⟨_, rfl, ?_, ?_⟩
  · have hne : w.heap.size + 1 + 1 ≠ ag := fun e => by
      have h1 := HQ3.out
      rw [← e, j0] at h1
      cases h1
    exact .inr ⟨ag, ac, rfl, ((World.cell?_setCell_other _ _ _ _ (fun e => hne (congrArg Addr.block e))).trans ((World.cell?_setCell_other _ _ _ _ (fun e => hne (congrArg Addr.block e))).trans HQ3.out))⟩
  · exact (HBW9.out.setCell (by simp; omega) _).setCell (by simp; omega) _

set_option maxRecDepth 100000 in
set_option maxHeartbeats 2000000 in
theorem floorDiv_mz (ga ca gb cb : Nat) (m d : Int) (w : World) (hm0 : 0 ≤ m) (hm2 : m < 999999999) (hd0 : 0 < d) (ha : w.cell? ⟨ga, 0, none⟩ = some (.int .i64 m)) (hb : w.cell? ⟨gb, 0, none⟩ = some (.int .i64 d)) (hle : d ≤ m) (hr : m % d = 0) :
    Calls Tryz.prog 137 #[.agg #[.bool true, .slice (some ⟨ga, 0, none⟩) (oneL m) ca], .agg #[.bool false, .slice (some ⟨gb, 0, none⟩) 1 cb]] w fun e w' => ∃ X, e = .returned (.agg #[.bool true, X]) ∧ OneS w' X (m / d) ∧ Below w.heap.size w w' := by
  have HNZ : Hid (1 ≤ m / d) := Lib.hid (by have h := div_facts m d hd0 hle; rw [← h.2.2.2.2.1]; exact h.1)
  have HUB : Hid (m / d < 999999999) := Lib.hid (by have h := div_facts m d hd0 hle; rw [← h.2.2.2.2.1]; omega)
  have HDM := Lib.hid (fun W h1 h2 => divDigits_more ga ca gb cb m d W hd0 hle (by omega) h1 h2)
  rw [show oneL (m % d) = 0 by unfold oneL; rw [if_pos hr]] at HDM
  obtain ⟨h0, h1, h2, hbw, hsz⟩ := boxes3 w 177 #[.bool true, .slice (some ⟨ga, 0, none⟩) (oneL m) ca] #[.bool false, .slice (some ⟨gb, 0, none⟩) 1 cb] #[.bool false, .slice none 0 0]
  have ha3 := cell_boxes w 177 #[.bool true, .slice (some ⟨ga, 0, none⟩) (oneL m) ca] #[.bool false, .slice (some ⟨gb, 0, none⟩) 1 cb] #[.bool false, .slice none 0 0] ha
  have hb3 := cell_boxes w 177 #[.bool true, .slice (some ⟨ga, 0, none⟩) (oneL m) ca] #[.bool false, .slice (some ⟨gb, 0, none⟩) 1 cb] #[.bool false, .slice none 0 0] hb
  obtain ⟨W, hW⟩ : ∃ W, ((w.alloc (.cells #[.bool true, .slice (some ⟨ga, 0, none⟩) (oneL m) ca] 177)).alloc (.cells #[.bool false, .slice (some ⟨gb, 0, none⟩) 1 cb] 177)).alloc (.cells #[.bool false, .slice none 0 0] 177) = W := ⟨_, rfl⟩
  rw [hW] at h0 h1 h2 hbw hsz ha3 hb3
  have H0 := Lib.hid h0
  have H2 := Lib.hid h2
  have HBW := Lib.hid hbw
  have HS := Lib.hid hsz
  have HA3 := Lib.hid ha3
  have HB3 := Lib.hid hb3
  have k0 := h0.cell 0
  have k1 := h0.cell 1
  have b1 := h1.cell 1
  simp only [List.getElem?_toArray, List.getElem?_cons_succ, List.getElem?_cons_zero] at k0 k1 b1
  clear h0 h1 h2 hbw hsz ha3 hb3 ha hb
  go_enter Tryz.func137, Tryz.ntmps137
  go_wp2_with fail
  clear hW k0 k1 b1
  refine (HDM.out W HA3.out HB3.out).mono ?_; rintro e w1 ⟨qg, rg, rfl, hqc, hb1⟩
  have HQC := Lib.hid hqc
  have HC1 : Hid (Below W.heap.size W w1) := Lib.hid (hb1)
  have g0 := H0.out.below HC1.out (by have := HS.out; omega)
  have g2 := H2.out.below HC1.out (by have := HS.out; omega)
  have k0 := g0.cell 0
  have k1 := g0.cell 1
  have j0 := g2.cell 0
  have j1 := g2.cell 1
  have jf0 := g2.frozen 0
  have jf1 := g2.frozen 1
  simp only [List.getElem?_toArray, List.getElem?_cons_succ, List.getElem?_cons_zero] at k0 k1 j0 j1
  clear g0 g2
  clear hqc hb1
  go_wp2_with fail
  refine (signed_nz true qg 1 (m / d) _ (by have := HNZ.out; omega) HQC.out).mono ?_; rintro e w2 ⟨rfl, hb2⟩
  have HQ2 := Lib.hid ((hb2.cell (p := ⟨qg, 0, none⟩) (World.block_lt_of_cell? _ _ HQC.out)).trans HQC.out)
  clear k0 k1 j0 j1 jf0 jf1
  have HC2 : Hid (Below W.heap.size W w2) := Lib.hid (HC1.out.trans (hb2.mono HC1.out.size))
  have g0 := H0.out.below HC2.out (by have := HS.out; omega)
  have g2 := H2.out.below HC2.out (by have := HS.out; omega)
  have k0 := g0.cell 0
  have k1 := g0.cell 1
  have j0 := g2.cell 0
  have j1 := g2.cell 1
  have jf0 := g2.frozen 0
  have jf1 := g2.frozen 1
  simp only [List.getElem?_toArray, List.getElem?_cons_succ, List.getElem?_cons_zero] at k0 k1 j0 j1
  clear g0 g2
  clear hb2
  have HBW9 := Lib.hid (HBW.out.trans (HC2.out.mono HBW.out.size))
  go_wp2
  refine bodyPost_ret (v := .agg #[.bool true, .slice (some ⟨qg, 0, none⟩) (oneL (m / d)) 1]) (by simp [results, Tryz.results137, go_sem, j0, j1]) rfl ⟨_, rfl, ?_, ?_⟩
  · have hne : w.heap.size + 1 + 1 ≠ qg := fun e => by
      have h1 := HQ2.out
      rw [← e, j0] at h1
      cases h1
    exact .inr ⟨qg, 1, rfl, ((World.cell?_setCell_other _ _ _ _ (fun e => hne (congrArg Addr.block e))).trans ((World.cell?_setCell_other _ _ _ _ (fun e => hne (congrArg Addr.block e))).trans HQ2.out))⟩
  · exact (HBW9.out.setCell (by simp; omega) _).setCell (by simp; omega) _

set_option maxRecDepth 100000 in
set_option maxHeartbeats 2000000 in
theorem floorDiv_mu (ga ca gb cb : Nat) (m d : Int) (w : World) (hm0 : 0 ≤ m) (hm2 : m < 999999999) (hd0 : 0 < d) (ha : w.cell? ⟨ga, 0, none⟩ = some (.int .i64 m)) (hb : w.cell? ⟨gb, 0, none⟩ = some (.int .i64 d)) (hle : d ≤ m) (hr : m % d ≠ 0) :
    Calls Tryz.prog 137 #[.agg #[.bool true, .slice (some ⟨ga, 0, none⟩) (oneL m) ca], .agg #[.bool false, .slice (some ⟨gb, 0, none⟩) 1 cb]] w fun e w' => ∃ X, e = .returned (.agg #[.bool true, X]) ∧ OneS w' X (m / d + 1) ∧ Below w.heap.size w w' := by
  have HNZ : Hid (1 ≤ m / d) := Lib.hid (by have h := div_facts m d hd0 hle; rw [← h.2.2.2.2.1]; exact h.1)
  have HUB : Hid (m / d < 999999999) := Lib.hid (by have h := div_facts m d hd0 hle; rw [← h.2.2.2.2.1]; omega)
  have HDM := Lib.hid (fun W h1 h2 => divDigits_more ga ca gb cb m d W hd0 hle (by omega) h1 h2)
  rw [show oneL (m % d) = 1 by unfold oneL; rw [if_neg hr]] at HDM
  obtain ⟨h0, h1, h2, hbw, hsz⟩ := boxes3 w 177 #[.bool true, .slice (some ⟨ga, 0, none⟩) (oneL m) ca] #[.bool false, .slice (some ⟨gb, 0, none⟩) 1 cb] #[.bool false, .slice none 0 0]
  have ha3 := cell_boxes w 177 #[.bool true, .slice (some ⟨ga, 0, none⟩) (oneL m) ca] #[.bool false, .slice (some ⟨gb, 0, none⟩) 1 cb] #[.bool false, .slice none 0 0] ha
  have hb3 := cell_boxes w 177 #[.bool true, .slice (some ⟨ga, 0, none⟩) (oneL m) ca] #[.bool false, .slice (some ⟨gb, 0, none⟩) 1 cb] #[.bool false, .slice none 0 0] hb
  obtain ⟨W, hW⟩ : ∃ W, ((w.alloc (.cells #[.bool true, .slice (some ⟨ga, 0, none⟩) (oneL m) ca] 177)).alloc (.cells #[.bool false, .slice (some ⟨gb, 0, none⟩) 1 cb] 177)).alloc (.cells #[.bool false, .slice none 0 0] 177) = W := ⟨_, rfl⟩
  rw [hW] at h0 h1 h2 hbw hsz ha3 hb3
  have H0 := Lib.hid h0
  have H2 := Lib.hid h2
  have HBW := Lib.hid hbw
  have HS := Lib.hid hsz
  have HA3 := Lib.hid ha3
  have HB3 := Lib.hid hb3
  have k0 := h0.cell 0
  have k1 := h0.cell 1
  have b1 := h1.cell 1
  simp only [List.getElem?_toArray, List.getElem?_cons_succ, List.getElem?_cons_zero] at k0 k1 b1
  clear h0 h1 h2 hbw hsz ha3 hb3 ha hb
  go_enter Tryz.func137, Tryz.ntmps137
  go_wp2_with fail
  clear hW k0 k1 b1
  refine (HDM.out W HA3.out HB3.out).mono ?_; rintro e w1 ⟨qg, rg, rfl, hqc, hb1⟩
  have HQC := Lib.hid hqc
  have HC1 : Hid (Below W.heap.size W w1) := Lib.hid (hb1)
  have g0 := H0.out.below HC1.out (by have := HS.out; omega)
  have g2 := H2.out.below HC1.out (by have := HS.out; omega)
  have k0 := g0.cell 0
  have k1 := g0.cell 1
  have j0 := g2.cell 0
  have j1 := g2.cell 1
  have jf0 := g2.frozen 0
  have jf1 := g2.frozen 1
  simp only [List.getElem?_toArray, List.getElem?_cons_succ, List.getElem?_cons_zero] at k0 k1 j0 j1
  clear g0 g2
  clear hqc hb1
  go_wp2_with fail
  refine (addDigits_one qg 1 _ _ (m / d) _ (by have := HNZ.out; omega) (by have := HUB.out; omega) ((World.cell?_alloc_lt _ _ _ (World.block_lt_of_cell? _ _ HQC.out)).trans HQC.out) (cell_of_row _ _ 0 _ _ _ (heap_alloc_new w1 _))).mono ?_; rintro e w2 ⟨ag, ac, rfl, hac, hb2⟩
  have HAC := Lib.hid hac
  clear k0 k1 j0 j1 jf0 jf1
  have HC2 : Hid (Below W.heap.size W w2) := Lib.hid ((HC1.out.alloc HC1.out.size _).trans (hb2.mono (HC1.out.alloc HC1.out.size _).size))
  have g0 := H0.out.below HC2.out (by have := HS.out; omega)
  have g2 := H2.out.below HC2.out (by have := HS.out; omega)
  have k0 := g0.cell 0
  have k1 := g0.cell 1
  have j0 := g2.cell 0
  have j1 := g2.cell 1
  have jf0 := g2.frozen 0
  have jf1 := g2.frozen 1
  simp only [List.getElem?_toArray, List.getElem?_cons_succ, List.getElem?_cons_zero] at k0 k1 j0 j1
  clear g0 g2
  clear hb2 hac
  go_wp2_with fail
  refine (signed_nz true ag ac (m / d + 1) _ (by have := HNZ.out; omega) HAC.out).mono ?_; rintro e w3 ⟨rfl, hb3⟩
  have HQ3 := Lib.hid ((hb3.cell (p := ⟨ag, 0, none⟩) (World.block_lt_of_cell? _ _ HAC.out)).trans HAC.out)
  clear k0 k1 j0 j1 jf0 jf1
  have HC3 : Hid (Below W.heap.size W w3) := Lib.hid (HC2.out.trans (hb3.mono HC2.out.size))
  have g0 := H0.out.below HC3.out (by have := HS.out; omega)
  have g2 := H2.out.below HC3.out (by have := HS.out; omega)
  have k0 := g0.cell 0
  have k1 := g0.cell 1
  have j0 := g2.cell 0
  have j1 := g2.cell 1
  have jf0 := g2.frozen 0
  have jf1 := g2.frozen 1
  simp only [List.getElem?_toArray, List.getElem?_cons_succ, List.getElem?_cons_zero] at k0 k1 j0 j1
  clear g0 g2
  clear hb3
  have HBW9 := Lib.hid (HBW.out.trans (HC3.out.mono HBW.out.size))
  go_wp2
  refine bodyPost_ret (v := .agg #[.bool true, .slice (some ⟨ag, 0, none⟩) (oneL (m / d + 1)) ac]) (by simp [results, Tryz.results137, go_sem, j0, j1]) rfl ⟨_, rfl, ?_, ?_⟩
  · have hne : w.heap.size + 1 + 1 ≠ ag := fun e => by
      have h1 := HQ3.out
      rw [← e, j0] at h1
      cases h1
    exact .inr ⟨ag, ac, rfl, ((World.cell?_setCell_other _ _ _ _ (fun e => hne (congrArg Addr.block e))).trans ((World.cell?_setCell_other _ _ _ _ (fun e => hne (congrArg Addr.block e))).trans HQ3.out))⟩
  · exact (HBW9.out.setCell (by simp; omega) _).setCell (by simp; omega) _
end Go.Proofs.YtpdbebjlghihmaaGreatDoor

/- The reference's floorDiv of one word by one word: its ways joined. -/
namespace Go.Proofs.YtpdbebjlghihmaaGreatDoor
open Go.RowKit

theorem neg_ediv (m d : Int) (hd : 0 < d) : (-m) / d = -(m / d + (if m % d = 0 then 0 else 1)) := by
  have h1 := Int.mul_ediv_add_emod m d
  have h2 := Int.emod_nonneg m (show d ≠ 0 by omega)
  have h3 := Int.emod_lt_of_pos m hd
  split
  · rename_i h
    rw [h] at h1
    have : -m = d * (-(m / d)) := by rw [Int.mul_neg]; omega
    rw [this, Int.mul_ediv_cancel_left _ (by omega)]
    omega
  · rename_i h
    have h4 : -m = (d - m % d) + d * (-(m / d + 1)) := by rw [Int.mul_neg, Int.mul_add]; omega
    rw [h4, Int.add_mul_ediv_left _ _ (by omega), Int.ediv_eq_zero_of_lt (by omega) (by omega)]
    omega

theorem floorDiv_any (ga ca gb cb : Nat) (x d : Int) (w : World) (h1 : -999999999 < x) (h2 : x < 999999999) (hd0 : 0 < d) (ha : w.cell? ⟨ga, 0, none⟩ = some (.int .i64 (x.natAbs : Int))) (hb : w.cell? ⟨gb, 0, none⟩ = some (.int .i64 d)) :
    Calls Tryz.prog 137 #[.agg #[.bool (decide (x < 0)), .slice (some ⟨ga, 0, none⟩) (oneL (x.natAbs : Int)) ca], .agg #[.bool false, .slice (some ⟨gb, 0, none⟩) 1 cb]] w fun e w' => ∃ X, e = .returned (.agg #[.bool (decide (x < 0)), X]) ∧ OneS w' X ((x / d).natAbs : Int) ∧ Below w.heap.size w w' := by
  by_cases hx : x < 0
  · rw [decide_eq_true hx]
    have hn := neg_ediv (x.natAbs : Int) d hd0
    rw [show -(x.natAbs : Int) = x by omega] at hn
    have hm0 : 0 < (x.natAbs : Int) := by omega
    have hm2 : (x.natAbs : Int) < 999999999 := by omega
    generalize (x.natAbs : Int) = m at *
    have hq0 : 0 ≤ m / d := Int.ediv_nonneg (by omega) (by omega)
    by_cases hlt : m < d
    · have e1 : m / d = 0 := Int.ediv_eq_zero_of_lt (by omega) hlt
      have e2 : m % d = m := Int.emod_eq_of_lt (by omega) hlt
      rw [e1, e2, if_neg (by omega)] at hn
      rw [show ((x / d).natAbs : Int) = 1 by omega]
      exact floorDiv_ln ga ca gb cb m d w (by omega) hm2 hd0 ha hb hm0 hlt
    · by_cases hr : m % d = 0
      · rw [if_pos hr] at hn
        rw [show ((x / d).natAbs : Int) = m / d by omega]
        exact floorDiv_mz ga ca gb cb m d w (by omega) hm2 hd0 ha hb (by omega) hr
      · rw [if_neg hr] at hn
        rw [show ((x / d).natAbs : Int) = m / d + 1 by omega]
        exact floorDiv_mu ga ca gb cb m d w (by omega) hm2 hd0 ha hb (by omega) hr
  · rw [decide_eq_false hx]
    have hq0 : 0 ≤ x / d := Int.ediv_nonneg (by omega) (by omega)
    rw [show (x.natAbs : Int) = x by omega] at ha ⊢
    rw [show ((x / d).natAbs : Int) = x / d by omega]
    by_cases hlt : x < d
    · rw [Int.ediv_eq_zero_of_lt (by omega) hlt]
      exact floorDiv_lp ga ca gb cb x d w (by omega) (by omega) hd0 ha hb hlt
    · exact floorDiv_mp ga ca gb cb x d w (by omega) (by omega) hd0 ha hb (by omega)

/-- What floorDiv and text leave together: the numeral of the floor. -/
theorem text_floor (x d : Int) (hd : 0 < d) : intB (decide (x < 0)) ((x / d).natAbs : Int) = ratB (x / d) 1 := by
  unfold intB ratB
  rw [if_neg (show ¬ 1 < 1 by omega), if_neg (show ¬ 1 < 1 by omega), show (((x / d).natAbs : Int)).toNat = (x / d).natAbs by omega]
  by_cases hx : x < 0
  · have : x / d < 0 := Int.ediv_neg_of_neg_of_pos hx hd
    rw [if_pos (by simpa using hx), if_pos this]
  · have : ¬ x / d < 0 := by have := Int.ediv_nonneg (show 0 ≤ x by omega) (show 0 ≤ d by omega); omega
    rw [if_neg (by simpa using hx), if_neg this]
end Go.Proofs.YtpdbebjlghihmaaGreatDoor

/- The reference's ToInt of a small whole number. -/
namespace Go.Proofs.YtpdbebjlghihmaaGreatDoor
open Go.RowKit

set_option maxHeartbeats 1000000 in
theorem refWhole_any (l : List UInt8) (w : World) (hl : l.length ≤ 1000000) :
    Calls Tryz.prog 133 #[.string (bytesL l)] w fun e w' => e = .returned (.bool (decide (slashAt l = l.length))) ∧ w = w' := by
  have K := Lib.hid (fun W => slash_any l W hl)
  have hsz := bytesL_size l
  have hle := slashAt_le l
  generalize bytesL l = S at K hsz ⊢
  have hb : (((slashAt l : Nat) : Int) == (l.length : Int)) = decide (slashAt l = l.length) := by
    by_cases h : slashAt l = l.length
    · rw [decide_eq_true h, h]; simp
    · rw [decide_eq_false h, beq_eq_false_iff_ne]; omega
  generalize slashAt l = k at *
  go_enter Tryz.func133, Tryz.ntmps133
  go_wp2_with fail
  refine (K.out _).mono ?_; rintro e w1 ⟨rfl, rfl⟩
  go_wp2
  go_ret
  exact ⟨by first | rfl | rw [← hb]; rfl, rfl⟩

/-- parse of the text of a whole number of at most nine digits. -/
theorem parse_whole (p : Int) (w : World) (h1 : -1000000000 < p) (h2 : p < 1000000000) :
    Calls Tryz.prog 134 #[.string (ratB p 1)] w fun e w' => ∃ g c, e = .returned (.agg #[.bool (decide (p < 0)), .slice (some ⟨g, 0, none⟩) (oneL (p.natAbs : Int)) c]) ∧ w'.cell? ⟨g, 0, none⟩ = some (.int .i64 (p.natAbs : Int)) ∧ Below w.heap.size w w' := by
  have la := dec_len (k := 8) (n := p.natAbs) (by omega)
  have da := dec_digit p.natAbs
  have va := valD_dec p.natAbs
  rw [ratB_bytes]
  have hrl : ratL p 1 = if p < 0 then 45 :: Lib.decDigits p.natAbs else Lib.decDigits p.natAbs := by
    unfold ratL bodyL
    rw [if_neg (show ¬ 1 < 1 by omega), List.append_nil]
  generalize Lib.decDigits p.natAbs = a at *
  have hhead : ∃ c l, a = c :: l ∧ c ≠ 45 := by
    cases a with
    | nil => simp at la
    | cons c l => exact ⟨c, l, rfl, fun e => by have := da c (List.mem_cons_self ..); subst e; simp at this⟩
  obtain ⟨c, l, hB, hc⟩ := hhead
  have hS : ∃ c0 l0, ratL p 1 = c0 :: l0 ∧ ((c0.toNat : Int) == 45) = decide (p < 0) ∧ (ratL p 1).length ≤ a.length + 1 := by
    rw [hrl]
    by_cases hp : p < 0
    · rw [if_pos hp, decide_eq_true hp]; exact ⟨45, a, rfl, rfl, by simp⟩
    · rw [if_neg hp, decide_eq_false hp, hB]
      refine ⟨c, l, rfl, ?_, by simp⟩
      rw [beq_eq_false_iff_ne]
      intro e
      exact hc (UInt8.toNat_inj.1 (show c.toNat = (45 : UInt8).toNat by have h47 : (45 : UInt8).toNat = 45 := rfl; omega))
  obtain ⟨c0, l0, hS0, hc0, hSl⟩ := hS
  have hTT : (if decide (p < 0) = true then (bytesL (ratL p 1)).extract 1 (bytesL (ratL p 1)).size else bytesL (ratL p 1)) = bytesL a := by
    rw [hrl]
    by_cases hp : p < 0
    · rw [if_pos (by simpa using hp), if_pos hp, bytesL_extract, bytesL_size]; simp
    · rw [if_neg (by simpa using hp), if_neg hp]
  have hres := parse_gen (bytesL (ratL p 1)) (bytesL a) (decide (p < 0)) (p.natAbs : Int) c0 w
    (by rw [bytesL_size]; omega) (by rw [bytesL_size, hS0]; simp)
    (fun h => by rw [bytesL_get _ _ _ (by rw [hS0]; simp)]; simp [hS0]) hc0 hTT (by rw [bytesL_size]; omega)
    (fun W => by have := value_any a W (by omega) da; rw [va] at this; exact this)
  refine hres.mono ?_
  rintro e w' ⟨g, c, he, hcell, hb⟩
  refine ⟨g, c, ?_, hcell, hb⟩
  rw [he]
  by_cases hp : p < 0
  · rw [decide_eq_true hp, decide_eq_true (show (p.natAbs : Int) ≠ 0 by omega)]; rfl
  · rw [decide_eq_false hp]; rfl

theorem slash_whole (p : Int) : slashAt (ratL p 1) = (ratL p 1).length := by
  apply slashAt_none
  unfold ratL bodyL
  rw [if_neg (show ¬ 1 < 1 by omega), List.append_nil]
  intro c hc e
  have hd : ∀ x ∈ Lib.decDigits p.natAbs, x ≠ 47 := fun x hx h => by have := dec_digit _ x hx; subst h; simp at this
  split at hc
  · rcases List.mem_cons.1 hc with h | h
    · subst h; simp at e
    · exact hd c h e
  · exact hd c hc e
theorem len_whole (p : Int) (h1 : -1000000000 < p) (h2 : p < 1000000000) : (ratL p 1).length ≤ 10 := by
  have la := dec_len (k := 8) (n := p.natAbs) (by omega)
  unfold ratL bodyL
  rw [if_neg (show ¬ 1 < 1 by omega), List.append_nil]
  split
  · simp; omega
  · omega
end Go.Proofs.YtpdbebjlghihmaaGreatDoor

/- The reference's ToInt of a small whole number. -/
namespace Go.Proofs.YtpdbebjlghihmaaGreatDoor
open Go.RowKit

set_option maxRecDepth 100000 in
set_option maxHeartbeats 2000000 in
theorem toInt_gen (S : ByteArray) (nb : Bool) (m : Int) (w : World) (hs : S.size ≤ 20) (hm0 : 0 ≤ m) (hm : m < 1000000000) (hn : nb = true → 0 < m)
    (kW : ∀ W, Calls Tryz.prog 133 #[.string S] W fun e w' => e = .returned (.bool true) ∧ W = w')
    (kP : ∀ W, Calls Tryz.prog 134 #[.string S] W fun e w' => ∃ g c, e = .returned (.agg #[.bool nb, .slice (some ⟨g, 0, none⟩) (oneL m) c]) ∧ w'.cell? ⟨g, 0, none⟩ = some (.int .i64 m) ∧ Below W.heap.size W w') :
    Calls Tryz.prog 89 #[.string S] w fun e w' => e = .returned (.tuple #[.int .i64 (if nb = true then -m else m), .bool true]) ∧ Below w.heap.size w w' := by
  have KW := Lib.hid kW
  have KP := Lib.hid kP
  clear kW kP
  by_cases hz : m = 0
  · subst hz
    have hng : nb = false := by cases nb; · rfl
                                · exact absurd (hn rfl) (by omega)
    subst hng
    rw [show oneL 0 = 0 from rfl] at KP
    clear hn
    simp only [if_false, Bool.false_eq_true]
    go_enter Tryz.func89, Tryz.ntmps89
    go_wp2_with fail
    refine (KW.out _).mono ?_; rintro e w1 ⟨rfl, rfl⟩
    go_wp2_with fail
    refine (KP.out _).mono ?_; rintro e w2 ⟨g, c, rfl, hc, hb⟩
    have HB := Lib.hid hb
    clear hc hb
    go_wp2
    go_loop [5, 6] (fun o i => o = .int .i64 0 ∧ i = .int .i64 (-1)) (fun _ _ => 0)
    case atStart => exact ⟨rfl, rfl⟩
    case round =>
      obtain ⟨rfl, rfl⟩ := hrel
      go_wp2
      go_ret2
      exact ⟨rfl, HB.out.alloc HB.out.size _⟩
  · rw [show oneL m = 1 by unfold oneL; rw [if_neg hz]] at KP
    have hm1 : 0 < m := by omega
    cases nb
    · simp only [if_true, if_false, Bool.false_eq_true]
      go_enter Tryz.func89, Tryz.ntmps89
      go_wp2_with fail
      refine (KW.out _).mono ?_; rintro e w1 ⟨rfl, rfl⟩
      go_wp2_with fail
      refine (KP.out _).mono ?_; rintro e w2 ⟨g, c, rfl, hc, hb⟩
      have HB := Lib.hid hb
      have hc3 := fun A => (World.cell?_alloc_lt w2 (.cells A 177) ⟨g, 0, none⟩ (World.block_lt_of_cell? _ _ hc)).trans hc
      clear hc hb
      go_wp2
      go_loop [5, 6, 7] (fun o i _ => (o = .int .i64 0 ∧ i = .int .i64 0) ∨ (o = .int .i64 (m) ∧ i = .int .i64 (-1))) (fun _ i _ => (intOf i + 1).toNat)
      case atStart => exact .inl ⟨rfl, rfl⟩
      case round =>
        rcases hrel with ⟨rfl, rfl⟩ | ⟨rfl, rfl⟩
        · go_wp2
          go_round
          case rel => exact .inr ⟨by first | rfl | go_num, rfl⟩
          case measure => simp [intOf]
        · go_wp2
          go_ret2
          exact ⟨rfl, HB.out.alloc HB.out.size _⟩
    · simp only [if_true, if_false, Bool.false_eq_true]
      go_enter Tryz.func89, Tryz.ntmps89
      go_wp2_with fail
      refine (KW.out _).mono ?_; rintro e w1 ⟨rfl, rfl⟩
      go_wp2_with fail
      refine (KP.out _).mono ?_; rintro e w2 ⟨g, c, rfl, hc, hb⟩
      have HB := Lib.hid hb
      have hc3 := fun A => (World.cell?_alloc_lt w2 (.cells A 177) ⟨g, 0, none⟩ (World.block_lt_of_cell? _ _ hc)).trans hc
      clear hc hb
      go_wp2
      go_loop [5, 6, 7] (fun o i _ => (o = .int .i64 0 ∧ i = .int .i64 0) ∨ (o = .int .i64 (-m) ∧ i = .int .i64 (-1))) (fun _ i _ => (intOf i + 1).toNat)
      case atStart => exact .inl ⟨rfl, rfl⟩
      case round =>
        rcases hrel with ⟨rfl, rfl⟩ | ⟨rfl, rfl⟩
        · go_wp2
          go_round
          case rel => exact .inr ⟨by first | rfl | go_num, rfl⟩
          case measure => simp [intOf]
        · go_wp2
          go_ret2
          exact ⟨rfl, HB.out.alloc HB.out.size _⟩
end Go.Proofs.YtpdbebjlghihmaaGreatDoor
