/- Merged: ForM FmtM FmtA FmtT FrmA FrmB FrmC FrmD FrmE. -/
import Derived.KernelRfl
import Derived.Test.YtbckfkopdojggaaGreatDoorMgB
import Derived.Laws.MakeOwn
import Derived.Laws.CopyOwn
import Derived.Deep.RegionWith
import Derived.Deep.RegionHeld3
import Derived.Below
import Derived.Deep.Draws
import Derived.Deep.AppendLies
import Derived.StillTailTactics
import Derived.OwnWalk
import Derived.Test.YtbckfkopdojggaaGreatDoorMgA
import Derived.BigQuiet
import Derived.Deep.QuietTactic
import Derived.IntWalk
import Derived.Outline
import Derived.Deep.RegionLaw
/- Formats as mathematics: strokes given, points against net scores, matches. -/
set_option linter.unusedVariables false
set_option linter.unusedSimpArgs false
namespace ForMath

/-- The strokes given on n holes with these stroke indices. -/
def given (n : Nat) (h : Int) (idx : List Int) : List Int := idx.map fun i => h / (n : Int) + (if i ≤ h % (n : Int) then 1 else 0)
theorem given_raise (n : Nat) (hn : 0 < n) (h r : Int) (idx : List Int) : given n (h + r * n) idx = (given n h idx).map (· + r) := by
  have hn' : (n : Int) ≠ 0 := by omega
  unfold given
  rw [List.map_map]
  apply List.map_congr_left
  intro i _
  simp only [Function.comp]
  rw [Int.add_mul_ediv_right _ _ hn', Int.add_mul_emod_self_right]
  split <;> omega

def sumI (l : List Int) : Int := l.foldr (· + ·) 0
theorem sumI_cons (x : Int) (l : List Int) : sumI (x :: l) = x + sumI l := rfl

def pts (par net : Int) : Int := max 0 (2 + par - net)
/-- Where all points are above 0, points and net strokes of a card add up to 2 and the par for each hole. -/
theorem pts_sum : ∀ (par net : List Int), par.length = net.length → (∀ x ∈ par.zip net, 0 < pts x.1 x.2) → sumI ((par.zip net).map fun x => pts x.1 x.2) = 2 * (par.length : Int) + sumI par - sumI net
  | [], [], _, _ => rfl
  | p :: par, m :: net, hl, h => by
    have h1 := h (p, m) (by simp)
    have ih := pts_sum par net (by simpa using hl) (fun x hx => h x (by simp only [List.zip_cons_cons]; exact List.mem_cons_of_mem _ hx))
    simp only [List.zip_cons_cons, List.map_cons, sumI_cons, List.length_cons] at ih ⊢
    rw [ih]
    simp only [pts] at h1 ⊢
    omega
theorem pts_differ (par a b : List Int) (ha : par.length = a.length) (hb : par.length = b.length) (pa : ∀ x ∈ par.zip a, 0 < pts x.1 x.2) (pb : ∀ x ∈ par.zip b, 0 < pts x.1 x.2) :
    sumI ((par.zip a).map fun x => pts x.1 x.2) - sumI ((par.zip b).map fun x => pts x.1 x.2) = sumI b - sumI a := by
  rw [pts_sum par a ha pa, pts_sum par b hb pb]; omega

/-- Net strokes of a hole: m is 0 if it counts, 1 for 'x', 2 for '-'. -/
structure Nt where
  m : Nat
  s : Int
deriving DecidableEq, Inhabited

def res (a b : Nt) : Int :=
  if a.m = 0 ∧ b.m = 0 then (if a.s < b.s then 1 else if b.s < a.s then -1 else 0) else if a.m = 0 then 1 else if b.m = 0 then -1 else 0
def overB (u : Int) (left : Nat) : Bool := decide ((left : Int) < u) || decide ((left : Int) < -u) || left == 0
/-- The states of a match from Up on, with the holes that are still to come. -/
def states : Int → List Nt → List Nt → List (Int × Nat × Bool)
  | u, a :: ax, b :: bs =>
    if a.m = 2 ∨ b.m = 2 then [] else
      (u + res a b, ax.length, overB (u + res a b) ax.length) :: if overB (u + res a b) ax.length = true then [] else states (u + res a b) ax bs
  | _, _, _ => []

/-- Alike for a match: the same marks, and where both count the same difference. -/
def Like (a b a' b' : Nt) : Prop := a.m = a'.m ∧ b.m = b'.m ∧ (a.m = 0 → b.m = 0 → a.s - b.s = a'.s - b'.s)
theorem res_like {a b a' b' : Nt} (h : Like a b a' b') : res a b = res a' b' := by
  obtain ⟨h1, h2, h3⟩ := h
  unfold res
  rw [← h1, ← h2]
  by_cases ha : a.m = 0
  · by_cases hb : b.m = 0
    · have := h3 ha hb
      simp only [ha, hb, and_self, if_true]
      repeat' split
      all_goals omega
    · simp only [ha, hb, and_false, if_false, if_true]
  · simp only [ha, false_and, if_false]
inductive Likes : List Nt → List Nt → List Nt → List Nt → Prop
  | nil : Likes [] [] [] []
  | cons {a b a' b' ax bs ax' bs'} (h : Like a b a' b') (t : Likes ax bs ax' bs') : Likes (a :: ax) (b :: bs) (a' :: ax') (b' :: bs')
theorem Likes.len {a b a' b' : List Nt} (h : Likes a b a' b') : a.length = a'.length := by
  induction h with
  | nil => rfl
  | cons _ _ ih => simp [ih]
theorem states_like {ax bs ax' bs' : List Nt} (h : Likes ax bs ax' bs') : ∀ u : Int, states u ax bs = states u ax' bs' := by
  induction h with
  | nil => intro u; rfl
  | cons h t ih =>
    intro u
    unfold states
    rw [← h.1, ← h.2.1, ← res_like h, ← t.len]
    split
    · rfl
    · split
      · rfl
      · rw [ih]

/-- A side that is at no hole worse: where it is not played, the other one is not, either. -/
def Better (a c : Nt) : Prop := (a.m = 2 → c.m = 2) ∧ (c.m = 0 → a.m = 0 ∧ a.s ≤ c.s)
theorem res_better {a c b : Nt} (h : Better a c) : res c b ≤ res a b := by
  obtain ⟨_, h2⟩ := h
  unfold res
  by_cases hc : c.m = 0
  · obtain ⟨ha, hs⟩ := h2 hc
    by_cases hb : b.m = 0
    · simp only [ha, hb, hc, and_self, if_true]
      repeat' split
      all_goals omega
    · simp only [ha, hb, hc, and_false, if_false, if_true]
      omega
  · by_cases ha : a.m = 0 <;> by_cases hb : b.m = 0 <;> simp only [ha, hb, hc, and_self, and_false, false_and, if_true, if_false]
    all_goals repeat' split
    all_goals omega
theorem states_better : ∀ (ax cs bs : List Nt) (u v : Int), v ≤ u → (∀ x ∈ ax.zip cs, Better x.1 x.2) → ∀ (i : Nat) (s t : Int × Nat × Bool), (states u ax bs)[i]? = some s → (states v cs bs)[i]? = some t → t.1 ≤ s.1
  | [], _, _, _, _, _, _, i, s, t, hs, _ => by simp [states] at hs
  | _ :: _, [], _, _, _, _, _, i, s, t, _, ht => by simp [states] at ht
  | _ :: _, _ :: _, [], _, _, _, _, i, s, t, hs, _ => by simp [states] at hs
  | a :: ax, c :: cs, b :: bs, u, v, huv, hB, i, s, t, hs, ht => by
    have hb := hB (a, c) (by simp)
    unfold states at hs ht
    split at hs
    · simp at hs
    · rename_i n1
      split at ht
      · simp at ht
      · rename_i n2
        have hr : res c b ≤ res a b := res_better hb
        cases i with
        | zero =>
          simp only [List.getElem?_cons_zero, Option.some.injEq] at hs ht
          subst hs; subst ht
          show v + res c b ≤ u + res a b
          omega
        | succ i =>
          simp only [List.getElem?_cons_succ] at hs ht
          split at hs
          · simp at hs
          · split at ht
            · simp at ht
            · exact states_better ax cs bs _ _ (by omega) (fun x hx => hB x (by simp only [List.zip_cons_cons]; exact List.mem_cons_of_mem _ hx)) i s t hs ht

end ForMath

/- Formats as mathematics: the strokes given, one after another. -/
namespace ForMath

/-- The index of the hole that has the stroke with this number. -/
def turnAt (n : Nat) (up : Bool) (k : Nat) : Int := if up then (k % n : Nat) + 1 else (n : Int) - (k % n : Nat)
/-- How many of k strokes the hole with the index x has, one after another; below 0 they are taken away. -/
def cnt (n : Nat) (up : Bool) : Nat → Int → Int
  | 0, _ => 0
  | k + 1, x => cnt n up k x + if turnAt n up k = x then (if up then 1 else -1) else 0

theorem mod_succ_cases (n k : Nat) (hn : 0 < n) : (k % n + 1 < n ∧ (k + 1) / n = k / n ∧ (k + 1) % n = k % n + 1) ∨ (k % n + 1 = n ∧ (k + 1) / n = k / n + 1 ∧ (k + 1) % n = 0) := by
  have h1 := Nat.mod_lt k hn
  have h2 := Nat.div_add_mod k n
  by_cases h : k % n + 1 < n
  · refine .inl ⟨h, ?_, ?_⟩
    · rw [show k + 1 = (k % n + 1) + n * (k / n) by omega, Nat.add_mul_div_left _ _ hn, Nat.div_eq_of_lt h]; omega
    · rw [show k + 1 = (k % n + 1) + n * (k / n) by omega, Nat.add_mul_mod_self_left, Nat.mod_eq_of_lt h]
  · have e : k % n + 1 = n := by omega
    refine .inr ⟨e, ?_, ?_⟩
    · rw [show k + 1 = n * (k / n + 1) by rw [Nat.mul_add]; omega, Nat.mul_div_cancel_left _ hn]
    · rw [show k + 1 = n * (k / n + 1) by rw [Nat.mul_add]; omega, Nat.mul_mod_right]

theorem cnt_up (n : Nat) (hn : 0 < n) (x : Int) (h1 : 1 ≤ x) (h2 : x ≤ n) : ∀ k : Nat, cnt n true k x = (k / n : Nat) + (if x ≤ (k % n : Nat) then 1 else 0)
  | 0 => by simp [cnt]; omega
  | k + 1 => by
    rw [cnt, cnt_up n hn x h1 h2 k]
    have e : turnAt n true k = ((k % n : Nat) : Int) + 1 := by simp [turnAt]
    rw [e]
    simp only [if_true]
    generalize hq : k / n = q
    generalize hr : k % n = r
    rcases mod_succ_cases n k hn with ⟨h, e1, e2⟩ | ⟨h, e1, e2⟩ <;> rw [hq] at e1 <;> simp only [hr] at h e2 <;> rw [e1, e2]
    · repeat' split
      all_goals omega
    · repeat' split
      all_goals omega

theorem cnt_down (n : Nat) (hn : 0 < n) (x : Int) (h1 : 1 ≤ x) (h2 : x ≤ n) : ∀ k : Nat, cnt n false k x = -((k / n : Nat) : Int) - (if (n : Int) + 1 - x ≤ (k % n : Nat) then 1 else 0)
  | 0 => by simp [cnt]; omega
  | k + 1 => by
    rw [cnt, cnt_down n hn x h1 h2 k]
    have e : turnAt n false k = (n : Int) - ((k % n : Nat) : Int) := by simp [turnAt]
    rw [e]
    simp only [if_false, Bool.false_eq_true]
    generalize hq : k / n = q
    generalize hr : k % n = r
    rcases mod_succ_cases n k hn with ⟨h, e1, e2⟩ | ⟨h, e1, e2⟩ <;> rw [hq] at e1 <;> simp only [hr] at h e2 <;> rw [e1, e2]
    · repeat' split
      all_goals omega
    · repeat' split
      all_goals omega

theorem div_neg (n : Nat) (hn : 0 < n) (k : Nat) : (-(k : Int)) / (n : Int) = -((k / n : Nat) : Int) - (if k % n = 0 then 0 else 1) ∧ (-(k : Int)) % (n : Int) = if k % n = 0 then 0 else (n : Int) - (k % n : Nat) := by
  have h1 := Nat.mod_lt k hn
  have h2 := Nat.div_add_mod k n
  have hn' : (n : Int) ≠ 0 := by omega
  have e : (k : Int) = n * (k / n : Nat) + (k % n : Nat) := by exact_mod_cast h2.symm
  generalize k / n = q at e ⊢
  generalize hr : k % n = r at e h1 ⊢
  by_cases h0 : r = 0
  · subst h0
    simp only [if_true]
    have : -(k : Int) = (n : Int) * (-(q : Int)) := by rw [Int.mul_neg]; omega
    rw [this]
    exact ⟨by rw [Int.mul_ediv_cancel_left _ hn']; omega, Int.mul_emod_right _ _⟩
  · simp only [if_neg h0]
    have : -(k : Int) = ((n : Int) - r) + (n : Int) * (-(q : Int) - 1) := by rw [Int.mul_sub, Int.mul_neg, Int.mul_one]; omega
    rw [this]
    exact ⟨by rw [Int.add_mul_ediv_left _ _ hn', Int.ediv_eq_zero_of_lt (by omega) (by omega)]; omega, by rw [Int.add_mul_emod_self_left, Int.emod_eq_of_lt (by omega) (by omega)]⟩

/-- The strokes given on n holes with these stroke indices. -/
def givenAt (n : Nat) (h x : Int) : Int := h / (n : Int) + (if x ≤ h % (n : Int) then 1 else 0)
theorem cnt_given (n : Nat) (hn : 0 < n) (h x : Int) (h1 : 1 ≤ x) (h2 : x ≤ n) : cnt n (decide (0 ≤ h)) h.natAbs x = givenAt n h x := by
  unfold givenAt
  by_cases hh : 0 ≤ h
  · obtain ⟨k, rfl⟩ := Int.eq_ofNat_of_zero_le hh
    rw [decide_eq_true hh, show (k : Int).natAbs = k from rfl, cnt_up n hn x h1 h2]
    rw [Int.natCast_ediv, Int.natCast_emod]
  · obtain ⟨k, rfl⟩ : ∃ k : Nat, h = -(k : Int) := ⟨h.natAbs, by omega⟩
    rw [decide_eq_false hh, show (-(k : Int)).natAbs = k by omega, cnt_down n hn x h1 h2, (div_neg n hn k).1, (div_neg n hn k).2]
    have := Nat.mod_lt k hn
    repeat' split
    all_goals omega
theorem cnt_bound (n : Nat) (up : Bool) (x : Int) : ∀ k : Nat, -(k : Int) ≤ cnt n up k x ∧ cnt n up k x ≤ k
  | 0 => by simp [cnt]
  | k + 1 => by
    have := cnt_bound n up x k
    rw [cnt]
    cases up <;> simp only [if_true, Bool.false_eq_true, if_false] <;> split <;> omega
theorem givenAt_bound (n : Nat) (hn : 0 < n) (h x : Int) (h1 : 1 ≤ x) (h2 : x ≤ n) (hb : -99 ≤ h) (hc : h ≤ 99) : -99 ≤ givenAt n h x ∧ givenAt n h x ≤ 99 := by
  rw [← cnt_given n hn h x h1 h2]
  have := cnt_bound n (decide (0 ≤ h)) x h.natAbs
  omega

theorem nodup_bound : ∀ (k : Nat) (l : List Int) (a : Int), l.Nodup → (∀ x ∈ l, a ≤ x ∧ x < a + k) → l.length ≤ k
  | 0, l, a, _, h => by
    cases l with
    | nil => simp
    | cons x l => have := h x (by simp); omega
  | k + 1, l, a, hn, h => by
    have h1 := nodup_bound k (l.erase (a + k)) a (hn.erase _) (fun x hx => by
      rw [hn.mem_erase_iff] at hx
      have := h x hx.2
      have := hx.1
      omega)
    have h2 := List.length_erase (a := a + (k : Int)) (l := l)
    split at h2 <;> omega
theorem filter_two (p : Int → Bool) : ∀ l : List Int, (l.filter p).length + (l.filter fun x => !p x).length = l.length
  | [] => rfl
  | x :: l => by
    have := filter_two p l
    cases h : p x <;> simp [h] <;> omega
theorem count_le (n : Nat) (l : List Int) (hl : l.length = n) (hn : l.Nodup) (hb : ∀ x ∈ l, 1 ≤ x ∧ x ≤ (n : Int)) (r : Nat) (hr : r ≤ n) : (l.filter fun x => decide (x ≤ (r : Int))).length = r := by
  have h1 := nodup_bound r (l.filter fun x => decide (x ≤ (r : Int))) 1 (hn.filter _) (fun x hx => by
    rw [List.mem_filter] at hx; have := hb x hx.1; have := of_decide_eq_true hx.2; omega)
  have h2 := nodup_bound (n - r) (l.filter fun x => !decide (x ≤ (r : Int))) ((r : Int) + 1) (hn.filter _) (fun x hx => by
    rw [List.mem_filter] at hx; have := hb x hx.1; have := of_decide_eq_false (by simpa using hx.2 : decide (x ≤ (r : Int)) = false); omega)
  have h3 := filter_two (fun x => decide (x ≤ (r : Int))) l
  omega
theorem sum_given (n : Nat) (h : Int) (l : List Int) : sumI (l.map (givenAt n h)) = (l.length : Int) * (h / (n : Int)) + ((l.filter fun x => decide (x ≤ h % (n : Int))).length : Nat) := by
  induction l with
  | nil => simp [sumI]
  | cons x l ih =>
    simp only [List.map_cons, sumI_cons, ih, List.length_cons, List.filter_cons]
    have e : (((l.length + 1 : Nat) : Int)) * (h / (n : Int)) = (l.length : Int) * (h / (n : Int)) + h / (n : Int) := by rw [Int.natCast_add, Int.add_mul]; simp
    rw [e]
    unfold givenAt
    by_cases hx : x ≤ h % (n : Int)
    · simp only [hx, decide_true, if_true, List.length_cons]; omega
    · simp only [hx, decide_false, if_false, Bool.false_eq_true]; omega
theorem sum_given_all (n : Nat) (hn : 0 < n) (h : Int) (l : List Int) (hl : l.length = n) (hd : l.Nodup) (hb : ∀ x ∈ l, 1 ≤ x ∧ x ≤ (n : Int)) : sumI (l.map (givenAt n h)) = h := by
  have hm := Int.emod_nonneg h (show (n : Int) ≠ 0 by omega)
  have hm2 := Int.emod_lt_of_pos h (show (0 : Int) < n by omega)
  obtain ⟨r, hr⟩ : ∃ r : Nat, h % (n : Int) = r := ⟨(h % (n : Int)).toNat, by omega⟩
  rw [sum_given n, hr, count_le n l hl hd hb r (by omega), hl, ← hr]
  exact Int.mul_ediv_add_emod h n
end ForMath

/- Rows in blocks of the call's own; an element appended. -/
namespace Go.Proofs.YtbckfkopdojggaaGreatDoor
open Go.RowKit

theorem block_of_add (a : Addr) (n : Nat) : (a.add n).block = a.block := by unfold Addr.add; split <;> rfl

/-- As Ints, in blocks below B. -/
def IntsAt (w : World) (B : Nat) (A : Option Addr) (xs : List Int) : Prop :=
  ∀ j, j < xs.length → ∃ a, A = some a ∧ a.block < B ∧ w.cell? (a.add j) = some (.int .i64 (xs.getD j 0))
theorem IntsAt.ints {w : World} {B : Nat} {A : Option Addr} {xs : List Int} (h : IntsAt w B A xs) : Ints w A xs := fun j hj => by
  obtain ⟨a, h1, _, h3⟩ := h j hj
  exact ⟨a, h1, h3⟩
theorem IntsAt.below {w w' : World} {B : Nat} {A : Option Addr} {xs : List Int} (h : IntsAt w B A xs) (hb : Below B w w') : IntsAt w' B A xs := fun j hj => by
  obtain ⟨a, h1, h2, h3⟩ := h j hj
  exact ⟨a, h1, h2, (hb.cell (by rw [block_of_add]; exact h2)).trans h3⟩
theorem IntsAt.mono {w : World} {B B' : Nat} {A : Option Addr} {xs : List Int} (h : IntsAt w B A xs) (hb : B ≤ B') : IntsAt w B' A xs := fun j hj => by
  obtain ⟨a, h1, h2, h3⟩ := h j hj
  exact ⟨a, h1, by omega, h3⟩

def rowI (xs : List Int) : Array Value := (xs.map (Value.int .i64)).toArray
def nils (n : Nat) : List Int := List.replicate n 0
theorem size_rowI (xs : List Int) : (rowI xs).size = xs.length := by simp [rowI]
theorem rowI_at (xs : List Int) (j : Nat) (h : j < xs.length) : (rowI xs)[j]? = some (.int .i64 (xs.getD j 0)) := by
  simp [rowI, List.getElem?_eq_getElem h, List.getD]
theorem rowI_set (xs : List Int) (k : Nat) (y : Int) : (rowI xs).setIfInBounds k (.int .i64 y) = rowI (xs.set k y) := by
  simp [rowI, List.map_set]

/-- Block g holds just these integers. -/
def RowI (w : World) (g : Nat) (xs : List Int) : Prop := w.heap[g]? = some (.cells (rowI xs) 3 (0, 0))

section
variable {w w' : World} {g : Nat} {xs : List Int}
theorem RowI.lt (h : RowI w g xs) : g < w.heap.size := by
  rcases Nat.lt_or_ge g w.heap.size with hlt | hge
  · exact hlt
  · unfold RowI at h; rw [Array.getElem?_eq_none hge] at h; cases h
theorem RowI.cell (h : RowI w g xs) {j : Nat} (hj : j < xs.length) : w.cell? ⟨g, j, none⟩ = some (.int .i64 (xs.getD j 0)) := by
  rw [cell_of_row w g j _ _ _ h, rowI_at xs j hj]
theorem RowI.frozen (h : RowI w g xs) (j : Nat) : w.frozen? ⟨g, j, none⟩ = false := by
  unfold RowI at h
  simp [World.frozen?, h]
theorem add_zero_at (g j : Nat) : (Addr.add ⟨g, 0, none⟩ j) = ⟨g, j, none⟩ := by
  unfold Addr.add
  split
  · rename_i h0; rw [h0]
  · simp
theorem RowI.ints (h : RowI w g xs) {B : Nat} (hB : g < B) : IntsAt w B (some ⟨g, 0, none⟩) xs := fun j hj =>
  ⟨_, rfl, hB, by rw [add_zero_at]; exact h.cell hj⟩
theorem RowI.new (w : World) (xs : List Int) : RowI (w.alloc (.cells (rowI xs) 3)) w.heap.size xs := heap_alloc_new w _
theorem RowI.drew (h : RowI w g xs) : RowI w.drew g xs := h
theorem RowI.drewN (h : RowI w g xs) (n : Nat) : RowI (w.drewN n) g xs := h
theorem RowI.below {B : Nat} (h : RowI w g xs) (hb : Below B w w') (hg : g < B) : RowI w' g xs := (hb.block g hg).trans h
theorem RowI.alloc (h : RowI w g xs) (o : Obj) : RowI (w.alloc o) g xs := (Below.heap_alloc w o g h.lt).trans h
theorem RowI.far (h : RowI w g xs) {p : Addr} (hp : g ≠ p.block) (u : Value) : RowI (w.setCell p u) g xs := (Below.heap_setCell w p u g hp).trans h
theorem RowI.grown {row : Option Nat} (h : RowI w g xs) (hb : w.grownBy w' row) (hg : some g ≠ row) : RowI w' g xs := (hb.block g h.lt hg).trans h
theorem RowI.set (h : RowI w g xs) (k : Nat) (y : Int) : RowI (w.setCell ⟨g, k, none⟩ (.int .i64 y)) g (xs.set k y) := by
  unfold RowI at h ⊢
  simp [World.setCell, Array.getElem?_modify, h, rowI_set]
theorem RowI.eq_ (h : RowI w g xs) {ys : List Int} (e : xs = ys) : RowI w g ys := e ▸ h
end

/-- Block g is just these cells of type t, none frozen. -/
def BlkV (w : World) (g : Nat) (t : TypeId) (cs : Array Value) : Prop := w.heap[g]? = some (.cells cs t (0, 0))
section
variable {w w' : World} {g : Nat} {t : TypeId} {cs : Array Value}
theorem BlkV.lt (h : BlkV w g t cs) : g < w.heap.size := by
  rcases Nat.lt_or_ge g w.heap.size with hlt | hge
  · exact hlt
  · unfold BlkV at h; rw [Array.getElem?_eq_none hge] at h; cases h
theorem BlkV.cell (h : BlkV w g t cs) (i : Nat) : w.cell? ⟨g, i, none⟩ = cs[i]? := cell_of_row w g i _ _ _ h
theorem BlkV.frozen (h : BlkV w g t cs) (j : Nat) : w.frozen? ⟨g, j, none⟩ = false := by
  unfold BlkV at h
  simp [World.frozen?, h]
theorem BlkV.new (w : World) (t : TypeId) (cs : Array Value) : BlkV (w.alloc (.cells cs t)) w.heap.size t cs := heap_alloc_new w _
theorem BlkV.below {B : Nat} (h : BlkV w g t cs) (hb : Below B w w') (hg : g < B) : BlkV w' g t cs := (hb.block g hg).trans h
theorem BlkV.alloc (h : BlkV w g t cs) (o : Obj) : BlkV (w.alloc o) g t cs := (Below.heap_alloc w o g h.lt).trans h
theorem BlkV.drew (h : BlkV w g t cs) : BlkV w.drew g t cs := h
theorem BlkV.far (h : BlkV w g t cs) {p : Addr} (hp : g ≠ p.block) (u : Value) : BlkV (w.setCell p u) g t cs := (Below.heap_setCell w p u g hp).trans h
theorem BlkV.grown {row : Option Nat} (h : BlkV w g t cs) (hb : w.grownBy w' row) (hg : some g ≠ row) : BlkV w' g t cs := (hb.block g h.lt hg).trans h
theorem BlkV.set (h : BlkV w g t cs) (i : Nat) (u : Value) : BlkV (w.setCell ⟨g, i, none⟩ u) g t (cs.setIfInBounds i u) := by
  unfold BlkV at h ⊢
  simp [World.setCell, Array.getElem?_modify, h]
end

theorem info_int : (Tryz.prog.info? 3).map (fun i => (i.zero, i.size, i.bytes)) = some (some (.int .i64 0), 1, 8) := by kernel_rfl

theorem made_nils (n : Nat) : madeCells (Value.int .i64 0).cells n = rowI (nils n) := by
  unfold madeCells rowI nils
  apply Array.ext
  · simp
  · intro i h1 h2
    simp [Value.cells, Nat.mod_one]

theorem make_ints (n : Nat) (hn : n ≤ 1073741824) (w : World) :
    (Instr.makeSlice 35 (.int .i64 (n : Int)) (.int .i64 (n : Int))).run Tryz.prog w = .ok (.slice (some ⟨w.heap.size, 0, none⟩) n n) (w.alloc (.cells (rowI (nils n)) 3)) := by
  obtain ⟨i0, hi, hz0, hz1, hz2⟩ := info_parts info_int
  have hr := run_make (P := Tryz.prog) w 35 3 i0 (.int .i64 0) Tryz.underlying35 hi hz0 .i64 .i64 n n (by omega) (by omega) (by rw [hz2]; omega) (by omega)
  rw [hz1] at hr
  simp only [Int.toNat_natCast, Nat.mul_one] at hr
  rw [made_nils] at hr
  exact hr

theorem ownsRow_slice {w : World} {base : Nat} {e : TypeId} {size n : Nat} {v : Value} {xs : List Value} (h : w.ownsRow base e size v n xs) : ∃ A m c, v = .slice A m c := by
  rcases h.2 with ⟨rfl, _⟩ | ⟨g, cap, _, rfl, _⟩
  · exact ⟨_, _, _, rfl⟩
  · exact ⟨_, _, _, rfl⟩
theorem ownsRow_base {w : World} {base base' : Nat} {e : TypeId} {size n : Nat} {v : Value} {xs : List Value} (h : w.ownsRow base e size v n xs) (hb : base' ≤ base) : w.ownsRow base' e size v n xs := by
  obtain ⟨h1, h2 | ⟨g, cap, cur, e1, e2, e3⟩⟩ := h
  · exact ⟨h1, .inl h2⟩
  · exact ⟨h1, .inr ⟨g, cap, cur, e1, by omega, e3⟩⟩

theorem owns_alloc {w : World} {base : Nat} {e : TypeId} {size n : Nat} {v : Value} {xs : List Value} (h : w.ownsRow base e size v n xs) (o : Obj) : (w.alloc o).ownsRow base e size v n xs :=
  h.kept (World.grownBy_alloc w o none) (by rcases h.2 with ⟨rfl, _⟩ | ⟨g, cap, cur, rfl, _⟩ <;> simp [Value.ownBlock])


theorem append_gen (base : Nat) (T TE : TypeId) (z : Value) (size bytes : Nat) (hT : Tryz.prog.underlying T = some (.slice TE)) (hI : (Tryz.prog.info? TE).map (fun i => (i.zero, i.size, i.bytes)) = some (some z, size, bytes)) (hz : z.cells.size = size) (hsz : 0 < size)
    (cs : List Value) (hcs : cs.length = size) (h1 : ∀ u ∈ cs, u.oneCell' = true) (w : World) (v : Value) (n : Nat) (xs : List Value) (hb : base ≤ w.heap.size) (hl : n ≤ 100000) (hbs : bytes ≤ 1000) (hown : w.ownsRow base TE size v n xs) :
    ∃ v' w', (Builtin.append_ #[T, T] T #[v, .slice (some ⟨w.heap.size, 0, none⟩) 1 1]).run Tryz.prog (w.alloc (.cells cs.toArray TE)) = .ok v' w' ∧
      w'.ownsRow base TE size v' (n + 1) (xs ++ cs) ∧ Below base w w' := by
  obtain ⟨i0, hi, hz0, hz1, hz2⟩ := info_parts hI
  have hd := owns_alloc hown (.cells cs.toArray TE)
  have hrow := heap_alloc_new w (.cells cs.toArray TE)
  have hbb : (n + 1) * bytes ≤ 140737488355328 := Nat.le_trans (Nat.mul_le_mul (show n + 1 ≤ 100001 by omega) hbs) (by decide)
  obtain ⟨v', w', hrun, h2, h3, _, _⟩ := run_append_own_at (P := Tryz.prog) (w.alloc (.cells cs.toArray TE)) base T T TE i0 z size bytes hT hi hz0 hz1 hz2 hz hsz v n xs hd ⟨w.heap.size, 0, none⟩ 1 1 cs (by omega)
    (fun j u hu => by rw [add_zero_at, cell_of_row _ _ j _ _ _ hrow]; rw [← hu]; simp)
    h1 (by unfold maxLen; omega) hbb (by simp; omega)
  refine ⟨v', w', hrun, h2, ?_⟩
  refine ((Below.refl base w).alloc hb _).grown h3 (by simp; omega) (fun k e => ?_)
  rcases hown.2 with ⟨rfl, _⟩ | ⟨g, cap, cur, rfl, hg, _⟩
  · simp [Value.ownBlock] at e
  · simp [Value.ownBlock] at e; omega
theorem rows_ints {w : World} {base : Nat} {v : Value} {xs : List Int} (h : w.ownsRow base 3 1 v xs.length (xs.map (Value.int .i64))) : ∃ A c, v = .slice A xs.length c ∧ xs.length ≤ c + 0 ∧ IntsAt w w.heap.size A xs := by
  rcases h.2 with ⟨rfl, h0⟩ | ⟨g, cap, cur, rfl, hg, hgb, hnc, hcm, hcs, htk⟩
  · exact ⟨none, 0, by rw [h0], by omega, fun j hj => by omega⟩
  · refine ⟨_, _, rfl, by omega, fun j hj => ⟨_, rfl, (Array.getElem?_eq_some_iff.1 hgb).1, ?_⟩⟩
    rw [add_zero_at, cell_of_row w g _ _ _ _ hgb]
    have : (xs.map (Value.int .i64))[j]? = some (.int .i64 (xs.getD j 0)) := by simp [List.getElem?_eq_getElem hj, List.getD]
    rw [← htk, List.getElem?_take_of_lt (by omega)] at this
    simpa using this

theorem still_of {P : Program} {f : FuncId} {args : Array Value} {w : World} {v : Value} (h : Calls P f args w fun e w' => e = .returned v ∧ w = w') : Calls P f args w fun e w' => e = .returned v ∧ w' = w :=
  h.mono fun _ _ ⟨a, b⟩ => ⟨a, b.symm⟩

theorem region_still_tail {P : Program} {id : Nat} {Q : Exit → Act → World → Prop} {a : Act} {w : World} {l : List Oper} (n : Nat) (hm : P.follows .mixedOrders = true) (hB : Region.lexTailB .any l.toArray n = true)
    (h : wpStill P l.toArray w.drew (fun a' => wpList P l.toArray Q (l.drop n) a' w.drew) (l.take n) a) : (Code.region id l.toArray true).wp P Q a w := wp_region_still_tail n hm hB h


end Go.Proofs.YtbckfkopdojggaaGreatDoor

/- Count-back and ranks as mathematics. -/
namespace ForMath

def lastSum (l : List Int) (k : Nat) : Int := sumI (l.drop (l.length - k))
def cbGo (a b : List Int) : List Nat → Int
  | [] => 0
  | c :: cs => if a.length < c then cbGo a b cs else if lastSum a c < lastSum b c then -1 else if lastSum b c < lastSum a c then 1 else cbGo a b cs
def cback (a b : List Int) : Int := cbGo a b [a.length, 9, 6, 3, 1]
def ranks (l : List (List Int)) : List Int := l.map fun x => 1 + ((l.filter fun y => decide (cback y x < 0)).length : Int)

theorem cbGo_range (a b : List Int) : ∀ cs, cbGo a b cs = -1 ∨ cbGo a b cs = 0 ∨ cbGo a b cs = 1
  | [] => .inr (.inl rfl)
  | c :: cs => by
    unfold cbGo
    have := cbGo_range a b cs
    repeat' split
    all_goals simp_all
theorem cbGo_anti (a b : List Int) (h : a.length = b.length) : ∀ cs, cbGo b a cs = -cbGo a b cs
  | [] => rfl
  | c :: cs => by
    unfold cbGo
    rw [← h]
    have := cbGo_anti a b h cs
    repeat' split
    all_goals omega
theorem cbGo_trans (a b c : List Int) (h : a.length = b.length) : ∀ cs, cbGo a b cs ≤ 0 → cbGo b c cs ≤ 0 → cbGo a c cs ≤ 0 ∧ (cbGo a b cs < 0 ∨ cbGo b c cs < 0 → cbGo a c cs < 0)
  | [], _, _ => ⟨by simp [cbGo], fun h => by simp [cbGo] at h⟩
  | k :: cs, h1, h2 => by
    unfold cbGo at h1 h2 ⊢
    rw [← h] at h2 ⊢
    have := cbGo_trans a b c h cs
    by_cases hk : a.length < k
    · simp only [hk, if_true] at h1 h2 ⊢
      exact this h1 h2
    · simp only [hk, if_false] at h1 h2 ⊢
      generalize lastSum a k = x at *
      generalize lastSum b k = y at *
      generalize lastSum c k = z at *
      by_cases xy : x < y
      · have hxz : x < z := by
          by_cases yz : z < y
          · rw [if_neg (by omega), if_pos yz] at h2; omega
          · omega
        simp only [hxz, if_true]
        omega
      · rw [if_neg xy] at h1 ⊢
        by_cases yx : y < x
        · rw [if_pos yx] at h1; omega
        · rw [if_neg yx] at h1 ⊢
          obtain rfl : x = y := by omega
          by_cases xz : x < z
          · simp only [xz, if_true]; omega
          · rw [if_neg xz] at h2 ⊢
            by_cases zx : z < x
            · rw [if_pos zx] at h2; omega
            · rw [if_neg zx] at h2 ⊢
              rw [if_neg xz, if_neg zx]
              exact this h1 h2
theorem cbGo_self (a : List Int) : ∀ cs, cbGo a a cs = 0
  | [] => rfl
  | c :: cs => by unfold cbGo; rw [cbGo_self a cs]; simp
theorem cback_range (a b : List Int) : cback a b = -1 ∨ cback a b = 0 ∨ cback a b = 1 := cbGo_range a b _
theorem cback_anti (a b : List Int) (h : a.length = b.length) : cback b a = -cback a b := by unfold cback; rw [← h]; exact cbGo_anti a b h _
theorem cback_self (a : List Int) : cback a a = 0 := cbGo_self a _
theorem cback_trans (a b c : List Int) (h : a.length = b.length) (h1 : cback a b ≤ 0) (h2 : cback b c ≤ 0) : cback a c ≤ 0 ∧ (cback a b < 0 ∨ cback b c < 0 → cback a c < 0) := by
  unfold cback at h1 h2 ⊢; rw [← h] at h2 ⊢; exact cbGo_trans a b c h _ h1 h2

/-- How many lists of l precede x. -/
def ahead (l : List (List Int)) (x : List Int) : Nat := (l.filter fun y => decide (cback y x < 0)).length
theorem filter_le {α : Type} (p q : α → Bool) (l : List α) (h : ∀ y ∈ l, p y = true → q y = true) : (l.filter p).length ≤ (l.filter q).length := by
  induction l with
  | nil => simp
  | cons x l ih =>
    have i := ih (fun y hy => h y (List.mem_cons_of_mem _ hy))
    simp only [List.filter_cons]
    cases hp : p x
    · simp only [Bool.false_eq_true, if_false]; split <;> simp <;> omega
    · rw [h x (by simp) hp]; simp; omega
theorem filter_lt {α : Type} (p q : α → Bool) (l : List α) (h : ∀ y ∈ l, p y = true → q y = true) (x : α) (hx : x ∈ l) (hp : p x = false) (hq : q x = true) : (l.filter p).length < (l.filter q).length := by
  induction l with
  | nil => simp at hx
  | cons z l ih =>
    rcases List.mem_cons.1 hx with rfl | hx
    · have i := filter_le p q l (fun y hy => h y (List.mem_cons_of_mem _ hy))
      simp only [List.filter_cons, hp, hq, if_true, Bool.false_eq_true, if_false, List.length_cons]; omega
    · have i := ih (fun y hy => h y (List.mem_cons_of_mem _ hy)) hx
      simp only [List.filter_cons]
      cases hpz : p z
      · simp only [Bool.false_eq_true, if_false]; split <;> simp <;> omega
      · rw [h z (by simp) hpz]; simp; omega
theorem ahead_lt (n : Nat) (l : List (List Int)) (hl : ∀ y ∈ l, y.length = n) (x z : List Int) (hx : x ∈ l) (hz : z ∈ l) : ahead l x < ahead l z ↔ cback x z < 0 := by
  have e := hl x hx
  have e2 := hl z hz
  have lt : ∀ x z, x ∈ l → z ∈ l → cback x z < 0 → ahead l x < ahead l z := fun x z hx hz h =>
    filter_lt _ _ l (fun y hy hh => by
      have hh := of_decide_eq_true hh
      exact decide_eq_true ((cback_trans y x z (by rw [hl y hy, hl x hx]) (by omega) (by omega)).2 (.inl hh))) x hx (by rw [cback_self]; rfl) (decide_eq_true h)
  refine ⟨fun h => ?_, lt x z hx hz⟩
  rcases cback_range x z with r | r | r
  · omega
  · exfalso
    have r2 := cback_anti x z (by omega)
    have : ahead l z ≤ ahead l x := filter_le _ _ l (fun y hy hh => by
      have hh := of_decide_eq_true hh
      exact decide_eq_true ((cback_trans y z x (by rw [hl y hy, e2]) (by omega) (by omega)).2 (.inl hh)))
    omega
  · have r2 := cback_anti x z (by omega)
    have := lt z x hz hx (by omega)
    omega
theorem ahead_count (n : Nat) (l : List (List Int)) (hl : ∀ y ∈ l, y.length = n) (x : List Int) (hx : x ∈ l) : ((l.map (ahead l)).filter fun r => decide (r < ahead l x)).length = ahead l x := by
  rw [List.filter_map, List.length_map]
  show _ = (l.filter fun y => decide (cback y x < 0)).length
  congr 1
  apply List.filter_congr
  intro y hy
  simp only [Function.comp, decide_eq_decide]
  exact ahead_lt n l hl y x hy hx
end ForMath

/- The small functions of package format: unless, within, first, checkHandicap, divided. -/
namespace Go.Proofs.YtbckfkopdojggaaGreatDoor
open Go.RowKit

set_option maxHeartbeats 400000 in
theorem fmUnless_any (b : Bool) (n : Int) (w : World) :
    Calls Tryz.prog 51 #[.bool b, .int .i64 n] w fun e w' => e = .returned (.int .i64 (unlessI b n)) ∧ w = w' := by
  cases b
  all_goals
    go_enter Tryz.func51, Tryz.ntmps51
    go_wp2
    go_ret
    exact ⟨rfl, rfl⟩

set_option maxHeartbeats 400000 in
theorem fmWithin_any (n a b : Int) (w : World) :
    Calls Tryz.prog 90 #[.int .i64 n, .int .i64 a, .int .i64 b] w fun e w' => e = .returned (.int .i64 (withinI n a b)) ∧ w = w' := by
  by_cases h1 : a ≤ n <;> by_cases h2 : n ≤ b
  all_goals
    go_enter Tryz.func90, Tryz.ntmps90
    go_wp2_with (go_at_call 51; refine (fmUnless_any _ _ _).mono ?_; rintro e w' ⟨rfl, rfl⟩)
    go_ret
    exact ⟨by simp [withinI, unlessI, h1, h2], rfl⟩

set_option maxHeartbeats 400000 in
theorem fmFirst_any (A : Option Addr) (c : Nat) (xs : List Int) (w : World) (hl : xs.length ≤ 4611686018427387904) (h : Ints w A xs) :
    Calls Tryz.prog 49 #[.slice A xs.length c] w fun e w' => e = .returned (.int .i64 (firstI xs)) ∧ w = w' := by
  have H := Lib.hid h
  clear h
  go_enter Tryz.func49, Tryz.ntmps49
  go_wp2
  go_loop [7] (fun i => ∃ k : Nat, k ≤ xs.length ∧ i = .int .i64 k ∧ firstI (xs.drop k) = firstI xs) (fun i => xs.length - (intOf i).toNat)
  case atStart => exact ⟨0, Nat.zero_le _, rfl, rfl⟩
  case round =>
    obtain ⟨k, hk, rfl, hd⟩ := hrel
    have HD := Lib.hid hd
    clear hd
    by_cases hlt : k < xs.length
    · obtain ⟨a, rfl, hc⟩ := H.out k hlt
      have hs := Lib.hid (firstI_drop xs k hlt)
      generalize xs.getD k 0 = x at hc hs
      by_cases hx : x = 0
      · subst hx
        go_wp2
        go_round
        case rel => exact ⟨k + 1, by omega, by go_num, by have := hs.out; simp at this; rw [← this]; exact HD.out⟩
        case measure => simp [intOf]; omega
      · have hxb : (x != 0) = true := by simpa using hx
        go_wp2
        go_ret
        have := hs.out
        rw [if_neg hx] at this
        exact ⟨by rw [← this, HD.out]; rfl, rfl⟩
    · have : k = xs.length := by omega
      go_wp2
      go_ret
      have hd := HD.out
      rw [List.drop_eq_nil_of_le (by omega)] at hd
      exact ⟨by rw [← hd]; rfl, rfl⟩

set_option maxHeartbeats 400000 in
theorem fmCheckHandicap_any (n : Int) (w : World) :
    Calls Tryz.prog 75 #[.int .i64 n] w fun e w' => e = .returned (.int .i64 (withinI n (-99) 99)) ∧ w = w' := by
  go_enter Tryz.func75, Tryz.ntmps75
  go_wp2_with (go_at_call 90; refine (fmWithin_any _ _ _ _).mono ?_; rintro e w' ⟨rfl, rfl⟩)
  go_ret
  exact ⟨rfl, rfl⟩

theorem tdiv_neg_eq (n d : Int) (hn : n < 0) (hd : 0 < d) (h : n.tmod d < 0) : n.tdiv d - 1 = n / d ∧ n.tmod d + d = n % d := by
  have h1 := Int.mul_tdiv_add_tmod n d
  have h2 := Int.mul_ediv_add_emod n d
  have h3 := Int.emod_nonneg n (show d ≠ 0 by omega)
  have h4 := Int.emod_lt_of_pos n hd
  have h5 := Int.lt_tmod_of_pos n hd
  have e : d * (n.tdiv d - 1 - n / d) = n % d - (n.tmod d + d) := by rw [Int.mul_sub, Int.mul_sub, Int.mul_one]; omega
  have : n.tdiv d - 1 - n / d = 0 := by
    have h6 : -d < n % d - (n.tmod d + d) := by omega
    have h7 : n % d - (n.tmod d + d) < d := by omega
    rw [← e] at h6 h7
    generalize n.tdiv d - 1 - n / d = q at h6 h7
    have h8 : q < 1 := by
      rcases Int.lt_or_le q 1 with h | h
      · exact h
      · have := Int.mul_le_mul_of_nonneg_left h (show 0 ≤ d by omega); omega
    have h9 : -1 < q := by
      rcases Int.lt_or_le (-1) q with h | h
      · exact h
      · have := Int.mul_le_mul_of_nonneg_left h (show 0 ≤ d by omega); omega
    omega
  rw [this] at e
  omega
theorem tdiv_pos_eq (n d : Int) (hd : 0 < d) (h : 0 ≤ n.tmod d) : n.tdiv d = n / d ∧ n.tmod d = n % d := by
  have h1 := Int.mul_tdiv_add_tmod n d
  have h2 := Int.mul_ediv_add_emod n d
  have h3 := Int.emod_nonneg n (show d ≠ 0 by omega)
  have h4 := Int.emod_lt_of_pos n hd
  have h5 := Int.tmod_lt_of_pos n hd
  have e : d * (n.tdiv d - n / d) = n % d - n.tmod d := by rw [Int.mul_sub]; omega
  have : n.tdiv d - n / d = 0 := by
    have h6 : -d < n % d - n.tmod d := by omega
    have h7 : n % d - n.tmod d < d := by omega
    rw [← e] at h6 h7
    generalize n.tdiv d - n / d = q at h6 h7
    have h8 : q < 1 := by
      rcases Int.lt_or_le q 1 with h | h
      · exact h
      · have := Int.mul_le_mul_of_nonneg_left h (show 0 ≤ d by omega); omega
    have h9 : -1 < q := by
      rcases Int.lt_or_le (-1) q with h | h
      · exact h
      · have := Int.mul_le_mul_of_nonneg_left h (show 0 ≤ d by omega); omega
    omega
  rw [this] at e
  omega

theorem tdiv_bound (n d : Int) (hd : 0 < d) (h1 : -1000000000000 ≤ n) (h2 : n ≤ 1000000000000) : -1000000000000 ≤ n.tdiv d ∧ n.tdiv d ≤ 1000000000000 := by
  have e := Int.natAbs_tdiv_le_natAbs n d
  omega
theorem tmod_bound (n d : Int) (hd : 0 < d) : -d < n.tmod d ∧ n.tmod d < d := ⟨Int.lt_tmod_of_pos n hd, Int.tmod_lt_of_pos n hd⟩

set_option maxHeartbeats 400000 in
theorem divided_any (n d : Int) (w : World) (hd : 0 < d) (hd2 : d ≤ 1000000) (h1 : -1000000000000 ≤ n) (h2 : n ≤ 1000000000000) :
    Calls Tryz.prog 130 #[.int .i64 n, .int .i64 d] w fun e w' => e = .returned (.tuple #[.int .i64 (n / d), .int .i64 (n % d)]) ∧ Below w.heap.size w w' := by
  have hd0 : ¬ d = 0 := by omega
  have hdb : (d == 0) = false := by simpa using hd0
  go_enter Tryz.func130, Tryz.ntmps130
  go_wp2
  go_quiet (fail)
  all_goals go_wp2
  · have hlt : n.tmod d < 0 := by assumption
    have b1 := tdiv_bound n d hd h1 h2
    have b2 := tmod_bound n d hd
    have hn : n < 0 := by
      rcases Int.lt_or_le n 0 with h | h
      · exact h
      · have := Int.tmod_nonneg d h; omega
    have e := tdiv_neg_eq n d hn hd hlt
    rw [IntWalk.wrap64_in _ (by omega), IntWalk.wrap64_in _ (by omega)]
    go_ret2
    exact ⟨by rw [e.1, e.2]; rfl, below_drewN (Below.refl _ _) _⟩
  · have hge : 0 ≤ n.tmod d := by assumption
    have e := tdiv_pos_eq n d hd hge
    go_ret2
    exact ⟨by rw [e.1, e.2]; rfl, below_drewN (Below.refl _ _) _⟩

end Go.Proofs.YtbckfkopdojggaaGreatDoor

/- The strokes given: given's closure, eachOf over holes, given. -/
namespace Go.Proofs.YtbckfkopdojggaaGreatDoor
open Go.RowKit

/-- One more where the index is at most r. -/
def addI (q r x : Int) : Int := q + if x ≤ r then 1 else 0
theorem addI_given (n : Nat) (h x : Int) : addI (h / n) (h % n) x = ForMath.givenAt n h x := rfl

set_option maxHeartbeats 400000 in
theorem given1_any (p x q r : Int) (b6 b5 : Nat) (W : World) (h6 : b6 < W.heap.size) (h5 : b5 < W.heap.size)
    (c6 : W.cell? ⟨b6, 0, none⟩ = some (.int .i64 r)) (c5 : W.cell? ⟨b5, 0, none⟩ = some (.int .i64 q)) (hq : -1000 ≤ q ∧ q ≤ 1000) :
    Calls Tryz.prog 132 #[.agg #[.int .i64 p, .int .i64 x], .pointer (some ⟨b6, 0, none⟩), .pointer (some ⟨b5, 0, none⟩)] W fun e w' => e = .returned (.int .i64 (addI q r x)) ∧ Below W.heap.size W w' := by
  by_cases g1 : x ≤ r
  · go_enter Tryz.func132, Tryz.ntmps132
    go_wp2
    go_ret
    exact ⟨by rw [addI, if_pos g1]; rfl, (Below.refl _ _).alloc (Nat.le_refl _) _⟩
  · go_enter Tryz.func132, Tryz.ntmps132
    go_wp2
    go_ret
    exact ⟨by rw [addI, if_neg (by omega), Int.add_zero]; rfl, (Below.refl _ _).alloc (Nat.le_refl _) _⟩

/-- The first k numbers, then zeros. -/
def partI (xs : List Int) (k : Nat) : List Int := xs.take k ++ nils (xs.length - k)
theorem partI_zero (xs : List Int) : partI xs 0 = nils xs.length := by simp [partI]
theorem partI_all (xs : List Int) (k : Nat) (h : xs.length ≤ k) : partI xs k = xs := by
  rw [partI, List.take_of_length_le h, Nat.sub_eq_zero_of_le h]; simp [nils]
theorem partI_len (xs : List Int) (k : Nat) : (partI xs k).length = xs.length := by
  simp [partI, nils]; omega
theorem partI_set (xs : List Int) (k : Nat) (h : k < xs.length) : (partI xs k).set k (xs.getD k 0) = partI xs (k + 1) := by
  unfold partI nils
  apply List.ext_getElem
  · simp; omega
  · intro i h1 h2
    simp only [List.getElem_set, List.getElem_append, List.getElem_take, List.getElem_replicate, List.length_take]
    split
    · subst_vars
      rw [dif_pos (by omega)]
      simp [List.getD, List.getElem?_eq_getElem h]
    · split <;> split <;> first | rfl | (exfalso; omega)

def givenL (q r : Int) (hs : List (Int × Int)) : List Int := hs.map fun h => addI q r h.2
theorem givenL_len (q r : Int) (hs : List (Int × Int)) : (givenL q r hs).length = hs.length := by simp [givenL]
theorem givenL_at (q r : Int) (hs : List (Int × Int)) (k : Nat) (h : k < hs.length) : (givenL q r hs).getD k 0 = addI q r (hs.getD k (0, 0)).2 := by
  simp [givenL, List.getD, List.getElem?_eq_getElem h]

set_option maxRecDepth 100000 in
set_option maxHeartbeats 2000000 in
theorem eachHole_any (A : Option Addr) (c : Nat) (hs : List (Int × Int)) (q r : Int) (b6 b5 : Nat) (w : World) (hr : HolesR w A hs) (hbl : ∀ a, A = some a → a.block < w.heap.size) (hl : hs.length ≤ 1000)
    (h6 : b6 < w.heap.size) (h5 : b5 < w.heap.size) (c6 : w.cell? ⟨b6, 0, none⟩ = some (.int .i64 r)) (c5 : w.cell? ⟨b5, 0, none⟩ = some (.int .i64 q)) (hq : -1000 ≤ q ∧ q ≤ 1000) :
    Calls Tryz.prog 131 #[.slice A hs.length c, .func (.func 132) #[] #[.pointer (some ⟨b6, 0, none⟩), .pointer (some ⟨b5, 0, none⟩)]] w fun e w' =>
      e = .returned (.slice (some ⟨w.heap.size, 0, none⟩) hs.length hs.length) ∧ RowI w' w.heap.size (givenL q r hs) ∧ Below w.heap.size w w' := by
  have hmk := make_ints hs.length (by omega)
  have HR := Lib.hid hr
  have HBL := Lib.hid hbl
  have HG := Lib.hid (fun (p x : Int) (W : World) (hb : Below w.heap.size w W) => given1_any p x q r b6 b5 W (by have := hb.size; omega) (by have := hb.size; omega) ((hb.cell (p := ⟨b6, 0, none⟩) h6).trans c6) ((hb.cell (p := ⟨b5, 0, none⟩) h5).trans c5) hq)
  clear hr hbl c6 c5
  have HNL := Lib.hid (givenL_len q r hs)
  go_enter Tryz.func131, Tryz.ntmps131
  go_wp2
  go_loopw [13] (fun i w' => ∃ k : Nat, k ≤ hs.length ∧ i = .int .i64 k ∧ RowI w' w.heap.size (partI (givenL q r hs) k) ∧ Below w.heap.size w w') (fun i _ => hs.length - (intOf i).toNat)
  case atStart => exact ⟨0, Nat.zero_le _, rfl, by rw [partI_zero, givenL_len]; exact RowI.new _ _, (Below.refl _ _).alloc (Nat.le_refl _) _⟩
  case round =>
    obtain ⟨k, hk, rfl, hrow, hb⟩ := hrel
    have HROW := Lib.hid hrow
    have HB := Lib.hid hb
    have hlt0 := hrow.lt
    clear hrow hb
    by_cases hlt : k < hs.length
    · obtain ⟨a, rfl, d0, d1⟩ := (HR.out.keep HBL.out HB.out) k hlt
      have HS := Lib.hid (givenL_at q r hs k hlt)
      generalize hs.getD k (0, 0) = px at d0 d1 HS
      obtain ⟨p, x⟩ := px
      simp only at d0 d1 HS
      go_wp2_with fail
      refine (HG.out p x _ (HB.out.alloc HB.out.size _)).mono ?_
      rintro e w2 ⟨rfl, hb2⟩
      have HB2 := Lib.hid (HB.out.trans ((((Below.refl wr.heap.size wr).alloc (Nat.le_refl _) (.cells #[.int .i64 p, .int .i64 x] 118)).trans (hb2.mono (by simp))).mono HB.out.size))
      have hrow2 := HROW.out.below (((Below.refl wr.heap.size wr).alloc (Nat.le_refl _) (.cells #[.int .i64 p, .int .i64 x] 118)).trans (hb2.mono (by simp))) HROW.out.lt
      have hcell := hrow2.cell (j := k) (by rw [partI_len, HNL.out]; exact hlt)
      have hfr := hrow2.frozen k
      have HROW2 := Lib.hid hrow2
      clear hrow2 hb2
      go_wp2
      go_roundw
      case rel =>
        refine ⟨k + 1, by omega, by go_num, ?_, HB2.out.setCell (Nat.le_refl _) _⟩
        have := HROW2.out.set k (addI q r x)
        rw [← HS.out, partI_set _ _ (by rw [HNL.out]; exact hlt)] at this
        rw [← HS.out]; exact this
      case measure => simp [intOf]; omega
    · go_wp2
      go_ret
      exact ⟨rfl, by have := HROW.out; rwa [partI_all _ _ (by rw [HNL.out]; omega)] at this, HB.out⟩

end Go.Proofs.YtbckfkopdojggaaGreatDoor

/- given, netOf. -/
namespace Go.Proofs.YtbckfkopdojggaaGreatDoor
open Go.RowKit

/-- A result slice over a new block with just these numbers. -/
def IntsOut (xs : List Int) (w : World) (e : Ending) (w' : World) : Prop :=
  ∃ g, e = .returned (.slice (some ⟨g, 0, none⟩) xs.length xs.length) ∧ RowI w' g xs ∧ w.heap.size ≤ g ∧ Below w.heap.size w w'

theorem div_small (h : Int) (n : Nat) (h1 : -99 ≤ h) (h2 : h ≤ 99) (hn : 0 < n) : -1000 ≤ h / (n : Int) ∧ h / (n : Int) ≤ 1000 := by
  have a := Int.ediv_mul_le h (show (n : Int) ≠ 0 by omega)
  have b := Int.lt_ediv_add_one_mul_self h (show (0 : Int) < n by omega)
  constructor
  · rcases Int.lt_or_le (h / (n : Int)) (-1000) with g | g
    · have := Int.mul_le_mul_of_nonneg_right (show h / (n : Int) + 1 ≤ -100 by omega) (show (0 : Int) ≤ n by omega)
      omega
    · exact g
  · rcases Int.lt_or_le 1000 (h / (n : Int)) with g | g
    · have := Int.mul_le_mul_of_nonneg_right (show 100 ≤ h / (n : Int) by omega) (show (0 : Int) ≤ n by omega)
      omega
    · exact g

set_option maxRecDepth 100000 in
set_option maxHeartbeats 2000000 in
theorem given_any (A : Option Addr) (c : Nat) (hs : List (Int × Int)) (h : Int) (w : World) (hr : HolesR w A hs) (hbl : ∀ a, A = some a → a.block < w.heap.size) (hl0 : 0 < hs.length) (hl : hs.length ≤ 1000)
    (h1 : -99 ≤ h) (h2 : h ≤ 99) :
    Calls Tryz.prog 76 #[.slice A hs.length c, .int .i64 h] w (IntsOut (givenL (h / (hs.length : Int)) (h % (hs.length : Int)) hs) w) := by
  have hq := div_small h hs.length h1 h2 hl0
  have HR := Lib.hid hr
  have HBL := Lib.hid hbl
  clear hr hbl
  go_enter Tryz.func76, Tryz.ntmps76
  go_wp2_with fail
  refine (divided_any _ _ _ (by omega) (by omega) (by omega) (by omega)).mono ?_
  rintro e w1 ⟨rfl, hb1⟩
  have HB1 := Lib.hid hb1
  clear hb1
  generalize hQ : h / (hs.length : Int) = q at hq
  generalize hR : h % (hs.length : Int) = r
  have HQ := Lib.hid hQ
  have HRR := Lib.hid hR
  clear hQ hR
  go_wp2_with fail
  have HS := Lib.hid HB1.out.size
  refine (eachHole_any A c hs q r _ _ _ (HR.out.keep HBL.out ((HB1.out.alloc HB1.out.size _).alloc (by have := HB1.out.size; simp; omega) _)) (fun a ha => by have := HBL.out a ha; have := HB1.out.size; simp; omega) hl (by simp) (by simp; omega) (by go_simp) (by go_simp) hq).mono ?_
  rintro e w2 ⟨rfl, hrow, hb2⟩
  have HROW : Hid (RowI w2 (w1.heap.size + 1 + 1) (givenL q r hs)) := Lib.hid (by simpa using hrow)
  have HB2 := Lib.hid hb2
  clear hrow hb2
  go_wp2
  go_ret
  rw [HQ.out, HRR.out]
  refine ⟨w1.heap.size + 1 + 1, by rw [givenL_len]; rfl, HROW.out, ?_, ((HB1.out.alloc HB1.out.size _).alloc (by have := HB1.out.size; simp; omega) _).trans (HB2.out.mono (by have := HB1.out.size; simp; omega))⟩
  have := HB1.out.size
  omega

end Go.Proofs.YtbckfkopdojggaaGreatDoor

/- netOf. -/
namespace Go.Proofs.YtbckfkopdojggaaGreatDoor
open Go.RowKit

def noMark : ByteArray := ⟨#[]⟩
/-- The net strokes of an entry where g strokes are given: the mark x or -, or the strokes less g. -/
def netV (g : Int) (e : Int × ByteArray) : Int × ByteArray := if markK e.2 = 2 ∨ markK e.2 = 3 then (0, e.2) else (e.1 - g, noMark)

set_option maxRecDepth 100000 in
set_option maxHeartbeats 1000000 in
theorem netOf_any (s g : Int) (m : ByteArray) (w : World) (hs : -1000 ≤ s ∧ s ≤ 1000) (hg : -10000 ≤ g ∧ g ≤ 10000) :
    Calls Tryz.prog 136 #[.agg #[.int .i64 s, .string m], .int .i64 g] w fun e w' => e = .returned (.agg #[.int .i64 (netV g (s, m)).1, .string (netV g (s, m)).2]) ∧ Below w.heap.size w w' := by
  rcases mark_cases m with ⟨h1, h2, h3, h4, h5⟩ | ⟨h1, h2, h3, h4, h5⟩ | ⟨h1, h2, h3, h4, h5⟩ | ⟨h1, h2, h3, h4, h5⟩ | ⟨h1, h2, h3, h4, h5⟩
  all_goals
    have H5 := Lib.hid h5
    clear h5
    go_enter Tryz.func136, Tryz.ntmps136
    go_wp2
    refine bodyPost_ret (v := .agg #[.int .i64 (netV g (s, m)).1, .string (netV g (s, m)).2]) ?_ rfl ⟨rfl, ?_⟩
    · unfold netV
      rw [show markK (s, m).2 = markK m from rfl, H5.out]
      simp [results, Tryz.results136, go_sem, noMark]
    · repeat first | exact Below.refl _ _ | apply Below.drew | refine Below.setCell ?_ (by simp <;> omega) _ | refine Below.alloc ?_ (by simp <;> omega) _

end Go.Proofs.YtbckfkopdojggaaGreatDoor

/- Lists of strokes and marks in rows of the call's own: appended to, kept, read. -/
namespace Go.Proofs.YtbckfkopdojggaaGreatDoor
open Go.RowKit

/-- The cells of strokes and marks, two an element. -/
def pairCells (l : List (Int × ByteArray)) : List Value := l.flatMap fun e => [.int .i64 e.1, .string e.2]
theorem pairCells_len : ∀ l : List (Int × ByteArray), (pairCells l).length = l.length * 2
  | [] => rfl
  | e :: l => by have := pairCells_len l; simp only [pairCells, List.flatMap_cons, List.length_append, List.length_cons, List.length_nil] at this ⊢; omega
theorem pairCells_snoc (l : List (Int × ByteArray)) (e : Int × ByteArray) : pairCells (l ++ [e]) = pairCells l ++ [.int .i64 e.1, .string e.2] := by simp [pairCells]
theorem pairCells_at : ∀ (l : List (Int × ByteArray)) (j : Nat), j < l.length → (pairCells l)[j * 2]? = some (.int .i64 (l.getD j (0, ByteArray.empty)).1) ∧ (pairCells l)[j * 2 + 1]? = some (.string (l.getD j (0, ByteArray.empty)).2)
  | [], j, h => by simp at h
  | e :: l, 0, _ => by simp [pairCells]
  | e :: l, j + 1, h => by
    have := pairCells_at l j (by simpa using h)
    simp only [pairCells, List.flatMap_cons, List.cons_append, List.nil_append, show (j + 1) * 2 = j * 2 + 1 + 1 by omega, List.getElem?_cons_succ, List.getD_cons_succ] at this ⊢
    exact this

/-- The slice value v of elements of type TE owns the list l. -/
def PairsOwn (w : World) (base : Nat) (TE : TypeId) (v : Value) (l : List (Int × ByteArray)) : Prop := w.ownsRow base TE 2 v l.length (pairCells l)
section
variable {w w' : World} {base : Nat} {TE : TypeId} {v : Value} {l : List (Int × ByteArray)}
theorem PairsOwn.nil (w : World) (base : Nat) (TE : TypeId) : PairsOwn w base TE (.slice none 0 0) [] := World.ownsRow_nil w base TE 2
theorem PairsOwn.slice (h : PairsOwn w base TE v l) : ∃ A c, v = .slice A l.length c := by
  rcases h.2 with ⟨rfl, h0⟩ | ⟨g, cap, cur, rfl, _⟩
  · exact ⟨none, 0, by rw [h0]⟩
  · exact ⟨_, _, rfl⟩
theorem PairsOwn.block (h : PairsOwn w base TE v l) : ∀ b, v.ownBlock = some b → base ≤ b ∧ b < w.heap.size := World.ownsRow.lt h
theorem PairsOwn.below (h : PairsOwn w base TE v l) (hb : Below w.heap.size w w') : PairsOwn w' base TE v l := by
  refine ⟨h.1, ?_⟩
  rcases h.2 with hn | ⟨g, cap, cur, e1, e2, e3, rest⟩
  · exact .inl hn
  · exact .inr ⟨g, cap, cur, e1, e2, (hb.block g (Array.getElem?_eq_some_iff.1 e3).1).trans e3, rest⟩
theorem PairsOwn.far (h : PairsOwn w base TE v l) {p : Addr} (hp : p.block < base) (u : Value) : PairsOwn (w.setCell p u) base TE v l := by
  refine ⟨h.1, ?_⟩
  rcases h.2 with hn | ⟨g, cap, cur, e1, e2, e3, rest⟩
  · exact .inl hn
  · exact .inr ⟨g, cap, cur, e1, e2, (Below.heap_setCell w p u g (by omega)).trans e3, rest⟩
theorem PairsOwn.entries (h : PairsOwn w base TE v l) : ∃ A c, v = .slice A l.length c ∧ EntriesR w A l := by
  rcases h.2 with ⟨rfl, h0⟩ | ⟨g, cap, cur, rfl, hg, hgb, hnc, hcm, hcs, htk⟩
  · exact ⟨none, 0, by rw [h0], fun j hj => by omega⟩
  · refine ⟨_, _, rfl, fun j hj => ⟨⟨g, 0, none⟩, rfl, ?_, ?_, ?_⟩⟩
    · obtain ⟨p1, p2⟩ := pairCells_at l j hj
      rw [add_zero_at, cell_of_row w g _ _ _ _ hgb]
      rw [← htk, List.getElem?_take_of_lt (by omega)] at p1
      simpa using p1
    · obtain ⟨p1, p2⟩ := pairCells_at l j hj
      rw [add_zero_at, cell_of_row w g _ _ _ _ hgb]
      rw [← htk, List.getElem?_take_of_lt (by omega)] at p2
      simpa using p2
    · rw [add_zero_at]; exact (Array.getElem?_eq_some_iff.1 hgb).1

theorem step_pairs {ops : Array Oper} {o : Oper} {a : Act} {K : Act → World → Prop} {Q : Exit → Act → World → Prop} {E : Prop} (hgd : o.guard = none) (s x : Operand) (T : TypeId)
    (ho : o.op = .call { callee := .builtin .append, args := #[s, x], argTypes := #[T, T] }) (hT : Tryz.prog.underlying T = some (.slice TE))
    (hI : (Tryz.prog.info? TE).map (fun i => (i.zero, i.size, i.bytes)) = some (some (.agg #[.int .i64 0, .string ⟨#[]⟩]), 2, 24))
    (hs : a.eval s = v) (hown : PairsOwn w base TE v l) (hn : l.length ≤ 1000) (t c : Nat) (hx : a.eval x = .slice (some ⟨t, 0, none⟩) 1 c) (y : Int × ByteArray)
    (ht : ∃ ty fr, w.heap[t]? = some (.cells #[.int .i64 y.1, .string y.2] ty fr)) (hbase : base ≤ w.heap.size)
    (h : ∀ g cap w', Hid (PairsOwn w' base TE (.slice (some ⟨g, 0, none⟩) (l.length + 1) cap) (l ++ [y])) → Hid (w.grownBy w' v.ownBlock) → Hid (g < w'.heap.size) → K (a.put o.dst (.slice (some ⟨g, 0, none⟩) (l.length + 1) cap)) w') :
    if Region.wanted o (yielded ops a.tmps) = true then Oper.wp Tryz.prog o a w K Q else E := by
  obtain ⟨i0, hi, hz0, hz1, hz2⟩ := info_parts hI
  obtain ⟨ty, fr, ht⟩ := ht
  refine step_append_lies w hgd s x T ho base TE i0 _ 2 24 hT hi hz0 hz1 hz2 rfl (by decide) v l.length _ hs hown ⟨t, 0, none⟩ 1 c [.int .i64 y.1, .string y.2] hx rfl
    (World.news_of_block ht) (fun u hu => by simp at hu; rcases hu with rfl | rfl <;> rfl) (by decide) (by unfold maxLen; omega) (by omega) hbase w.heap.size rfl ?_
  intro g cap w' h1 h2 h3 h4
  exact h g cap w' (Lib.hid (by unfold PairsOwn; rw [pairCells_snoc, List.length_append]; exact h1)) (Lib.hid h2) (Lib.hid h4)
end

theorem EntriesR.far {w : World} {A : Option Addr} {l : List (Int × ByteArray)} (h : EntriesR w A l) {p : Addr} (hp : ∀ a, A = some a → a.block ≠ p.block) (u : Value) : EntriesR (w.setCell p u) A l := fun j hj => by
  obtain ⟨a, rfl, h0, h1, h2⟩ := h j hj
  have hne : (a.add (j * 2)).block ≠ p.block := by rw [block_of_add]; exact hp a rfl
  have hb := Below.heap_setCell w p u (a.add (j * 2)).block hne
  exact ⟨a, rfl, (World.cell?_of_block hb).trans h0, (World.cell?_of_block (a := ⟨_, _, none⟩) hb).trans h1, by simpa using h2⟩

/-- What is known behind one, two or three new blocks. -/
theorem one_alloc (w : World) (T1 : TypeId) (c1 : Array Value) {W : World} (h : w.alloc (.cells c1 T1) = W) :
    BlkV W w.heap.size T1 c1 ∧ Below w.heap.size w W ∧ W.heap.size = w.heap.size + 1 := by
  subst h
  exact ⟨BlkV.new w T1 c1, (Below.refl _ _).alloc (Nat.le_refl _) _, by simp⟩
theorem two_allocs (w : World) (T1 T2 : TypeId) (c1 c2 : Array Value) {W : World} (h : (w.alloc (.cells c1 T1)).alloc (.cells c2 T2) = W) :
    BlkV W w.heap.size T1 c1 ∧ BlkV W (w.heap.size + 1) T2 c2 ∧ Below w.heap.size w W ∧ W.heap.size = w.heap.size + 1 + 1 := by
  subst h
  refine ⟨(BlkV.new w T1 c1).alloc _, ?_, ((Below.refl _ _).alloc (Nat.le_refl _) _).alloc (by simp) _, by simp⟩
  have := BlkV.new (w.alloc (.cells c1 T1)) T2 c2
  simpa using this
theorem three_allocs (w : World) (T1 T2 T3 : TypeId) (c1 c2 c3 : Array Value) {W : World} (h : ((w.alloc (.cells c1 T1)).alloc (.cells c2 T2)).alloc (.cells c3 T3) = W) :
    BlkV W w.heap.size T1 c1 ∧ BlkV W (w.heap.size + 1) T2 c2 ∧ BlkV W (w.heap.size + 1 + 1) T3 c3 ∧ Below w.heap.size w W ∧ W.heap.size = w.heap.size + 1 + 1 + 1 := by
  subst h
  obtain ⟨h1, h2, h3, h4⟩ := two_allocs w T1 T2 c1 c2 rfl
  refine ⟨h1.alloc _, h2.alloc _, ?_, h3.alloc (by rw [h4]; omega) _, by simp⟩
  have := BlkV.new ((w.alloc (.cells c1 T1)).alloc (.cells c2 T2)) T3 c3
  rwa [h4] at this

theorem info_net : (Tryz.prog.info? 83).map (fun i => (i.zero, i.size, i.bytes)) = some (some (.agg #[.int .i64 0, .string ⟨#[]⟩]), 2, 24) := by kernel_rfl

end Go.Proofs.YtbckfkopdojggaaGreatDoor
