/- TopLinksNotation: entries of the notation, the text's length, points and scores add up: plain mathematics. -/
import Derived.Test.YtbckfkopdojggaaGreatDoorNotO
import Derived.Test.YtbckfkopdojggaaGreatDoorMgE
import Derived.Test.YtbckfkopdojggaaGreatDoorMgF
import Derived.Test.YtbckfkopdojggaaGreatDoorRaiM
set_option linter.unusedVariables false
set_option linter.unusedSimpArgs false
namespace Go.Proofs.YtbckfkopdojggaaGreatDoor
open Go Go.RowKit

/-- An entry as the notation has it. -/
def enOf (e : Int × ByteArray) : NotMath.En := ⟨e.1.toNat, e.2.toList⟩
theorem enV_of {e : Int × ByteArray} (h : 0 ≤ e.1) : enV (enOf e) = e := by
  obtain ⟨n, m⟩ := e
  simp only at h
  unfold enV enOf
  have e1 : ((n.toNat : Nat) : Int) = n := Int.toNat_of_nonneg h
  have e2 : (⟨m.toList.toArray⟩ : ByteArray) = m := by rw [Lib.toList_data]
  exact Prod.ext e1 e2
theorem ens_of {l : List (Int × ByteArray)} (h : ∀ e ∈ l, entryI e.1 e.2 = 0) : (l.map enOf).map enV = l ∧ ∀ x ∈ l.map enOf, NotMath.okE x = true := by
  have h1 : ∀ e ∈ l, enV (enOf e) = e := fun e he => enV_of (entryI_bound (h e he)).1
  refine ⟨?_, fun x hx => ?_⟩
  · rw [List.map_map]
    conv => rhs; rw [← List.map_id l]
    exact List.map_congr_left fun e he => h1 e he
  · obtain ⟨e, he, rfl⟩ := List.mem_map.1 hx
    refine (okE_entry (enOf e)).1 ?_
    rw [h1 e he]
    exact h e he

theorem word_len {x : NotMath.En} (h : NotMath.okE x = true) : (NotMath.wordE x).length ≤ 3 := by
  have hd : ∀ n, (NotMath.digits n).length ≤ 2 := fun n => by unfold NotMath.digits; split <;> simp
  have := hd x.n
  unfold NotMath.wordE
  rcases NotMath.marks_of h with ⟨e, _⟩ | ⟨e, _⟩ | ⟨e, _⟩ | ⟨e, _⟩
  · rw [e]; simp; omega
  · rw [e]; simp; omega
  · rw [e]; simp
  · rw [e]; simp
theorem runs_mem : ∀ (f : Nat) (l : List NotMath.En), (∀ x ∈ l, NotMath.okE x = true) → ∀ t ∈ NotMath.runsW f l, t.length ≤ 6
  | 0, _, _, t, ht => by simp [NotMath.runsW] at ht
  | _ + 1, [], _, t, ht => by simp [NotMath.runsW] at ht
  | f + 1, x :: l, h, t, ht => by
    have hx := word_len (h x (by simp))
    have hl : ∀ y ∈ l, NotMath.okE y = true := fun y hy => h y (by simp [hy])
    rw [NotMath.runsW] at ht
    split at ht
    · rcases List.mem_cons.1 ht with rfl | ht
      · have hd : ∀ n, (NotMath.digits n).length ≤ 2 := fun n => by unfold NotMath.digits; split <;> simp
        have := hd ((l.takeWhile (· = x)).length + 1)
        simp only [List.length_append, List.length_cons]
        omega
      · exact runs_mem f _ (fun y hy => hl y ((List.dropWhile_sublist _).subset hy)) t ht
    · rcases List.mem_cons.1 ht with rfl | ht
      · omega
      · exact runs_mem f l hl t ht
theorem runs_few : ∀ (f : Nat) (l : List NotMath.En), (NotMath.runsW f l).length ≤ f
  | 0, _ => by simp [NotMath.runsW]
  | _ + 1, [] => by simp [NotMath.runsW]
  | f + 1, x :: l => by
    rw [NotMath.runsW]
    split
    · have := runs_few f (l.dropWhile (· = x))
      simp only [List.length_cons]; omega
    · have := runs_few f l
      simp only [List.length_cons]; omega
theorem not_mem : ∀ (f : Nat) (l : List NotMath.En), (∀ x ∈ l, NotMath.okE x = true) → ∀ t ∈ NotMath.notW f l, t.length ≤ 6
  | 0, _, _, t, ht => by simp [NotMath.notW] at ht
  | f + 1, l, h, t, ht => by
    rw [NotMath.notW] at ht
    split at ht
    · exact runs_mem 9 l h t ht
    · rcases List.mem_append.1 ht with ht | ht
      · exact runs_mem 9 _ (fun y hy => h y (List.mem_of_mem_take hy)) t ht
      · rcases List.mem_cons.1 ht with rfl | ht
        · simp
        · exact not_mem f _ (fun y hy => h y (List.mem_of_mem_drop hy)) t ht
theorem not_few : ∀ (f : Nat) (l : List NotMath.En), (NotMath.notW f l).length ≤ 10 * f
  | 0, _ => by simp [NotMath.notW]
  | f + 1, l => by
    rw [NotMath.notW]
    split
    · have := runs_few 9 l
      omega
    · have h1 := runs_few 9 (l.take 9)
      have h2 := not_few f (l.drop 9)
      simp only [List.length_append, List.length_cons]
      omega
theorem join_len (b : Nat) : ∀ ws : List (List UInt8), (∀ t ∈ ws, t.length ≤ b) → (NotMath.joinB ws).length ≤ (b + 1) * ws.length
  | [], _ => by simp [NotMath.joinB]
  | [t], h => by
    have := h t (by simp)
    simp [NotMath.joinB]; omega
  | t :: u :: ts, h => by
    have h1 := h t (by simp)
    have h2 := join_len b (u :: ts) (fun x hx => h x (by simp [hx]))
    rw [NotMath.joinB]
    simp only [List.length_append, List.length_cons] at h2 ⊢
    rw [Nat.mul_add, Nat.mul_one] at h2 ⊢
    rw [Nat.mul_add]
    omega
/-- What is printed of a card. -/
def textOf (l : List NotMath.En) : ByteArray := ⟨(NotMath.joinB (NotMath.notW 4 l)).toArray⟩
theorem text_size {l : List NotMath.En} (h : ∀ x ∈ l, NotMath.okE x = true) : (textOf l).size ≤ 4096 := by
  have h1 := join_len 6 (NotMath.notW 4 l) (not_mem 4 l h)
  have h2 := not_few 4 l
  show (NotMath.joinB (NotMath.notW 4 l)).toArray.size ≤ 4096
  rw [List.size_toArray]
  omega
theorem text_steps {l : List NotMath.En} (hne : l ≠ []) (h36 : l.length ≤ 36) (h : ∀ x ∈ l, NotMath.okE x = true) : NotMath.steps ([], false) (NotMath.splitB (textOf l).data.toList) = some (l, false) := by
  show NotMath.steps ([], false) (NotMath.splitB (NotMath.joinB (NotMath.notW 4 l)).toArray.toList) = some (l, false)
  exact NotMath.read_text l hne h36 h
theorem text_some {l : List NotMath.En} (hne : l ≠ []) (h36 : l.length ≤ 36) (h : ∀ x ∈ l, NotMath.okE x = true) : (textOf l).toList ≠ [] := fun e => by
  have hs := text_steps hne h36 h
  rw [Lib.toList_data] at e
  rw [e] at hs
  have : NotMath.steps ([], false) (NotMath.splitB []) = none := by decide
  rw [this] at hs
  cases hs

/-- What points and scores add up to, where all points are above nought. -/
def fullT (hs : List (Int × Int)) : Int := ForMath.sumI (hs.map fun x => 2 + x.1)
theorem full_sum : ∀ (hs : List (Int × Int)) (nl : List (Int × ByteArray)), hs.length = nl.length → (∀ n ∈ nl, countsB n.2 = true) → (∀ x ∈ parL pointsF 0 hs nl, 0 < x) → sumS nl = fullT hs - ForMath.sumI (parL pointsF 0 hs nl)
  | [], [], _, _, _ => rfl
  | [], _ :: _, h, _, _ => by simp at h
  | _ :: _, [], h, _, _ => by simp at h
  | p :: hs, n :: nl, h, hc, hp => by
    have h1 := hc n (by simp)
    have h2 := hp (parV pointsF 0 p.1 n) (by simp [parL])
    have ih := full_sum hs nl (by simpa using h) (fun m hm => hc m (by simp [hm])) (fun x hx => hp x (by
      unfold parL at hx ⊢
      rw [List.zip_cons_cons, List.map_cons]
      exact List.mem_cons_of_mem _ hx))
    have e1 : parL pointsF 0 (p :: hs) (n :: nl) = parV pointsF 0 p.1 n :: parL pointsF 0 hs nl := by simp [parL]
    have e2 : sumS (n :: nl) = n.1 + sumS nl := rfl
    have e3 : fullT (p :: hs) = 2 + p.1 + fullT hs := rfl
    rw [e1, e2, e3, ForMath.sumI_cons, ih]
    unfold parV at h2 ⊢
    rw [if_pos h1] at h2 ⊢
    unfold pointsF at h2 ⊢
    omega
theorem given_501N {h : Int} {n : Nat} (h1 : -99 ≤ h) (h2 : h ≤ 99) (hn : 0 < n) (hs : List (Int × Int)) : ∀ z ∈ givenL (h / (n : Int)) (h % (n : Int)) hs, -501 ≤ z ∧ z ≤ 501 := fun z hz => by
  unfold givenL at hz
  obtain ⟨x, _, rfl⟩ := List.mem_map.1 hz
  have a := Int.ediv_mul_le h (show (n : Int) ≠ 0 by omega)
  have b := Int.lt_ediv_add_one_mul_self h (show (0 : Int) < n by omega)
  have hq : -500 ≤ h / (n : Int) ∧ h / (n : Int) ≤ 500 := by
    constructor
    · by_cases g : h / (n : Int) + 1 ≤ -100
      · have := Int.mul_le_mul_of_nonneg_right g (show (0 : Int) ≤ n by omega)
        omega
      · omega
    · by_cases g : (100 : Int) ≤ h / (n : Int)
      · have := Int.mul_le_mul_of_nonneg_right g (show (0 : Int) ≤ n by omega)
        omega
      · omega
  show -501 ≤ addI _ _ _ ∧ addI _ _ _ ≤ 501
  unfold addI
  split <;> omega
theorem net_600 {hs : List (Int × Int)} {l : List (Int × ByteArray)} {h : Int} (F : Fit hs l h) : ∀ e ∈ netsOf hs h l, -600 ≤ e.1 ∧ e.1 ≤ 600 := fun e he => by
  unfold netsOf netsL at he
  obtain ⟨⟨g, n⟩, hz, rfl⟩ := List.mem_map.1 he
  have h1 := List.of_mem_zip hz
  have h2 := F.strokes n h1.2
  have h3 := given_501N F.lo F.hi F.pos hs g h1.1
  show -600 ≤ (netV g n).1 ∧ (netV g n).1 ≤ 600
  unfold netV
  split
  · simp
  · simp only; omega
theorem sum_600 {hs : List (Int × Int)} {l : List (Int × ByteArray)} {h : Int} (F : Fit hs l h) : -90000 ≤ sumS (netsOf hs h l) ∧ sumS (netsOf hs h l) ≤ 90000 := by
  have h1 := sumI_bound 600 (firsts (netsOf hs h l)) (fun x hx => by
    obtain ⟨e, he, rfl⟩ := List.mem_map.1 hx
    exact net_600 F e he)
  have h2 : (firsts (netsOf hs h l)).length ≤ 36 := by rw [firsts_len, F.netsLen]; exact F.most
  unfold sumS
  omega
theorem pts_2000 {hs : List (Int × Int)} {l : List (Int × ByteArray)} {h : Int} (F : Fit hs l h) (hp : ∀ x ∈ hs, -100 ≤ x.1 ∧ x.1 ≤ 100) : ∀ x ∈ parL pointsF 0 hs (netsOf hs h l), -2000 ≤ x ∧ x ≤ 2000 := fun x hx => by
  unfold parL at hx
  obtain ⟨⟨p, n⟩, hz, rfl⟩ := List.mem_map.1 hx
  have h1 := List.of_mem_zip hz
  have h2 := net_600 F n h1.2
  have h3 := hp p h1.1
  show -2000 ≤ parV pointsF 0 p.1 n ∧ parV pointsF 0 p.1 n ≤ 2000
  unfold parV pointsF
  split <;> omega
theorem full_bound {hs : List (Int × Int)} (hp : ∀ x ∈ hs, -100 ≤ x.1 ∧ x.1 ≤ 100) (h36 : hs.length ≤ 36) : -100000 ≤ fullT hs ∧ fullT hs ≤ 100000 := by
  have h1 := sumI_bound 200 (hs.map fun x => 2 + x.1) (fun x hx => by
    obtain ⟨e, he, rfl⟩ := List.mem_map.1 hx
    have := hp e he
    omega)
  rw [List.length_map] at h1
  unfold fullT
  omega
theorem pl_name {hs : List (Int × Int)} {p : Pl} (h : plI hs p = 0) (nm : ByteArray) (hn : nameB nm = true) : plI hs { p with nm := nm } = 0 := by
  have h1 := firstI_zero _ h (holesI hs) (by simp)
  have h2 := firstI_zero _ h (cardI hs p.nm p.l) (by simp)
  have h3 := firstI_zero _ h (withinI p.h (-99) 99) (by simp)
  have h4 := firstI_zero _ h2 (pairedI p.l.length hs.length) (by simp)
  have h5 := firstI_zero _ h2 (entriesI p.l) (by simp)
  refine firstI_all _ fun x hx => ?_
  simp only [List.mem_cons, List.not_mem_nil, or_false] at hx
  rcases hx with rfl | rfl | rfl
  · exact h1
  · refine firstI_all _ fun y hy => ?_
    simp only [List.mem_cons, List.not_mem_nil, or_false] at hy
    rcases hy with rfl | rfl | rfl | rfl
    · exact h1
    · show unlessI (nameB nm) 8 = 0
      rw [hn]; rfl
    · exact h4
    · exact h5
  · exact h3
theorem pl_entries {hs : List (Int × Int)} {p : Pl} (h : plI hs p = 0) : ∀ e ∈ p.l, entryI e.1 e.2 = 0 := by
  have h2 := firstI_zero _ h (cardI hs p.nm p.l) (by simp)
  exact entriesI_zero _ (firstI_zero _ h2 (entriesI p.l) (by simp))
theorem again_name : nameB ⟨#[97, 103, 97, 105, 110]⟩ = true := by decide +kernel
end Go.Proofs.YtbckfkopdojggaaGreatDoor
