/- card.entryOf: the entry with a word. -/
import Derived.Test.YtbckfkopdojggaaGreatDoorNotB
set_option linter.unusedVariables false
set_option linter.unusedSimpArgs false
namespace Go.Proofs.YtbckfkopdojggaaGreatDoor
open Go.RowKit

theorem suffix99 (l : List UInt8) : Lib.hasSuffix l [99] = decide (l.getLast? = some 99) ∧ Lib.trimSuffix l [99] = if l.getLast? = some 99 then l.dropLast else l := by
  have h : Lib.hasSuffix l [99] = decide (l.getLast? = some 99) := by
    rw [Bool.eq_iff_iff]
    unfold Lib.hasSuffix
    rw [List.isSuffixOf_iff_suffix, decide_eq_true_eq]
    constructor
    · rintro ⟨t, rfl⟩; simp
    · intro h
      obtain ⟨ys, rfl⟩ := List.getLast?_eq_some_iff.1 h
      exact ⟨ys, rfl⟩
  refine ⟨h, ?_⟩
  unfold Lib.trimSuffix
  rw [h]
  by_cases hl : l.getLast? = some 99
  · simp only [hl, decide_true, if_true, List.length_cons, List.length_nil]
    rw [List.dropLast_eq_take]
  · simp only [hl, decide_false, if_false, Bool.false_eq_true]

def entV (o : Option NotMath.En) : Value := match o with
  | some x => .agg #[.int .i64 (x.n : Nat), .string ⟨x.mark.toArray⟩]
  | none => .agg #[.int .i64 0, .string ⟨#[]⟩]

theorem entryOf_any (s : ByteArray) (w : World) (hs : s.size ≤ 9223372036854775807) :
    Calls Tryz.prog 177 #[.string s] w fun e w' => e = .returned (.tuple #[entV (NotMath.entryOf s.data.toList), .bool (NotMath.entryOf s.data.toList).isSome]) ∧ Below w.heap.size w w' := by
  have hl : s.data.toList = s.toList := (Lib.toList_data s).symm
  have HC := fun w => Tryz.strings_CutSuffix s ⟨#[99]⟩ w hs
  by_cases h1 : s.toList = [120]
  · have e1 : NotMath.entryOf s.data.toList = some ⟨0, [120]⟩ := by rw [hl, h1]; rfl
    rw [e1]
    have hsv : s = ⟨#[120]⟩ := by rw [← Lib.mk_data s, hl, h1]
    subst hsv
    clear hl HC e1
    go_enter Tryz.func177, Tryz.ntmps177
    go_wp2
    refine bodyPost_ret (v := .tuple #[.agg #[.int .i64 0, .string ⟨#[120]⟩], .bool true]) (by simp [results, Tryz.results177, go_sem]) rfl ⟨rfl, ?_⟩
    exact (Below.refl _ _).alloc (Nat.le_refl _) _
  by_cases h2 : s.toList = [45]
  · have e1 : NotMath.entryOf s.data.toList = some ⟨0, [45]⟩ := by rw [hl, h2]; rfl
    rw [e1]
    have hsv : s = ⟨#[45]⟩ := by rw [← Lib.mk_data s, hl, h2]
    subst hsv
    clear hl HC e1
    go_enter Tryz.func177, Tryz.ntmps177
    go_wp2
    refine bodyPost_ret (v := .tuple #[.agg #[.int .i64 0, .string ⟨#[45]⟩], .bool true]) (by simp [results, Tryz.results177, go_sem]) rfl ⟨rfl, ?_⟩
    exact (Below.refl _ _).alloc (Nat.le_refl _) _
  obtain ⟨x1, x2⟩ := suffix99 s.data.toList
  have hsz := Lib.size_eq s
  obtain ⟨t, ht⟩ : ∃ t : ByteArray, (⟨(Lib.trimSuffix s.data.toList [99]).toArray⟩ : ByteArray) = t := ⟨_, rfl⟩
  have htl : t.data.toList = Lib.trimSuffix s.data.toList [99] := by rw [← ht]
  have hts : t.size ≤ 9223372036854775807 := by
    rw [Lib.size_eq, htl, x2]
    split
    · rw [List.length_dropLast]; omega
    · omega
  have HI := fun w => integerOf_any t w hts
  have HC : ∀ w, Calls Tryz.prog 200 #[.string s, .string ⟨#[99]⟩] w fun e w' => e = .returned (.tuple #[.string t, .bool (decide (s.data.toList.getLast? = some 99))]) ∧ w' = w := fun w => by
    have h := HC w
    rw [← ht]
    rw [← x1]
    exact h
  have e0 : NotMath.entryOf s.data.toList = if s.data.toList.getLast? = some 99 then (NotMath.num t.data.toList).map fun n => ⟨n, [99]⟩ else (NotMath.num t.data.toList).map fun n => ⟨n, []⟩ := by
    unfold NotMath.entryOf
    rw [if_neg (by rw [hl]; exact fun h => h.elim h1 h2), htl, x2]
    split <;> rfl
  have K0 : Hid (∀ w2, Below (w.heap.size + 1) (w.alloc (.cells #[.int .i64 0, .string ⟨#[]⟩] 73)) w2 → w2.cell? ⟨w.heap.size, 0, none⟩ = some (.int .i64 0)) := Lib.hid fun w2 h => (h.cell (p := ⟨w.heap.size, 0, none⟩) (Nat.lt_succ_self _)).trans (cell_of_row _ w.heap.size 0 _ _ _ (heap_alloc_new w _))
  have K1 : Hid (∀ w2, Below (w.heap.size + 1) (w.alloc (.cells #[.int .i64 0, .string ⟨#[]⟩] 73)) w2 → w2.cell? ⟨w.heap.size, 1, none⟩ = some (.string ⟨#[]⟩)) := Lib.hid fun w2 h => (h.cell (p := ⟨w.heap.size, 1, none⟩) (Nat.lt_succ_self _)).trans (cell_of_row _ w.heap.size 1 _ _ _ (heap_alloc_new w _))
  have F0 : Hid (∀ w2, Below (w.heap.size + 1) (w.alloc (.cells #[.int .i64 0, .string ⟨#[]⟩] 73)) w2 → w2.frozen? ⟨w.heap.size, 0, none⟩ = false) := Lib.hid fun w2 h => (h.frozen (p := ⟨w.heap.size, 0, none⟩) (Nat.lt_succ_self _)).trans (by unfold World.frozen?; rw [heap_alloc_new]; rfl)
  have F1 : Hid (∀ w2, Below (w.heap.size + 1) (w.alloc (.cells #[.int .i64 0, .string ⟨#[]⟩] 73)) w2 → w2.frozen? ⟨w.heap.size, 1, none⟩ = false) := Lib.hid fun w2 h => (h.frozen (p := ⟨w.heap.size, 1, none⟩) (Nat.lt_succ_self _)).trans (by unfold World.frozen?; rw [heap_alloc_new]; rfl)
  obtain ⟨q, hq⟩ : ∃ q, decide (s.data.toList.getLast? = some 99) = q := ⟨_, rfl⟩
  have e0' : NotMath.entryOf s.data.toList = if q = true then (NotMath.num t.data.toList).map fun n => ⟨n, [99]⟩ else (NotMath.num t.data.toList).map fun n => ⟨n, []⟩ := by
    rw [e0, ← hq]
    by_cases h : s.data.toList.getLast? = some 99
    · rw [if_pos h, if_pos (by simpa using h)]
    · rw [if_neg h, if_neg (by simpa using h)]
  rw [hq] at HC
  rw [e0']
  have t1 : (s.toList == [120]) = false := by simpa using h1
  have t2 : (s.toList == [45]) = false := by simpa using h2
  clear e0 e0' hq ht htl x1 x2 hl hsz hts
  have HB : Hid (∀ w2, Below (w.heap.size + 1) (w.alloc (.cells #[.int .i64 0, .string ⟨#[]⟩] 73)) w2 → Below w.heap.size w w2) := Lib.hid fun w2 h => ((Below.refl w.heap.size w).alloc (Nat.le_refl _) _).trans (h.mono (Nat.le_succ _))
  cases hn : NotMath.num t.data.toList with
  | none =>
    have m1 : numI t.data.toList = 0 := by unfold numI; rw [hn]
    have m2 : wnumB t.data.toList = false := by unfold wnumB; rw [hn]; rfl
    rw [m1, m2] at HI
    clear hn m1 m2
    cases q
    · simp only [Option.map_none, ite_self]
      go_enter Tryz.func177, Tryz.ntmps177
      go_wp2_with (first | (go_at_call 200; (with_reducible refine (HC _).mono ?_); rintro e w1 ⟨rfl, rfl⟩) | (go_at_call 176; (with_reducible refine (HI _).mono ?_); rintro e w2 ⟨rfl, hb2⟩; rw [World.size_alloc] at hb2; have c0 := K0.out w2 hb2; have c1 := K1.out w2 hb2; have z0 := F0.out w2 hb2; have z1 := F1.out w2 hb2; have hbw := HB.out w2 hb2))
      refine bodyPost_ret (v := .tuple #[entV none, .bool false]) (by simp [results, Tryz.results177, go_sem, c0, c1, entV]) rfl ⟨rfl, ?_⟩
      exact (hbw.setCell (p := ⟨w.heap.size, 0, none⟩) (Nat.le_refl _) _).setCell (p := ⟨w.heap.size, 1, none⟩) (Nat.le_refl _) _
    · simp only [Option.map_none, ite_self]
      go_enter Tryz.func177, Tryz.ntmps177
      go_wp2_with (first | (go_at_call 200; (with_reducible refine (HC _).mono ?_); rintro e w1 ⟨rfl, rfl⟩) | (go_at_call 176; (with_reducible refine (HI _).mono ?_); rintro e w2 ⟨rfl, hb2⟩; rw [World.size_alloc] at hb2; have c0 := K0.out w2 hb2; have c1 := K1.out w2 hb2; have z0 := F0.out w2 hb2; have z1 := F1.out w2 hb2; have hbw := HB.out w2 hb2))
      refine bodyPost_ret (v := .tuple #[entV none, .bool false]) (by simp [results, Tryz.results177, go_sem, c0, c1, entV]) rfl ⟨rfl, ?_⟩
      exact (hbw.setCell (p := ⟨w.heap.size, 0, none⟩) (Nat.le_refl _) _).setCell (p := ⟨w.heap.size, 1, none⟩) (Nat.le_refl _) _
  | some n =>
    have m1 : numI t.data.toList = (n : Nat) := by unfold numI; rw [hn]
    have m2 : wnumB t.data.toList = true := by unfold wnumB; rw [hn]; rfl
    rw [m1, m2] at HI
    clear hn m1 m2
    cases q
    · simp only [Option.map_some, Bool.false_eq_true, if_false]
      go_enter Tryz.func177, Tryz.ntmps177
      go_wp2_with (first | (go_at_call 200; (with_reducible refine (HC _).mono ?_); rintro e w1 ⟨rfl, rfl⟩) | (go_at_call 176; (with_reducible refine (HI _).mono ?_); rintro e w2 ⟨rfl, hb2⟩; rw [World.size_alloc] at hb2; have c0 := K0.out w2 hb2; have c1 := K1.out w2 hb2; have z0 := F0.out w2 hb2; have z1 := F1.out w2 hb2; have hbw := HB.out w2 hb2))
      refine bodyPost_ret (v := .tuple #[.agg #[.int .i64 (n : Nat), .string ⟨#[]⟩], .bool true]) (by simp [results, Tryz.results177, go_sem, c0, c1, entV]) rfl ⟨rfl, ?_⟩
      exact (hbw.setCell (p := ⟨w.heap.size, 0, none⟩) (Nat.le_refl _) _).setCell (p := ⟨w.heap.size, 1, none⟩) (Nat.le_refl _) _
    · simp only [Option.map_some, if_true]
      go_enter Tryz.func177, Tryz.ntmps177
      go_wp2_with (first | (go_at_call 200; (with_reducible refine (HC _).mono ?_); rintro e w1 ⟨rfl, rfl⟩) | (go_at_call 176; (with_reducible refine (HI _).mono ?_); rintro e w2 ⟨rfl, hb2⟩; rw [World.size_alloc] at hb2; have c0 := K0.out w2 hb2; have c1 := K1.out w2 hb2; have z0 := F0.out w2 hb2; have z1 := F1.out w2 hb2; have hbw := HB.out w2 hb2))
      refine bodyPost_ret (v := .tuple #[.agg #[.int .i64 (n : Nat), .string ⟨#[99]⟩], .bool true]) (by simp [results, Tryz.results177, go_sem, c0, c1, entV]) rfl ⟨rfl, ?_⟩
      exact (hbw.setCell (p := ⟨w.heap.size, 0, none⟩) (Nat.le_refl _) _).setCell (p := ⟨w.heap.size, 1, none⟩) (Nat.le_refl _) _

end Go.Proofs.YtbckfkopdojggaaGreatDoor
