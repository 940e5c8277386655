/- A polygon's sides with their numbers; what the rounds over them keep. -/
import Derived.Test.YtclhohfkacgooaaPolyE
import Derived.Test.YtclhohfkacgooaaPolyC
import Derived.Test.YtclhohfkacgooaaPolyD
import Derived.StillTailTactics
import Derived.RangeFuncNested
import Derived.RangeFuncBound
import Derived.RangeFuncCalls
import Derived.RangeFuncLeaves
import Derived.Shelf.Abstract
import Derived.Shelf.RegionOpen
import Derived.OwnWalkIn
import Derived.TacticsInMore
import Derived.LoopNIn
import Derived.LoopIn
import Derived.Lib.QuietBelowIn
namespace Go.Proofs.Ytclhohfkacgooaa
open Go.RowKit Go.Shelf

attribute [local go_sem] Oper.semAt_some

/-- The side of number k, and all sides with their numbers. -/
def sideOf (ps : List Pl) (k : Nat) : Sd := (ps.getD k (0, 0), ps.getD ((k + 1) % ps.length) (0, 0))
def numbered (ps : List Pl) (k : Nat) : List (Nat × Sd) := (List.range k).map fun i => (i, sideOf ps i)
theorem numbered_succ (ps : List Pl) (k : Nat) : numbered ps (k + 1) = numbered ps k ++ [(k, sideOf ps k)] := by simp [numbered, List.range_succ]
theorem numbered_length (ps : List Pl) (k : Nat) : (numbered ps k).length = k := by simp [numbered]
theorem numbered_prefix (ps : List Pl) {k m : Nat} (h : k ≤ m) : numbered ps k <+: numbered ps m := by
  obtain ⟨d, rfl⟩ : ∃ d, m = k + d := ⟨m - k, by omega⟩
  unfold numbered
  rw [List.range_add, List.map_append]
  exact List.prefix_append _ _

/-- What the rounds are handed: a number, and a side whose places have coordinates of at most a million. -/
abbrev SdX := { x : Nat × Sd // x.1 < 64 ∧ InS x.2 }
abbrev encX (x : SdX) : Array Value := #[.int .i64 (x.1.1 : Int), sdV x.1.2]

/-- What a round keeps: all below n₀, and the cell of block Bs. -/
def KeepS (n₀ Bs : Nat) (W W' : World) : Prop := Below n₀ W W' ∧ ∀ v, W.cell? ⟨Bs, 0, none⟩ = some v → W'.cell? ⟨Bs, 0, none⟩ = some v
theorem keepS_t {n₀ Bs : Nat} {A B C : World} (h : KeepS n₀ Bs A B) (k : KeepS n₀ Bs B C) : KeepS n₀ Bs A C := ⟨h.1.trans k.1, fun v hv => k.2 v (h.2 v hv)⟩
theorem keepS_b {w : World} {n₀ Bs : Nat} (hn : n₀ ≤ w.heap.size) (W : World) (l : Nat) (o o' : Obj) (hl : w.heap.size ≤ l) (ho : W.heap[l]? = some o) (h1 : o.isCells = false) (h2 : o.isWalk = false) : KeepS n₀ Bs W (W.putObj l o') :=
  ⟨belowK_b hn W l o o' hl ho h1 h2, fun _ hv => cell_kept hv (grownBy_putObj' W l o') (fun r e => by cases e; exact ⟨o, ho, h1⟩)⟩
theorem keepS_alloc {n₀ Bs : Nat} {W : World} (h : n₀ ≤ W.heap.size) (o : Obj) : KeepS n₀ Bs W (W.alloc o) := ⟨(Below.refl _ W).alloc h o, fun _ hv => cell_kept hv (World.grownBy_alloc W o none) (fun r e => by cases e)⟩
theorem keepS_below {n₀ Bs : Nat} {W W' : World} (hb : Below W.heap.size W W') (h : n₀ ≤ W.heap.size) : KeepS n₀ Bs W W' :=
  ⟨hb.mono h, fun _ hv => by obtain ⟨o, ho, _⟩ := cells_of_cell hv; exact (hb.cell (p := ⟨Bs, 0, none⟩) (Array.getElem?_eq_some_iff.1 ho).1).trans hv⟩
theorem keepS_set {n₀ Bs b : Nat} {W : World} (h : n₀ ≤ b) (hne : Bs ≠ b) (u : Value) : KeepS n₀ Bs W (W.setCell ⟨b, 0, none⟩ u) :=
  ⟨(Below.refl _ W).setCell (p := ⟨b, 0, none⟩) h u, fun _ hv => by rw [← hv]; exact World.cell?_of_block (Below.heap_setCell W ⟨b, 0, none⟩ u Bs hne)⟩
theorem keepsOthers_below {W W' : World} (hb : Below W.heap.size W W') : KeepsOthers W W' := ⟨hb.size, fun k o hk _ => (hb.block k (Array.getElem?_eq_some_iff.1 hk).1).trans hk⟩
theorem boxed_below {W W' : World} {B : Nat} {t : TypeId} {v : Value} (h : Boxed W B t v) (hb : Below W.heap.size W W') : Boxed W' B t v := (hb.block B h.lt).trans h

/-- Block B holds a side. -/
def BoxS (W : World) (B : Nat) (s : Sd) : Prop := W.heap[B]? = some (.cells #[.int .i64 s.1.1, .int .i64 s.1.2, .int .i64 s.2.1, .int .i64 s.2.2] 64 (0, 0))
theorem BoxS.lt {W : World} {B : Nat} {s : Sd} (h : BoxS W B s) : B < W.heap.size := (Array.getElem?_eq_some_iff.1 h).1
theorem BoxS.new (W : World) (s : Sd) : BoxS (W.alloc (.cells #[.int .i64 s.1.1, .int .i64 s.1.2, .int .i64 s.2.1, .int .i64 s.2.2] 64)) W.heap.size s := World.alloc_heap_new W _
theorem BoxS.kept {W W' : World} {row : Option Nat} {B : Nat} {s : Sd} (h : BoxS W B s) (hg : W.grownBy W' row) (hne : some B ≠ row) : BoxS W' B s := (hg.block B h.lt hne).trans h
theorem BoxS.alloc {W : World} {B : Nat} {s : Sd} (h : BoxS W B s) (o : Obj) : BoxS (W.alloc o) B s := h.kept (World.grownBy_alloc W o none) (by simp)
theorem BoxS.below {W W' : World} {B : Nat} {s : Sd} (h : BoxS W B s) (hb : Below W.heap.size W W') : BoxS W' B s := (hb.block B h.lt).trans h
theorem BoxS.c0 {W : World} {B : Nat} {s : Sd} (h : BoxS W B s) : W.cell? ⟨B, 0, none⟩ = some (.int .i64 s.1.1) := by simp [World.cell?, show W.heap[B]? = _ from h]
theorem BoxS.c1 {W : World} {B : Nat} {s : Sd} (h : BoxS W B s) : W.cell? ⟨B, 1, none⟩ = some (.int .i64 s.1.2) := by simp [World.cell?, show W.heap[B]? = _ from h]
theorem BoxS.c2 {W : World} {B : Nat} {s : Sd} (h : BoxS W B s) : W.cell? ⟨B, 2, none⟩ = some (.int .i64 s.2.1) := by simp [World.cell?, show W.heap[B]? = _ from h]
theorem BoxS.c3 {W : World} {B : Nat} {s : Sd} (h : BoxS W B s) : W.cell? ⟨B, 3, none⟩ = some (.int .i64 s.2.2) := by simp [World.cell?, show W.heap[B]? = _ from h]
theorem boxS_own {β : Type} (B : Nat) (f : β → Sd) : Own (fun s W => BoxS W B (f s)) := fun s X Y row hs hg hrow =>
  hs.kept hg (fun e' => by obtain ⟨o, ho, hc⟩ := hrow B e'.symm; rw [show X.heap[B]? = _ from hs] at ho; cases ho; cases hc)
theorem keepS_refl (n₀ Bs : Nat) (W : World) : KeepS n₀ Bs W W := ⟨Below.refl _ _, fun _ h => h⟩

set_option maxHeartbeats 1000000 in
theorem sides_in (F : Fence) (n : Nat) (h5 : F.fn 22) (hro : F.round = none) (A : Option Addr) (m c : Nat) (w : World) :
    CallsIn F n Try.prog 22 #[.slice A m c] w fun e w' => e = .returned (.func (.func 35) #[] #[.pointer (some ⟨w.heap.size, 0, none⟩)]) ∧ w' = w.alloc (.cells #[.slice A m c] 41) := by
  refine callsIn_of_wp Try.func22 rfl h5 ?_ hro
  simp only [Try.ntmps22, List.size_toArray, List.length_cons, List.length_nil, Nat.reduceAdd, Nat.reduceSub, Array.replicate_succ, Array.replicate_zero, List.push_toArray, List.append_toArray, List.nil_append, List.cons_append]
  gi_wp2
  go_ret
  exact ⟨rfl, rfl⟩

/-- The iterator's law. -/
def SidesLaw : Prop := ∀ (n : Nat), 1 ≤ n → ∀ (Bs n₀ : Nat) (A : Option Addr) (c : Nat) (ps : List Pl) (w : World), ps.length ≤ 64 → (∀ p ∈ ps, In 1000000 p) →
  Bs < w.heap.size → n₀ ≤ w.heap.size → w.cell? ⟨Bs, 0, none⟩ = some (.slice A ps.length c) → PlacesR w n₀ A ps →
  SeqStopsK Fence.wide n Try.prog 35 #[.pointer (some ⟨Bs, 0, none⟩)] encX (KeepS n₀ Bs) (fun ys => ys.map (·.1) = numbered ps ps.length) (fun pre => pre.map (·.1) <+: numbered ps ps.length) ps.length w

end Go.Proofs.Ytclhohfkacgooaa
