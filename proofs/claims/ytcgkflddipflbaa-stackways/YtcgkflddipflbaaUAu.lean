/- The law's copy of an automaton, with memory of its own. -/
/- Rows of one's own whose elements have any number of cells, no two in one block. -/
import Derived.Test.YtcgkflddipflbaaUCk
import Derived.Test.YtcgkflddipflbaaLOfs
import Derived.Test.YtcgkflddipflbaaHMem
import Derived.Test.YtcgkflddipflbaaHBk
import Derived.Test.YtcgkflddipflbaaLOwn
namespace Go.Proofs.Ytcgkflddipflbaa
open Go.RowKit
set_option linter.unusedVariables false
attribute [local go_sem ↓] app_fold

theorem Try.infoT : (Try.prog.info? 78).map (fun i => (i.zero, i.size, i.bytes)) = some (some (.agg #[.int .i64 0, .int .i64 0, .int .i64 0]), 3, 24) := by kernel_rfl

/-- Steps, flat. -/
def flatT (T : List StepI) : List Value := T.flatMap fun x => [.int .i64 x.1, .int .i64 x.2.1, .int .i64 x.2.2]
theorem flatT_len (T : List StepI) : (flatT T).length = T.length * 3 := by
  induction T with
  | nil => rfl
  | cons x T ih => simp only [flatT, List.flatMap_cons, List.length_append, List.length_cons, List.length_nil] at ih ⊢; rw [ih]; omega
theorem flatT_get (T : List StepI) {i : Nat} (hi : i < T.length) : (flatT T)[i * 3]? = some (.int .i64 (T.getD i (0, 0, 0)).1) ∧ (flatT T)[i * 3 + 1]? = some (.int .i64 (T.getD i (0, 0, 0)).2.1) ∧ (flatT T)[i * 3 + 2]? = some (.int .i64 (T.getD i (0, 0, 0)).2.2) := by
  induction T generalizing i with
  | nil => simp at hi
  | cons x T ih =>
    cases i with
    | zero => exact ⟨rfl, rfl, rfl⟩
    | succ i =>
      have := ih (i := i) (by simpa using hi)
      simp only [flatT, List.flatMap_cons, List.cons_append, List.nil_append] at this ⊢
      rw [show (i + 1) * 3 = i * 3 + 3 by omega, show i * 3 + 3 + 1 = (i * 3 + 1) + 3 by omega, show i * 3 + 3 + 2 = (i * 3 + 2) + 3 by omega]
      simp only [List.getElem?_cons_succ, List.getD_cons_succ]
      exact this
theorem flatT_mem {T : List StepI} {u : Value} (h : u ∈ flatT T) : u.oneCell' = true := by
  obtain ⟨x, _, hx⟩ := List.mem_flatMap.1 h
  simp only [List.mem_cons, List.not_mem_nil, or_false] at hx
  rcases hx with rfl | rfl | rfl <;> rfl
theorem steps_cells {w : World} {b off : Nat} {T : List StepI} (h : ∀ i, i < T.length → w.cell? ⟨b, off + i * 3, none⟩ = some (.int .i64 (T.getD i (0, 0, 0)).1) ∧ w.cell? ⟨b, off + i * 3 + 1, none⟩ = some (.int .i64 (T.getD i (0, 0, 0)).2.1) ∧ w.cell? ⟨b, off + i * 3 + 2, none⟩ = some (.int .i64 (T.getD i (0, 0, 0)).2.2)) :
    ∀ j u, (flatT T)[j]? = some u → w.cell? ⟨b, off + j, none⟩ = some u := by
  intro j u hu
  have hj : j < T.length * 3 := by have := (List.getElem?_eq_some_iff.1 hu).1; rwa [flatT_len] at this
  obtain ⟨i, r, hr, rfl⟩ : ∃ i r, r < 3 ∧ j = i * 3 + r := ⟨j / 3, j % 3, Nat.mod_lt _ (by decide), by omega⟩
  have hi : i < T.length := by omega
  obtain ⟨f0, f1, f2⟩ := flatT_get T hi
  obtain ⟨c0, c1, c2⟩ := h i hi
  have : r = 0 ∨ r = 1 ∨ r = 2 := by omega
  rcases this with rfl | rfl | rfl
  · rw [Nat.add_zero, f0] at hu; rw [Nat.add_zero, c0]; exact hu
  · rw [f1] at hu; rw [← Nat.add_assoc, c1]; exact hu
  · rw [f2] at hu; rw [← Nat.add_assoc, c2]; exact hu
theorem cells_steps {w : World} {b off : Nat} {T : List StepI} (h : ∀ j u, (flatT T)[j]? = some u → w.cell? ⟨b, off + j, none⟩ = some u) : StepsAt w (some ⟨b, off, none⟩) T := by
  refine .inr ⟨b, off, rfl, fun i hi => ?_⟩
  obtain ⟨f0, f1, f2⟩ := flatT_get T hi
  exact ⟨h _ _ f0, by rw [Nat.add_assoc]; exact h _ _ f1, by rw [Nat.add_assoc]; exact h _ _ f2⟩

end Go.Proofs.Ytcgkflddipflbaa

namespace Go.Proofs.Ytcgkflddipflbaa
open Go.RowKit
set_option linter.unusedVariables false

/-- An element's type, its cells, a slice, how many elements, the cells that lie in it. -/
structure ItemG where
  e : TypeId
  sz : Nat
  v : Value
  n : Nat
  xs : List Value
def OwnsGI (B : Nat) (w : World) (it : ItemG) : Prop := w.ownsRow B it.e it.sz it.v it.n it.xs ∧ ∃ a c, it.v = .slice a it.n c
def OwnsG (B : Nat) (w : World) (its : List ItemG) : Prop := (∀ it, it ∈ its → OwnsGI B w it) ∧ its.Pairwise (fun p q => Apart p.v q.v)
section
variable {B : Nat} {w w' : World} {its r : List ItemG}
theorem OwnsG.perm {its' : List ItemG} (h : OwnsG B w its) (p : its.Perm its') : OwnsG B w its' :=
  ⟨fun it hm => h.1 it (p.mem_iff.2 hm), (p.pairwise_iff (fun {a b} (hab : Apart a.v b.v) => hab.symm)).1 h.2⟩
theorem OwnsG.no (B : Nat) (w : World) : OwnsG B w [] := ⟨fun _ h => by simp at h, List.Pairwise.nil⟩
theorem OwnsG.empty (h : OwnsG B w r) (e : TypeId) (sz : Nat) : OwnsG B w (⟨e, sz, .slice none 0 0, 0, []⟩ :: r) := by
  refine ⟨fun it hm => ?_, List.Pairwise.cons (fun q _ => .inl rfl) h.2⟩
  rcases List.mem_cons.1 hm with rfl | hm
  · exact ⟨World.ownsRow_nil w B e sz, _, _, rfl⟩
  · exact h.1 it hm
theorem OwnsG.kept (h : OwnsG B w its) (hg : w.grownBy w' none) : OwnsG B w' its :=
  ⟨fun it hm => ⟨(h.1 it hm).1.kept hg (by cases it.v.ownBlock <;> simp), (h.1 it hm).2⟩, h.2⟩
theorem OwnsG.tail {x : ItemG} (h : OwnsG B w (x :: r)) : OwnsG B w r := ⟨fun it hm => h.1 it (List.mem_cons_of_mem _ hm), (List.pairwise_cons.1 h.2).2⟩
theorem OwnsG.head {x : ItemG} (h : OwnsG B w (x :: r)) : OwnsGI B w x := h.1 _ (by simp)
/-- What was old stays, where the first has turned. -/
theorem OwnsG.frame {w0 : World} {x : ItemG} (h : OwnsG B w (x :: r)) (hB : w0.heap.size ≤ B) (h1 : w0.grownBy w none) (h2 : w.grownBy w' x.v.ownBlock) : w0.grownBy w' none :=
  grown_of_below ((below_of_grown h1).grown h2 h1.size (fun k hk => Nat.le_trans hB (h.head.1.lt k hk).1))
/-- The first has turned into another one. -/
theorem OwnsG.turn {x y : ItemG} (h : OwnsG B w (x :: r)) (hy : OwnsGI B w' y) (hg : w.grownBy w' x.v.ownBlock) (hat : x.v.ownBlock = y.v.ownBlock ∨ ∃ g, y.v.ownBlock = some g ∧ w.heap.size ≤ g) : OwnsG B w' (y :: r) := by
  obtain ⟨hp, hr⟩ := List.pairwise_cons.1 h.2
  refine ⟨fun it hm => ?_, List.Pairwise.cons (fun q hq => ?_) hr⟩
  · rcases List.mem_cons.1 hm with rfl | hm
    · exact hy
    · have hi := h.1 it (List.mem_cons_of_mem _ hm)
      refine ⟨hi.1.kept hg ?_, hi.2⟩
      rcases hp it hm with h1 | h1 | h1
      · rw [h1]; cases it.v.ownBlock <;> simp
      · exact .inl h1
      · exact .inr (Ne.symm h1)
  · have hi := h.1 q (List.mem_cons_of_mem _ hq)
    rcases hat with h1 | ⟨g, h1, h2⟩
    · rcases hp q hq with h3 | h3 | h3
      · exact .inl (by rw [← h1]; exact h3)
      · exact .inr (.inl h3)
      · exact .inr (.inr (by rw [← h1]; exact h3))
    · cases hq2 : q.v.ownBlock with
      | none => exact .inr (.inl hq2)
      | some b =>
        refine .inr (.inr ?_)
        rw [hq2, h1]
        have := (hi.1.lt b hq2).2
        simp
        omega
theorem OwnsG.cell {x : ItemG} (h : OwnsG B w (x :: r)) {g n cap i : Nat} {u : Value} (hv : x.v = .slice (some ⟨g, 0, none⟩) n cap) (hu : x.xs[i]? = some u) : w.cell? ⟨g, i, none⟩ = some u := by
  have := h.head.1.cells (g := g) (by rw [hv]; rfl) i u hu
  rwa [addr_add] at this
theorem OwnsG.fz {x : ItemG} (h : OwnsG B w (x :: r)) {g n cap : Nat} (hv : x.v = .slice (some ⟨g, 0, none⟩) n cap) (k : Nat) : w.frozen? ⟨g, k, none⟩ = false := by
  obtain ⟨_, h2⟩ := h.head.1
  rcases h2 with ⟨e0, _⟩ | ⟨g', cap', cur, e1, hB, hh, _⟩
  · rw [e0] at hv; cases hv
  · rw [e1] at hv; cases hv; exact frozen_of_row w g k _ _ hh
theorem OwnsG.ge {x : ItemG} (h : OwnsG B w (x :: r)) {g n cap : Nat} (hv : x.v = .slice (some ⟨g, 0, none⟩) n cap) : B ≤ g ∧ g < w.heap.size := h.head.1.lt g (by rw [hv]; rfl)
/-- Three cells are put behind a row of such. -/
theorem OwnsG.push3 (T E : TypeId) (hT : Try.prog.underlying T = some (.slice E)) (hI : (Try.prog.info? E).map (fun i => (i.zero, i.size, i.bytes)) = some (some (.agg #[.int .i64 0, .int .i64 0, .int .i64 0]), 3, 24)) {v : Value} {n : Nat} {xs : List Value} (h : OwnsG B w (⟨E, 3, v, n, xs⟩ :: r)) (hB : B ≤ w.heap.size) (hn : n ≤ 1000000) (x y z : Int) {H : Nat} (hH : w.heap.size = H) :
    ∃ g cap w', (AppS #[T, T] T #[v, .slice (some ⟨H, 0, none⟩) 1 1]).run Try.prog (w.alloc (.cells #[.int .i64 x, .int .i64 y, .int .i64 z] E)) = .ok (.slice (some ⟨g, 0, none⟩) (n + 1) cap) w' ∧ OwnsG B w' (⟨E, 3, .slice (some ⟨g, 0, none⟩) (n + 1) cap, n + 1, xs ++ [.int .i64 x, .int .i64 y, .int .i64 z]⟩ :: r) ∧ Keeps B w w' ∧ (w.alloc (.cells #[.int .i64 x, .int .i64 y, .int .i64 z] E)).grownBy w' v.ownBlock := by
  subst hH
  obtain ⟨i0, hio, hz0, hz1, hz2⟩ := info_parts hI
  have h' := h.kept (grown_alloc w (.cells #[.int .i64 x, .int .i64 y, .int .i64 z] E))
  have hb := heap_alloc_new w (.cells #[.int .i64 x, .int .i64 y, .int .i64 z] E)
  obtain ⟨g, cap, w5, hrun, ho5, hg5, hat5, hlt5⟩ := run_append_lies (P := Try.prog) (w.alloc (.cells #[.int .i64 x, .int .i64 y, .int .i64 z] E)) T T B E i0 (.agg #[.int .i64 0, .int .i64 0, .int .i64 0]) 3 24 hT hio hz0 hz1 hz2 rfl (by decide) v n xs h'.head.1 ⟨w.heap.size, 0, none⟩ 1 1 [.int .i64 x, .int .i64 y, .int .i64 z] rfl (fun j u hu => by
    rw [addr_add, cell_of_row _ _ j _ _ (0, 0) hb]
    simpa using hu) (by intro u hu; simp at hu; rcases hu with rfl | rfl | rfl <;> rfl) (by omega) (by unfold maxLen; omega) (by omega) (by simp; omega) _ rfl
  refine ⟨g, cap, w5, hrun, h'.turn ⟨ho5, _, _, rfl⟩ hg5 ?_, fun w0 hB0 h0 => h'.frame hB0 (grown_trans h0 (grown_alloc _ _)) hg5, hg5⟩
  rcases hat5 with h1 | h1
  · exact .inl (by simp only; rw [h1]; rfl)
  · exact .inr ⟨g, rfl, by rw [h1]; exact Nat.le_refl _⟩
/-- A row of one-cell elements is written into. -/
theorem OwnsG.set1 {E : TypeId} {g n cap i : Nat} {xs : List Value} (h : OwnsG B w (⟨E, 1, .slice (some ⟨g, 0, none⟩) n cap, n, xs⟩ :: r)) (hi : i < n) (u : Value) : OwnsG B (w.setCell ⟨g, i, none⟩ u) (⟨E, 1, .slice (some ⟨g, 0, none⟩) n cap, n, xs.set i u⟩ :: r) := by
  refine h.turn (y := ⟨E, 1, .slice (some ⟨g, 0, none⟩) n cap, n, xs.set i u⟩) ⟨?_, _, _, rfl⟩ (by simpa [Value.ownBlock] using grown_set w ⟨g, i, none⟩ u) (.inl rfl)
  obtain ⟨h1, h2⟩ := h.head.1
  rcases h2 with ⟨e0, _⟩ | ⟨g', cap', cur, e1, hB, hh, h5, h6, h7, h8⟩
  · cases e0
  · cases e1
    have hs := heap_setCell_same w g i cur E u hh
    refine ⟨by simpa using h1, .inr ⟨g, cap, _, rfl, hB, hs, h5, h6, by simpa using h7, ?_⟩⟩
    rw [Array.toList_setIfInBounds, List.take_set, h8]
theorem OwnsG.made {arr : Array Value} {n : Nat} (h : OwnsG B w r) (hB : B ≤ w.heap.size) (e : TypeId) (hn : arr.size = n) (hm : n ≤ maxLen) : OwnsG B (w.alloc (.cells arr e)) (⟨e, 1, .slice (some ⟨w.heap.size, 0, none⟩) n n, n, arr.toList⟩ :: r) := by
  have h0 : OwnsG B w (⟨e, 1, .slice none 0 0, 0, []⟩ :: r) := h.empty e 1
  have hb := heap_alloc_new w (.cells arr e)
  have hlen : arr.toList.length = n := by simpa using hn
  refine h0.turn (w' := w.alloc (.cells arr e)) (y := ⟨e, 1, .slice (some ⟨w.heap.size, 0, none⟩) n n, n, arr.toList⟩) ⟨⟨by simp [hn], .inr ⟨w.heap.size, n, arr, rfl, hB, hb, Nat.le_refl _, hm, by simp [hn], ?_⟩⟩, _, _, rfl⟩ (grown_alloc _ _) (.inr ⟨w.heap.size, rfl, Nat.le_refl _⟩)
  simp only [Nat.mul_one]
  rw [← hlen, List.take_length]
end

end Go.Proofs.Ytcgkflddipflbaa
