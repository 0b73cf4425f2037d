/- Rows of one's own whose elements have any number of cells, no two in one block. -/
import Derived.Test.YtaangdomdeklhaaLOwn
import Derived.Test.YtaangdomdeklhaaUAu
namespace Go.Proofs.Ytaangdomdeklhaa
open Go.RowKit
set_option linter.unusedVariables false

/-- An element's type, its cells, a slice, how many elements, the cells that lie in it. -/
structure ItemG where
  e : TypeId
  sz : Nat
  v : Value
  n : Nat
  xs : List Value
def OwnsGI (B : Nat) (w : World) (it : ItemG) : Prop := w.ownsRow B it.e it.sz it.v it.n it.xs ∧ ∃ a c, it.v = .slice a it.n c
def OwnsG (B : Nat) (w : World) (its : List ItemG) : Prop := (∀ it, it ∈ its → OwnsGI B w it) ∧ its.Pairwise (fun p q => Apart p.v q.v)
section
variable {B : Nat} {w w' : World} {its r : List ItemG}
theorem OwnsG.perm {its' : List ItemG} (h : OwnsG B w its) (p : its.Perm its') : OwnsG B w its' :=
  ⟨fun it hm => h.1 it (p.mem_iff.2 hm), (p.pairwise_iff (fun {a b} (hab : Apart a.v b.v) => hab.symm)).1 h.2⟩
theorem OwnsG.no (B : Nat) (w : World) : OwnsG B w [] := ⟨fun _ h => by simp at h, List.Pairwise.nil⟩
theorem OwnsG.empty (h : OwnsG B w r) (e : TypeId) (sz : Nat) : OwnsG B w (⟨e, sz, .slice none 0 0, 0, []⟩ :: r) := by
  refine ⟨fun it hm => ?_, List.Pairwise.cons (fun q _ => .inl rfl) h.2⟩
  rcases List.mem_cons.1 hm with rfl | hm
  · exact ⟨World.ownsRow_nil w B e sz, _, _, rfl⟩
  · exact h.1 it hm
theorem OwnsG.kept (h : OwnsG B w its) (hg : w.grownBy w' none) : OwnsG B w' its :=
  ⟨fun it hm => ⟨(h.1 it hm).1.kept hg (by cases it.v.ownBlock <;> simp), (h.1 it hm).2⟩, h.2⟩
theorem OwnsG.tail {x : ItemG} (h : OwnsG B w (x :: r)) : OwnsG B w r := ⟨fun it hm => h.1 it (List.mem_cons_of_mem _ hm), (List.pairwise_cons.1 h.2).2⟩
theorem OwnsG.head {x : ItemG} (h : OwnsG B w (x :: r)) : OwnsGI B w x := h.1 _ (by simp)
/-- What was old stays, where the first has turned. -/
theorem OwnsG.frame {w0 : World} {x : ItemG} (h : OwnsG B w (x :: r)) (hB : w0.heap.size ≤ B) (h1 : w0.grownBy w none) (h2 : w.grownBy w' x.v.ownBlock) : w0.grownBy w' none :=
  grown_of_below ((below_of_grown h1).grown h2 h1.size (fun k hk => Nat.le_trans hB (h.head.1.lt k hk).1))
/-- The first has turned into another one. -/
theorem OwnsG.turn {x y : ItemG} (h : OwnsG B w (x :: r)) (hy : OwnsGI B w' y) (hg : w.grownBy w' x.v.ownBlock) (hat : x.v.ownBlock = y.v.ownBlock ∨ ∃ g, y.v.ownBlock = some g ∧ w.heap.size ≤ g) : OwnsG B w' (y :: r) := by
  obtain ⟨hp, hr⟩ := List.pairwise_cons.1 h.2
  refine ⟨fun it hm => ?_, List.Pairwise.cons (fun q hq => ?_) hr⟩
  · rcases List.mem_cons.1 hm with rfl | hm
    · exact hy
    · have hi := h.1 it (List.mem_cons_of_mem _ hm)
      refine ⟨hi.1.kept hg ?_, hi.2⟩
      rcases hp it hm with h1 | h1 | h1
      · rw [h1]; cases it.v.ownBlock <;> simp
      · exact .inl h1
      · exact .inr (Ne.symm h1)
  · have hi := h.1 q (List.mem_cons_of_mem _ hq)
    rcases hat with h1 | ⟨g, h1, h2⟩
    · rcases hp q hq with h3 | h3 | h3
      · exact .inl (by rw [← h1]; exact h3)
      · exact .inr (.inl h3)
      · exact .inr (.inr (by rw [← h1]; exact h3))
    · cases hq2 : q.v.ownBlock with
      | none => exact .inr (.inl hq2)
      | some b =>
        refine .inr (.inr ?_)
        rw [hq2, h1]
        have := (hi.1.lt b hq2).2
        simp
        omega
theorem OwnsG.cell {x : ItemG} (h : OwnsG B w (x :: r)) {g n cap i : Nat} {u : Value} (hv : x.v = .slice (some ⟨g, 0, none⟩) n cap) (hu : x.xs[i]? = some u) : w.cell? ⟨g, i, none⟩ = some u := by
  have := h.head.1.cells (g := g) (by rw [hv]; rfl) i u hu
  rwa [addr_add] at this
theorem OwnsG.fz {x : ItemG} (h : OwnsG B w (x :: r)) {g n cap : Nat} (hv : x.v = .slice (some ⟨g, 0, none⟩) n cap) (k : Nat) : w.frozen? ⟨g, k, none⟩ = false := by
  obtain ⟨_, h2⟩ := h.head.1
  rcases h2 with ⟨e0, _⟩ | ⟨g', cap', cur, e1, hB, hh, _⟩
  · rw [e0] at hv; cases hv
  · rw [e1] at hv; cases hv; exact frozen_of_row w g k _ _ hh
theorem OwnsG.ge {x : ItemG} (h : OwnsG B w (x :: r)) {g n cap : Nat} (hv : x.v = .slice (some ⟨g, 0, none⟩) n cap) : B ≤ g ∧ g < w.heap.size := h.head.1.lt g (by rw [hv]; rfl)
/-- Three cells are put behind a row of such. -/
theorem OwnsG.push3 (T E : TypeId) (hT : Try.prog.underlying T = some (.slice E)) (hI : (Try.prog.info? E).map (fun i => (i.zero, i.size, i.bytes)) = some (some (.agg #[.int .i64 0, .int .i64 0, .int .i64 0]), 3, 24)) {v : Value} {n : Nat} {xs : List Value} (h : OwnsG B w (⟨E, 3, v, n, xs⟩ :: r)) (hB : B ≤ w.heap.size) (hn : n ≤ 1000000) (x y z : Int) {H : Nat} (hH : w.heap.size = H) :
    ∃ g cap w', (AppS #[T, T] T #[v, .slice (some ⟨H, 0, none⟩) 1 1]).run Try.prog (w.alloc (.cells #[.int .i64 x, .int .i64 y, .int .i64 z] E)) = .ok (.slice (some ⟨g, 0, none⟩) (n + 1) cap) w' ∧ OwnsG B w' (⟨E, 3, .slice (some ⟨g, 0, none⟩) (n + 1) cap, n + 1, xs ++ [.int .i64 x, .int .i64 y, .int .i64 z]⟩ :: r) ∧ Keeps B w w' ∧ (w.alloc (.cells #[.int .i64 x, .int .i64 y, .int .i64 z] E)).grownBy w' v.ownBlock := by
  subst hH
  obtain ⟨i0, hio, hz0, hz1, hz2⟩ := info_parts hI
  have h' := h.kept (grown_alloc w (.cells #[.int .i64 x, .int .i64 y, .int .i64 z] E))
  have hb := heap_alloc_new w (.cells #[.int .i64 x, .int .i64 y, .int .i64 z] E)
  obtain ⟨g, cap, w5, hrun, ho5, hg5, hat5, hlt5⟩ := run_append_lies (P := Try.prog) (w.alloc (.cells #[.int .i64 x, .int .i64 y, .int .i64 z] E)) T T B E i0 (.agg #[.int .i64 0, .int .i64 0, .int .i64 0]) 3 24 hT hio hz0 hz1 hz2 rfl (by decide) v n xs h'.head.1 ⟨w.heap.size, 0, none⟩ 1 1 [.int .i64 x, .int .i64 y, .int .i64 z] rfl (fun j u hu => by
    rw [addr_add, cell_of_row _ _ j _ _ (0, 0) hb]
    simpa using hu) (by intro u hu; simp at hu; rcases hu with rfl | rfl | rfl <;> rfl) (by omega) (by unfold maxLen; omega) (by omega) (by simp; omega) _ rfl
  refine ⟨g, cap, w5, hrun, h'.turn ⟨ho5, _, _, rfl⟩ hg5 ?_, fun w0 hB0 h0 => h'.frame hB0 (grown_trans h0 (grown_alloc _ _)) hg5, hg5⟩
  rcases hat5 with h1 | h1
  · exact .inl (by simp only; rw [h1]; rfl)
  · exact .inr ⟨g, rfl, by rw [h1]; exact Nat.le_refl _⟩
/-- A row of one-cell elements is written into. -/
theorem OwnsG.set1 {E : TypeId} {g n cap i : Nat} {xs : List Value} (h : OwnsG B w (⟨E, 1, .slice (some ⟨g, 0, none⟩) n cap, n, xs⟩ :: r)) (hi : i < n) (u : Value) : OwnsG B (w.setCell ⟨g, i, none⟩ u) (⟨E, 1, .slice (some ⟨g, 0, none⟩) n cap, n, xs.set i u⟩ :: r) := by
  refine h.turn (y := ⟨E, 1, .slice (some ⟨g, 0, none⟩) n cap, n, xs.set i u⟩) ⟨?_, _, _, rfl⟩ (by simpa [Value.ownBlock] using grown_set w ⟨g, i, none⟩ u) (.inl rfl)
  obtain ⟨h1, h2⟩ := h.head.1
  rcases h2 with ⟨e0, _⟩ | ⟨g', cap', cur, e1, hB, hh, h5, h6, h7, h8⟩
  · cases e0
  · cases e1
    have hs := heap_setCell_same w g i cur E u hh
    refine ⟨by simpa using h1, .inr ⟨g, cap, _, rfl, hB, hs, h5, h6, by simpa using h7, ?_⟩⟩
    rw [Array.toList_setIfInBounds, List.take_set, h8]
theorem OwnsG.made {arr : Array Value} {n : Nat} (h : OwnsG B w r) (hB : B ≤ w.heap.size) (e : TypeId) (hn : arr.size = n) (hm : n ≤ maxLen) : OwnsG B (w.alloc (.cells arr e)) (⟨e, 1, .slice (some ⟨w.heap.size, 0, none⟩) n n, n, arr.toList⟩ :: r) := by
  have h0 : OwnsG B w (⟨e, 1, .slice none 0 0, 0, []⟩ :: r) := h.empty e 1
  have hb := heap_alloc_new w (.cells arr e)
  have hlen : arr.toList.length = n := by simpa using hn
  refine h0.turn (w' := w.alloc (.cells arr e)) (y := ⟨e, 1, .slice (some ⟨w.heap.size, 0, none⟩) n n, n, arr.toList⟩) ⟨⟨by simp [hn], .inr ⟨w.heap.size, n, arr, rfl, hB, hb, Nat.le_refl _, hm, by simp [hn], ?_⟩⟩, _, _, rfl⟩ (grown_alloc _ _) (.inr ⟨w.heap.size, rfl, Nat.le_refl _⟩)
  simp only [Nat.mul_one]
  rw [← hlen, List.take_length]
end

end Go.Proofs.Ytaangdomdeklhaa
