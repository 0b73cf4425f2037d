/- Rows put together; a copy of numbers; a box of four. -/
/- Rows put together (Join1), beside the words for 'Of'. -/
import Derived.Test.YtcgkflddipflbaaLOfs
import Derived.Laws.CopyOwn
namespace Go.Proofs.Ytcgkflddipflbaa
open Go.RowKit
set_option linter.unusedVariables false

theorem Owns.join {B : Nat} {w w' : World} {its its1 : List Item} (h : Owns B w its) (hg : w.grownBy w' none) (h1 : Owns w.heap.size w' its1) (hB : B ≤ w.heap.size) : Owns B w' (its1 ++ its) := by
  have h2 := h.kept hg
  refine ⟨fun it hm => ?_, List.pairwise_append.2 ⟨h1.2, h.2, fun p hp q hq => ?_⟩⟩
  · rcases List.mem_append.1 hm with hm | hm
    · exact ⟨ownsRow_base (h1.1 it hm).1 hB, (h1.1 it hm).2⟩
    · exact h2.1 it hm
  · cases hq2 : q.2.1.ownBlock with
    | none => exact .inr (.inl hq2)
    | some b =>
      refine .inr (.inr fun e => ?_)
      have a1 := ((h.1 q hq).1.lt b hq2).2
      have a2 := ((h1.1 p hp).1.lt b (by rw [e, hq2])).1
      omega
theorem Owns.base {B B' : Nat} {w : World} {its : List Item} (h : Owns B w its) (hB : B' ≤ B) : Owns B' w its := ⟨fun it hm => ⟨ownsRow_base (h.1 it hm).1 hB, (h.1 it hm).2⟩, h.2⟩

theorem copy_fact (a : Option Addr) (c : Nat) (zs : List Int) (w : World) (hz : Ints w a zs) (hm : zs.length ≤ 17592186044416) :
    ∃ W', (Builtin.copy_ #[23, 23] 3 #[.slice (some ⟨w.heap.size, 0, none⟩) zs.length (zs.length + 3), .slice a zs.length c]).run Try.prog (w.alloc (.cells (Array.replicate (zs.length + 3) (.int .i64 0)) 3)) = .ok (goInt zs.length) W' ∧
      Hid (Owns w.heap.size W' [(3, .slice (some ⟨w.heap.size, 0, none⟩) zs.length (zs.length + 3), vals zs)]) ∧ Hid (w.grownBy W' none) := by
  obtain ⟨i0, hi, hz0, hz1, hz2⟩ := info_parts Try.info3i
  have hsz : (Try.prog.info? 3).map (·.size) = some 1 := by rw [hi]; simp [hz1]
  have hg := heap_alloc_new w (.cells (Array.replicate (zs.length + 3) (Value.int .i64 0)) 3)
  have mk : ∀ W, W.ownsRow w.heap.size 3 1 (.slice (some ⟨w.heap.size, 0, none⟩) zs.length (zs.length + 3)) zs.length (vals zs) → Owns w.heap.size W [(3, .slice (some ⟨w.heap.size, 0, none⟩) zs.length (zs.length + 3), vals zs)] := fun W hW => by
    refine ⟨fun it hmm => ?_, List.pairwise_singleton _ _⟩
    simp at hmm
    subst hmm
    exact ⟨by simpa using hW, _, _, by simp; exact ⟨rfl, rfl⟩⟩
  rcases hz with rfl | ⟨b, off, rfl, hc⟩
  · refine ⟨_, run_copy_none _ 23 23 3 3 _ _ _ _ _ _ Try.underlying23 hsz (by simp), mk _ ?_, grown_alloc _ _⟩
    exact ⟨by simp, .inr ⟨w.heap.size, 3, _, rfl, Nat.le_refl _, hg, by simp, by unfold maxLen; omega, by simp, by simp⟩⟩
  · have hsrc : ∀ j v, (vals zs)[j]? = some v → (w.alloc (.cells (Array.replicate (zs.length + 3) (.int .i64 0)) 3)).cell? ((⟨b, off, none⟩ : Addr).add j) = some v := by
      intro j v hv
      have hj : j < zs.length := by have := (List.getElem?_eq_some_iff.1 hv).1; rwa [vals_len] at this
      rw [vals_get hj] at hv
      rw [add_off]
      exact (grown_alloc _ _).cell ((hc j hj).trans hv) (by simp)
    have hrun := run_copy_row Try.prog _ 23 23 3 3 w.heap.size 0 zs.length (zs.length + 3) ⟨b, off, none⟩ zs.length c _ 3 (vals zs) Try.underlying23 hsz hg (by simp) hsrc (by simp) (by intro v hv; simp at hv; obtain ⟨x, _, rfl⟩ := hv; rfl)
    rw [vals_len] at hrun
    refine ⟨_, hrun, mk _ ?_, ?_⟩
    · exact ⟨by simp, .inr ⟨w.heap.size, zs.length + 3, _, rfl, Nat.le_refl _, setRow_heap _ _ _ _ _ _ hg, by omega, by unfold maxLen; omega, by simp, by simp⟩⟩
    · show w.grownBy _ none
      refine grown_new (grown_alloc w (.cells (Array.replicate (zs.length + 3) (.int .i64 0)) 3)) ?_ (Nat.le_refl _)
      exact ⟨rfl, rfl, rfl, by simp [World.setRow], fun k hk hr => by simp [World.setRow, Array.getElem?_modify]; intro e; simp at hr; omega⟩

theorem block_set {W : World} {B : Nat} {T : TypeId} {a0 a1 a2 a3 : Value} (hb : W.heap[B]? = some (.cells #[a0, a1, a2, a3] T (0, 0))) (v : Value) :
    (W.setCell ⟨B, 2, none⟩ v).heap[B]? = some (.cells #[a0, a1, v, a3] T (0, 0)) ∧ (W.setCell ⟨B, 3, none⟩ v).heap[B]? = some (.cells #[a0, a1, a2, v] T (0, 0)) :=
  ⟨by rw [heap_setCell_same W B 2 _ _ _ hb]; rfl, by rw [heap_setCell_same W B 3 _ _ _ hb]; rfl⟩
theorem block_cells {W : World} {B : Nat} {T : TypeId} {a0 a1 a2 a3 : Value} (hb : W.heap[B]? = some (.cells #[a0, a1, a2, a3] T (0, 0))) :
    W.cell? ⟨B, 0, none⟩ = some a0 ∧ W.cell? ⟨B, 1, none⟩ = some a1 ∧ W.cell? ⟨B, 2, none⟩ = some a2 ∧ W.cell? ⟨B, 3, none⟩ = some a3 ∧ ∀ k, W.frozen? ⟨B, k, none⟩ = false :=
  ⟨by rw [cell_of_row _ _ _ _ _ (0, 0) hb]; rfl, by rw [cell_of_row _ _ _ _ _ (0, 0) hb]; rfl, by rw [cell_of_row _ _ _ _ _ (0, 0) hb]; rfl, by rw [cell_of_row _ _ _ _ _ (0, 0) hb]; rfl, fun k => frozen_of_row _ _ k _ _ hb⟩

theorem getD_ext {α : Type} {z : α} {xs ys : List α} (hl : xs.length = ys.length) (h : ∀ i, i < xs.length → xs.getD i z = ys.getD i z) : xs = ys := by
  refine List.ext_getElem hl fun i h1 h2 => ?_
  have := h i h1
  simpa [List.getD, h1, h2] using this

end Go.Proofs.Ytcgkflddipflbaa

namespace Go.Proofs.Ytcgkflddipflbaa
open Go.RowKit
set_option linter.unusedVariables false

end Go.Proofs.Ytcgkflddipflbaa
