/- Rows in memory, each a block of its own. -/
import Derived.Test.YtnlkdihfoekjmaaTurn
namespace Go.Proofs.Ytnlkdihfoekjmaa
open Go.RowKit
set_option linter.unusedVariables false

/-- A block of c cells, of which the first n are told. -/
def RowB (W : World) (g : Nat) (t : TypeId) (n c : Nat) (f : Nat → Value) : Prop := ∃ cur : Array Value, W.heap[g]? = some (.cells cur t (0, 0)) ∧ cur.size = c ∧ n ≤ c ∧ ∀ i, i < n → cur[i]? = some (f i)
section
variable {W W' : World} {g n c : Nat} {t : TypeId} {f f' : Nat → Value}
theorem RowB.lt (h : RowB W g t n c f) : g < W.heap.size := by obtain ⟨cur, h1, _⟩ := h; exact (Array.getElem?_eq_some_iff.1 h1).1
theorem RowB.cell (h : RowB W g t n c f) {i : Nat} (hi : i < n) : W.cell? ⟨g, i, none⟩ = some (f i) := by
  obtain ⟨cur, h1, _, _, h3⟩ := h
  rw [cell_of_row W g i _ _ (0, 0) h1]; exact h3 i hi
theorem RowB.frozen (h : RowB W g t n c f) (i : Nat) : W.frozen? ⟨g, i, none⟩ = false := by
  obtain ⟨cur, h1, _⟩ := h
  exact frozen_of_row W g i _ _ h1
theorem RowB.block (h : RowB W g t n c f) (e : W'.heap[g]? = W.heap[g]?) : RowB W' g t n c f := by
  obtain ⟨cur, h1, h2⟩ := h
  exact ⟨cur, e.trans h1, h2⟩
theorem RowB.kept (h : RowB W g t n c f) (hg : W.grownBy W' none) : RowB W' g t n c f := h.block (hg.block g h.lt (by simp))
theorem RowB.turn {S : Nat → Prop} (h : RowB W g t n c f) (ht : Turn S W W') (hS : ¬ S g) : RowB W' g t n c f := h.block (ht.block g h.lt hS)
theorem RowB.grown {b : Nat} (h : RowB W g t n c f) (hg : W.grownBy W' (some b)) (hb : g ≠ b) : RowB W' g t n c f := h.block (hg.block g h.lt (by simpa using hb))
theorem RowB.grownO {o : Option Nat} (h : RowB W g t n c f) (hg : W.grownBy W' o) (hb : ∀ b, o = some b → g ≠ b) : RowB W' g t n c f := h.block (hg.block g h.lt (fun e => hb g e.symm rfl))
theorem RowB.set (h : RowB W g t n c f) {i : Nat} (hi : i < n) (v : Value) : RowB (W.setCell ⟨g, i, none⟩ v) g t n c (fun j => if j = i then v else f j) := by
  obtain ⟨cur, h1, h2, h4, h3⟩ := h
  refine ⟨cur.setIfInBounds i v, heap_setCell_same W g i _ _ _ h1, by simpa using h2, h4, fun j hj => ?_⟩
  by_cases e : j = i
  · subst e; simp [show j < cur.size by omega]
  · rw [Array.getElem?_setIfInBounds_ne (by omega)]
    show _ = some (if j = i then v else f j)
    rw [if_neg e]; exact h3 j hj
theorem RowB.other (h : RowB W g t n c f) {g' i : Nat} (hne : g ≠ g') (v : Value) : RowB (W.setCell ⟨g', i, none⟩ v) g t n c f := h.block (Below.heap_setCell _ _ _ _ (by simpa using hne))
theorem RowB.congr (h : RowB W g t n c f) (e : ∀ i, i < n → f i = f' i) : RowB W g t n c f' := by
  obtain ⟨cur, h1, h2, h4, h3⟩ := h
  exact ⟨cur, h1, h2, h4, fun i hi => by rw [h3 i hi, e i hi]⟩
theorem RowB.alloc (h : RowB W g t n c f) (o : Obj) : RowB (W.alloc o) g t n c f := h.kept (grown_alloc _ _)
end
theorem RowB.make (W : World) (t : TypeId) (n : Nat) (v : Value) : RowB (W.alloc (.cells (Array.replicate n v) t)) W.heap.size t n n (fun _ => v) :=
  ⟨_, heap_alloc_new _ _, by simp, Nat.le_refl _, fun i hi => by simp [hi]⟩
/-- A row of one's own is such a block. -/
theorem RowB.of_owns {B : Nat} {W : World} {r : List Item} {e : TypeId} {g n c : Nat} {f : Nat → Value} (h : Owns B W ((e, .slice (some ⟨g, 0, none⟩) n c, (List.range n).map f) :: r)) : RowB W g e n c f := by
  obtain ⟨_, h2⟩ := h.row
  rcases h2 with ⟨e0, _⟩ | ⟨g', cap', cur, e1, _, hh, h5, h6, h7, h8⟩
  · cases e0
  · simp only [List.length_map, List.length_range, Nat.mul_one] at e1 h5 h7 h8
    cases e1
    refine ⟨cur, hh, h7, h5, fun i hi => ?_⟩
    have := congrArg (fun l => l[i]?) h8
    simp only [List.getElem?_take, hi, if_true, List.getElem?_map, List.getElem?_range hi, Option.map_some, Array.getElem?_toList] at this
    exact this
theorem RowB.owns {B : Nat} {W : World} {e : TypeId} {g n c : Nat} {f : Nat → Value} (h : RowB W g e n c f) (hB : B ≤ g) (hc : c ≤ maxLen) : Owns B W [(e, .slice (some ⟨g, 0, none⟩) n c, (List.range n).map f)] := by
  obtain ⟨cur, h1, h2, h3, h4⟩ := h
  refine ⟨fun it hm => ?_, List.Pairwise.cons (fun q hq => by simp at hq) .nil⟩
  rw [List.mem_singleton] at hm
  subst hm
  refine ⟨⟨by simp, .inr ⟨g, c, cur, by simp, hB, h1, by simpa using h3, hc, by simpa using h2, ?_⟩⟩, some ⟨g, 0, none⟩, c, by simp⟩
  simp only [List.length_map, List.length_range, Nat.mul_one]
  apply List.ext_getElem (by simp; omega)
  intro i hi1 hi2
  have hi : i < n := by simpa using hi2
  have := h4 i hi
  rw [List.getElem_take]
  rw [← Array.getElem?_toList, List.getElem?_eq_getElem (by simp; omega)] at this
  simpa using this

end Go.Proofs.Ytnlkdihfoekjmaa
