/- The seeds of states, in memory. -/
import Derived.Test.YtofjmakmbmndoaaTrMin
import Derived.Test.YtofjmakmbmndoaaTrRow
import Derived.Test.YtofjmakmbmndoaaTrPlace
import Derived.Test.YtofjmakmbmndoaaTrCmp
namespace Go.Proofs.Ytofjmakmbmndoaa
open Go.RowKit
set_option linter.unusedVariables false
set_option linter.unusedSimpArgs false

/-- A block of n seeds, five cells each. -/
def SRow (W : World) (g n : Nat) (F : Nat → Nat) (ρ : Nat → RuleI) : Prop := ∃ cur : Array Value, W.heap[g]? = some (.cells cur 65 (0, 0)) ∧ cur.size = n * 5 ∧
  ∀ i, i < n → cur[i * 5]? = some (.int .i64 (F i)) ∧ cur[i * 5 + 1]? = some (.int .i64 (ρ i).1) ∧ cur[i * 5 + 2]? = some (.int .i64 (ρ i).2.1) ∧ cur[i * 5 + 3]? = some (.int .i64 (ρ i).2.2.1) ∧ cur[i * 5 + 4]? = some (.int .i64 (ρ i).2.2.2)
section
variable {W W' : World} {g n : Nat} {F : Nat → Nat} {ρ : Nat → RuleI}
theorem SRow.lt (h : SRow W g n F ρ) : g < W.heap.size := by obtain ⟨cur, h1, _⟩ := h; exact (Array.getElem?_eq_some_iff.1 h1).1
theorem SRow.cell (h : SRow W g n F ρ) {i : Nat} (hi : i < n) : W.cell? ⟨g, i * 5, none⟩ = some (.int .i64 (F i)) := by
  obtain ⟨cur, h1, _, h3⟩ := h
  rw [cell_of_row W g _ _ _ (0, 0) h1]; exact (h3 i hi).1
theorem SRow.rule (h : SRow W g n F ρ) {i : Nat} (hi : i < n) : Rule4 W g (i * 5 + 1) (ρ i) := by
  obtain ⟨cur, h1, _, h3⟩ := h
  obtain ⟨_, q1, q2, q3, q4⟩ := h3 i hi
  exact ⟨by rw [cell_of_row W g _ _ _ (0, 0) h1]; exact q1, by rw [cell_of_row W g _ _ _ (0, 0) h1]; exact q2, by rw [cell_of_row W g _ _ _ (0, 0) h1]; exact q3, by rw [cell_of_row W g _ _ _ (0, 0) h1]; exact q4⟩
theorem SRow.frozen (h : SRow W g n F ρ) (i : Nat) : W.frozen? ⟨g, i, none⟩ = false := by
  obtain ⟨cur, h1, _⟩ := h
  exact frozen_of_row W g i _ _ h1
theorem SRow.block (h : SRow W g n F ρ) (e : W'.heap[g]? = W.heap[g]?) : SRow W' g n F ρ := by
  obtain ⟨cur, h1, h2⟩ := h
  exact ⟨cur, e.trans h1, h2⟩
theorem SRow.kept (h : SRow W g n F ρ) (hg : W.grownBy W' none) : SRow W' g n F ρ := h.block (hg.block g h.lt (by simp))
/-- The number of a seed is written. -/
theorem SRow.num (h : SRow W g n F ρ) {i v : Nat} (hi : i < n) : SRow (W.setCell ⟨g, i * 5, none⟩ (.int .i64 (v : Int))) g n (updF F i v) ρ := by
  obtain ⟨cur, h1, h2, h3⟩ := h
  refine ⟨cur.setIfInBounds (i * 5) (.int .i64 (v : Int)), heap_setCell_same W g (i * 5) _ _ _ h1, by simpa using h2, fun j hj => ?_⟩
  obtain ⟨q0, q1, q2, q3, q4⟩ := h3 j hj
  rw [Array.getElem?_setIfInBounds_ne (i := i * 5) (j := j * 5 + 1) (by omega), Array.getElem?_setIfInBounds_ne (i := i * 5) (j := j * 5 + 2) (by omega), Array.getElem?_setIfInBounds_ne (i := i * 5) (j := j * 5 + 3) (by omega), Array.getElem?_setIfInBounds_ne (i := i * 5) (j := j * 5 + 4) (by omega)]
  refine ⟨?_, q1, q2, q3, q4⟩
  unfold updF
  by_cases e : j = i
  · subst e; rw [if_pos rfl]; simp [h2, hj]
  · rw [if_neg e, Array.getElem?_setIfInBounds_ne (by omega)]; exact q0
/-- A seed is written whole. -/
theorem SRow.put (h : SRow W g n F ρ) {i v : Nat} (hi : i < n) (r : RuleI) : SRow (((((W.setCell ⟨g, i * 5, none⟩ (.int .i64 (v : Int))).setCell ⟨g, i * 5 + 1, none⟩ (.int .i64 r.1)).setCell ⟨g, i * 5 + 2, none⟩ (.int .i64 r.2.1)).setCell ⟨g, i * 5 + 3, none⟩ (.int .i64 r.2.2.1)).setCell ⟨g, i * 5 + 4, none⟩ (.int .i64 r.2.2.2)) g n (updF F i v) (updF ρ i r) := by
  obtain ⟨cur, h1, h2, h3⟩ := h
  have a0 := heap_setCell_same W g (i * 5) _ _ (.int .i64 (v : Int)) h1
  have a1 := heap_setCell_same _ g (i * 5 + 1) _ _ (.int .i64 r.1) a0
  have a2 := heap_setCell_same _ g (i * 5 + 2) _ _ (.int .i64 r.2.1) a1
  have a3 := heap_setCell_same _ g (i * 5 + 3) _ _ (.int .i64 r.2.2.1) a2
  have a4 := heap_setCell_same _ g (i * 5 + 4) _ _ (.int .i64 r.2.2.2) a3
  refine ⟨_, a4, by simpa using h2, fun j hj => ?_⟩
  obtain ⟨q0, q1, q2, q3, q4⟩ := h3 j hj
  unfold updF
  by_cases e : j = i
  · subst e
    rw [if_pos rfl, if_pos rfl]
    have : j * 5 + 4 < cur.size := by omega
    refine ⟨?_, ?_, ?_, ?_, ?_⟩ <;> simp [Array.getElem?_setIfInBounds] <;> omega
  · rw [if_neg e, if_neg e]
    have n0 : ∀ x y, x < 5 → y < 5 → i * 5 + x ≠ j * 5 + y := fun x y hx hy => by omega
    have key : ∀ y, y < 5 → (((((cur.setIfInBounds (i * 5) (.int .i64 (v : Int))).setIfInBounds (i * 5 + 1) (.int .i64 r.1)).setIfInBounds (i * 5 + 2) (.int .i64 r.2.1)).setIfInBounds (i * 5 + 3) (.int .i64 r.2.2.1)).setIfInBounds (i * 5 + 4) (.int .i64 r.2.2.2))[j * 5 + y]? = cur[j * 5 + y]? := fun y hy => by
      rw [Array.getElem?_setIfInBounds_ne (n0 4 y (by omega) hy), Array.getElem?_setIfInBounds_ne (n0 3 y (by omega) hy), Array.getElem?_setIfInBounds_ne (n0 2 y (by omega) hy), Array.getElem?_setIfInBounds_ne (n0 1 y (by omega) hy), Array.getElem?_setIfInBounds_ne (i := i * 5) (by omega)]
    exact ⟨(key 0 (by omega)).trans q0, (key 1 (by omega)).trans q1, (key 2 (by omega)).trans q2, (key 3 (by omega)).trans q3, (key 4 (by omega)).trans q4⟩
theorem SRow.congr {G : Nat → Nat} (h : SRow W g n F ρ) (e : ∀ i, i < n → F i = G i) : SRow W g n G ρ := by
  obtain ⟨cur, h1, h2, h3⟩ := h
  exact ⟨cur, h1, h2, fun i hi => by rw [← e i hi]; exact h3 i hi⟩
end
theorem Try.infoSeed : (Try.prog.info? 65).map (fun i => (i.zero, i.size, i.bytes)) = some (some (.agg #[.int .i64 0, .int .i64 0, .int .i64 0, .int .i64 0, .int .i64 0]), 5, 40) := by kernel_rfl
theorem seeds_make (w : World) (n : Nat) (hn : n ≤ 1000) : ∃ W, (Instr.makeSlice 62 (.int .i64 (n : Int)) (.int .i64 (n : Int))).run Try.prog w = .ok (.slice (some ⟨w.heap.size, 0, none⟩) n n) W ∧ SRow W w.heap.size n (fun _ => 0) (fun _ => ru0) ∧ w.grownBy W none ∧ W.heap.size = w.heap.size + 1 := by
  obtain ⟨i0, hi, hz0, hz1, hz2⟩ := info_partsW Try.infoSeed
  have hmk := run_make (P := Try.prog) w 62 65 i0 (.agg #[.int .i64 0, .int .i64 0, .int .i64 0, .int .i64 0, .int .i64 0]) Try.underlying62 hi hz0 .i64 .i64 (n : Int) (n : Int) (by omega) (by omega) (by rw [hz2]; omega) (by omega)
  rw [hz1, Int.toNat_natCast] at hmk
  refine ⟨_, hmk, ⟨_, heap_alloc_new _ _, ?_, ?_⟩, grown_alloc _ _, World.size_alloc _ _⟩
  · simp [size_madeCells]
  · intro i hi
    have key : ∀ y, y < 5 → (madeCells (Value.cells (.agg #[.int .i64 0, .int .i64 0, .int .i64 0, .int .i64 0, .int .i64 0])) (n * 5))[i * 5 + y]? = some (.int .i64 0) := fun y hy => by
      have hb : i * 5 + y < n * 5 := by omega
      have hm : (i * 5 + y) % 5 = y := by omega
      simp only [madeCells, Value.cells]
      rw [Array.getElem?_map]
      simp only [Array.getElem?_range, hb, if_true, Option.map_some, Option.some.injEq]
      show (#[Value.int .i64 0, .int .i64 0, .int .i64 0, .int .i64 0, .int .i64 0] : Array Value)[(i * 5 + y) % 5]! = _
      rw [hm]
      rcases (by omega : y = 0 ∨ y = 1 ∨ y = 2 ∨ y = 3 ∨ y = 4) with rfl | rfl | rfl | rfl | rfl <;> rfl
    exact ⟨key 0 (by omega), key 1 (by omega), key 2 (by omega), key 3 (by omega), key 4 (by omega)⟩

end Go.Proofs.Ytofjmakmbmndoaa
