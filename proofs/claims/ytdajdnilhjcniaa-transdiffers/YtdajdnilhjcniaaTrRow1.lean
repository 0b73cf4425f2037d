/- Rows of truths, each a block. (Parted from TrRow.) -/
import Derived.Test.YtdajdnilhjcniaaYApp
import Derived.Lib.SmallJoins
import Derived.Below
import Derived.Laws.OwnMore
namespace Go.Proofs.Ytdajdnilhjcniaa
open Go.RowKit
set_option linter.unusedVariables false
set_option linter.unusedSimpArgs false

/-- A block of n truths. -/
def BRow (W : World) (g n : Nat) (o : Nat → Bool) : Prop := ∃ cur : Array Value, W.heap[g]? = some (.cells cur 4 (0, 0)) ∧ cur.size = n ∧ ∀ i, i < n → cur[i]? = some (.bool (o i))
section
variable {W W' : World} {g n : Nat} {o : Nat → Bool}
theorem BRow.lt (h : BRow W g n o) : g < W.heap.size := by obtain ⟨cur, h1, _⟩ := h; exact (Array.getElem?_eq_some_iff.1 h1).1
theorem BRow.cell (h : BRow W g n o) {i : Nat} (hi : i < n) : W.cell? ⟨g, i, none⟩ = some (.bool (o i)) := by
  obtain ⟨cur, h1, _, h3⟩ := h
  rw [cell_of_row W g i _ _ (0, 0) h1]; exact h3 i hi
theorem BRow.frozen (h : BRow W g n o) (i : Nat) : W.frozen? ⟨g, i, none⟩ = false := by
  obtain ⟨cur, h1, _⟩ := h
  exact frozen_of_row W g i _ _ h1
theorem BRow.block (h : BRow W g n o) (e : W'.heap[g]? = W.heap[g]?) : BRow W' g n o := by
  obtain ⟨cur, h1, h2⟩ := h
  exact ⟨cur, e.trans h1, h2⟩
theorem BRow.kept (h : BRow W g n o) (hg : W.grownBy W' none) : BRow W' g n o := h.block (hg.block g h.lt (by simp))
theorem BRow.set (h : BRow W g n o) {i : Nat} (hi : i < n) (b : Bool) : BRow (W.setCell ⟨g, i, none⟩ (.bool b)) g n (fun j => if j = i then b else o j) := by
  obtain ⟨cur, h1, h2, h3⟩ := h
  refine ⟨cur.setIfInBounds i (.bool b), heap_setCell_same W g i _ _ _ h1, by simpa using h2, fun j hj => ?_⟩
  by_cases e : j = i
  · subst e; simp [h2, hj]
  · rw [Array.getElem?_setIfInBounds_ne (by omega)]
    show _ = some (Value.bool (if j = i then b else o j))
    rw [if_neg e]; exact h3 j hj
theorem BRow.other (h : BRow W g n o) {g' i : Nat} (hne : g ≠ g') (v : Value) : BRow (W.setCell ⟨g', i, none⟩ v) g n o := h.block (Below.heap_setCell _ _ _ _ (by simpa using hne))
theorem BRow.congr {o' : Nat → Bool} (h : BRow W g n o) (e : ∀ i, i < n → o i = o' i) : BRow W g n o' := by
  obtain ⟨cur, h1, h2, h3⟩ := h
  exact ⟨cur, h1, h2, fun i hi => by rw [h3 i hi, e i hi]⟩
end
theorem Try.infoBoolW : (Try.prog.info? 4).map (fun i => (i.zero, i.size, i.bytes)) = some (some (.bool false), 1, 1) := by kernel_rfl
theorem madeFalseW (n : Nat) : madeCells (Value.cells (.bool false)) n = Array.replicate n (Value.bool false) := by
  apply Array.ext'
  simpa [Value.cells] using toList_madeCells_one (.bool false) n
theorem bools_make (w : World) (n : Nat) (hn : n ≤ 1000) : ∃ W, (Instr.makeSlice 41 (.int .i64 (n : Int)) (.int .i64 (n : Int))).run Try.prog w = .ok (.slice (some ⟨w.heap.size, 0, none⟩) n n) W ∧ BRow W w.heap.size n (fun _ => false) ∧ w.grownBy W none ∧ W.heap.size = w.heap.size + 1 := by
  obtain ⟨i0, hi, hz0, hz1, hz2⟩ := info_partsY Try.infoBoolW
  have hmk := run_make (P := Try.prog) w 41 4 i0 (.bool false) Try.underlying41 hi hz0 .i64 .i64 (n : Int) (n : Int) (by omega) (by omega) (by rw [hz2]; omega) (by omega)
  rw [hz1, Nat.mul_one, Int.toNat_natCast, madeFalseW] at hmk
  refine ⟨_, hmk, ⟨_, heap_alloc_new _ _, ?_, ?_⟩, grown_alloc _ _, World.size_alloc _ _⟩
  · simp
  · intro i hi
    simp [hi]

end Go.Proofs.Ytdajdnilhjcniaa
