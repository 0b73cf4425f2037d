/- Numbers by thirteen parts in memory. -/
import Derived.Test.YtjinibofbpgfjaaDoorVaSpec
import Derived.Test.YtjinibofbpgfjaaDoorWeBase
import Derived.Test.YtjinibofbpgfjaaDoorYApp
namespace Go.Proofs.YtjinibofbpgfjaaDoor
open Go.RowKit
set_option linter.unusedVariables false
set_option linter.unusedSimpArgs false

abbrev nmV (g : Nat → Int) : Value := .agg #[.int .i64 (g 0), .int .i64 (g 1), .int .i64 (g 2), .int .i64 (g 3), .int .i64 (g 4), .int .i64 (g 5), .int .i64 (g 6), .int .i64 (g 7), .int .i64 (g 8), .int .i64 (g 9), .int .i64 (g 10), .int .i64 (g 11), .int .i64 (g 12)]
abbrev nmA (g : Nat → Int) : Array Value := #[.int .i64 (g 0), .int .i64 (g 1), .int .i64 (g 2), .int .i64 (g 3), .int .i64 (g 4), .int .i64 (g 5), .int .i64 (g 6), .int .i64 (g 7), .int .i64 (g 8), .int .i64 (g 9), .int .i64 (g 10), .int .i64 (g 11), .int .i64 (g 12)]
abbrev nmO (g : Nat → Int) : Obj := .cells #[.int .i64 (g 0), .int .i64 (g 1), .int .i64 (g 2), .int .i64 (g 3), .int .i64 (g 4), .int .i64 (g 5), .int .i64 (g 6), .int .i64 (g 7), .int .i64 (g 8), .int .i64 (g 9), .int .i64 (g 10), .int .i64 (g 11), .int .i64 (g 12)] 44
/-- Thirteen parts in a box. -/
def BoxN (w : World) (b : Nat) (g : Nat → Int) : Prop := w.heap[b]? = some (.cells (nmA g) 44 (0, 0))
theorem thirt {i : Nat} (h : i < 13) : i = 0 ∨ i = 1 ∨ i = 2 ∨ i = 3 ∨ i = 4 ∨ i = 5 ∨ i = 6 ∨ i = 7 ∨ i = 8 ∨ i = 9 ∨ i = 10 ∨ i = 11 ∨ i = 12 := by omega
theorem nmA_get (g : Nat → Int) {i : Nat} (h : i < 13) : (nmA g)[i]? = some (.int .i64 (g i)) := by
  rcases thirt h with rfl | rfl | rfl | rfl | rfl | rfl | rfl | rfl | rfl | rfl | rfl | rfl | rfl <;> rfl
theorem nmV_congr {g g' : Nat → Int} (h : ∀ i, i < 13 → g i = g' i) : nmV g = nmV g' := by simp only [nmV, h 0 (by omega), h 1 (by omega), h 2 (by omega), h 3 (by omega), h 4 (by omega), h 5 (by omega), h 6 (by omega), h 7 (by omega), h 8 (by omega), h 9 (by omega), h 10 (by omega), h 11 (by omega), h 12 (by omega)]
theorem nmA_congr {g g' : Nat → Int} (h : ∀ i, i < 13 → g i = g' i) : nmA g = nmA g' := by simp only [nmA, h 0 (by omega), h 1 (by omega), h 2 (by omega), h 3 (by omega), h 4 (by omega), h 5 (by omega), h 6 (by omega), h 7 (by omega), h 8 (by omega), h 9 (by omega), h 10 (by omega), h 11 (by omega), h 12 (by omega)]
section
variable {w w' : World} {b : Nat} {g : Nat → Int}
theorem BoxN.lt (h : BoxN w b g) : b < w.heap.size := (Array.getElem?_eq_some_iff.1 h).1
theorem BoxN.kept (h : BoxN w b g) (hg : w.grownBy w' none) : BoxN w' b g := (hg.block b h.lt (by simp)).trans h
theorem BoxN.far {c : Nat} (h : BoxN w b g) (hg : w.grownBy w' (some c)) (hc : b ≠ c) : BoxN w' b g := (hg.block b h.lt (by simpa using hc)).trans h
theorem BoxN.fz (h : BoxN w b g) (i : Nat) : w.frozen? ⟨b, i, none⟩ = false := frozen_of_row _ _ i _ _ h
theorem BoxN.cell (h : BoxN w b g) {i : Nat} (hi : i < 13) : w.cell? ⟨b, i, none⟩ = some (.int .i64 (g i)) := by rw [cell_of_row _ _ i _ _ (0, 0) h]; exact nmA_get g hi
theorem BoxN.get (h : BoxN w b g) : w.cell? ⟨b, 0, none⟩ = some (.int .i64 (g 0)) ∧ w.cell? ⟨b, 1, none⟩ = some (.int .i64 (g 1)) ∧ w.cell? ⟨b, 2, none⟩ = some (.int .i64 (g 2)) ∧ w.cell? ⟨b, 3, none⟩ = some (.int .i64 (g 3)) ∧ w.cell? ⟨b, 4, none⟩ = some (.int .i64 (g 4)) ∧ w.cell? ⟨b, 5, none⟩ = some (.int .i64 (g 5)) ∧ w.cell? ⟨b, 6, none⟩ = some (.int .i64 (g 6)) ∧ w.cell? ⟨b, 7, none⟩ = some (.int .i64 (g 7)) ∧ w.cell? ⟨b, 8, none⟩ = some (.int .i64 (g 8)) ∧ w.cell? ⟨b, 9, none⟩ = some (.int .i64 (g 9)) ∧ w.cell? ⟨b, 10, none⟩ = some (.int .i64 (g 10)) ∧ w.cell? ⟨b, 11, none⟩ = some (.int .i64 (g 11)) ∧ w.cell? ⟨b, 12, none⟩ = some (.int .i64 (g 12)) :=
  ⟨h.cell (by omega), h.cell (by omega), h.cell (by omega), h.cell (by omega), h.cell (by omega), h.cell (by omega), h.cell (by omega), h.cell (by omega), h.cell (by omega), h.cell (by omega), h.cell (by omega), h.cell (by omega), h.cell (by omega)⟩
theorem BoxN.congr {g' : Nat → Int} (h : BoxN w b g) (e : ∀ i, i < 13 → g i = g' i) : BoxN w b g' := by unfold BoxN at h ⊢; rw [← nmA_congr e]; exact h
theorem BoxN.set (h : BoxN w b g) {i : Nat} (hi : i < 13) (c : Int) : BoxN (w.setCell ⟨b, i, none⟩ (.int .i64 c)) b (fun j => if j = i then c else g j) := by
  have := heap_setCell_same w b i _ _ (.int .i64 c) h
  unfold BoxN
  rw [this]
  rcases thirt hi with rfl | rfl | rfl | rfl | rfl | rfl | rfl | rfl | rfl | rfl | rfl | rfl | rfl <;> rfl
end
theorem boxN_new (w : World) (g : Nat → Int) : ∃ W, W = w.alloc (nmO g) ∧ w.grownBy W none ∧ W.heap.size = w.heap.size + 1 ∧ BoxN W w.heap.size g := ⟨_, rfl, grown_alloc _ _, by simp, heap_alloc_new w _⟩
/-- A box is written over whole. -/
theorem boxN_store {W : World} {B : Nat} {g : Nat → Int} (h : BoxN W B g) (g' : Nat → Int) : ∃ W', W' = ((((((((((((W.setCell ⟨B, 0, none⟩ (.int .i64 (g' 0))).setCell ⟨B, 1, none⟩ (.int .i64 (g' 1))).setCell ⟨B, 2, none⟩ (.int .i64 (g' 2))).setCell ⟨B, 3, none⟩ (.int .i64 (g' 3))).setCell ⟨B, 4, none⟩ (.int .i64 (g' 4))).setCell ⟨B, 5, none⟩ (.int .i64 (g' 5))).setCell ⟨B, 6, none⟩ (.int .i64 (g' 6))).setCell ⟨B, 7, none⟩ (.int .i64 (g' 7))).setCell ⟨B, 8, none⟩ (.int .i64 (g' 8))).setCell ⟨B, 9, none⟩ (.int .i64 (g' 9))).setCell ⟨B, 10, none⟩ (.int .i64 (g' 10))).setCell ⟨B, 11, none⟩ (.int .i64 (g' 11))).setCell ⟨B, 12, none⟩ (.int .i64 (g' 12)) ∧ W.grownBy W' (some B) ∧ BoxN W' B g' := by
  refine ⟨_, rfl, ?_, ?_⟩
  · exact grown_trans (grown_set _ _ _) (grown_trans (grown_set _ _ _) (grown_trans (grown_set _ _ _) (grown_trans (grown_set _ _ _) (grown_trans (grown_set _ _ _) (grown_trans (grown_set _ _ _) (grown_trans (grown_set _ _ _) (grown_trans (grown_set _ _ _) (grown_trans (grown_set _ _ _) (grown_trans (grown_set _ _ _) (grown_trans (grown_set _ _ _) (grown_trans (grown_set _ _ _) (grown_set _ _ _))))))))))))
  · exact (((((((((((((h.set (i := 0) (by omega) (g' 0)).set (i := 1) (by omega) (g' 1)).set (i := 2) (by omega) (g' 2)).set (i := 3) (by omega) (g' 3)).set (i := 4) (by omega) (g' 4)).set (i := 5) (by omega) (g' 5)).set (i := 6) (by omega) (g' 6)).set (i := 7) (by omega) (g' 7)).set (i := 8) (by omega) (g' 8)).set (i := 9) (by omega) (g' 9)).set (i := 10) (by omega) (g' 10)).set (i := 11) (by omega) (g' 11)).set (i := 12) (by omega) (g' 12)).congr fun i hi => by rcases thirt hi with rfl | rfl | rfl | rfl | rfl | rfl | rfl | rfl | rfl | rfl | rfl | rfl | rfl <;> rfl
/-- One of thirteen by value. -/
theorem index_nm (w : World) (g : Nat → Int) {k : Nat} (hk : k < 13) : (Instr.index 44 (nmV g) (.int .i64 (k : Int))).run Tryd.prog w = .ok (.int .i64 (g k)) w := by
  rcases thirt hk with rfl | rfl | rfl | rfl | rfl | rfl | rfl | rfl | rfl | rfl | rfl | rfl | rfl <;> kernel_rfl

/-- Numbers in a row. -/
def NumsAt (W : World) (a : Option Addr) (V : List Int) : Prop :=
  V = [] ∨ ∃ b off, a = some ⟨b, off, none⟩ ∧ ∀ i, i < V.length → ∀ k, k < 13 → W.cell? ⟨b, off + i * 13 + k, none⟩ = some (.int .i64 (ptF (V.getD i 0) k))
theorem NumsAt.grown {w w' : World} {a : Option Addr} {V : List Int} (h : NumsAt w a V) (hg : w.grownBy w' none) : NumsAt w' a V := by
  rcases h with h | ⟨b, off, ha, hc⟩
  · exact .inl h
  · exact .inr ⟨b, off, ha, fun i hi k hk => hg.cell (hc i hi k hk) (by simp)⟩
theorem NumsAt.at {w : World} {a : Option Addr} {V : List Int} (h : NumsAt w a V) {k : Nat} (hk : k < V.length) :
    ∃ b off, a = some ⟨b, off, none⟩ ∧ ∀ i, i < V.length → ∀ k, k < 13 → w.cell? ⟨b, off + i * 13 + k, none⟩ = some (.int .i64 (ptF (V.getD i 0) k)) := by
  rcases h with rfl | h
  · simp at hk
  · exact h
end Go.Proofs.YtjinibofbpgfjaaDoor
