/- The words for 'Of': an automaton under way, its states numbered by a map. -/
import Derived.Test.YtofjboelplknhaaLNum
import Derived.Test.YtofjboelplknhaaDBase
namespace Go.Proofs.Ytofjboelplknhaa
open Go.RowKit
set_option linter.unusedVariables false

/-- Rows that are there, as values and as what they hold. -/
abbrev rowItems (rs : List (Value × List Int)) : List Item := rs.map fun p => (3, p.1, vals p.2)
abbrev natInts (xs : List Nat) : List Int := xs.map fun (x : Nat) => (x : Int)
theorem natInts_get {xs : List Nat} {i : Nat} (h : i < xs.length) : (vals (natInts xs))[i]? = some (.int .i64 ((xs.getD i 0 : Nat) : Int)) := by simp [vals, List.getD, h]

/-- An automaton under way: the states xs, the rows rs, the marks M. -/
structure OfAt (B : Nat) (l : Nat) (w : World) (vS vR vM : Value) (xs : List Nat) (rs : List (Value × List Int)) (M : List Int) (more : List Item) : Prop where
  res : w.heap[B]? = some (.cells #[.int .i64 0, .int .i64 0, .slice none 0 0, .slice none 0 0] 25 (0, 0))
  det : w.heap[B + 1]? = some (.cells #[.int .i64 l, .int .i64 0, vR, vM] 25 (0, 0))
  num : NumAt w (B + 3) xs
  own : Owns (B + 2) w ((3, vS, vals (natInts xs)) :: (23, vR, rs.map (·.1)) :: (3, vM, vals M) :: (more ++ rowItems rs))

section
variable {B l : Nat} {w w' : World} {vS vR vM : Value} {xs : List Nat} {rs : List (Value × List Int)} {M : List Int} {more : List Item}

theorem OfAt.kept (h : OfAt B l w vS vR vM xs rs M more) (hg : w.grownBy w' none) : OfAt B l w' vS vR vM xs rs M more :=
  ⟨(hg.block _ (Array.getElem?_eq_some_iff.1 h.res).1 (by simp)).trans h.res, (hg.block _ (Array.getElem?_eq_some_iff.1 h.det).1 (by simp)).trans h.det, h.num.kept hg (by simp), h.own.kept hg⟩
theorem OfAt.lt (h : OfAt B l w vS vR vM xs rs M more) : B + 3 < w.heap.size := h.num.block.1
theorem OfAt.cells (h : OfAt B l w vS vR vM xs rs M more) : w.cell? ⟨B + 1, 0, none⟩ = some (.int .i64 l) ∧ w.cell? ⟨B + 1, 1, none⟩ = some (.int .i64 0) ∧ w.cell? ⟨B + 1, 2, none⟩ = some vR ∧ w.cell? ⟨B + 1, 3, none⟩ = some vM ∧ ∀ k, w.frozen? ⟨B + 1, k, none⟩ = false :=
  ⟨by rw [cell_of_row _ _ _ _ _ (0, 0) h.det]; rfl, by rw [cell_of_row _ _ _ _ _ (0, 0) h.det]; rfl, by rw [cell_of_row _ _ _ _ _ (0, 0) h.det]; rfl, by rw [cell_of_row _ _ _ _ _ (0, 0) h.det]; rfl, fun k => frozen_of_row _ _ k _ _ h.det⟩
theorem OfAt.ress (h : OfAt B l w vS vR vM xs rs M more) : w.cell? ⟨B, 0, none⟩ = some (.int .i64 0) ∧ w.cell? ⟨B, 1, none⟩ = some (.int .i64 0) ∧ w.cell? ⟨B, 2, none⟩ = some (.slice none 0 0) ∧ w.cell? ⟨B, 3, none⟩ = some (.slice none 0 0) ∧ ∀ k, w.frozen? ⟨B, k, none⟩ = false :=
  ⟨by rw [cell_of_row _ _ _ _ _ (0, 0) h.res]; rfl, by rw [cell_of_row _ _ _ _ _ (0, 0) h.res]; rfl, by rw [cell_of_row _ _ _ _ _ (0, 0) h.res]; rfl, by rw [cell_of_row _ _ _ _ _ (0, 0) h.res]; rfl, fun k => frozen_of_row _ _ k _ _ h.res⟩
/-- A state that is there. -/
theorem OfAt.state (h : OfAt B l w vS vR vM xs rs M more) {i : Nat} (hi : i < xs.length) : ∃ g cap, vS = .slice (some ⟨g, 0, none⟩) xs.length cap ∧ w.cell? ⟨g, i, none⟩ = some (.int .i64 ((xs.getD i 0 : Nat) : Int)) := by
  obtain ⟨g, cap, e, _⟩ := h.own.form (by simp; omega)
  simp at e
  subst e
  exact ⟨g, cap, rfl, h.own.cell (natInts_get hi)⟩
/-- The map has turned: a new state has its number. -/
theorem OfAt.numbered {y : Nat} (h : OfAt B l w vS vR vM xs rs M more) (hn : NumAt w' (B + 3) (xs ++ [y])) (hg : w.grownBy w' (some (B + 3))) :
    w'.heap[B]? = some (.cells #[.int .i64 0, .int .i64 0, .slice none 0 0, .slice none 0 0] 25 (0, 0)) ∧ w'.heap[B + 1]? = some (.cells #[.int .i64 l, .int .i64 0, vR, vM] 25 (0, 0)) ∧
    Owns (B + 2) w' ((3, vS, vals (natInts xs)) :: (23, vR, rs.map (·.1)) :: (3, vM, vals M) :: (more ++ rowItems rs)) := by
  obtain ⟨_, o, ho, hne⟩ := h.num.block
  exact ⟨(hg.block _ (Array.getElem?_eq_some_iff.1 h.res).1 (by simp)).trans h.res, (hg.block _ (Array.getElem?_eq_some_iff.1 h.det).1 (by simp)).trans h.det, h.own.far hg (h.own.other ho hne)⟩
end

/-- What 'Of' leaves behind. -/
def OfPost (l x0 n : Nat) (δ : Nat → Nat → Nat) (m : Nat → Bool) (w : World) (e : Ending) (w' : World) : Prop :=
  ∃ k vR vM rs, IsEnd (bfsL id δ l x0) k ∧ k ≤ n ∧ e = .returned (.agg #[.int .i64 l, .int .i64 0, vR, vM]) ∧
      rs.map (·.2) = resR id δ l (bfsL id δ l x0 k) ∧ Owns w.heap.size w' ((23, vR, rs.map (·.1)) :: (3, vM, vals (resM m (bfsL id δ l x0 k))) :: rowItems rs) ∧ w.grownBy w' none

theorem numAt_made (w : World) : NumAt (w.alloc (.map #[] 0)) w.heap.size [] :=
  ⟨.map [], World.ownsMap_made w _ _ _, fun y _ => by simp [Maps.has_eq], fun i hi => by simp at hi⟩

/-- How it begins. -/
theorem ofAt_start (w : World) (l x0 : Nat) (hx : x0 < 4611686018427387904) :
    ∃ W4, (Instr.mapUpdate 140 (.map (some (w.heap.size + 1 + 1 + 1))) (.int .i64 (x0 : Int)) (.int .i64 0)).run Try.prog ((((w.alloc (.cells #[.int .i64 0, .int .i64 0, .slice none 0 0, .slice none 0 0] 25)).alloc (.cells #[.int .i64 (l : Int), .int .i64 0, .slice none 0 0, .slice none 0 0] 25)).alloc (.cells #[.int .i64 (x0 : Int)] 3)).alloc (.map #[] 0)) = .ok () W4 ∧
      OfAt w.heap.size l W4 (.slice (some ⟨w.heap.size + 1 + 1, 0, none⟩) 1 1) (.slice none 0 0) (.slice none 0 0) [x0] [] [] [] ∧ w.grownBy W4 none := by
  generalize hW0 : w.alloc (.cells #[.int .i64 0, .int .i64 0, .slice none 0 0, .slice none 0 0] 25) = W0
  have s0 : W0.heap.size = w.heap.size + 1 := by rw [← hW0]; simp
  have b0 : W0.heap[w.heap.size]? = some (.cells #[.int .i64 0, .int .i64 0, .slice none 0 0, .slice none 0 0] 25 (0, 0)) := by rw [← hW0]; exact heap_alloc_new w _
  have g0 : w.grownBy W0 none := by rw [← hW0]; exact grown_alloc _ _
  generalize hW1 : W0.alloc (.cells #[.int .i64 (l : Int), .int .i64 0, .slice none 0 0, .slice none 0 0] 25) = W1
  have s1 : W1.heap.size = w.heap.size + 2 := by rw [← hW1]; simp [s0]
  have b1 : W1.heap[w.heap.size + 1]? = some (.cells #[.int .i64 (l : Int), .int .i64 0, .slice none 0 0, .slice none 0 0] 25 (0, 0)) := by rw [← hW1, ← s0]; exact heap_alloc_new W0 _
  have g1 : W0.grownBy W1 none := by rw [← hW1]; exact grown_alloc _ _
  have o1 : Owns (w.heap.size + 2) W1 ((23, .slice none 0 0, []) :: (3, .slice none 0 0, []) :: []) := ((Owns.no _ _).empty _).empty _
  have o2 := o1.made (arr := #[.int .i64 (x0 : Int)]) (n := 1) (by omega) 3 rfl (by unfold maxLen; omega)
  generalize hW2 : W1.alloc (.cells #[.int .i64 (x0 : Int)] 3) = W2 at *
  have s2 : W2.heap.size = w.heap.size + 3 := by rw [← hW2]; simp [s1]
  have g2 : W1.grownBy W2 none := by rw [← hW2]; exact grown_alloc _ _
  have n3 := numAt_made W2
  rw [s2] at n3
  have g3 : W2.grownBy (W2.alloc (.map #[] 0)) none := grown_alloc _ _
  generalize W2.alloc (.map #[] 0) = W3 at *
  obtain ⟨W4, hr, hn4, hg4⟩ := n3.put hx (by simp) (by simp) (by simp)
  refine ⟨W4, by simpa using hr, ?_, ?_⟩
  · have gg : W2.grownBy W4 (some (w.heap.size + 3)) := ⟨hg4.os.trans g3.os, hg4.tape.trans g3.tape, hg4.output.trans g3.output, Nat.le_trans g3.size hg4.size, fun k hk hne => (hg4.block k (Nat.lt_of_lt_of_le hk g3.size) hne).trans (g3.block k hk (by simp))⟩
    refine ⟨?_, ?_, by simpa using hn4, ?_⟩
    · exact (gg.block _ (by omega) (by simp)).trans ((g2.block _ (by omega) (by simp)).trans ((g1.block _ (by omega) (by simp)).trans b0))
    · exact (gg.block _ (by omega) (by simp)).trans ((g2.block _ (by omega) (by simp)).trans b1)
    · have o3 : Owns (w.heap.size + 2) W4 _ := o2.far gg (fun it hm hc => by have := ((o2.1 it hm).1.lt _ hc).2; omega)
      rw [s1] at o3
      simpa [vals, natInts] using o3
  · exact grown_new (grown_trans (grown_trans (grown_trans g0 g1) g2) g3) hg4 (by omega)

end Go.Proofs.Ytofjboelplknhaa
