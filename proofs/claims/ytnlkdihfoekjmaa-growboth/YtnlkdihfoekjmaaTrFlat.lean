/- Rules, flat; boxes of five. -/
import Derived.Test.YtnlkdihfoekjmaaTrApp
import Derived.Test.YtnlkdihfoekjmaaLOwn
namespace Go.Proofs.Ytnlkdihfoekjmaa
open Go.RowKit
set_option linter.unusedVariables false

theorem Try.infoRule : (Try.prog.info? 47).map (fun i => (i.zero, i.size, i.bytes)) = some (some (.agg #[.int .i64 0, .int .i64 0, .int .i64 0, .int .i64 0]), 4, 32) := by kernel_rfl
def flatR (T : List RuleI) : List Value := T.flatMap fun x => [.int .i64 x.1, .int .i64 x.2.1, .int .i64 x.2.2.1, .int .i64 x.2.2.2]
theorem flatR_len (T : List RuleI) : (flatR T).length = T.length * 4 := by
  induction T with
  | nil => rfl
  | cons x T ih => simp only [flatR, List.flatMap_cons, List.length_append, List.length_cons, List.length_nil] at ih ⊢; rw [ih]; omega
theorem flatR_get (T : List RuleI) {i : Nat} (hi : i < T.length) : (flatR T)[i * 4]? = some (.int .i64 (T.getD i ru0).1) ∧ (flatR T)[i * 4 + 1]? = some (.int .i64 (T.getD i ru0).2.1) ∧ (flatR T)[i * 4 + 2]? = some (.int .i64 (T.getD i ru0).2.2.1) ∧ (flatR T)[i * 4 + 3]? = some (.int .i64 (T.getD i ru0).2.2.2) := by
  induction T generalizing i with
  | nil => simp at hi
  | cons x T ih =>
    cases i with
    | zero => exact ⟨rfl, rfl, rfl, rfl⟩
    | succ i =>
      have := ih (i := i) (by simpa using hi)
      simp only [flatR, List.flatMap_cons, List.cons_append, List.nil_append] at this ⊢
      rw [show (i + 1) * 4 = i * 4 + 4 by omega, show i * 4 + 4 + 1 = (i * 4 + 1) + 4 by omega, show i * 4 + 4 + 2 = (i * 4 + 2) + 4 by omega, show i * 4 + 4 + 3 = (i * 4 + 3) + 4 by omega]
      simp only [List.getElem?_cons_succ, List.getD_cons_succ]
      exact this
theorem flatR_mem {T : List RuleI} {u : Value} (h : u ∈ flatR T) : u.oneCell' = true := by
  obtain ⟨x, _, hx⟩ := List.mem_flatMap.1 h
  simp only [List.mem_cons, List.not_mem_nil, or_false] at hx
  rcases hx with rfl | rfl | rfl | rfl <;> rfl
theorem rules_cells {w : World} {b off : Nat} {T : List RuleI} (h : ∀ i, i < T.length → Rule4 w b (off + i * 4) (T.getD i ru0)) : ∀ j u, (flatR T)[j]? = some u → w.cell? ⟨b, off + j, none⟩ = some u := by
  intro j u hu
  have hj : j < T.length * 4 := by have := (List.getElem?_eq_some_iff.1 hu).1; rwa [flatR_len] at this
  obtain ⟨i, r, hr, rfl⟩ : ∃ i r, r < 4 ∧ j = i * 4 + r := ⟨j / 4, j % 4, Nat.mod_lt _ (by decide), by omega⟩
  have hi : i < T.length := by omega
  obtain ⟨f0, f1, f2, f3⟩ := flatR_get T hi
  obtain ⟨c0, c1, c2, c3⟩ := h i hi
  rcases (by omega : r = 0 ∨ r = 1 ∨ r = 2 ∨ r = 3) with rfl | rfl | rfl | rfl
  · rw [Nat.add_zero, f0] at hu; rw [Nat.add_zero, c0]; exact hu
  · rw [f1] at hu; rw [← Nat.add_assoc, c1]; exact hu
  · rw [f2] at hu; rw [← Nat.add_assoc, c2]; exact hu
  · rw [f3] at hu; rw [← Nat.add_assoc, c3]; exact hu
theorem cells_rules {w : World} {b off : Nat} {T : List RuleI} (h : ∀ j u, (flatR T)[j]? = some u → w.cell? ⟨b, off + j, none⟩ = some u) : RulesAt w (some ⟨b, off, none⟩) T := by
  refine .inr ⟨b, off, rfl, fun i hi => ?_⟩
  obtain ⟨f0, f1, f2, f3⟩ := flatR_get T hi
  exact ⟨h _ _ f0, by rw [Nat.add_assoc]; exact h _ _ f1, by rw [Nat.add_assoc]; exact h _ _ f2, by rw [Nat.add_assoc]; exact h _ _ f3⟩
theorem grown_set2T {a b : World} {g : Nat} (h : a.grownBy b (some g)) (o : Nat) (v : Value) : a.grownBy (b.setCell ⟨g, o, none⟩ v) (some g) := grown_trans h (grown_set b ⟨g, o, none⟩ v)
theorem block_cells5T {w : World} {B : Nat} {v0 v1 v2 v3 v4 : Value} {t : TypeId} (h : w.heap[B]? = some (.cells #[v0, v1, v2, v3, v4] t (0, 0))) :
    w.cell? ⟨B, 0, none⟩ = some v0 ∧ w.cell? ⟨B, 1, none⟩ = some v1 ∧ w.cell? ⟨B, 2, none⟩ = some v2 ∧ w.cell? ⟨B, 3, none⟩ = some v3 ∧ w.cell? ⟨B, 4, none⟩ = some v4 ∧ ∀ k, w.frozen? ⟨B, k, none⟩ = false := by
  have hc : ∀ k v, #[v0, v1, v2, v3, v4][k]? = some v → w.cell? ⟨B, k, none⟩ = some v := fun k v hv => by rw [cell_of_row _ _ k _ _ (0, 0) h]; exact hv
  exact ⟨hc 0 _ rfl, hc 1 _ rfl, hc 2 _ rfl, hc 3 _ rfl, hc 4 _ rfl, fun k => frozen_of_row w B k _ _ h⟩
theorem five_storeT {W : World} {B : Nat} {T : TypeId} {a0 a1 a2 a3 a4 : Value} (hb : W.heap[B]? = some (.cells #[a0, a1, a2, a3, a4] T (0, 0))) (v0 v1 v2 v3 v4 : Value) :
    ∃ W', W' = ((((W.setCell ⟨B, 0, none⟩ v0).setCell ⟨B, 1, none⟩ v1).setCell ⟨B, 2, none⟩ v2).setCell ⟨B, 3, none⟩ v3).setCell ⟨B, 4, none⟩ v4 ∧ W.grownBy W' (some B) ∧ W'.heap[B]? = some (.cells #[v0, v1, v2, v3, v4] T (0, 0)) := by
  have h0 : (W.setCell ⟨B, 0, none⟩ v0).heap[B]? = some (.cells #[v0, a1, a2, a3, a4] T (0, 0)) := by rw [heap_setCell_same W B 0 _ _ _ hb]; rfl
  have h1 : ((W.setCell ⟨B, 0, none⟩ v0).setCell ⟨B, 1, none⟩ v1).heap[B]? = some (.cells #[v0, v1, a2, a3, a4] T (0, 0)) := by rw [heap_setCell_same _ B 1 _ _ _ h0]; rfl
  have h2 : (((W.setCell ⟨B, 0, none⟩ v0).setCell ⟨B, 1, none⟩ v1).setCell ⟨B, 2, none⟩ v2).heap[B]? = some (.cells #[v0, v1, v2, a3, a4] T (0, 0)) := by rw [heap_setCell_same _ B 2 _ _ _ h1]; rfl
  have h3 : ((((W.setCell ⟨B, 0, none⟩ v0).setCell ⟨B, 1, none⟩ v1).setCell ⟨B, 2, none⟩ v2).setCell ⟨B, 3, none⟩ v3).heap[B]? = some (.cells #[v0, v1, v2, v3, a4] T (0, 0)) := by rw [heap_setCell_same _ B 3 _ _ _ h2]; rfl
  have h4 : (((((W.setCell ⟨B, 0, none⟩ v0).setCell ⟨B, 1, none⟩ v1).setCell ⟨B, 2, none⟩ v2).setCell ⟨B, 3, none⟩ v3).setCell ⟨B, 4, none⟩ v4).heap[B]? = some (.cells #[v0, v1, v2, v3, v4] T (0, 0)) := by rw [heap_setCell_same _ B 4 _ _ _ h3]; rfl
  exact ⟨_, rfl, grown_set2T (grown_set2T (grown_set2T (grown_set2T (grown_set W ⟨B, 0, none⟩ v0) 1 v1) 2 v2) 3 v3) 4 v4, h4⟩

end Go.Proofs.Ytnlkdihfoekjmaa
