/- The law's copy of an automaton, with memory of its own. -/
import Derived.Test.YtfjpdeoldcfhdaaUCheck2
import Derived.Test.YtfjpdeoldcfhdaaRList1
import Derived.Test.YtfjpdeoldcfhdaaHBackD
namespace Go.Proofs.Ytfjpdeoldcfhdaa
open Go.RowKit
set_option linter.unusedVariables false
attribute [local go_sem ↓] app_fold

theorem Try.infoT : (Try.prog.info? 59).map (fun i => (i.zero, i.size, i.bytes)) = some (some (.agg #[.int .i64 0, .int .i64 0, .int .i64 0]), 3, 24) := by kernel_rfl

/-- Steps, flat. -/
def flatT (T : List StepI) : List Value := T.flatMap fun x => [.int .i64 x.1, .int .i64 x.2.1, .int .i64 x.2.2]
theorem flatT_len (T : List StepI) : (flatT T).length = T.length * 3 := by
  induction T with
  | nil => rfl
  | cons x T ih => simp only [flatT, List.flatMap_cons, List.length_append, List.length_cons, List.length_nil] at ih ⊢; rw [ih]; omega
theorem flatT_get (T : List StepI) {i : Nat} (hi : i < T.length) : (flatT T)[i * 3]? = some (.int .i64 (T.getD i (0, 0, 0)).1) ∧ (flatT T)[i * 3 + 1]? = some (.int .i64 (T.getD i (0, 0, 0)).2.1) ∧ (flatT T)[i * 3 + 2]? = some (.int .i64 (T.getD i (0, 0, 0)).2.2) := by
  induction T generalizing i with
  | nil => simp at hi
  | cons x T ih =>
    cases i with
    | zero => exact ⟨rfl, rfl, rfl⟩
    | succ i =>
      have := ih (i := i) (by simpa using hi)
      simp only [flatT, List.flatMap_cons, List.cons_append, List.nil_append] at this ⊢
      rw [show (i + 1) * 3 = i * 3 + 3 by omega, show i * 3 + 3 + 1 = (i * 3 + 1) + 3 by omega, show i * 3 + 3 + 2 = (i * 3 + 2) + 3 by omega]
      simp only [List.getElem?_cons_succ, List.getD_cons_succ]
      exact this
theorem flatT_mem {T : List StepI} {u : Value} (h : u ∈ flatT T) : u.oneCell' = true := by
  obtain ⟨x, _, hx⟩ := List.mem_flatMap.1 h
  simp only [List.mem_cons, List.not_mem_nil, or_false] at hx
  rcases hx with rfl | rfl | rfl <;> rfl
theorem steps_cells {w : World} {b off : Nat} {T : List StepI} (h : ∀ i, i < T.length → w.cell? ⟨b, off + i * 3, none⟩ = some (.int .i64 (T.getD i (0, 0, 0)).1) ∧ w.cell? ⟨b, off + i * 3 + 1, none⟩ = some (.int .i64 (T.getD i (0, 0, 0)).2.1) ∧ w.cell? ⟨b, off + i * 3 + 2, none⟩ = some (.int .i64 (T.getD i (0, 0, 0)).2.2)) :
    ∀ j u, (flatT T)[j]? = some u → w.cell? ⟨b, off + j, none⟩ = some u := by
  intro j u hu
  have hj : j < T.length * 3 := by have := (List.getElem?_eq_some_iff.1 hu).1; rwa [flatT_len] at this
  obtain ⟨i, r, hr, rfl⟩ : ∃ i r, r < 3 ∧ j = i * 3 + r := ⟨j / 3, j % 3, Nat.mod_lt _ (by decide), by omega⟩
  have hi : i < T.length := by omega
  obtain ⟨f0, f1, f2⟩ := flatT_get T hi
  obtain ⟨c0, c1, c2⟩ := h i hi
  have : r = 0 ∨ r = 1 ∨ r = 2 := by omega
  rcases this with rfl | rfl | rfl
  · rw [Nat.add_zero, f0] at hu; rw [Nat.add_zero, c0]; exact hu
  · rw [f1] at hu; rw [← Nat.add_assoc, c1]; exact hu
  · rw [f2] at hu; rw [← Nat.add_assoc, c2]; exact hu
theorem cells_steps {w : World} {b off : Nat} {T : List StepI} (h : ∀ j u, (flatT T)[j]? = some u → w.cell? ⟨b, off + j, none⟩ = some u) : StepsAt w (some ⟨b, off, none⟩) T := by
  refine .inr ⟨b, off, rfl, fun i hi => ?_⟩
  obtain ⟨f0, f1, f2⟩ := flatT_get T hi
  exact ⟨h _ _ f0, by rw [Nat.add_assoc]; exact h _ _ f1, by rw [Nat.add_assoc]; exact h _ _ f2⟩

/-- Steps are put behind nothing. -/
theorem copy_steps (w : World) (g : Nat) (b : Option Addr) (d : Nat) (T : List StepI) (hT : StepsAt w b T) (hm : T.length * 24 ≤ 140737488355328) (B : Nat) (hB : B ≤ g) (hg : w.heap[g]? = some (.cells #[] 59 (0, 0))) (hn : b = none → d = 0) :
    ∃ b' d' w', (AppS #[23, 23] 23 #[.slice (some ⟨g, 0, none⟩) 0 0, .slice b T.length d]).run Try.prog w = .ok (.slice b' T.length d') w' ∧ StepsAt w' b' T ∧ (∀ y, b' = some y → g ≤ y.block) ∧ w.grownBy w' (some g) := by
  have hlt : g < w.heap.size := (Array.getElem?_eq_some_iff.1 hg).1
  obtain ⟨i0, hi, hz0, hz1, hz2⟩ := info_parts Try.infoT
  have hown : w.ownsRow g 59 3 (.slice (some ⟨g, 0, none⟩) 0 0) 0 [] := ⟨rfl, .inr ⟨g, 0, #[], rfl, Nat.le_refl _, hg, Nat.le_refl _, Nat.zero_le _, by simp, by simp⟩⟩
  cases b with
  | none =>
    have hT0 : T = [] := by
      rcases hT with h | ⟨_, _, h, _⟩
      · exact h
      · cases h
    subst hT0
    have hd := hn rfl
    subst hd
    refine ⟨_, _, w, run_append_owned_none (P := Try.prog) w g 23 23 59 i0 3 Try.underlying23 hi _ 0 [] hown, .inl rfl, fun y hy => by cases hy; exact Nat.le_refl _, grown_refl _ _⟩
  | some y =>
    have hnews : ∀ j u, (flatT T)[j]? = some u → w.cell? (y.add j) = some u := by
      rcases hT with rfl | ⟨b0, off, hb, hc⟩
      · intro j u hu; simp [flatT] at hu
      · cases hb
        intro j u hu
        rw [add_off]
        exact steps_cells hc j u hu
    obtain ⟨v', w', hr, ho, hgr, _, _⟩ := run_append_own_at (P := Try.prog) w g 23 23 59 i0 (.agg #[.int .i64 0, .int .i64 0, .int .i64 0]) 3 24 Try.underlying23 hi hz0 hz1 hz2 rfl (by decide) (.slice (some ⟨g, 0, none⟩) 0 0) 0 [] hown y T.length d (flatT T) (flatT_len T) hnews (fun u hu => flatT_mem hu) (by unfold maxLen; omega) (by omega) (Nat.le_of_lt hlt)
    rw [Nat.zero_add, List.nil_append] at ho
    have hform : ∃ b' d', v' = .slice b' T.length d' ∧ StepsAt w' b' T ∧ ∀ y, b' = some y → g ≤ y.block := by
      by_cases h0 : T.length = 0
      · have hT0 : T = [] := List.length_eq_zero_iff.1 h0
        rcases ho.2 with ⟨e1, _⟩ | ⟨g', cap, cur, e1, h2⟩
        · exact ⟨none, 0, by rw [e1, h0], .inl hT0, fun y hy => by cases hy⟩
        · exact ⟨_, cap, e1, .inl hT0, fun y hy => by cases hy; exact h2.1⟩
      · obtain ⟨g', cap, e1, h2, _⟩ := ho.form (by omega)
        subst e1
        refine ⟨_, _, rfl, cells_steps fun j u hu => ?_, fun y hy => by cases hy; exact h2⟩
        have := ho.cells (g := g') rfl j u hu
        rwa [addr_add, ← Nat.zero_add j] at this
    obtain ⟨b', d', rfl, hs, hy⟩ := hform
    exact ⟨b', d', w', hr, hs, hy, hgr⟩

end Go.Proofs.Ytfjpdeoldcfhdaa
