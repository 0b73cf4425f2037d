/- The law's copy of an automaton, with memory of its own. -/
/- The law's copy of an automaton: auto; whether two automata are one: sameAuto. -/
import Derived.Test.YtaangdomdeklhaaUCheck2
import Derived.Test.YtaangdomdeklhaaRList1
import Derived.Test.YtaangdomdeklhaaHBackD
import Derived.Test.YtaangdomdeklhaaRWords
namespace Go.Proofs.Ytaangdomdeklhaa
open Go.RowKit
set_option linter.unusedVariables false
attribute [local go_sem ↓] app_fold

theorem Try.infoT : (Try.prog.info? 53).map (fun i => (i.zero, i.size, i.bytes)) = some (some (.agg #[.int .i64 0, .int .i64 0, .int .i64 0]), 3, 24) := by kernel_rfl

/-- Steps, flat. -/
def flatT (T : List StepI) : List Value := T.flatMap fun x => [.int .i64 x.1, .int .i64 x.2.1, .int .i64 x.2.2]
theorem flatT_len (T : List StepI) : (flatT T).length = T.length * 3 := by
  induction T with
  | nil => rfl
  | cons x T ih => simp only [flatT, List.flatMap_cons, List.length_append, List.length_cons, List.length_nil] at ih ⊢; rw [ih]; omega
theorem flatT_get (T : List StepI) {i : Nat} (hi : i < T.length) : (flatT T)[i * 3]? = some (.int .i64 (T.getD i (0, 0, 0)).1) ∧ (flatT T)[i * 3 + 1]? = some (.int .i64 (T.getD i (0, 0, 0)).2.1) ∧ (flatT T)[i * 3 + 2]? = some (.int .i64 (T.getD i (0, 0, 0)).2.2) := by
  induction T generalizing i with
  | nil => simp at hi
  | cons x T ih =>
    cases i with
    | zero => exact ⟨rfl, rfl, rfl⟩
    | succ i =>
      have := ih (i := i) (by simpa using hi)
      simp only [flatT, List.flatMap_cons, List.cons_append, List.nil_append] at this ⊢
      rw [show (i + 1) * 3 = i * 3 + 3 by omega, show i * 3 + 3 + 1 = (i * 3 + 1) + 3 by omega, show i * 3 + 3 + 2 = (i * 3 + 2) + 3 by omega]
      simp only [List.getElem?_cons_succ, List.getD_cons_succ]
      exact this
theorem flatT_mem {T : List StepI} {u : Value} (h : u ∈ flatT T) : u.oneCell' = true := by
  obtain ⟨x, _, hx⟩ := List.mem_flatMap.1 h
  simp only [List.mem_cons, List.not_mem_nil, or_false] at hx
  rcases hx with rfl | rfl | rfl <;> rfl
theorem steps_cells {w : World} {b off : Nat} {T : List StepI} (h : ∀ i, i < T.length → w.cell? ⟨b, off + i * 3, none⟩ = some (.int .i64 (T.getD i (0, 0, 0)).1) ∧ w.cell? ⟨b, off + i * 3 + 1, none⟩ = some (.int .i64 (T.getD i (0, 0, 0)).2.1) ∧ w.cell? ⟨b, off + i * 3 + 2, none⟩ = some (.int .i64 (T.getD i (0, 0, 0)).2.2)) :
    ∀ j u, (flatT T)[j]? = some u → w.cell? ⟨b, off + j, none⟩ = some u := by
  intro j u hu
  have hj : j < T.length * 3 := by have := (List.getElem?_eq_some_iff.1 hu).1; rwa [flatT_len] at this
  obtain ⟨i, r, hr, rfl⟩ : ∃ i r, r < 3 ∧ j = i * 3 + r := ⟨j / 3, j % 3, Nat.mod_lt _ (by decide), by omega⟩
  have hi : i < T.length := by omega
  obtain ⟨f0, f1, f2⟩ := flatT_get T hi
  obtain ⟨c0, c1, c2⟩ := h i hi
  have : r = 0 ∨ r = 1 ∨ r = 2 := by omega
  rcases this with rfl | rfl | rfl
  · rw [Nat.add_zero, f0] at hu; rw [Nat.add_zero, c0]; exact hu
  · rw [f1] at hu; rw [← Nat.add_assoc, c1]; exact hu
  · rw [f2] at hu; rw [← Nat.add_assoc, c2]; exact hu
theorem cells_steps {w : World} {b off : Nat} {T : List StepI} (h : ∀ j u, (flatT T)[j]? = some u → w.cell? ⟨b, off + j, none⟩ = some u) : StepsAt w (some ⟨b, off, none⟩) T := by
  refine .inr ⟨b, off, rfl, fun i hi => ?_⟩
  obtain ⟨f0, f1, f2⟩ := flatT_get T hi
  exact ⟨h _ _ f0, by rw [Nat.add_assoc]; exact h _ _ f1, by rw [Nat.add_assoc]; exact h _ _ f2⟩

/-- Steps are put behind nothing. -/
theorem copy_steps (w : World) (g : Nat) (b : Option Addr) (d : Nat) (T : List StepI) (hT : StepsAt w b T) (hm : T.length * 24 ≤ 140737488355328) (B : Nat) (hB : B ≤ g) (hg : w.heap[g]? = some (.cells #[] 53 (0, 0))) (hn : b = none → d = 0) :
    ∃ b' d' w', (AppS #[23, 23] 23 #[.slice (some ⟨g, 0, none⟩) 0 0, .slice b T.length d]).run Try.prog w = .ok (.slice b' T.length d') w' ∧ StepsAt w' b' T ∧ (∀ y, b' = some y → g ≤ y.block) ∧ w.grownBy w' (some g) := by
  have hlt : g < w.heap.size := (Array.getElem?_eq_some_iff.1 hg).1
  obtain ⟨i0, hi, hz0, hz1, hz2⟩ := info_parts Try.infoT
  have hown : w.ownsRow g 53 3 (.slice (some ⟨g, 0, none⟩) 0 0) 0 [] := ⟨rfl, .inr ⟨g, 0, #[], rfl, Nat.le_refl _, hg, Nat.le_refl _, Nat.zero_le _, by simp, by simp⟩⟩
  cases b with
  | none =>
    have hT0 : T = [] := by
      rcases hT with h | ⟨_, _, h, _⟩
      · exact h
      · cases h
    subst hT0
    have hd := hn rfl
    subst hd
    refine ⟨_, _, w, run_append_owned_none (P := Try.prog) w g 23 23 53 i0 3 Try.underlying23 hi _ 0 [] hown, .inl rfl, fun y hy => by cases hy; exact Nat.le_refl _, grown_refl _ _⟩
  | some y =>
    have hnews : ∀ j u, (flatT T)[j]? = some u → w.cell? (y.add j) = some u := by
      rcases hT with rfl | ⟨b0, off, hb, hc⟩
      · intro j u hu; simp [flatT] at hu
      · cases hb
        intro j u hu
        rw [add_off]
        exact steps_cells hc j u hu
    obtain ⟨v', w', hr, ho, hgr, _, _⟩ := run_append_own_at (P := Try.prog) w g 23 23 53 i0 (.agg #[.int .i64 0, .int .i64 0, .int .i64 0]) 3 24 Try.underlying23 hi hz0 hz1 hz2 rfl (by decide) (.slice (some ⟨g, 0, none⟩) 0 0) 0 [] hown y T.length d (flatT T) (flatT_len T) hnews (fun u hu => flatT_mem hu) (by unfold maxLen; omega) (by omega) (Nat.le_of_lt hlt)
    rw [Nat.zero_add, List.nil_append] at ho
    have hform : ∃ b' d', v' = .slice b' T.length d' ∧ StepsAt w' b' T ∧ ∀ y, b' = some y → g ≤ y.block := by
      by_cases h0 : T.length = 0
      · have hT0 : T = [] := List.length_eq_zero_iff.1 h0
        rcases ho.2 with ⟨e1, _⟩ | ⟨g', cap, cur, e1, h2⟩
        · exact ⟨none, 0, by rw [e1, h0], .inl hT0, fun y hy => by cases hy⟩
        · exact ⟨_, cap, e1, .inl hT0, fun y hy => by cases hy; exact h2.1⟩
      · obtain ⟨g', cap, e1, h2, _⟩ := ho.form (by omega)
        subst e1
        refine ⟨_, _, rfl, cells_steps fun j u hu => ?_, fun y hy => by cases hy; exact h2⟩
        have := ho.cells (g := g') rfl j u hu
        rwa [addr_add, ← Nat.zero_add j] at this
    obtain ⟨b', d', rfl, hs, hy⟩ := hform
    exact ⟨b', d', w', hr, hs, hy, hgr⟩

end Go.Proofs.Ytaangdomdeklhaa

namespace Go.Proofs.Ytaangdomdeklhaa
open Go.RowKit
set_option linter.unusedVariables false
attribute [local go_sem ↓] app_fold

/-- A copy of an automaton. -/
def AutoPost (x : Aut) (w : World) (E : Ending) (w' : World) : Prop :=
  ∃ (a b e : Option Addr) (c d f : Nat), E = .returned (autV x.L x.N a x.S.length c b x.T.length d e x.F.length f) ∧ AutAt w' x a b e ∧ w.grownBy w' none

theorem block_cells5A {w : World} {B : Nat} {v0 v1 v2 v3 v4 : Value} {t : TypeId} (h : w.heap[B]? = some (.cells #[v0, v1, v2, v3, v4] t (0, 0))) :
    w.cell? ⟨B, 0, none⟩ = some v0 ∧ w.cell? ⟨B, 1, none⟩ = some v1 ∧ w.cell? ⟨B, 2, none⟩ = some v2 ∧ w.cell? ⟨B, 3, none⟩ = some v3 ∧ w.cell? ⟨B, 4, none⟩ = some v4 ∧ ∀ k, w.frozen? ⟨B, k, none⟩ = false := by
  have hc : ∀ k v, #[v0, v1, v2, v3, v4][k]? = some v → w.cell? ⟨B, k, none⟩ = some v := fun k v hv => by rw [cell_of_row _ _ k _ _ (0, 0) h]; exact hv
  exact ⟨hc 0 _ rfl, hc 1 _ rfl, hc 2 _ rfl, hc 3 _ rfl, hc 4 _ rfl, fun k => frozen_of_row w B k _ _ h⟩
/-- A box of five is written over. -/
theorem five_store {W : World} {B : Nat} {T : TypeId} {a0 a1 a2 a3 a4 : Value} (hb : W.heap[B]? = some (.cells #[a0, a1, a2, a3, a4] T (0, 0))) (v0 v1 v2 v3 v4 : Value) :
    ∃ W', W' = ((((W.setCell ⟨B, 0, none⟩ v0).setCell ⟨B, 1, none⟩ v1).setCell ⟨B, 2, none⟩ v2).setCell ⟨B, 3, none⟩ v3).setCell ⟨B, 4, none⟩ v4 ∧ W.grownBy W' (some B) ∧ W'.heap[B]? = some (.cells #[v0, v1, v2, v3, v4] T (0, 0)) := by
  have h0 : (W.setCell ⟨B, 0, none⟩ v0).heap[B]? = some (.cells #[v0, a1, a2, a3, a4] T (0, 0)) := by rw [heap_setCell_same W B 0 _ _ _ hb]; rfl
  have h1 : ((W.setCell ⟨B, 0, none⟩ v0).setCell ⟨B, 1, none⟩ v1).heap[B]? = some (.cells #[v0, v1, a2, a3, a4] T (0, 0)) := by rw [heap_setCell_same _ B 1 _ _ _ h0]; rfl
  have h2 : (((W.setCell ⟨B, 0, none⟩ v0).setCell ⟨B, 1, none⟩ v1).setCell ⟨B, 2, none⟩ v2).heap[B]? = some (.cells #[v0, v1, v2, a3, a4] T (0, 0)) := by rw [heap_setCell_same _ B 2 _ _ _ h1]; rfl
  have h3 : ((((W.setCell ⟨B, 0, none⟩ v0).setCell ⟨B, 1, none⟩ v1).setCell ⟨B, 2, none⟩ v2).setCell ⟨B, 3, none⟩ v3).heap[B]? = some (.cells #[v0, v1, v2, v3, a4] T (0, 0)) := by rw [heap_setCell_same _ B 3 _ _ _ h2]; rfl
  have h4 : (((((W.setCell ⟨B, 0, none⟩ v0).setCell ⟨B, 1, none⟩ v1).setCell ⟨B, 2, none⟩ v2).setCell ⟨B, 3, none⟩ v3).setCell ⟨B, 4, none⟩ v4).heap[B]? = some (.cells #[v0, v1, v2, v3, v4] T (0, 0)) := by rw [heap_setCell_same _ B 4 _ _ _ h3]; rfl
  exact ⟨_, rfl, grown_set2 (grown_set2 (grown_set2 (grown_set2 (grown_set W ⟨B, 0, none⟩ v0) 1 v1) 2 v2) 3 v3) 4 v4, h4⟩

set_option maxHeartbeats 1600000 in
set_option maxRecDepth 100000 in
theorem auto_any (x : Aut) (a b e : Option Addr) (c d f : Nat) (w : World) (h : AutAt w x a b e) (hS : x.S.length ≤ 17592186044416) (hF : x.F.length ≤ 17592186044416) (hT : x.T.length * 24 ≤ 140737488355328) (hn : b = none → d = 0) :
    Calls Try.prog 5 #[autV x.L x.N a x.S.length c b x.T.length d e x.F.length f] w (AutoPost x w) := by
  have HLs : Hid (∀ W, w.grownBy W none → Calls Try.prog 20 #[.slice a x.S.length c] W fun e w' => e = .returned (.slice (some ⟨W.heap.size, 0, none⟩) x.S.length (x.S.length + 3)) ∧ Owns W.heap.size w' [(3, .slice (some ⟨W.heap.size, 0, none⟩) x.S.length (x.S.length + 3), vals x.S)] ∧ W.grownBy w' none) := fun W hW => list_any a c x.S W (h.start.grown hW) hS
  have HLf : Hid (∀ W, w.grownBy W none → Calls Try.prog 20 #[.slice e x.F.length f] W fun e w' => e = .returned (.slice (some ⟨W.heap.size, 0, none⟩) x.F.length (x.F.length + 3)) ∧ Owns W.heap.size w' [(3, .slice (some ⟨W.heap.size, 0, none⟩) x.F.length (x.F.length + 3), vals x.F)] ∧ W.grownBy w' none) := fun W hW => list_any e f x.F W (h.final.grown hW) hF
  have HSt : Hid (∀ W, w.grownBy W none → StepsAt W b x.T) := fun W hW => h.steps.grown hW
  have hms := h.ms
  have hmt := h.mt
  have hmf := h.mf
  clear h
  obtain ⟨W1, hW1, g1, s1, _⟩ := boxA_new w x.L x.N a x.S.length c b x.T.length d e x.F.length f
  obtain ⟨W2, hW2⟩ : ∃ W2, W2 = W1.alloc (.cells #[.int .i64 0, .int .i64 0, .slice none 0 0, .slice none 0 0, .slice none 0 0] 25) := ⟨_, rfl⟩
  have HW2 : Hid (W2 = (w.alloc (.cells #[.int .i64 x.L, .int .i64 x.N, .slice a x.S.length c, .slice b x.T.length d, .slice e x.F.length f] 25)).alloc (.cells #[.int .i64 0, .int .i64 0, .slice none 0 0, .slice none 0 0, .slice none 0 0] 25)) := by show _ = _; rw [hW2, hW1]
  have G2 : Hid (w.grownBy W2 none) := by rw [hW2]; exact grown_trans g1 (grown_alloc _ _)
  have S2 : Hid (W2.heap.size = w.heap.size + 1 + 1) := by show _ = _; rw [hW2, World.size_alloc, s1]
  have A2 : Hid (W2.heap[w.heap.size]? = some (.cells #[.int .i64 x.L, .int .i64 x.N, .slice a x.S.length c, .slice b x.T.length d, .slice e x.F.length f] 25 (0, 0))) := by
    have h1 := heap_alloc_new w (.cells #[.int .i64 x.L, .int .i64 x.N, .slice a x.S.length c, .slice b x.T.length d, .slice e x.F.length f] 25)
    rw [← hW1] at h1
    have h2 : W1.grownBy W2 none := by rw [hW2]; exact grown_alloc _ _
    exact (h2.block _ (by rw [s1]; omega) (by simp)).trans h1
  have R2 : Hid (W2.heap[w.heap.size + 1]? = some (.cells #[.int .i64 0, .int .i64 0, .slice none 0 0, .slice none 0 0, .slice none 0 0] 25 (0, 0))) := by
    have h1 := heap_alloc_new W1 (.cells #[.int .i64 0, .int .i64 0, .slice none 0 0, .slice none 0 0, .slice none 0 0] 25)
    rw [← hW2, s1] at h1
    exact h1
  clear hW1 hW2 g1 s1
  obtain ⟨L, N, S, T, F⟩ := x
  simp only at *
  obtain ⟨x0, x1, x2, x3, x4, xf⟩ := block_cells5A A2.out
  rw [HW2.out] at x0 x1 x2 x3 x4
  clear xf
  go_enter Try.func5, Try.ntmps5
  go_wp2_with fail
  rw [← HW2.out]
  refine (HLs.out _ G2.out).mono ?_
  rintro E w3 ⟨rfl, ho3, hg3⟩
  have hlt0 : w.heap.size < W2.heap.size := by rw [S2.out]; omega
  have A3 : w3.heap[w.heap.size]? = some (.cells #[.int .i64 L, .int .i64 N, .slice a S.length c, .slice b T.length d, .slice e F.length f] 25 (0, 0)) := (hg3.block _ hlt0 (by simp)).trans A2.out
  obtain ⟨y0, y1, y2, y3, y4, yf⟩ := block_cells5A A3
  have yf2 := yf 2
  generalize hga : W2.heap.size = ga at *
  have A4 := heap_setCell_same w3 w.heap.size 2 _ _ (.slice (some ⟨ga, 0, none⟩) S.length (S.length + 3)) A3
  obtain ⟨W4, hW4⟩ : ∃ W4, W4 = w3.setCell ⟨w.heap.size, 2, none⟩ (.slice (some ⟨ga, 0, none⟩) S.length (S.length + 3)) := ⟨_, rfl⟩
  rw [← hW4] at A4
  have g34 : w3.grownBy W4 (some w.heap.size) := by rw [hW4]; exact grown_set _ _ _
  have O4 : Hid (Owns ga W4 [(3, .slice (some ⟨ga, 0, none⟩) S.length (S.length + 3), vals S)]) := ho3.below g34 (by omega)
  have G4 : Hid (w.grownBy W4 none) := grown_new (grown_trans G2.out hg3) g34 (Nat.le_refl _)
  have R4 : Hid (W4.heap[w.heap.size + 1]? = some (.cells #[.int .i64 0, .int .i64 0, .slice none 0 0, .slice none 0 0, .slice none 0 0] 25 (0, 0))) := (g34.block _ (by have := hg3.size; have := S2.out; omega) (by simp)).trans ((hg3.block _ (by have := S2.out; omega) (by simp)).trans R2.out)
  have S4 : Hid (ga ≤ W4.heap.size) := by show _ ≤ _; have := hg3.size; have := g34.size; omega
  have HW4 : Hid (W4 = w3.setCell ⟨w.heap.size, 2, none⟩ (.slice (some ⟨ga, 0, none⟩) S.length (S.length + 3))) := hW4
  have A4' : Hid (W4.heap[w.heap.size]? = some (.cells #[.int .i64 L, .int .i64 N, .slice (some ⟨ga, 0, none⟩) S.length (S.length + 3), .slice b T.length d, .slice e F.length f] 25 (0, 0))) := A4
  obtain ⟨z0, z1, z2, z3, z4, zf⟩ := block_cells5A A4
  rw [hW4] at z0 z1 z2 z3 z4
  clear hW4 A4 g34 ho3 hg3 A3 x0 x1 x2 x3 x4 yf zf
  go_wp2_with fail
  rw [← HW4.out]
  refine (HLf.out _ G4.out).mono ?_
  rintro E w5 ⟨rfl, ho5, hg5⟩
  have A5 : w5.heap[w.heap.size]? = some (.cells #[.int .i64 L, .int .i64 N, .slice (some ⟨ga, 0, none⟩) S.length (S.length + 3), .slice b T.length d, .slice e F.length f] 25 (0, 0)) := (hg5.block _ (by have := S4.out; omega) (by simp)).trans A4'.out
  obtain ⟨x0, x1, x2, x3, x4, xf⟩ := block_cells5A A5
  have xf4 := xf 4
  generalize hgf : W4.heap.size = gf at *
  have A6 := heap_setCell_same w5 w.heap.size 4 _ _ (.slice (some ⟨gf, 0, none⟩) F.length (F.length + 3)) A5
  obtain ⟨W6, hW6⟩ : ∃ W6, W6 = w5.setCell ⟨w.heap.size, 4, none⟩ (.slice (some ⟨gf, 0, none⟩) F.length (F.length + 3)) := ⟨_, rfl⟩
  rw [← hW6] at A6
  have g56 : w5.grownBy W6 (some w.heap.size) := by rw [hW6]; exact grown_set _ _ _
  have hgg : ga ≤ gf := S4.out
  have O6 : Hid (Owns gf W6 [(3, .slice (some ⟨gf, 0, none⟩) F.length (F.length + 3), vals F)]) := ho5.below g56 (by omega)
  have P6 : Hid (Owns ga W6 [(3, .slice (some ⟨ga, 0, none⟩) S.length (S.length + 3), vals S)]) := (O4.out.kept hg5).below g56 (by omega)
  have G6 : Hid (w.grownBy W6 none) := grown_new (grown_trans G4.out hg5) g56 (Nat.le_refl _)
  have R6 : Hid (W6.heap[w.heap.size + 1]? = some (.cells #[.int .i64 0, .int .i64 0, .slice none 0 0, .slice none 0 0, .slice none 0 0] 25 (0, 0))) := (g56.block _ (by have := hg5.size; have := S2.out; omega) (by simp)).trans ((hg5.block _ (by have := S2.out; omega) (by simp)).trans R4.out)
  have S6 : Hid (gf ≤ W6.heap.size) := by show _ ≤ _; have := hg5.size; have := g56.size; omega
  have HW6 : Hid (W6 = w5.setCell ⟨w.heap.size, 4, none⟩ (.slice (some ⟨gf, 0, none⟩) F.length (F.length + 3))) := hW6
  have A6' : Hid (W6.heap[w.heap.size]? = some (.cells #[.int .i64 L, .int .i64 N, .slice (some ⟨ga, 0, none⟩) S.length (S.length + 3), .slice b T.length d, .slice (some ⟨gf, 0, none⟩) F.length (F.length + 3)] 25 (0, 0))) := A6
  clear A6 g56 ho5 hg5 A5 z0 z1 z2 z3 z4 y0 y1 y2 y3 y4 yf2 xf HLs HLf
  obtain ⟨z0, z1, z2, z3, z4, zf⟩ := block_cells5A A6'.out
  have zc : ∀ o, (W6.alloc o).cell? ⟨w.heap.size, 3, none⟩ = some (.slice b T.length d) := fun o => (grown_alloc _ o).cell z3 (by simp)
  rw [hW6] at zc
  have hs56 : W6.heap.size = w5.heap.size := by rw [hW6]; simp [World.setCell]
  obtain ⟨b', d', w7, hrun, hst7, hbl7, hgr7⟩ := copy_steps (W6.alloc (.cells #[] 53)) W6.heap.size b d T (HSt.out _ (grown_trans G6.out (grown_alloc _ _))) hT W6.heap.size (Nat.le_refl _) (heap_alloc_new W6 (.cells #[] 53)) hn
  have G67 : Hid (W6.grownBy w7 none) := grown_new (grown_alloc _ _) hgr7 (Nat.le_refl _)
  have A7 : w7.heap[w.heap.size]? = some (.cells #[.int .i64 L, .int .i64 N, .slice (some ⟨ga, 0, none⟩) S.length (S.length + 3), .slice b T.length d, .slice (some ⟨gf, 0, none⟩) F.length (F.length + 3)] 25 (0, 0)) := (G67.out.block _ (by have := S6.out; have := S2.out; omega) (by simp)).trans A6'.out
  obtain ⟨q0, q1, q2, q3, q4, qf⟩ := block_cells5A A7
  have qf3 := qf 3
  have A8 := heap_setCell_same w7 w.heap.size 3 _ _ (.slice b' T.length d') A7
  obtain ⟨W8, hW8⟩ : ∃ W8, W8 = w7.setCell ⟨w.heap.size, 3, none⟩ (.slice b' T.length d') := ⟨_, rfl⟩
  rw [← hW8] at A8
  have g78 : w7.grownBy W8 (some w.heap.size) := by rw [hW8]; exact grown_set _ _ _
  have A8' : W8.heap[w.heap.size]? = some (.cells #[.int .i64 L, .int .i64 N, .slice (some ⟨ga, 0, none⟩) S.length (S.length + 3), .slice b' T.length d', .slice (some ⟨gf, 0, none⟩) F.length (F.length + 3)] 25 (0, 0)) := A8
  obtain ⟨p0, p1, p2, p3, p4, pf⟩ := block_cells5A A8'
  have R8 : W8.heap[w.heap.size + 1]? = some (.cells #[.int .i64 0, .int .i64 0, .slice none 0 0, .slice none 0 0, .slice none 0 0] 25 (0, 0)) := (g78.block _ (by have := G67.out.size; have := S6.out; have := S2.out; omega) (by simp)).trans ((G67.out.block _ (by have := S6.out; have := S2.out; omega) (by simp)).trans R6.out)
  obtain ⟨r0, r1, r2, r3, r4, rf⟩ := block_cells5A R8
  obtain ⟨W9, hW9, hg9, R9⟩ := five_store R8 (.int .i64 L) (.int .i64 N) (.slice (some ⟨ga, 0, none⟩) S.length (S.length + 3)) (.slice b' T.length d') (.slice (some ⟨gf, 0, none⟩) F.length (F.length + 3))
  obtain ⟨v0, v1, v2, v3, v4, _⟩ := block_cells5A R9
  have rf0 := rf 0
  have rf1 := rf 1
  have rf2 := rf 2
  have rf3 := rf 3
  have rf4 := rf 4
  have hS9 : Ints W9 (some ⟨ga, 0, none⟩) S := (((P6.out.kept G67.out).below g78 (by have := S2.out; omega)).below hg9 (by have := S2.out; omega)).ints.2
  have hF9 : Ints W9 (some ⟨gf, 0, none⟩) F := (((O6.out.kept G67.out).below g78 (by have := S2.out; omega)).below hg9 (by have := S2.out; omega)).ints.2
  have hT9 : StepsAt W9 b' T := by
    rcases hst7 with h | ⟨bb, off, hb, hc⟩
    · exact .inl h
    · by_cases h0 : T.length = 0
      · exact .inl (List.length_eq_zero_iff.1 h0)
      · have hbb : W6.heap.size ≤ bb := hbl7 _ hb
        refine .inr ⟨bb, off, hb, fun i hi => ?_⟩
        have k1 : ∀ o v, w7.cell? ⟨bb, o, none⟩ = some v → W9.cell? ⟨bb, o, none⟩ = some v := fun o v hv => hg9.cell (g78.cell hv (by simp; have := S6.out; have := S2.out; omega)) (by simp; have := S6.out; have := S2.out; omega)
        obtain ⟨c0, c1, c2⟩ := hc i hi
        exact ⟨k1 _ _ c0, k1 _ _ c1, k1 _ _ c2⟩
  have Fin : Hid (AutoPost ⟨L, N, S, T, F⟩ w (.returned (autV L N (some ⟨ga, 0, none⟩) S.length (S.length + 3) b' T.length d' (some ⟨gf, 0, none⟩) F.length (F.length + 3))) W9) := ⟨_, _, _, _, _, _, rfl, ⟨hS9, hT9, hF9, hms, hmt, hmf⟩, grown_new (grown_new (grown_trans G6.out G67.out) g78 (Nat.le_refl _)) hg9 (by omega)⟩
  rw [hs56, hW6] at hrun
  clear z0 z1 z2 z3 z4 zf hst7 hgr7 A7 A8 g78 A8' R8 hg9 R9 hS9 hF9 hT9 rf qf pf hs56
  rw [hW8] at r0 r1 r2 r3 r4 rf0 rf1 rf2 rf3 rf4 p0 p1 p2 p3 p4 hW9
  clear hW8 hW6
  go_wp2_with fail
  rw [← hW9]
  exact bodyPost_ret (v := autV L N (some ⟨ga, 0, none⟩) S.length (S.length + 3) b' T.length d' (some ⟨gf, 0, none⟩) F.length (F.length + 3)) (by simp [results, Try.results5, go_sem, v0, v1, v2, v3, v4]) rfl Fin.out

end Go.Proofs.Ytaangdomdeklhaa
