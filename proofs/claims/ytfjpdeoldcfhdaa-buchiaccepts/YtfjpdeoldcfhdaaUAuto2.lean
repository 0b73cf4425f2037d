/- The law's copy of an automaton: auto; whether two automata are one: sameAuto. -/
import Derived.Test.YtfjpdeoldcfhdaaUAuto
import Derived.Test.YtfjpdeoldcfhdaaRWords
namespace Go.Proofs.Ytfjpdeoldcfhdaa
open Go.RowKit
set_option linter.unusedVariables false
attribute [local go_sem ↓] app_fold

/-- A copy of an automaton. -/
def AutoPost (x : Aut) (w : World) (E : Ending) (w' : World) : Prop :=
  ∃ (a b e : Option Addr) (c d f : Nat), E = .returned (autV x.L x.N a x.S.length c b x.T.length d e x.F.length f) ∧ AutAt w' x a b e ∧ w.grownBy w' none

theorem block_cells5A {w : World} {B : Nat} {v0 v1 v2 v3 v4 : Value} {t : TypeId} (h : w.heap[B]? = some (.cells #[v0, v1, v2, v3, v4] t (0, 0))) :
    w.cell? ⟨B, 0, none⟩ = some v0 ∧ w.cell? ⟨B, 1, none⟩ = some v1 ∧ w.cell? ⟨B, 2, none⟩ = some v2 ∧ w.cell? ⟨B, 3, none⟩ = some v3 ∧ w.cell? ⟨B, 4, none⟩ = some v4 ∧ ∀ k, w.frozen? ⟨B, k, none⟩ = false := by
  have hc : ∀ k v, #[v0, v1, v2, v3, v4][k]? = some v → w.cell? ⟨B, k, none⟩ = some v := fun k v hv => by rw [cell_of_row _ _ k _ _ (0, 0) h]; exact hv
  exact ⟨hc 0 _ rfl, hc 1 _ rfl, hc 2 _ rfl, hc 3 _ rfl, hc 4 _ rfl, fun k => frozen_of_row w B k _ _ h⟩
/-- A box of five is written over. -/
theorem five_store {W : World} {B : Nat} {T : TypeId} {a0 a1 a2 a3 a4 : Value} (hb : W.heap[B]? = some (.cells #[a0, a1, a2, a3, a4] T (0, 0))) (v0 v1 v2 v3 v4 : Value) :
    ∃ W', W' = ((((W.setCell ⟨B, 0, none⟩ v0).setCell ⟨B, 1, none⟩ v1).setCell ⟨B, 2, none⟩ v2).setCell ⟨B, 3, none⟩ v3).setCell ⟨B, 4, none⟩ v4 ∧ W.grownBy W' (some B) ∧ W'.heap[B]? = some (.cells #[v0, v1, v2, v3, v4] T (0, 0)) := by
  have h0 : (W.setCell ⟨B, 0, none⟩ v0).heap[B]? = some (.cells #[v0, a1, a2, a3, a4] T (0, 0)) := by rw [heap_setCell_same W B 0 _ _ _ hb]; rfl
  have h1 : ((W.setCell ⟨B, 0, none⟩ v0).setCell ⟨B, 1, none⟩ v1).heap[B]? = some (.cells #[v0, v1, a2, a3, a4] T (0, 0)) := by rw [heap_setCell_same _ B 1 _ _ _ h0]; rfl
  have h2 : (((W.setCell ⟨B, 0, none⟩ v0).setCell ⟨B, 1, none⟩ v1).setCell ⟨B, 2, none⟩ v2).heap[B]? = some (.cells #[v0, v1, v2, a3, a4] T (0, 0)) := by rw [heap_setCell_same _ B 2 _ _ _ h1]; rfl
  have h3 : ((((W.setCell ⟨B, 0, none⟩ v0).setCell ⟨B, 1, none⟩ v1).setCell ⟨B, 2, none⟩ v2).setCell ⟨B, 3, none⟩ v3).heap[B]? = some (.cells #[v0, v1, v2, v3, a4] T (0, 0)) := by rw [heap_setCell_same _ B 3 _ _ _ h2]; rfl
  have h4 : (((((W.setCell ⟨B, 0, none⟩ v0).setCell ⟨B, 1, none⟩ v1).setCell ⟨B, 2, none⟩ v2).setCell ⟨B, 3, none⟩ v3).setCell ⟨B, 4, none⟩ v4).heap[B]? = some (.cells #[v0, v1, v2, v3, v4] T (0, 0)) := by rw [heap_setCell_same _ B 4 _ _ _ h3]; rfl
  exact ⟨_, rfl, grown_set2 (grown_set2 (grown_set2 (grown_set2 (grown_set W ⟨B, 0, none⟩ v0) 1 v1) 2 v2) 3 v3) 4 v4, h4⟩

set_option maxHeartbeats 1600000 in
set_option maxRecDepth 100000 in
theorem auto_any (x : Aut) (a b e : Option Addr) (c d f : Nat) (w : World) (h : AutAt w x a b e) (hS : x.S.length ≤ 17592186044416) (hF : x.F.length ≤ 17592186044416) (hT : x.T.length * 24 ≤ 140737488355328) (hn : b = none → d = 0) :
    Calls Try.prog 7 #[autV x.L x.N a x.S.length c b x.T.length d e x.F.length f] w (AutoPost x w) := by
  have HLs : Hid (∀ W, w.grownBy W none → Calls Try.prog 27 #[.slice a x.S.length c] W fun e w' => e = .returned (.slice (some ⟨W.heap.size, 0, none⟩) x.S.length (x.S.length + 3)) ∧ Owns W.heap.size w' [(3, .slice (some ⟨W.heap.size, 0, none⟩) x.S.length (x.S.length + 3), vals x.S)] ∧ W.grownBy w' none) := fun W hW => list_any a c x.S W (h.start.grown hW) hS
  have HLf : Hid (∀ W, w.grownBy W none → Calls Try.prog 27 #[.slice e x.F.length f] W fun e w' => e = .returned (.slice (some ⟨W.heap.size, 0, none⟩) x.F.length (x.F.length + 3)) ∧ Owns W.heap.size w' [(3, .slice (some ⟨W.heap.size, 0, none⟩) x.F.length (x.F.length + 3), vals x.F)] ∧ W.grownBy w' none) := fun W hW => list_any e f x.F W (h.final.grown hW) hF
  have HSt : Hid (∀ W, w.grownBy W none → StepsAt W b x.T) := fun W hW => h.steps.grown hW
  have hms := h.ms
  have hmt := h.mt
  have hmf := h.mf
  clear h
  obtain ⟨W1, hW1, g1, s1, _⟩ := boxA_new w x.L x.N a x.S.length c b x.T.length d e x.F.length f
  obtain ⟨W2, hW2⟩ : ∃ W2, W2 = W1.alloc (.cells #[.int .i64 0, .int .i64 0, .slice none 0 0, .slice none 0 0, .slice none 0 0] 25) := ⟨_, rfl⟩
  have HW2 : Hid (W2 = (w.alloc (.cells #[.int .i64 x.L, .int .i64 x.N, .slice a x.S.length c, .slice b x.T.length d, .slice e x.F.length f] 25)).alloc (.cells #[.int .i64 0, .int .i64 0, .slice none 0 0, .slice none 0 0, .slice none 0 0] 25)) := by show _ = _; rw [hW2, hW1]
  have G2 : Hid (w.grownBy W2 none) := by rw [hW2]; exact grown_trans g1 (grown_alloc _ _)
  have S2 : Hid (W2.heap.size = w.heap.size + 1 + 1) := by show _ = _; rw [hW2, World.size_alloc, s1]
  have A2 : Hid (W2.heap[w.heap.size]? = some (.cells #[.int .i64 x.L, .int .i64 x.N, .slice a x.S.length c, .slice b x.T.length d, .slice e x.F.length f] 25 (0, 0))) := by
    have h1 := heap_alloc_new w (.cells #[.int .i64 x.L, .int .i64 x.N, .slice a x.S.length c, .slice b x.T.length d, .slice e x.F.length f] 25)
    rw [← hW1] at h1
    have h2 : W1.grownBy W2 none := by rw [hW2]; exact grown_alloc _ _
    exact (h2.block _ (by rw [s1]; omega) (by simp)).trans h1
  have R2 : Hid (W2.heap[w.heap.size + 1]? = some (.cells #[.int .i64 0, .int .i64 0, .slice none 0 0, .slice none 0 0, .slice none 0 0] 25 (0, 0))) := by
    have h1 := heap_alloc_new W1 (.cells #[.int .i64 0, .int .i64 0, .slice none 0 0, .slice none 0 0, .slice none 0 0] 25)
    rw [← hW2, s1] at h1
    exact h1
  clear hW1 hW2 g1 s1
  obtain ⟨L, N, S, T, F⟩ := x
  simp only at *
  obtain ⟨x0, x1, x2, x3, x4, xf⟩ := block_cells5A A2.out
  rw [HW2.out] at x0 x1 x2 x3 x4
  clear xf
  go_enter Try.func7, Try.ntmps7
  go_wp2_with fail
  rw [← HW2.out]
  refine (HLs.out _ G2.out).mono ?_
  rintro E w3 ⟨rfl, ho3, hg3⟩
  have hlt0 : w.heap.size < W2.heap.size := by rw [S2.out]; omega
  have A3 : w3.heap[w.heap.size]? = some (.cells #[.int .i64 L, .int .i64 N, .slice a S.length c, .slice b T.length d, .slice e F.length f] 25 (0, 0)) := (hg3.block _ hlt0 (by simp)).trans A2.out
  obtain ⟨y0, y1, y2, y3, y4, yf⟩ := block_cells5A A3
  have yf2 := yf 2
  generalize hga : W2.heap.size = ga at *
  have A4 := heap_setCell_same w3 w.heap.size 2 _ _ (.slice (some ⟨ga, 0, none⟩) S.length (S.length + 3)) A3
  obtain ⟨W4, hW4⟩ : ∃ W4, W4 = w3.setCell ⟨w.heap.size, 2, none⟩ (.slice (some ⟨ga, 0, none⟩) S.length (S.length + 3)) := ⟨_, rfl⟩
  rw [← hW4] at A4
  have g34 : w3.grownBy W4 (some w.heap.size) := by rw [hW4]; exact grown_set _ _ _
  have O4 : Hid (Owns ga W4 [(3, .slice (some ⟨ga, 0, none⟩) S.length (S.length + 3), vals S)]) := ho3.below g34 (by omega)
  have G4 : Hid (w.grownBy W4 none) := grown_new (grown_trans G2.out hg3) g34 (Nat.le_refl _)
  have R4 : Hid (W4.heap[w.heap.size + 1]? = some (.cells #[.int .i64 0, .int .i64 0, .slice none 0 0, .slice none 0 0, .slice none 0 0] 25 (0, 0))) := (g34.block _ (by have := hg3.size; have := S2.out; omega) (by simp)).trans ((hg3.block _ (by have := S2.out; omega) (by simp)).trans R2.out)
  have S4 : Hid (ga ≤ W4.heap.size) := by show _ ≤ _; have := hg3.size; have := g34.size; omega
  have HW4 : Hid (W4 = w3.setCell ⟨w.heap.size, 2, none⟩ (.slice (some ⟨ga, 0, none⟩) S.length (S.length + 3))) := hW4
  have A4' : Hid (W4.heap[w.heap.size]? = some (.cells #[.int .i64 L, .int .i64 N, .slice (some ⟨ga, 0, none⟩) S.length (S.length + 3), .slice b T.length d, .slice e F.length f] 25 (0, 0))) := A4
  obtain ⟨z0, z1, z2, z3, z4, zf⟩ := block_cells5A A4
  rw [hW4] at z0 z1 z2 z3 z4
  clear hW4 A4 g34 ho3 hg3 A3 x0 x1 x2 x3 x4 yf zf
  go_wp2_with fail
  rw [← HW4.out]
  refine (HLf.out _ G4.out).mono ?_
  rintro E w5 ⟨rfl, ho5, hg5⟩
  have A5 : w5.heap[w.heap.size]? = some (.cells #[.int .i64 L, .int .i64 N, .slice (some ⟨ga, 0, none⟩) S.length (S.length + 3), .slice b T.length d, .slice e F.length f] 25 (0, 0)) := (hg5.block _ (by have := S4.out; omega) (by simp)).trans A4'.out
  obtain ⟨x0, x1, x2, x3, x4, xf⟩ := block_cells5A A5
  have xf4 := xf 4
  generalize hgf : W4.heap.size = gf at *
  have A6 := heap_setCell_same w5 w.heap.size 4 _ _ (.slice (some ⟨gf, 0, none⟩) F.length (F.length + 3)) A5
  obtain ⟨W6, hW6⟩ : ∃ W6, W6 = w5.setCell ⟨w.heap.size, 4, none⟩ (.slice (some ⟨gf, 0, none⟩) F.length (F.length + 3)) := ⟨_, rfl⟩
  rw [← hW6] at A6
  have g56 : w5.grownBy W6 (some w.heap.size) := by rw [hW6]; exact grown_set _ _ _
  have hgg : ga ≤ gf := S4.out
  have O6 : Hid (Owns gf W6 [(3, .slice (some ⟨gf, 0, none⟩) F.length (F.length + 3), vals F)]) := ho5.below g56 (by omega)
  have P6 : Hid (Owns ga W6 [(3, .slice (some ⟨ga, 0, none⟩) S.length (S.length + 3), vals S)]) := (O4.out.kept hg5).below g56 (by omega)
  have G6 : Hid (w.grownBy W6 none) := grown_new (grown_trans G4.out hg5) g56 (Nat.le_refl _)
  have R6 : Hid (W6.heap[w.heap.size + 1]? = some (.cells #[.int .i64 0, .int .i64 0, .slice none 0 0, .slice none 0 0, .slice none 0 0] 25 (0, 0))) := (g56.block _ (by have := hg5.size; have := S2.out; omega) (by simp)).trans ((hg5.block _ (by have := S2.out; omega) (by simp)).trans R4.out)
  have S6 : Hid (gf ≤ W6.heap.size) := by show _ ≤ _; have := hg5.size; have := g56.size; omega
  have HW6 : Hid (W6 = w5.setCell ⟨w.heap.size, 4, none⟩ (.slice (some ⟨gf, 0, none⟩) F.length (F.length + 3))) := hW6
  have A6' : Hid (W6.heap[w.heap.size]? = some (.cells #[.int .i64 L, .int .i64 N, .slice (some ⟨ga, 0, none⟩) S.length (S.length + 3), .slice b T.length d, .slice (some ⟨gf, 0, none⟩) F.length (F.length + 3)] 25 (0, 0))) := A6
  clear A6 g56 ho5 hg5 A5 z0 z1 z2 z3 z4 y0 y1 y2 y3 y4 yf2 xf HLs HLf
  obtain ⟨z0, z1, z2, z3, z4, zf⟩ := block_cells5A A6'.out
  have zc : ∀ o, (W6.alloc o).cell? ⟨w.heap.size, 3, none⟩ = some (.slice b T.length d) := fun o => (grown_alloc _ o).cell z3 (by simp)
  rw [hW6] at zc
  have hs56 : W6.heap.size = w5.heap.size := by rw [hW6]; simp [World.setCell]
  obtain ⟨b', d', w7, hrun, hst7, hbl7, hgr7⟩ := copy_steps (W6.alloc (.cells #[] 59)) W6.heap.size b d T (HSt.out _ (grown_trans G6.out (grown_alloc _ _))) hT W6.heap.size (Nat.le_refl _) (heap_alloc_new W6 (.cells #[] 59)) hn
  have G67 : Hid (W6.grownBy w7 none) := grown_new (grown_alloc _ _) hgr7 (Nat.le_refl _)
  have A7 : w7.heap[w.heap.size]? = some (.cells #[.int .i64 L, .int .i64 N, .slice (some ⟨ga, 0, none⟩) S.length (S.length + 3), .slice b T.length d, .slice (some ⟨gf, 0, none⟩) F.length (F.length + 3)] 25 (0, 0)) := (G67.out.block _ (by have := S6.out; have := S2.out; omega) (by simp)).trans A6'.out
  obtain ⟨q0, q1, q2, q3, q4, qf⟩ := block_cells5A A7
  have qf3 := qf 3
  have A8 := heap_setCell_same w7 w.heap.size 3 _ _ (.slice b' T.length d') A7
  obtain ⟨W8, hW8⟩ : ∃ W8, W8 = w7.setCell ⟨w.heap.size, 3, none⟩ (.slice b' T.length d') := ⟨_, rfl⟩
  rw [← hW8] at A8
  have g78 : w7.grownBy W8 (some w.heap.size) := by rw [hW8]; exact grown_set _ _ _
  have A8' : W8.heap[w.heap.size]? = some (.cells #[.int .i64 L, .int .i64 N, .slice (some ⟨ga, 0, none⟩) S.length (S.length + 3), .slice b' T.length d', .slice (some ⟨gf, 0, none⟩) F.length (F.length + 3)] 25 (0, 0)) := A8
  obtain ⟨p0, p1, p2, p3, p4, pf⟩ := block_cells5A A8'
  have R8 : W8.heap[w.heap.size + 1]? = some (.cells #[.int .i64 0, .int .i64 0, .slice none 0 0, .slice none 0 0, .slice none 0 0] 25 (0, 0)) := (g78.block _ (by have := G67.out.size; have := S6.out; have := S2.out; omega) (by simp)).trans ((G67.out.block _ (by have := S6.out; have := S2.out; omega) (by simp)).trans R6.out)
  obtain ⟨r0, r1, r2, r3, r4, rf⟩ := block_cells5A R8
  obtain ⟨W9, hW9, hg9, R9⟩ := five_store R8 (.int .i64 L) (.int .i64 N) (.slice (some ⟨ga, 0, none⟩) S.length (S.length + 3)) (.slice b' T.length d') (.slice (some ⟨gf, 0, none⟩) F.length (F.length + 3))
  obtain ⟨v0, v1, v2, v3, v4, _⟩ := block_cells5A R9
  have rf0 := rf 0
  have rf1 := rf 1
  have rf2 := rf 2
  have rf3 := rf 3
  have rf4 := rf 4
  have hS9 : Ints W9 (some ⟨ga, 0, none⟩) S := (((P6.out.kept G67.out).below g78 (by have := S2.out; omega)).below hg9 (by have := S2.out; omega)).ints.2
  have hF9 : Ints W9 (some ⟨gf, 0, none⟩) F := (((O6.out.kept G67.out).below g78 (by have := S2.out; omega)).below hg9 (by have := S2.out; omega)).ints.2
  have hT9 : StepsAt W9 b' T := by
    rcases hst7 with h | ⟨bb, off, hb, hc⟩
    · exact .inl h
    · by_cases h0 : T.length = 0
      · exact .inl (List.length_eq_zero_iff.1 h0)
      · have hbb : W6.heap.size ≤ bb := hbl7 _ hb
        refine .inr ⟨bb, off, hb, fun i hi => ?_⟩
        have k1 : ∀ o v, w7.cell? ⟨bb, o, none⟩ = some v → W9.cell? ⟨bb, o, none⟩ = some v := fun o v hv => hg9.cell (g78.cell hv (by simp; have := S6.out; have := S2.out; omega)) (by simp; have := S6.out; have := S2.out; omega)
        obtain ⟨c0, c1, c2⟩ := hc i hi
        exact ⟨k1 _ _ c0, k1 _ _ c1, k1 _ _ c2⟩
  have Fin : Hid (AutoPost ⟨L, N, S, T, F⟩ w (.returned (autV L N (some ⟨ga, 0, none⟩) S.length (S.length + 3) b' T.length d' (some ⟨gf, 0, none⟩) F.length (F.length + 3))) W9) := ⟨_, _, _, _, _, _, rfl, ⟨hS9, hT9, hF9, hms, hmt, hmf⟩, grown_new (grown_new (grown_trans G6.out G67.out) g78 (Nat.le_refl _)) hg9 (by omega)⟩
  rw [hs56, hW6] at hrun
  clear z0 z1 z2 z3 z4 zf hst7 hgr7 A7 A8 g78 A8' R8 hg9 R9 hS9 hF9 hT9 rf qf pf hs56
  rw [hW8] at r0 r1 r2 r3 r4 rf0 rf1 rf2 rf3 rf4 p0 p1 p2 p3 p4 hW9
  clear hW8 hW6
  go_wp2_with fail
  rw [← hW9]
  exact bodyPost_ret (v := autV L N (some ⟨ga, 0, none⟩) S.length (S.length + 3) b' T.length d' (some ⟨gf, 0, none⟩) F.length (F.length + 3)) (by simp [results, Try.results7, go_sem, v0, v1, v2, v3, v4]) rfl Fin.out

end Go.Proofs.Ytfjpdeoldcfhdaa
