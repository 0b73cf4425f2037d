/- The law's copy of an automaton of trees. -/
import Derived.Test.YtnlkdihfoekjmaaTrFlat
import Derived.Test.YtnlkdihfoekjmaaRList1
namespace Go.Proofs.Ytnlkdihfoekjmaa
open Go.RowKit
set_option linter.unusedVariables false
attribute [local go_sem ↓] app_fold

/-- Rules are put behind nothing. -/
theorem copy_rules (w : World) (g : Nat) (b : Option Addr) (d : Nat) (T : List RuleI) (hT : RulesAt w b T) (hm : T.length * 32 ≤ 140737488355328) (hg : w.heap[g]? = some (.cells #[] 47 (0, 0))) (hn : b = none → d = 0) :
    ∃ b' d' w', (AppS #[22, 22] 22 #[.slice (some ⟨g, 0, none⟩) 0 0, .slice b T.length d]).run Try.prog w = .ok (.slice b' T.length d') w' ∧ RulesAt w' b' T ∧ (∀ y, b' = some y → g ≤ y.block) ∧ w.grownBy w' (some g) := by
  have hlt : g < w.heap.size := (Array.getElem?_eq_some_iff.1 hg).1
  obtain ⟨i0, hi, hz0, hz1, hz2⟩ := info_partsW Try.infoRule
  have hown : w.ownsRow g 47 4 (.slice (some ⟨g, 0, none⟩) 0 0) 0 [] := ⟨rfl, .inr ⟨g, 0, #[], rfl, Nat.le_refl _, hg, Nat.le_refl _, Nat.zero_le _, by simp, by simp⟩⟩
  cases b with
  | none =>
    have hT0 : T = [] := by
      rcases hT with h | ⟨_, _, h, _⟩
      · exact h
      · cases h
    subst hT0
    have hd := hn rfl
    subst hd
    refine ⟨_, _, w, run_append_owned_none (P := Try.prog) w g 22 22 47 i0 4 Try.underlying22 hi _ 0 [] hown, .inl rfl, fun y hy => by cases hy; exact Nat.le_refl _, grown_refl _ _⟩
  | some y =>
    have hnews : ∀ j u, (flatR T)[j]? = some u → w.cell? (y.add j) = some u := by
      rcases hT with rfl | ⟨b0, off, hb, hc⟩
      · intro j u hu; simp [flatR] at hu
      · cases hb
        intro j u hu
        rw [add_off]
        exact rules_cells hc j u hu
    obtain ⟨v', w', hr, ho, hgr, _, _⟩ := run_append_own_at (P := Try.prog) w g 22 22 47 i0 (.agg #[.int .i64 0, .int .i64 0, .int .i64 0, .int .i64 0]) 4 32 Try.underlying22 hi hz0 hz1 hz2 rfl (by decide) (.slice (some ⟨g, 0, none⟩) 0 0) 0 [] hown y T.length d (flatR T) (flatR_len T) hnews (fun u hu => flatR_mem hu) (by unfold maxLen; omega) (by omega) (Nat.le_of_lt hlt)
    rw [Nat.zero_add, List.nil_append] at ho
    have hform : ∃ b' d', v' = .slice b' T.length d' ∧ RulesAt w' b' T ∧ ∀ y, b' = some y → g ≤ y.block := by
      by_cases h0 : T.length = 0
      · have hT0 : T = [] := List.length_eq_zero_iff.1 h0
        rcases ho.2 with ⟨e1, _⟩ | ⟨g', cap, cur, e1, h2⟩
        · exact ⟨none, 0, by rw [e1, h0], .inl hT0, fun y hy => by cases hy⟩
        · exact ⟨_, cap, e1, .inl hT0, fun y hy => by cases hy; exact h2.1⟩
      · obtain ⟨g', cap, e1, h2, _⟩ := ho.form (by omega)
        subst e1
        refine ⟨_, _, rfl, cells_rules fun j u hu => ?_, fun y hy => by cases hy; exact h2⟩
        have := ho.cells (g := g') rfl j u hu
        rwa [addr_add, ← Nat.zero_add j] at this
    obtain ⟨b', d', rfl, hs, hy⟩ := hform
    exact ⟨b', d', w', hr, hs, hy, hgr⟩

def TreesPost (x : Trs) (w : World) (E : Ending) (w' : World) : Prop :=
  ∃ (b e : Option Addr) (d f : Nat), E = .returned (trsV x.L x.N b x.R.length d x.S e x.M.length f) ∧ TrsAt w' x b e ∧ w.grownBy w' none
set_option maxHeartbeats 1600000 in
set_option maxRecDepth 100000 in
theorem trees_any (x : Trs) (b e : Option Addr) (d f : Nat) (w : World) (h : TrsAt w x b e) (hR : x.R.length * 32 ≤ 140737488355328) (hM : x.M.length ≤ 17592186044416) (hn : b = none → d = 0) :
    Calls Try.prog 4 #[trsV x.L x.N b x.R.length d x.S e x.M.length f] w (TreesPost x w) := by
  have HLs : Hid (∀ W, w.grownBy W none → Calls Try.prog 11 #[.slice e x.M.length f] W fun E w' => E = .returned (.slice (some ⟨W.heap.size, 0, none⟩) x.M.length (x.M.length + 3)) ∧ Owns W.heap.size w' [(3, .slice (some ⟨W.heap.size, 0, none⟩) x.M.length (x.M.length + 3), vals x.M)] ∧ W.grownBy w' none) := fun W hW => list_any e f x.M W (h.marks.grown hW) hM
  have HRl : Hid (∀ W, w.grownBy W none → RulesAt W b x.R) := fun W hW => h.rules.grown hW
  have hmr := h.mr
  have hmm := h.mm
  clear h
  obtain ⟨L, N, R, S0, M⟩ := x
  simp only at *
  obtain ⟨W2, hW2⟩ : ∃ W2, W2 = (w.alloc (.cells #[.int .i64 L, .int .i64 N, .slice b R.length d, .int .i64 S0, .slice e M.length f] 25)).alloc (.cells #[.int .i64 0, .int .i64 0, .slice none 0 0, .int .i64 0, .slice none 0 0] 25) := ⟨_, rfl⟩
  have HW2 : Hid (W2 = _) := hW2
  have G2 : Hid (w.grownBy W2 none) := by rw [hW2]; exact grown_trans (grown_alloc _ _) (grown_alloc _ _)
  have S2 : Hid (W2.heap.size = w.heap.size + 1 + 1) := by show _ = _; rw [hW2, World.size_alloc, World.size_alloc]
  have A2 : W2.heap[w.heap.size]? = some (.cells #[.int .i64 L, .int .i64 N, .slice b R.length d, .int .i64 S0, .slice e M.length f] 25 (0, 0)) := by
    have h1 := heap_alloc_new w (.cells #[.int .i64 L, .int .i64 N, .slice b R.length d, .int .i64 S0, .slice e M.length f] 25)
    rw [hW2]
    exact ((grown_alloc _ _).block _ (by rw [World.size_alloc]; omega) (by simp)).trans h1
  have R2 : Hid (W2.heap[w.heap.size + 1]? = some (.cells #[.int .i64 0, .int .i64 0, .slice none 0 0, .int .i64 0, .slice none 0 0] 25 (0, 0))) := by
    have h1 := heap_alloc_new (w.alloc (.cells #[.int .i64 L, .int .i64 N, .slice b R.length d, .int .i64 S0, .slice e M.length f] 25)) (.cells #[.int .i64 0, .int .i64 0, .slice none 0 0, .int .i64 0, .slice none 0 0] 25)
    rw [← hW2, World.size_alloc] at h1
    exact h1
  obtain ⟨b', d', w3, hrun, hst3, hbl3, hgr3⟩ := copy_rules (W2.alloc (.cells #[] 47)) W2.heap.size b d R (HRl.out _ (grown_trans G2.out (grown_alloc _ _))) hR (heap_alloc_new W2 (.cells #[] 47)) hn
  have g23 : W2.grownBy w3 none := grown_new (grown_alloc _ _) hgr3 (Nat.le_refl _)
  obtain ⟨x0, x1, x2, x3, x4, _⟩ := block_cells5T A2
  have x2' : ∀ o, (W2.alloc o).cell? ⟨w.heap.size, 2, none⟩ = some (.slice b R.length d) := fun o => (grown_alloc _ o).cell x2 (by simp)
  have hs2 := S2.out
  have A3 : w3.heap[w.heap.size]? = some (.cells #[.int .i64 L, .int .i64 N, .slice b R.length d, .int .i64 S0, .slice e M.length f] 25 (0, 0)) := (g23.block _ (by omega) (by simp)).trans A2
  obtain ⟨y0, y1, y2, y3, y4, yf⟩ := block_cells5T A3
  have yf2 := yf 2
  have A4 := heap_setCell_same w3 w.heap.size 2 _ _ (.slice b' R.length d') A3
  obtain ⟨W4, hW4⟩ : ∃ W4, W4 = w3.setCell ⟨w.heap.size, 2, none⟩ (.slice b' R.length d') := ⟨_, rfl⟩
  rw [← hW4] at A4
  have A4' : W4.heap[w.heap.size]? = some (.cells #[.int .i64 L, .int .i64 N, .slice b' R.length d', .int .i64 S0, .slice e M.length f] 25 (0, 0)) := A4
  have HA4 : Hid (W4.heap[w.heap.size]? = some (.cells #[.int .i64 L, .int .i64 N, .slice b' R.length d', .int .i64 S0, .slice e M.length f] 25 (0, 0))) := A4'
  obtain ⟨z0, z1, z2, z3, z4, _⟩ := block_cells5T A4'
  have HW4 : Hid (W4 = _) := hW4
  have g34 : w3.grownBy W4 (some w.heap.size) := by rw [hW4]; exact grown_set _ _ _
  have G4 : Hid (w.grownBy W4 none) := grown_new (grown_trans G2.out g23) g34 (Nat.le_refl _)
  have hs4 : w.heap.size + 1 < W4.heap.size := by have := g23.size; have := g34.size; omega
  have R4 : Hid (W4.heap[w.heap.size + 1]? = some (.cells #[.int .i64 0, .int .i64 0, .slice none 0 0, .int .i64 0, .slice none 0 0] 25 (0, 0))) := (g34.block _ (by have := g23.size; omega) (by simp)).trans ((g23.block _ (by omega) (by simp)).trans R2.out)
  have HS4 : Hid (w.heap.size + 1 < W4.heap.size) := hs4
  have HRu4 : Hid (∀ W5, W4.grownBy W5 none → ∀ W6, W5.grownBy W6 (some w.heap.size) → ∀ W7, W6.grownBy W7 (some (w.heap.size + 1)) → RulesAt W7 b' R) := fun W5 h5 W6 h6 W7 h7 => by
    rcases hst3 with hh | ⟨bb, off, hb, hc⟩
    · exact .inl hh
    · have hbb : W2.heap.size ≤ bb := hbl3 _ hb
      refine .inr ⟨bb, off, hb, fun i hi => ?_⟩
      have k1 : ∀ o v, w3.cell? ⟨bb, o, none⟩ = some v → W7.cell? ⟨bb, o, none⟩ = some v := fun o v hv => h7.cell (h6.cell (h5.cell (g34.cell hv (by simp; omega)) (by simp)) (by simp; omega)) (by simp; omega)
      obtain ⟨c0, c1, c2, c3⟩ := hc i hi
      exact ⟨k1 _ _ c0, k1 _ _ c1, k1 _ _ c2, k1 _ _ c3⟩
  rw [hs2] at hrun
  rw [hW2] at x0 x1 x2 x3 x4 x2' hrun
  rw [hW4] at z0 z1 z2 z3 z4
  clear hW2 A2 A3 A4 A4' hW4 g34 g23 hs4 hst3 hbl3 hgr3 hs2 yf
  go_enter Try.func4, Try.ntmps4
  go_wp2_with fail
  rw [← HW4.out]
  refine (HLs.out _ G4.out).mono ?_
  rintro E w5 ⟨rfl, ho5, hg5⟩
  have A5 : w5.heap[w.heap.size]? = some (.cells #[.int .i64 L, .int .i64 N, .slice b' R.length d', .int .i64 S0, .slice e M.length f] 25 (0, 0)) := (hg5.block _ (by have := HS4.out; omega) (by simp)).trans HA4.out
  obtain ⟨q0, q1, q2, q3, q4, qf⟩ := block_cells5T A5
  have qf4 := qf 4
  obtain ⟨gm, hgm⟩ : ∃ gm, W4.heap.size = gm := ⟨_, rfl⟩
  rw [hgm] at ho5 ⊢
  have A6 := heap_setCell_same w5 w.heap.size 4 _ _ (.slice (some ⟨gm, 0, none⟩) M.length (M.length + 3)) A5
  obtain ⟨W6, hW6⟩ : ∃ W6, W6 = w5.setCell ⟨w.heap.size, 4, none⟩ (.slice (some ⟨gm, 0, none⟩) M.length (M.length + 3)) := ⟨_, rfl⟩
  rw [← hW6] at A6
  have A6' : W6.heap[w.heap.size]? = some (.cells #[.int .i64 L, .int .i64 N, .slice b' R.length d', .int .i64 S0, .slice (some ⟨gm, 0, none⟩) M.length (M.length + 3)] 25 (0, 0)) := A6
  obtain ⟨p0, p1, p2, p3, p4, _⟩ := block_cells5T A6'
  have g56 : w5.grownBy W6 (some w.heap.size) := by rw [hW6]; exact grown_set _ _ _
  have hs4 := HS4.out
  have R6 : W6.heap[w.heap.size + 1]? = some (.cells #[.int .i64 0, .int .i64 0, .slice none 0 0, .int .i64 0, .slice none 0 0] 25 (0, 0)) := (g56.block _ (by have := hg5.size; omega) (by simp)).trans ((hg5.block _ hs4 (by simp)).trans R4.out)
  obtain ⟨r0, r1, r2, r3, r4, rf⟩ := block_cells5T R6
  obtain ⟨W7, hW7, hg7, R7⟩ := five_storeT R6 (.int .i64 L) (.int .i64 N) (.slice b' R.length d') (.int .i64 S0) (.slice (some ⟨gm, 0, none⟩) M.length (M.length + 3))
  obtain ⟨v0, v1, v2, v3, v4, _⟩ := block_cells5T R7
  have rf0 := rf 0
  have rf1 := rf 1
  have rf2 := rf 2
  have rf3 := rf 3
  have rf4 := rf 4
  have hM7 : Ints W7 (some ⟨gm, 0, none⟩) M := ((ho5.below g56 (by omega)).below hg7 (by omega)).ints.2
  have Fin : Hid (TreesPost ⟨L, N, R, S0, M⟩ w (.returned (trsV L N b' R.length d' S0 (some ⟨gm, 0, none⟩) M.length (M.length + 3))) W7) := ⟨_, _, _, _, rfl, ⟨HRu4.out w5 hg5 W6 g56 W7 hg7, hM7, hmr, hmm⟩, grown_new (grown_new (grown_trans G4.out hg5) g56 (Nat.le_refl _)) hg7 (by omega)⟩
  rw [hW6] at p0 p1 p2 p3 p4 r0 r1 r2 r3 r4 rf0 rf1 rf2 rf3 rf4 hW7
  clear A5 A6 A6' g56 hs4 R6 hg7 R7 rf qf hM7 hg5 ho5 hgm hW6
  go_wp2_with fail
  rw [← hW7]
  exact bodyPost_ret (v := trsV L N b' R.length d' S0 (some ⟨gm, 0, none⟩) M.length (M.length + 3)) (by simp [results, Try.results4, go_sem, v0, v1, v2, v3, v4]) rfl Fin.out

end Go.Proofs.Ytnlkdihfoekjmaa
