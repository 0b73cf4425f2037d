/- The automaton of the other trees, as it is written. -/
import Derived.Test.YtofjmakmbmndoaaTrSetM
import Derived.Test.YtofjmakmbmndoaaTrFlat
namespace Go.Proofs.Ytofjmakmbmndoaa
open Go.RowKit
set_option linter.unusedVariables false
set_option linter.unusedSimpArgs false

theorem Try.infoInt3 : (Try.prog.info? 3).map (fun i => (i.zero, i.size, i.bytes)) = some (some (.int .i64 0), 1, 8) := by kernel_rfl
theorem flatR_snoc (T : List RuleI) (x : RuleI) : flatR (T ++ [x]) = flatR T ++ [.int .i64 x.1, .int .i64 x.2.1, .int .i64 x.2.2.1, .int .i64 x.2.2.2] := by simp [flatR]
structure OutAt (W wr : World) (bo : Nat) (L : Int) (n : Nat) (Q : List RuleI) (K : List Int) (ar : Option Addr) (cr : Nat) (am : Option Addr) (cm : Nat) : Prop where
  box : wr.heap[bo]? = some (.cells #[.int .i64 L, .int .i64 (n : Int), .slice ar Q.length cr, .int .i64 0, .slice am K.length cm] 25 (0, 0))
  rul : wr.ownsRow (bo + 1) 46 4 (.slice ar Q.length cr) Q.length (flatR Q)
  mar : wr.ownsRow (bo + 1) 3 1 (.slice am K.length cm) K.length (vals K)
  gr : W.grownBy wr (some bo)
  sz : W.heap.size = bo + 1
section
variable {W wr w' : World} {bo : Nat} {L : Int} {n : Nat} {Q : List RuleI} {K : List Int} {ar am : Option Addr} {cr cm : Nat}
theorem OutAt.kept (h : OutAt W wr bo L n Q K ar cr am cm) (hg : wr.grownBy w' none) : OutAt W w' bo L n Q K ar cr am cm :=
  ⟨(hg.block _ (by have := h.gr.size; have := h.sz; omega) (by simp)).trans h.box, h.rul.kept hg (by cases (Value.slice ar Q.length cr).ownBlock <;> simp), h.mar.kept hg (by cases (Value.slice am K.length cm).ownBlock <;> simp), grown_trans h.gr (grown_some hg), h.sz⟩
theorem OutAt.cells (h : OutAt W wr bo L n Q K ar cr am cm) : wr.cell? ⟨bo, 2, none⟩ = some (.slice ar Q.length cr) ∧ wr.cell? ⟨bo, 4, none⟩ = some (.slice am K.length cm) :=
  ⟨by rw [cell_of_row _ _ 2 _ _ (0, 0) h.box]; rfl, by rw [cell_of_row _ _ 4 _ _ (0, 0) h.box]; rfl⟩
theorem own_apart {w w' : World} {B : Nat} {e e' : TypeId} {sz sz' k k' : Nat} {v v' : Value} {xs ys : List Value} (h : w.ownsRow B e sz v k xs) (h' : w.ownsRow B e' sz' v' k' ys) (hne : e ≠ e') : v.ownBlock = none ∨ v.ownBlock ≠ v'.ownBlock := by
  rcases h.2 with ⟨e1, _⟩ | ⟨g, cap, cur, e1, _, e3, _⟩
  · left; rw [e1]; rfl
  · right
    rcases h'.2 with ⟨e2, _⟩ | ⟨g', cap', cur', e2, _, e4, _⟩
    · rw [e1, e2]; simp [Value.ownBlock]
    · rw [e1, e2]
      simp only [Value.ownBlock]
      intro eq
      have : g = g' := Option.some.inj eq
      subst this
      rw [e3] at e4
      cases e4
      exact hne rfl
/-- A rule is put behind. -/
theorem OutAt.rule (h : OutAt W wr bo L n Q K ar cr am cm) (x : RuleI) (hQ : Q.length ≤ 100000) :
    ∃ g c' w2, (AppS #[22, 22] 22 #[.slice ar Q.length cr, .slice (some ⟨wr.heap.size, 0, none⟩) 1 1]).run Try.prog (wr.alloc (.cells #[.int .i64 x.1, .int .i64 x.2.1, .int .i64 x.2.2.1, .int .i64 x.2.2.2] 46)) = .ok (.slice (some ⟨g, 0, none⟩) (Q.length + 1) c') w2 ∧
      w2.cell? ⟨bo, 2, none⟩ = some (.slice ar Q.length cr) ∧ w2.frozen? ⟨bo, 2, none⟩ = false ∧ OutAt W (w2.setCell ⟨bo, 2, none⟩ (.slice (some ⟨g, 0, none⟩) (Q.length + 1) c')) bo L n (Q ++ [x]) K (some ⟨g, 0, none⟩) c' am cm := by
  obtain ⟨V, hV⟩ : ∃ V, V = wr.alloc (.cells #[.int .i64 x.1, .int .i64 x.2.1, .int .i64 x.2.2.1, .int .i64 x.2.2.2] 46) := ⟨_, rfl⟩
  rw [← hV]
  have gW : wr.grownBy V none := by rw [hV]; exact grown_alloc _ _
  have hnew : V.heap[wr.heap.size]? = some (.cells #[.int .i64 x.1, .int .i64 x.2.1, .int .i64 x.2.2.1, .int .i64 x.2.2.2] 46) := by rw [hV]; exact heap_alloc_new wr _
  have hsz : V.heap.size = wr.heap.size + 1 := by rw [hV]; exact World.size_alloc _ _
  have h1 := h.kept gW
  have hs1 := h.gr.size
  have hs2 := h.sz
  obtain ⟨i0, hi0, hz0, hz1, hz2⟩ := info_partsW Try.infoRule
  obtain ⟨g, c', w2, hr, r2, r3, r4, _⟩ := run_append_lies (P := Try.prog) V 22 22 (bo + 1) 46 i0 (.agg #[.int .i64 0, .int .i64 0, .int .i64 0, .int .i64 0]) 4 32 Try.underlying22 hi0 hz0 hz1 hz2 rfl (by decide) (.slice ar Q.length cr) Q.length (flatR Q) h1.rul ⟨wr.heap.size, 0, none⟩ 1 1 [.int .i64 x.1, .int .i64 x.2.1, .int .i64 x.2.2.1, .int .i64 x.2.2.2] rfl (fun j u hu => World.news_of_block hnew j u (by simpa using hu)) (by intro u hu; simp at hu; rcases hu with rfl | rfl | rfl | rfl <;> rfl) (by omega) (by unfold maxLen; omega) (by omega) (by omega) _ rfl
  have hgB : ∀ k, (Value.slice ar Q.length cr).ownBlock = some k → bo + 1 ≤ k := fun k hk => (h1.rul.lt k hk).1
  have hbox2 : w2.heap[bo]? = some (.cells #[.int .i64 L, .int .i64 (n : Int), .slice ar Q.length cr, .int .i64 0, .slice am K.length cm] 25 (0, 0)) := (r3.block bo (by omega) (fun e => by have := hgB bo e.symm; omega)).trans h1.box
  have hgs : w2.grownBy (w2.setCell ⟨bo, 2, none⟩ (.slice (some ⟨g, 0, none⟩) (Q.length + 1) c')) (some bo) := grown_set _ _ _
  have hg1 : bo + 1 ≤ g := (r2.lt g rfl).1
  have hmB : ∀ k, (Value.slice am K.length cm).ownBlock = some k → bo + 1 ≤ k := fun k hk => (h1.mar.lt k hk).1
  have mar2 : w2.ownsRow (bo + 1) 3 1 (.slice am K.length cm) K.length (vals K) := h1.mar.kept r3 (own_apart (w' := w2) h1.mar h1.rul (by decide))
  refine ⟨g, c', w2, hr, by rw [cell_of_row _ _ 2 _ _ (0, 0) hbox2]; rfl, frozen_of_row w2 bo 2 _ _ hbox2, ⟨?_, ?_, ?_, ?_, h.sz⟩⟩
  · rw [heap_setCell_same w2 bo 2 _ _ _ hbox2]; simp
  · rw [flatR_snoc, show (Q ++ [x]).length = Q.length + 1 by simp]
    exact r2.kept hgs (.inr (by simp [Value.ownBlock]; omega))
  · refine mar2.kept hgs ?_
    cases hv : (Value.slice am K.length cm).ownBlock with
    | none => simp
    | some y => right; have := hmB y hv; simp; omega
  · refine grown_trans ⟨r3.os.trans h1.gr.os, r3.tape.trans h1.gr.tape, r3.output.trans h1.gr.output, Nat.le_trans h1.gr.size r3.size, fun i hi hr => (r3.block i (by have := h1.gr.size; omega) (fun e => by have := hgB i e.symm; omega)).trans (h1.gr.block i hi hr)⟩ hgs
/-- A mark is put behind. -/
theorem OutAt.mark (h : OutAt W wr bo L n Q K ar cr am cm) (z : Int) (hK : K.length ≤ 100000) :
    ∃ g c' w2, (AppS #[23, 23] 23 #[.slice am K.length cm, .slice (some ⟨wr.heap.size, 0, none⟩) 1 1]).run Try.prog (wr.alloc (.cells #[.int .i64 z] 3)) = .ok (.slice (some ⟨g, 0, none⟩) (K.length + 1) c') w2 ∧
      w2.cell? ⟨bo, 4, none⟩ = some (.slice am K.length cm) ∧ w2.frozen? ⟨bo, 4, none⟩ = false ∧ OutAt W (w2.setCell ⟨bo, 4, none⟩ (.slice (some ⟨g, 0, none⟩) (K.length + 1) c')) bo L n Q (K ++ [z]) ar cr (some ⟨g, 0, none⟩) c' := by
  obtain ⟨V, hV⟩ : ∃ V, V = wr.alloc (.cells #[.int .i64 z] 3) := ⟨_, rfl⟩
  rw [← hV]
  have gW : wr.grownBy V none := by rw [hV]; exact grown_alloc _ _
  have hnew : V.heap[wr.heap.size]? = some (.cells #[.int .i64 z] 3) := by rw [hV]; exact heap_alloc_new wr _
  have hsz : V.heap.size = wr.heap.size + 1 := by rw [hV]; exact World.size_alloc _ _
  have h1 := h.kept gW
  have hs1 := h.gr.size
  have hs2 := h.sz
  obtain ⟨i0, hi0, hz0, hz1, hz2⟩ := info_partsW Try.infoInt3
  obtain ⟨g, c', w2, hr, r2, r3, r4, _⟩ := run_append_lies (P := Try.prog) V 23 23 (bo + 1) 3 i0 (.int .i64 0) 1 8 Try.underlying23 hi0 hz0 hz1 hz2 rfl (by decide) (.slice am K.length cm) K.length (vals K) h1.mar ⟨wr.heap.size, 0, none⟩ 1 1 [.int .i64 z] rfl (fun j u hu => World.news_of_block hnew j u (by simpa using hu)) (by intro u hu; simp at hu; subst hu; rfl) (by omega) (by unfold maxLen; omega) (by omega) (by omega) _ rfl
  have hgB : ∀ k, (Value.slice am K.length cm).ownBlock = some k → bo + 1 ≤ k := fun k hk => (h1.mar.lt k hk).1
  have hbox2 : w2.heap[bo]? = some (.cells #[.int .i64 L, .int .i64 (n : Int), .slice ar Q.length cr, .int .i64 0, .slice am K.length cm] 25 (0, 0)) := (r3.block bo (by omega) (fun e => by have := hgB bo e.symm; omega)).trans h1.box
  have hgs : w2.grownBy (w2.setCell ⟨bo, 4, none⟩ (.slice (some ⟨g, 0, none⟩) (K.length + 1) c')) (some bo) := grown_set _ _ _
  have hg1 : bo + 1 ≤ g := (r2.lt g rfl).1
  have hmB : ∀ k, (Value.slice ar Q.length cr).ownBlock = some k → bo + 1 ≤ k := fun k hk => (h1.rul.lt k hk).1
  have rul2 : w2.ownsRow (bo + 1) 46 4 (.slice ar Q.length cr) Q.length (flatR Q) := h1.rul.kept r3 (own_apart (w' := w2) h1.rul h1.mar (by decide))
  refine ⟨g, c', w2, hr, by rw [cell_of_row _ _ 4 _ _ (0, 0) hbox2]; rfl, frozen_of_row w2 bo 4 _ _ hbox2, ⟨?_, ?_, ?_, ?_, h.sz⟩⟩
  · rw [heap_setCell_same w2 bo 4 _ _ _ hbox2]; simp
  · refine rul2.kept hgs ?_
    cases hv : (Value.slice ar Q.length cr).ownBlock with
    | none => simp
    | some y => right; have := hmB y hv; simp; omega
  · rw [← vals_snoc, show (K ++ [z]).length = K.length + 1 by simp]
    exact r2.kept hgs (.inr (by simp [Value.ownBlock]; omega))
  · refine grown_trans ⟨r3.os.trans h1.gr.os, r3.tape.trans h1.gr.tape, r3.output.trans h1.gr.output, Nat.le_trans h1.gr.size r3.size, fun i hi hr => (r3.block i (by have := h1.gr.size; omega) (fun e => by have := hgB i e.symm; omega)).trans (h1.gr.block i hi hr)⟩ hgs
theorem OutAt.trs (h0 : OutAt W wr bo L n Q K ar cr am cm) {y : Nat} (hg : wr.grownBy w' (some y)) (hy : y < bo) : RulesAt w' ar Q ∧ Ints w' am K := by
  have hrul : w'.ownsRow (bo + 1) 46 4 (.slice ar Q.length cr) Q.length (flatR Q) := h0.rul.kept hg (by
    cases hv : (Value.slice ar Q.length cr).ownBlock with
    | none => simp
    | some z => right; have := (h0.rul.lt z hv).1; simp; omega)
  have hmar : w'.ownsRow (bo + 1) 3 1 (.slice am K.length cm) K.length (vals K) := h0.mar.kept hg (by
    cases hv : (Value.slice am K.length cm).ownBlock with
    | none => simp
    | some z => right; have := (h0.mar.lt z hv).1; simp; omega)
  clear h0 hg
  refine ⟨?_, ?_⟩
  · by_cases h0 : Q.length = 0
    · exact .inl (List.length_eq_zero_iff.1 h0)
    · obtain ⟨g, cap, e, _, _⟩ := hrul.form (by omega)
      cases e
      refine cells_rules fun j u hu => ?_
      have := hrul.cells (g := g) rfl j u hu
      rwa [addr_add, ← Nat.zero_add j] at this
  · by_cases h0 : K.length = 0
    · exact .inl (List.length_eq_zero_iff.1 h0)
    · obtain ⟨g, cap, e, _, _⟩ := hmar.form (by omega)
      cases e
      refine .inr ⟨g, 0, rfl, fun i hi => ?_⟩
      have := hmar.cells (g := g) rfl i _ (vals_get hi)
      rw [addr_add] at this
      rw [Nat.zero_add]
      exact this
end
theorem outAt_start (w : World) (L : Int) (n : Nat) : ∃ W, W = w.alloc (.cells #[.int .i64 L, .int .i64 (n : Int), .slice none 0 0, .int .i64 0, .slice none 0 0] 25) ∧ OutAt W W w.heap.size L n [] [] none 0 none 0 ∧ w.grownBy W none :=
  ⟨_, rfl, ⟨heap_alloc_new w _, World.ownsRow_nil _ _ _ _, World.ownsRow_nil _ _ _ _, grown_refl _ _, World.size_alloc _ _⟩, grown_alloc _ _⟩

end Go.Proofs.Ytofjmakmbmndoaa
