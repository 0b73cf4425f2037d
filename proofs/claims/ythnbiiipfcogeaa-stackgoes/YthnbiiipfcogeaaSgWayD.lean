/- The fewest rules that lead to the end: rows while the program's way goes. (Written by wip/tools/sgway.py.) -/
import Derived.Test.YthnbiiipfcogeaaSgRule
import Derived.Test.YthnbiiipfcogeaaSkCat
namespace Go.Proofs.Ythnbiiipfcogeaa
open Go.RowKit Go.Maps
set_option linter.unusedVariables false
set_option linter.unusedSimpArgs false

theorem rows_apart {w : World} {B B' : Nat} {e e' : TypeId} {size size' n n' : Nat} {v v' : Value} {xs ys : List Value} (h : w.ownsRow B e size v n xs) (h' : w.ownsRow B' e' size' v' n' ys) (hne : e ≠ e') : v.ownBlock = none ∨ v.ownBlock ≠ v'.ownBlock := by
  rcases h.2 with ⟨rfl, _⟩ | ⟨g, cap, cur, rfl, _, hh, _⟩
  · exact .inl rfl
  · right
    rcases h'.2 with ⟨rfl, _⟩ | ⟨g', cap', cur', rfl, _, hh', _⟩
    · simp [Value.ownBlock]
    · intro e0
      have : g = g' := by simpa [Value.ownBlock] using e0
      subst this
      rw [hh] at hh'
      cases hh'
      exact hne rfl
/-- The last ones are cut off. -/
theorem row_cut {w : World} {B g n n' cap : Nat} {e : TypeId} {size : Nat} {xs : List Value} (h : w.ownsRow B e size (.slice (some ⟨g, 0, none⟩) n cap) n xs) (hn : n' ≤ n) : w.ownsRow B e size (.slice (some ⟨g, 0, none⟩) n' cap) n' (xs.take (n' * size)) := by
  have hl := h.1
  have hm := Nat.mul_le_mul_right size hn
  rcases h.2 with ⟨h1, _⟩ | ⟨g', cap', cur, h1, h2, h3, h4, h5, h6, h7⟩
  · cases h1
  · cases h1
    refine ⟨by rw [List.length_take]; omega, .inr ⟨g, cap, cur, rfl, h2, h3, by omega, h5, h6, ?_⟩⟩
    rw [← h7, List.take_take, Nat.min_eq_left hm]
theorem edges_cut (ys : List Ed3) (e : Ed3) : (edgesL (ys ++ [e])).take (ys.length * 3) = edgesL ys := by
  rw [edgesL_app, ← edgesL_len ys, List.take_left']
  rfl
theorem edges_last (ys : List Ed3) (e : Ed3) : (edgesL (ys ++ [e]))[ys.length * 3]? = some (.int .i64 (e.1 : Int)) ∧ (edgesL (ys ++ [e]))[ys.length * 3 + 1]? = some (.int .i64 (e.2.1 : Int)) ∧ (edgesL (ys ++ [e]))[ys.length * 3 + 2]? = some (.int .i64 (e.2.2 : Int)) := by
  rw [edgesL_app]
  refine ⟨?_, ?_, ?_⟩
  · rw [List.getElem?_append_right (by rw [edgesL_len]; omega), edgesL_len, Nat.sub_self]; rfl
  · rw [List.getElem?_append_right (by rw [edgesL_len]; omega), edgesL_len, Nat.add_sub_cancel_left]; rfl
  · rw [List.getElem?_append_right (by rw [edgesL_len]; omega), edgesL_len, Nat.add_sub_cancel_left]; rfl
/-- The last one is left away. -/
theorem head_run (g p cap : Nat) (hp : p ≤ cap) (hp2 : p < 1000000) (W : World) : (Instr.slice 54 (.slice (some ⟨g, 0, none⟩) (p + 1) cap) none (some (.int .i64 (p : Int))) none).run Try.prog W = .ok (.slice (some ⟨g, 0, none⟩) p cap) W := by
  obtain ⟨i0, hi0, hz0, hz1, hz2⟩ := info_partsY Try.infoEd
  rw [run_slice_h (w := W) (t := 54) (a := some ⟨g, 0, none⟩) (len := p + 1) (cap := cap) (ht := Try.underlying54) (kh := .i64) (h := (p : Int)) (by omega) (by omega)]
  have e : Try.prog.elem 54 = 50 := by kernel_rfl
  simp [e, sizeOf, typeInfo, hi0, hz1, sliced, Result.andThen, Addr.add]
/-- Edges, or none, are put behind edges. -/
theorem app_run {w : World} {B B2 g cap c2 : Nat} {a2 : Option Addr} {es ys : List Ed3} (ho : w.ownsRow B 50 3 (.slice (some ⟨g, 0, none⟩) es.length cap) es.length (edgesL es)) (hB : B ≤ w.heap.size) (hl : es.length + ys.length ≤ 100000) (ho2 : w.ownsRow B2 50 3 (.slice a2 ys.length c2) ys.length (edgesL ys)) :
    ∃ g' cap' w', (AppY #[54, 54] 54 #[.slice (some ⟨g, 0, none⟩) es.length cap, .slice a2 ys.length c2]).run Try.prog w = .ok (.slice (some ⟨g', 0, none⟩) (es.length + ys.length) cap') w' ∧
      w'.ownsRow B 50 3 (.slice (some ⟨g', 0, none⟩) (es.length + ys.length) cap') (es.length + ys.length) (edgesL (es ++ ys)) ∧ w.grownBy w' (Value.slice (some ⟨g, 0, none⟩) es.length cap).ownBlock := by
  by_cases h0 : ys = []
  · subst h0
    refine ⟨g, cap, w, ?_, by simpa using ho, grown_refl _ _⟩
    obtain ⟨i0, hi0, hz0, hz1, hz2⟩ := info_partsY Try.infoEd
    rcases ho.2 with ⟨h1, _⟩ | ⟨g', cap', cur, h1, _, _, h4, _⟩
    · cases h1
    · cases h1
      have h5 : ¬ cap < es.length := by omega
      cases a2 with
      | none => simp [AppY, Builtin.append_, run_underlying Try.underlying54, sizeOf, typeInfo, zeroValue, hi0, hz0, Builtin.lenOf, run_firstCells_none, storeCells, h5, h4]
      | some b =>
        have hf := run_firstCells_some (P := Try.prog) w i0.size 0 b 0 c2 [] (by simp) (by simp)
        simp [AppY, Builtin.append_, run_underlying Try.underlying54, sizeOf, typeInfo, zeroValue, hi0, hz0, Builtin.lenOf, hf, storeCells, h5, h4]
  · have hlen : 0 < ys.length := List.length_pos_iff.2 h0
    obtain ⟨g2, cap2, e2, _⟩ := ho2.form hlen
    simp only [Value.slice.injEq] at e2
    obtain ⟨rfl, _, rfl⟩ := e2
    exact app_edges ho hB hl hlen (fun j u hu => by
      have hj : j < ys.length * 3 := by have := (List.getElem?_eq_some_iff.1 hu).1; rwa [edgesL_len] at this
      have e : (⟨g2, 0, none⟩ : Addr).add j = ⟨g2, j, none⟩ := by by_cases hj0 : j = 0 <;> simp [Addr.add, hj0]
      rw [e, ho2.cellAt j hj, hu])
theorem app_rule {w : World} {B : Nat} {v : Value} {xs : List Int} {x : Int} (ho : w.ownsRow B 3 1 v xs.length (numsI xs)) (hB : B ≤ w.heap.size) (hl : xs.length ≤ 10000) :
    ∃ g cap w', (AppY #[23, 23] 23 #[v, .slice (some ⟨w.heap.size, 0, none⟩) 1 1]).run Try.prog (w.alloc (.cells #[.int .i64 x] 3)) = .ok (.slice (some ⟨g, 0, none⟩) (xs.length + 1) cap) w' ∧
      w'.ownsRow B 3 1 (.slice (some ⟨g, 0, none⟩) (xs.length + 1) cap) (xs.length + 1) (numsI (xs ++ [x])) ∧ (w.alloc (.cells #[.int .i64 x] 3)).grownBy w' v.ownBlock := by
  obtain ⟨i0, hi0, hz0, hz1, hz2⟩ := info_partsY Try.infoI64Y
  obtain ⟨g, cap, w', h1, h2, h3, _⟩ := run_append_lies (P := Try.prog) (w.alloc (.cells #[.int .i64 x] 3)) 23 23 B 3 i0 (.int .i64 0) 1 8 Try.underlying23 hi0 hz0 hz1 hz2 rfl (by decide) v xs.length (numsI xs) (ho.kept (grown_alloc _ _) (by cases v.ownBlock <;> simp)) ⟨w.heap.size, 0, none⟩ 1 1 [.int .i64 x] rfl (fun j u hu => by
      have e : (⟨w.heap.size, 0, none⟩ : Addr).add j = ⟨w.heap.size, j, none⟩ := by by_cases hj0 : j = 0 <;> simp [Addr.add, hj0]
      rw [e, cell_of_row _ _ j _ _ (0, 0) (heap_alloc_new w _), ← hu]
      simp) (fun u hu => by simp at hu; subst hu; rfl) (by decide) (by unfold maxLen; omega) (by omega) (by simp; omega) _ rfl
  exact ⟨g, cap, w', h1, by rw [show numsI (xs ++ [x]) = numsI xs ++ [.int .i64 x] by simp [numsI]]; exact h2, h3⟩

/-- While the way is gone. -/
structure WaySt (E : Edg) (T0 : Nat) (w : World) (b : Nat) (a9 ar : Option Addr) (c9 cr : Nat) (rs : List Int) (es : List Ed3) (W : World) : Prop where
  rules : W.ownsRow w.heap.size 3 1 (.slice a9 rs.length c9) rs.length (numsI rs)
  run : W.ownsRow w.heap.size 50 3 (.slice ar es.length cr) es.length (edgesL es)
  cost : cstE E es + rs.length = T0
  ins : InE es
  len : es.length + rs.length ≤ 100 + 3 * rs.length
  gr : w.grownBy W none
theorem WaySt.kept {E : Edg} {T0 : Nat} {w : World} {b : Nat} {a9 ar : Option Addr} {c9 cr : Nat} {rs : List Int} {es : List Ed3} {W W' : World} (h : WaySt E T0 w b a9 ar c9 cr rs es W) (hg : W.grownBy W' none) : WaySt E T0 w b a9 ar c9 cr rs es W' :=
  ⟨h.rules.kept hg (by cases (Value.slice a9 rs.length c9).ownBlock <;> simp), h.run.kept hg (by cases (Value.slice ar es.length cr).ownBlock <;> simp), h.cost, h.ins, h.len, grown_trans h.gr hg⟩

def SWay (bb off i be oN t : Nat) (ap : Option Addr) (n cp : Nat) (W : World) : Prop := W.cell? ⟨bb, off + i * 4 + 2, none⟩ = some (.int .i64 (oN : Int)) ∧ W.cell? ⟨bb, off + i * 4 + 3, none⟩ = some (.slice ap n cp) ∧ W.cell? ⟨be, 2, none⟩ = some (.int .i64 (t : Int))
theorem SWay.kept {bb off i be oN t : Nat} {ap : Option Addr} {n cp : Nat} {W W' : World} (h : SWay bb off i be oN t ap n cp W) (hg : W.grownBy W' none) : SWay bb off i be oN t ap n cp W' := ⟨hg.cell h.1 (by simp), hg.cell h.2.1 (by simp), hg.cell h.2.2 (by simp)⟩

/-- How long a slice is. -/
def lenV : Value → Nat
  | .slice _ n _ => n
  | _ => 0

end Go.Proofs.Ythnbiiipfcogeaa
