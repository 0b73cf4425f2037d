/- Rows of truths, each a block; rows of such rows. -/
import Derived.Test.YtofjmakmbmndoaaTrApp
import Derived.Lib.SmallJoins
import Derived.Below
import Derived.Laws.OwnMore
namespace Go.Proofs.Ytofjmakmbmndoaa
open Go.RowKit
set_option linter.unusedVariables false
set_option linter.unusedSimpArgs false

/-- A block of n truths. -/
def BRow (W : World) (g n : Nat) (o : Nat → Bool) : Prop := ∃ cur : Array Value, W.heap[g]? = some (.cells cur 4 (0, 0)) ∧ cur.size = n ∧ ∀ i, i < n → cur[i]? = some (.bool (o i))
section
variable {W W' : World} {g n : Nat} {o : Nat → Bool}
theorem BRow.lt (h : BRow W g n o) : g < W.heap.size := by obtain ⟨cur, h1, _⟩ := h; exact (Array.getElem?_eq_some_iff.1 h1).1
theorem BRow.cell (h : BRow W g n o) {i : Nat} (hi : i < n) : W.cell? ⟨g, i, none⟩ = some (.bool (o i)) := by
  obtain ⟨cur, h1, _, h3⟩ := h
  rw [cell_of_row W g i _ _ (0, 0) h1]; exact h3 i hi
theorem BRow.frozen (h : BRow W g n o) (i : Nat) : W.frozen? ⟨g, i, none⟩ = false := by
  obtain ⟨cur, h1, _⟩ := h
  exact frozen_of_row W g i _ _ h1
theorem BRow.block (h : BRow W g n o) (e : W'.heap[g]? = W.heap[g]?) : BRow W' g n o := by
  obtain ⟨cur, h1, h2⟩ := h
  exact ⟨cur, e.trans h1, h2⟩
theorem BRow.kept (h : BRow W g n o) (hg : W.grownBy W' none) : BRow W' g n o := h.block (hg.block g h.lt (by simp))
theorem BRow.set (h : BRow W g n o) {i : Nat} (hi : i < n) (b : Bool) : BRow (W.setCell ⟨g, i, none⟩ (.bool b)) g n (fun j => if j = i then b else o j) := by
  obtain ⟨cur, h1, h2, h3⟩ := h
  refine ⟨cur.setIfInBounds i (.bool b), heap_setCell_same W g i _ _ _ h1, by simpa using h2, fun j hj => ?_⟩
  by_cases e : j = i
  · subst e; simp [h2, hj]
  · rw [Array.getElem?_setIfInBounds_ne (by omega)]
    show _ = some (Value.bool (if j = i then b else o j))
    rw [if_neg e]; exact h3 j hj
theorem BRow.other (h : BRow W g n o) {g' i : Nat} (hne : g ≠ g') (v : Value) : BRow (W.setCell ⟨g', i, none⟩ v) g n o := h.block (Below.heap_setCell _ _ _ _ (by simpa using hne))
theorem BRow.congr {o' : Nat → Bool} (h : BRow W g n o) (e : ∀ i, i < n → o i = o' i) : BRow W g n o' := by
  obtain ⟨cur, h1, h2, h3⟩ := h
  exact ⟨cur, h1, h2, fun i hi => by rw [h3 i hi, e i hi]⟩
end
theorem Try.infoBoolW : (Try.prog.info? 4).map (fun i => (i.zero, i.size, i.bytes)) = some (some (.bool false), 1, 1) := by kernel_rfl
theorem madeFalseW (n : Nat) : madeCells (Value.cells (.bool false)) n = Array.replicate n (Value.bool false) := by
  apply Array.ext'
  simpa [Value.cells] using toList_madeCells_one (.bool false) n
theorem bools_make (w : World) (n : Nat) (hn : n ≤ 1000) : ∃ W, (Instr.makeSlice 48 (.int .i64 (n : Int)) (.int .i64 (n : Int))).run Try.prog w = .ok (.slice (some ⟨w.heap.size, 0, none⟩) n n) W ∧ BRow W w.heap.size n (fun _ => false) ∧ w.grownBy W none ∧ W.heap.size = w.heap.size + 1 := by
  obtain ⟨i0, hi, hz0, hz1, hz2⟩ := info_partsW Try.infoBoolW
  have hmk := run_make (P := Try.prog) w 48 4 i0 (.bool false) Try.underlying48 hi hz0 .i64 .i64 (n : Int) (n : Int) (by omega) (by omega) (by rw [hz2]; omega) (by omega)
  rw [hz1, Nat.mul_one, Int.toNat_natCast, madeFalseW] at hmk
  refine ⟨_, hmk, ⟨_, heap_alloc_new _ _, ?_, ?_⟩, grown_alloc _ _, World.size_alloc _ _⟩
  · simp
  · intro i hi
    simp [hi]

def slcs (n : Nat) (gs : List Nat) : List Value := gs.map fun g => Value.slice (some ⟨g, 0, none⟩) n n
/-- The rows written so far. -/
def RowSt (W1 wr : World) (v : Value) (k n : Nat) (S : Nat → Nat → Bool) : Prop :=
  ∃ gs : List Nat, gs.length = k ∧ wr.ownsRow W1.heap.size 48 1 v k (slcs n gs) ∧ (∀ j, j < k → BRow wr (gs.getD j 0) n (S j)) ∧ W1.grownBy wr none
theorem RowSt.kept {W1 wr w' : World} {v : Value} {k n : Nat} {S : Nat → Nat → Bool} (h : RowSt W1 wr v k n S) (hg : wr.grownBy w' none) : RowSt W1 w' v k n S := by
  obtain ⟨gs, h1, h2, h3, h4⟩ := h
  exact ⟨gs, h1, h2.kept hg (by cases v.ownBlock <;> simp), fun j hj => (h3 j hj).kept hg, grown_trans h4 hg⟩
theorem Try.infoRowZ : (Try.prog.info? 48).map (fun i => (i.zero, i.size, i.bytes)) = some (some (.slice none 0 0), 1, 24) := by kernel_rfl
/-- One row more. -/
theorem RowSt.app {W1 wr : World} {a : Option Addr} {c k n go : Nat} {S : Nat → Nat → Bool} (h : RowSt W1 wr (.slice a k c) k n S) (hb : BRow wr go n (S k)) (hk : k ≤ 100) :
    ∃ g c' w2, (AppS #[53, 53] 53 #[.slice a k c, .slice (some ⟨wr.heap.size, 0, none⟩) 1 1]).run Try.prog (wr.alloc (.cells #[.slice (some ⟨go, 0, none⟩) n n] 48)) = .ok (.slice (some ⟨g, 0, none⟩) (k + 1) c') w2 ∧ RowSt W1 w2 (.slice (some ⟨g, 0, none⟩) (k + 1) c') (k + 1) n S := by
  obtain ⟨gs, h1, h2, h3, h4⟩ := h
  obtain ⟨i0, hi0, hz0, hz1, hz2⟩ := info_partsW Try.infoRowZ
  have hnew := heap_alloc_new wr (.cells #[.slice (some ⟨go, 0, none⟩) n n] 48)
  have gW : wr.grownBy (wr.alloc (.cells #[.slice (some ⟨go, 0, none⟩) n n] 48)) none := grown_alloc _ _
  have hsz : (wr.alloc (.cells #[.slice (some ⟨go, 0, none⟩) n n] 48)).heap.size = wr.heap.size + 1 := by rw [World.size_alloc]
  have hs4 := h4.size
  have ho2 : (wr.alloc (.cells #[.slice (some ⟨go, 0, none⟩) n n] 48)).ownsRow W1.heap.size 48 1 (.slice a k c) k (slcs n gs) := h2.alloc _
  obtain ⟨g, c', w2, hr, r2, r3, _, _⟩ := run_append_lies (P := Try.prog) (wr.alloc (.cells #[.slice (some ⟨go, 0, none⟩) n n] 48)) 53 53 W1.heap.size 48 i0 (.slice none 0 0) 1 24 Try.underlying53 hi0 hz0 hz1 hz2 rfl (by decide) (.slice a k c) k (slcs n gs) ho2 ⟨wr.heap.size, 0, none⟩ 1 1 [.slice (some ⟨go, 0, none⟩) n n] rfl (fun j u hu => World.news_of_block hnew j u (by simpa using hu)) (by intro u hu; simp at hu; subst hu; rfl) (by omega) (by unfold maxLen; omega) (by omega) (by omega) _ rfl
  have hap : ∀ {x : Nat} {o : Nat → Bool}, BRow wr x n o → BRow w2 x n o := fun {x o} hx => by
    refine (hx.kept gW).block (r3.block x (by have := hx.lt; omega) ?_)
    intro e
    rcases h2.2 with ⟨e1, _⟩ | ⟨g', cap', cur, e1, _, e3, _⟩
    · rw [e1] at e; simp [Value.ownBlock] at e
    · rw [e1] at e
      simp [Value.ownBlock] at e
      subst e
      obtain ⟨cur', q1, _⟩ := hx
      rw [e3] at q1
      cases q1
  refine ⟨g, c', w2, hr, gs ++ [go], by simp [h1], ?_, fun j hj => ?_, ?_⟩
  · have e : slcs n gs ++ [Value.slice (some ⟨go, 0, none⟩) n n] = slcs n (gs ++ [go]) := by simp [slcs]
    rw [← e]; exact r2
  · by_cases e : j < k
    · have : (gs ++ [go]).getD j 0 = gs.getD j 0 := by simp [List.getD, List.getElem?_append_left (show j < gs.length by omega)]
      rw [this]; exact hap (h3 j e)
    · obtain rfl : j = k := by omega
      have : (gs ++ [go]).getD j 0 = go := by simp [List.getD, ← h1]
      rw [this]; exact hap hb
  · refine ⟨r3.os.trans (gW.os.trans h4.os), r3.tape.trans (gW.tape.trans h4.tape), r3.output.trans (gW.output.trans h4.output), Nat.le_trans hs4 (Nat.le_trans gW.size r3.size), fun x hx _ => ?_⟩
    refine (r3.block x (by omega) (fun e => ?_)).trans ((gW.block x (by omega) (by simp)).trans (h4.block x hx (by simp)))
    have := h2.lt x e.symm
    omega
theorem rowSt_nil (W1 : World) (n : Nat) (S : Nat → Nat → Bool) : RowSt W1 W1 (.slice none 0 0) 0 n S := ⟨[], rfl, World.ownsRow_nil _ _ _ _, fun j hj => by omega, grown_refl _ _⟩


theorem RowSt.row {W1 wr : World} {a : Option Addr} {c k n : Nat} {S : Nat → Nat → Bool} (h : RowSt W1 wr (.slice a k c) k n S) {j : Nat} (hj : j < k) : ∃ g gj, a = some ⟨g, 0, none⟩ ∧ wr.cell? ⟨g, j, none⟩ = some (.slice (some ⟨gj, 0, none⟩) n n) ∧ BRow wr gj n (S j) := by
  obtain ⟨gs, h1, h2, h3, h4⟩ := h
  obtain ⟨g, cap, e, _, _⟩ := h2.form (by omega)
  cases e
  refine ⟨g, gs.getD j 0, rfl, ?_, h3 j hj⟩
  rw [h2.cellAt j (by omega)]
  simp [slcs, List.getD, List.getElem?_eq_getElem (show j < gs.length by omega)]
theorem RowSt.grown {W1 wr : World} {v : Value} {k n : Nat} {S : Nat → Nat → Bool} (h : RowSt W1 wr v k n S) : W1.grownBy wr none := by obtain ⟨_, _, _, _, h4⟩ := h; exact h4

end Go.Proofs.Ytofjmakmbmndoaa
