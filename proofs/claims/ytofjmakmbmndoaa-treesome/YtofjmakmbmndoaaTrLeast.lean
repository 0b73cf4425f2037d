/- How many nodes a least tree has: the reference's Least. -/
import Derived.Test.YtofjmakmbmndoaaTrMin
import Derived.Test.YtofjmakmbmndoaaTrRow
import Derived.Test.YtofjmakmbmndoaaLOwn
namespace Go.Proofs.Ytofjmakmbmndoaa
open Go.RowKit
set_option linter.unusedVariables false
set_option linter.unusedSimpArgs false

/-- A block of n numbers. -/
def IRow (W : World) (g n : Nat) (o : Nat → Nat) : Prop := ∃ cur : Array Value, W.heap[g]? = some (.cells cur 3 (0, 0)) ∧ cur.size = n ∧ ∀ i, i < n → cur[i]? = some (.int .i64 (o i))
section
variable {W W' : World} {g n : Nat} {o : Nat → Nat}
theorem IRow.lt (h : IRow W g n o) : g < W.heap.size := by obtain ⟨cur, h1, _⟩ := h; exact (Array.getElem?_eq_some_iff.1 h1).1
theorem IRow.cell (h : IRow W g n o) {i : Nat} (hi : i < n) : W.cell? ⟨g, i, none⟩ = some (.int .i64 (o i)) := by
  obtain ⟨cur, h1, _, h3⟩ := h
  rw [cell_of_row W g i _ _ (0, 0) h1]; exact h3 i hi
theorem IRow.frozen (h : IRow W g n o) (i : Nat) : W.frozen? ⟨g, i, none⟩ = false := by
  obtain ⟨cur, h1, _⟩ := h
  exact frozen_of_row W g i _ _ h1
theorem IRow.block (h : IRow W g n o) (e : W'.heap[g]? = W.heap[g]?) : IRow W' g n o := by
  obtain ⟨cur, h1, h2⟩ := h
  exact ⟨cur, e.trans h1, h2⟩
theorem IRow.set (h : IRow W g n o) {i : Nat} (hi : i < n) (b : Nat) : IRow (W.setCell ⟨g, i, none⟩ (.int .i64 (b : Int))) g n (updF o i b) := by
  obtain ⟨cur, h1, h2, h3⟩ := h
  refine ⟨cur.setIfInBounds i (.int .i64 (b : Int)), heap_setCell_same W g i _ _ _ h1, by simpa using h2, fun j hj => ?_⟩
  unfold updF
  by_cases e : j = i
  · subst e; rw [if_pos rfl]; simp [h2, hj]
  · rw [Array.getElem?_setIfInBounds_ne (by omega), if_neg e]; exact h3 j hj
theorem IRow.congr {o' : Nat → Nat} (h : IRow W g n o) (e : ∀ i, i < n → o i = o' i) : IRow W g n o' := by
  obtain ⟨cur, h1, h2, h3⟩ := h
  exact ⟨cur, h1, h2, fun i hi => by rw [h3 i hi, e i hi]⟩
end
theorem Try.infoIntW : (Try.prog.info? 3).map (fun i => (i.zero, i.size, i.bytes)) = some (some (.int .i64 0), 1, 8) := by kernel_rfl
theorem madeNoughtW (n : Nat) : madeCells (Value.cells (.int .i64 0)) n = Array.replicate n (Value.int .i64 0) := by
  apply Array.ext'
  simpa [Value.cells] using toList_madeCells_one (.int .i64 0) n
theorem nums_make (w : World) (n : Nat) (hn : n ≤ 1000) : ∃ W, (Instr.makeSlice 23 (.int .i64 (n : Int)) (.int .i64 (n : Int))).run Try.prog w = .ok (.slice (some ⟨w.heap.size, 0, none⟩) n n) W ∧ IRow W w.heap.size n (fun _ => 0) ∧ w.grownBy W none ∧ W.heap.size = w.heap.size + 1 := by
  obtain ⟨i0, hi, hz0, hz1, hz2⟩ := info_partsW Try.infoIntW
  have hmk := run_make (P := Try.prog) w 23 3 i0 (.int .i64 0) Try.underlying23 hi hz0 .i64 .i64 (n : Int) (n : Int) (by omega) (by omega) (by rw [hz2]; omega) (by omega)
  rw [hz1, Nat.mul_one, Int.toNat_natCast, madeNoughtW] at hmk
  refine ⟨_, hmk, ⟨_, heap_alloc_new _ _, ?_, ?_⟩, grown_alloc _ _, World.size_alloc _ _⟩
  · simp
  · intro i hi
    simp [hi]

/-- The states that came up, in a row of one's own. -/
def NowS (B : Nat) (w : World) (a : Option Addr) (c : Nat) (zs : List Int) : Prop := w.ownsRow B 3 1 (.slice a zs.length c) zs.length (vals zs)
theorem NowS.cell {B : Nat} {w : World} {a : Option Addr} {c : Nat} {zs : List Int} (h : NowS B w a c zs) {i : Nat} (hi : i < zs.length) : ∃ g, a = some ⟨g, 0, none⟩ ∧ w.cell? ⟨g, i, none⟩ = some (.int .i64 (zs.getD i 0)) := by
  obtain ⟨g, cap, e, _, _⟩ := World.ownsRow.form h (by omega)
  cases e
  refine ⟨g, rfl, ?_⟩
  have := World.ownsRow.cells h (g := g) rfl i _ (vals_get hi)
  rwa [addr_add] at this
theorem NowS.app {B : Nat} {w : World} {a : Option Addr} {c : Nat} {zs : List Int} (h : NowS B w a c zs) (hB : B ≤ w.heap.size) (z : Int) (hz : zs.length ≤ 1000000) :
    ∃ g c' w2, (AppS #[23, 23] 23 #[.slice a zs.length c, .slice (some ⟨w.heap.size, 0, none⟩) 1 1]).run Try.prog (w.alloc (.cells #[.int .i64 z] 3)) = .ok (.slice (some ⟨g, 0, none⟩) (zs.length + 1) c') w2 ∧ NowS B w2 (some ⟨g, 0, none⟩) c' (zs ++ [z]) ∧ Below B w w2 := by
  obtain ⟨i0, hi0, hz0, hz1, hz2⟩ := info_partsW Try.infoIntW
  have hnew := heap_alloc_new w (.cells #[.int .i64 z] 3)
  have gW : w.grownBy (w.alloc (.cells #[.int .i64 z] 3)) none := grown_alloc _ _
  have hsz : (w.alloc (.cells #[.int .i64 z] 3)).heap.size = w.heap.size + 1 := by rw [World.size_alloc]
  have ho2 : (w.alloc (.cells #[.int .i64 z] 3)).ownsRow B 3 1 (.slice a zs.length c) zs.length (vals zs) := World.ownsRow.alloc h _
  obtain ⟨g, c', w2, hr, r2, r3, _, _⟩ := run_append_lies (P := Try.prog) (w.alloc (.cells #[.int .i64 z] 3)) 23 23 B 3 i0 (.int .i64 0) 1 8 Try.underlying23 hi0 hz0 hz1 hz2 rfl (by decide) (.slice a zs.length c) zs.length (vals zs) ho2 ⟨w.heap.size, 0, none⟩ 1 1 [.int .i64 z] rfl (fun j u hu => World.news_of_block hnew j u (by simpa using hu)) (by intro u hu; simp at hu; subst hu; rfl) (by omega) (by unfold maxLen; omega) (by omega) (by omega) _ rfl
  refine ⟨g, c', w2, hr, ?_, ?_⟩
  · unfold NowS
    rw [show (zs ++ [z]).length = zs.length + 1 by simp, ← vals_snoc]
    exact r2
  · refine ⟨r3.os.trans gW.os, r3.tape.trans gW.tape, r3.output.trans gW.output, Nat.le_trans gW.size r3.size, fun x hx => ?_⟩
    refine (r3.block x (by omega) (fun e => ?_)).trans (gW.block x (by omega) (by simp))
    have := (World.ownsRow.lt h x e.symm).1
    omega
theorem NowS.far {B : Nat} {w w' : World} {a : Option Addr} {c b : Nat} {zs : List Int} (h : NowS B w a c zs) (hg : w.grownBy w' (some b)) (hb : b < B) : NowS B w' a c zs := by
  refine World.ownsRow.kept h hg ?_
  cases hv : (Value.slice a zs.length c).ownBlock with
  | none => simp
  | some x =>
    right
    intro e
    have := (World.ownsRow.lt h x hv).1
    cases e
    omega
theorem NowS.kept {B : Nat} {w w' : World} {a : Option Addr} {c : Nat} {zs : List Int} (h : NowS B w a c zs) (hg : w.grownBy w' none) : NowS B w' a c zs := World.ownsRow.kept h hg (by cases (Value.slice a zs.length c).ownBlock <;> simp)

def LeastIs (R : List RuleI) (M : List Int) (r : Nat) : Prop := (r = 0 ∧ NoM R M) ∨ (1 ≤ r ∧ r ≤ 60 ∧ MinM R M r)
/-- No state with the mark has a size yet. -/
def NoSiz (M : List Int) (N : Nat) (G : Nat → Nat) : Prop := ∀ q, q < N → M.getD q 0 = 1 → G q = 0
theorem least_no {R : List RuleI} {M : List Int} {N : Nat} (hM : M.length = N) {G : Nat → Nat} (hS : SizI R N 61 G) (hN : NoSiz M N G) : LeastIs R M 0 := .inl ⟨rfl, fun q m hq hm hd => by
  by_cases e : m < 61
  · exact absurd (hN q (by omega) hm) ((hS q (by omega)).2 m e hd).1
  · omega⟩
theorem least_hit {R : List RuleI} {M : List Int} {N n : Nat} (hM : M.length = N) {G : Nat → Nat} (hS : SizI R N n G) (hN : NoSiz M N G) (h1 : 1 ≤ n) (h6 : n ≤ 60) {q : Nat} (hq : q < N) (hm : M.getD q 0 = 1) (hd : Der R q n) : LeastIs R M n := .inr ⟨h1, h6, ⟨q, by omega, hm, hd⟩, fun q' m hq' hm' hd' => by
  by_cases e : m < n
  · exact absurd (hN q' (by omega) hm') ((hS q' (by omega)).2 m e hd').1
  · omega⟩
theorem setL_zero (G : Nat → Nat) (n : Nat) (zs : List Int) (i : Nat) : setL G n (zs.take 0) i = G i := by simp [setL]
theorem setL_succ {G : Nat → Nat} {n : Nat} {zs : List Int} {i q : Nat} (hi : i < zs.length) (hq : zs.getD i 0 = q) (h0 : setL G n (zs.take i) q = 0) (j : Nat) : updF (setL G n (zs.take i)) q n j = setL G n (zs.take (i + 1)) j := by
  have e : zs[i] = (q : Int) := by rw [← hq, getD_lt hi]
  unfold updF setL
  rw [List.take_succ_eq_append_getElem hi]
  simp only [List.mem_append, List.mem_singleton, e]
  unfold setL at h0
  by_cases ej : j = q
  · subst ej
    rw [if_pos rfl]
    split at h0
    · next h => rw [if_pos ⟨h.1, .inr rfl⟩]
    · rw [if_pos ⟨h0, .inr rfl⟩]
  · rw [if_neg ej]
    have : ¬ (j : Int) = (q : Int) := by omega
    simp [this]
theorem setL_skip {G : Nat → Nat} {n : Nat} {zs : List Int} {i q : Nat} (hi : i < zs.length) (hq : zs.getD i 0 = q) (h0 : setL G n (zs.take i) q ≠ 0) (j : Nat) : setL G n (zs.take i) j = setL G n (zs.take (i + 1)) j := by
  have e : zs[i] = (q : Int) := by rw [← hq, getD_lt hi]
  unfold setL
  rw [List.take_succ_eq_append_getElem hi]
  simp only [List.mem_append, List.mem_singleton, e]
  unfold setL at h0
  by_cases ej : j = q
  · subst ej
    split at h0
    · next h => rw [if_pos h, if_pos ⟨h.1, .inr rfl⟩]
    · next h =>
      rw [if_neg h, if_neg]
      rintro ⟨h1, _⟩
      exact h0 h1
  · have : ¬ (j : Int) = (q : Int) := by omega
    simp [this]
theorem noSiz_next {M : List Int} {N n : Nat} {G : Nat → Nat} {zs : List Int} (hN : NoSiz M N G) (hz : ∀ i, i < zs.length → M.getD (zs.getD i 0).toNat 0 ≠ 1) : NoSiz M N (setL G n zs) := by
  intro q hq hm
  unfold setL
  rw [if_neg]
  · exact hN q hq hm
  · rintro ⟨_, h⟩
    obtain ⟨i, hi, e⟩ := List.mem_iff_getElem.1 h
    have := hz i hi
    rw [getD_lt hi, e] at this
    simp at this
    exact this hm
theorem setL_bound {R : List RuleI} {N n : Nat} {G : Nat → Nat} (hS : SizI R N n G) (zs : List Int) {q : Nat} (hq : q < N) : setL G n zs q ≤ n := by
  unfold setL
  split
  · exact Nat.le_refl _
  · by_cases e : G q = 0
    · omega
    · have := ((hS q hq).1 e).2
      omega

end Go.Proofs.Ytofjmakmbmndoaa
