/- Where words of a part can end, as the reference finds it: rows of truths in memory, and the parts that are looked up. -/
import Derived.Test.YtepldeogcoigkaaDoorAgain
import Derived.Laws.CopyOwn
namespace Go.Proofs.YtepldeogcoigkaaDoor
open Go.RowKit
set_option linter.unusedVariables false

theorem Tryd.infoB : (Tryd.prog.info? 4).map (fun i => (i.zero, i.size, i.bytes)) = some (some (.bool false), 1, 1) := by kernel_rfl

theorem madeFalse (n : Nat) : madeCells (Value.cells (.bool false)) n = Array.replicate n (Value.bool false) := by
  apply Array.ext'
  simpa [Value.cells] using toList_madeCells_one (.bool false) n

/-- A row of N truths lies in block g. -/
def BAt (w : World) (g : Nat) (h : Nat → Bool) (N : Nat) : Prop := w.heap[g]? = some (.cells ((List.range N).map fun i => Value.bool (h i)).toArray 4 (0, 0))

section
variable {w w' : World} {g N : Nat} {h : Nat → Bool}
theorem BAt.lt (a : BAt w g h N) : g < w.heap.size := (Array.getElem?_eq_some_iff.1 a).1
theorem BAt.cell (a : BAt w g h N) {i : Nat} (hi : i < N) : w.cell? ⟨g, i, none⟩ = some (.bool (h i)) := by
  rw [cell_of_row w g i _ _ (0, 0) a]; simp [hi]
theorem BAt.fz (a : BAt w g h N) (i : Nat) : w.frozen? ⟨g, i, none⟩ = false := frozen_of_row w g i _ _ a
theorem BAt.kept {row : Option Nat} (a : BAt w g h N) (hg : w.grownBy w' row) (hne : row ≠ some g) : BAt w' g h N := (hg.block g a.lt (Ne.symm hne)).trans a
theorem BAt.ext {h' : Nat → Bool} (a : BAt w g h N) (e : ∀ i, i < N → h i = h' i) : BAt w g h' N := by
  unfold BAt at a ⊢
  rw [a]
  congr 2
  apply Array.ext'
  apply List.ext_getElem?
  intro k
  by_cases hk : k < N
  · simp [hk, e k hk]
  · simp [hk]
theorem BAt.set (a : BAt w g h N) (i : Nat) (y : Bool) : BAt (w.setCell ⟨g, i, none⟩ (.bool y)) g (fun k => if k = i then y else h k) N := by
  unfold BAt at a ⊢
  rw [heap_setCell_same w g i _ _ _ a]
  congr 2
  apply Array.ext'
  apply List.ext_getElem?
  intro k
  simp only [Array.toList_setIfInBounds, List.getElem?_set, List.getElem?_map, List.length_map, List.length_range]
  by_cases hk : k < N
  · by_cases hik : i = k
    · subst hik; simp [hk]
    · have : ¬ k = i := fun e => hik e.symm
      simp [hk, hik, this]
  · by_cases hik : i = k
    · subst hik; simp [hk]
    · simp [hk, hik]
theorem BAt.made (w : World) (N : Nat) : BAt (w.alloc (.cells (Array.replicate N (Value.bool false)) 4)) w.heap.size (fun _ => false) N := by
  have := heap_alloc_new w (.cells (Array.replicate N (Value.bool false)) 4)
  unfold BAt
  rw [this]
  congr 2
  apply Array.ext'
  simp [List.map_const']
end

/-- The row h at gf is copied over the row at g. -/
theorem bcopy {w : World} {g gf N : Nat} {h0 h : Nat → Bool} (a : BAt w g h0 N) (f : BAt w gf h N) (hN : N ≤ 61) :
    ∃ W', (Builtin.copy_ #[45, 45] 3 #[.slice (some ⟨g, 0, none⟩) N N, .slice (some ⟨gf, 0, none⟩) N N]).run Tryd.prog w = .ok (goInt N) W' ∧ Hid (BAt W' g h N) ∧ Hid (w.grownBy W' (some g)) := by
  obtain ⟨i0, hi, hz0, hz1, hz2⟩ := info_parts Tryd.infoB
  have hsz : (Tryd.prog.info? 4).map (·.size) = some 1 := by rw [hi]; simp [hz1]
  have hsrc : ∀ j v, ((List.range N).map fun i => Value.bool (h i))[j]? = some v → w.cell? ((⟨gf, 0, none⟩ : Addr).add j) = some v := by
    intro j v hv
    have hj : j < N := by
      have := (List.getElem?_eq_some_iff.1 hv).1
      simpa using this
    have hadd : (⟨gf, 0, none⟩ : Addr).add j = ⟨gf, j, none⟩ := by
      by_cases h0 : j = 0
      · subst h0; simp [Addr.add]
      · simp [Addr.add, h0]
    rw [hadd, f.cell hj]
    simpa [hj] using hv
  have hrun := run_copy_row Tryd.prog w 45 45 3 4 g 0 N N ⟨gf, 0, none⟩ N N _ 4 ((List.range N).map fun i => Value.bool (h i)) Tryd.underlying45 hsz a (by simp) hsrc (by simp) (by intro v hv; simp at hv; obtain ⟨x, _, rfl⟩ := hv; rfl)
  have hlen : goInt (((List.range N).map fun i => Value.bool (h i)).length : Nat) = goInt (N : Nat) := by simp
  rw [hlen] at hrun
  refine ⟨_, hrun, ?_, ?_⟩
  · show BAt _ g h N
    have := setRow_heap w g _ (((List.range N).map fun i => Value.bool (h0 i)).toArray.toList.take 0 ++ ((List.range N).map fun i => Value.bool (h i)) ++ ((List.range N).map fun i => Value.bool (h0 i)).toArray.toList.drop (0 + ((List.range N).map fun i => Value.bool (h i)).length)).toArray 4 (0, 0) a
    unfold BAt
    rw [this]
    congr 2
    apply Array.ext'
    simp
  · show w.grownBy _ (some g)
    exact ⟨rfl, rfl, rfl, by simp [World.setRow], fun k hk hr => by simp [World.setRow, Array.getElem?_modify]; intro e; simp at hr; omega⟩

/-- The parts lie at L. -/
structure PL (w : World) (L : Value) (ps : List PartR) : Prop where
  own : w.ownsRow 0 70 3 L ps.length (flat ps)
  at_ : ∀ p ∈ ps, KidsAt (fun _ => True) w p

theorem PL.kept {w w' : World} {L : Value} {ps : List PartR} (h : PL w L ps) (hg : w.grownBy w' none) : PL w' L ps :=
  ⟨h.own.kept hg (by cases L.ownBlock <;> simp), fun p hp => (h.at_ p hp).kept fun g _ hlt => ⟨trivial, hg.block g hlt (by simp)⟩⟩

theorem flat_get {ps : List PartR} {k : Nat} {p : PartR} (h : ps[k]? = some p) : (flat ps)[3 * k]? = some (.int .i64 p.kind) ∧ (flat ps)[3 * k + 1]? = some (.int .i64 p.let_) ∧ (flat ps)[3 * k + 2]? = some p.kv := by
  induction ps generalizing k with
  | nil => simp at h
  | cons q ps ih =>
    cases k with
    | zero => simp at h; subst h; exact ⟨rfl, rfl, rfl⟩
    | succ k =>
      have := ih (k := k) (by simpa using h)
      simp only [flat, List.flatMap_cons] at this ⊢
      have e : ∀ r, ([Value.int .i64 q.kind, .int .i64 q.let_, q.kv] ++ List.flatMap (fun p => [Value.int .i64 p.kind, .int .i64 p.let_, p.kv]) ps)[3 * (k + 1) + r]? = (List.flatMap (fun p => [Value.int .i64 p.kind, .int .i64 p.let_, p.kv]) ps)[3 * k + r]? := by
        intro r
        rw [List.getElem?_append_right (by simp; omega)]
        congr 1
        simp; omega
      exact ⟨(e 0).trans this.1, (e 1).trans this.2.1, (e 2).trans this.2.2⟩

/-- What is read at a part's number. -/
theorem PL.get {w : World} {L : Value} {ps : List PartR} (h : PL w L ps) {k : Nat} {p : PartR} (hk : ps[k]? = some p) :
    ∃ g cap, L = .slice (some ⟨g, 0, none⟩) ps.length cap ∧ w.cell? ⟨g, k * 3, none⟩ = some (.int .i64 p.kind) ∧ w.cell? ⟨g, k * 3 + 1, none⟩ = some (.int .i64 p.let_) ∧ w.cell? ⟨g, k * 3 + 2, none⟩ = some p.kv := by
  have hlt := (List.getElem?_eq_some_iff.1 hk).1
  obtain ⟨g, cap, rfl, _, _⟩ := h.own.form (by omega)
  have hc : ∀ j u, (flat ps)[j]? = some u → w.cell? ⟨g, j, none⟩ = some u := by
    intro j u hu
    have := h.own.cells (g := g) rfl j u hu
    have hadd : (⟨g, 0, none⟩ : Addr).add j = ⟨g, j, none⟩ := by
      by_cases h0 : j = 0
      · subst h0; simp [Addr.add]
      · simp [Addr.add, h0]
    rwa [hadd] at this
  obtain ⟨f1, f2, f3⟩ := flat_get hk
  rw [Nat.mul_comm] at f1 f2 f3
  exact ⟨g, cap, rfl, hc _ _ f1, hc _ _ f2, hc _ _ f3⟩

/-- What 'ends' leaves behind. -/
def Ended (z : List Int) (N : Nat) (w : World) (m : Sense) (h : Nat → Bool) (e : Ending) (w' : World) : Prop :=
  ∃ g h', e = .returned (.slice (some ⟨g, 0, none⟩) N N) ∧ BAt w' g h' N ∧ w.heap.size ≤ g ∧ w.grownBy w' none ∧ ∀ j, j < N → (h' j = true ↔ ∃ i, i < N ∧ h i = true ∧ m z i j)

theorem bmake (w : World) (N : Nat) (hN : N ≤ 61) : (Instr.makeSlice 45 (.int .i64 (N : Int)) (.int .i64 (N : Int))).run Tryd.prog w = .ok (.slice (some ⟨w.heap.size, 0, none⟩) N N) (w.alloc (.cells (Array.replicate N (Value.bool false)) 4)) := by
  obtain ⟨i0, hi, hz0, hz1, hz2⟩ := info_parts Tryd.infoB
  have hmk := run_make (P := Tryd.prog) w 45 4 i0 (.bool false) Tryd.underlying45 hi hz0 .i64 .i64 (N : Int) (N : Int) (by omega) (by omega) (by rw [hz2]; omega) (by omega)
  rw [hz1, Nat.mul_one, Int.toNat_natCast, madeFalse] at hmk
  exact hmk

end Go.Proofs.YtepldeogcoigkaaDoor
