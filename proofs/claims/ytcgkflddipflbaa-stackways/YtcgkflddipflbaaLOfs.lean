/- Rows that are there, as values and as what they hold. -/
/- A map that numbers states: each of a list by its place. -/
/- The words for 'Of': an automaton under way, its states numbered by a map. -/
/- The steps of 'Of': a row is made, a state is put behind, a number is written, a row and a mark are put behind. -/
import Derived.Test.YtcgkflddipflbaaLOwn
import Derived.Test.YtcgkflddipflbaaDBs
import Derived.Test.YtcgkflddipflbaaLMath
import Derived.Maps.Own
import Derived.Maps.OwnOps
import Derived.Maps.OwnSet
import Derived.Maps.Views
namespace Go.Proofs.Ytcgkflddipflbaa
open Go.RowKit
set_option linter.unusedVariables false

/-- Rows that are there, as values and as what they hold. -/
abbrev rowItems (rs : List (Value × List Int)) : List Item := rs.map fun p => (3, p.1, vals p.2)
abbrev natInts (xs : List Nat) : List Int := xs.map fun (x : Nat) => (x : Int)
theorem natInts_get {xs : List Nat} {i : Nat} (h : i < xs.length) : (vals (natInts xs))[i]? = some (.int .i64 ((xs.getD i 0 : Nat) : Int)) := by simp [vals, List.getD, h]

theorem Try.info3i : (Try.prog.info? 3).map (fun i => (i.zero, i.size, i.bytes)) = some (some (.int .i64 0), 1, 8) := by kernel_rfl
theorem Try.infoS : (Try.prog.info? 23).map (fun i => (i.zero, i.size, i.bytes)) = some (some (.slice none 0 0), 1, 24) := by kernel_rfl
theorem cell_one_new (w : World) (u : Value) (t : TypeId) : ∀ j x, [u][j]? = some x → (w.alloc (.cells #[u] t)).cell? ((⟨w.heap.size, 0, none⟩ : Addr).add j) = some x := by
  intro j x hj
  have hb := heap_alloc_new w (.cells #[u] t)
  have h0 : j = 0 := by
    cases j with
    | zero => rfl
    | succ j => simp at hj
  subst h0
  rw [addr_add, cell_of_row _ _ _ _ _ (0, 0) hb]
  simpa using hj

end Go.Proofs.Ytcgkflddipflbaa

namespace Go.Proofs.Ytcgkflddipflbaa
open Go.RowKit Go.Maps
set_option linter.unusedVariables false

theorem Try.keyed3 : Keyed Try.prog 3 := int_keyed Try.underlying3
theorem zero3 (w : World) : (zeroValue 3).run Try.prog w = .ok (.int .i64 0) w := by kernel_rfl

/-- The map in block b numbers the states xs. -/
def NumAt (w : World) (b : Nat) (xs : List Nat) : Prop :=
  ∃ D : DataW Unit, w.ownsMap Try.prog 3 (plainElem Try.prog 3) b xs.length D ∧ (∀ y : Nat, y < 4611686018427387904 → (Maps.has D (.int .i64 y) = true ↔ y ∈ xs)) ∧ ∀ i, i < xs.length → ∀ z, D.atKey (.int .i64 ((xs.getD i 0 : Nat) : Int)) z = .lit (.int .i64 i)

theorem wf64 {y : Nat} (h : y < 4611686018427387904) : (Lit.int .i64 (y : Int)).wf = true := WalkArith.wf_i64 (by omega)

theorem NumAt.kept {w w' : World} {b : Nat} {xs : List Nat} {row : Option Nat} (h : NumAt w b xs) (hg : w.grownBy w' row) (hne : row ≠ some b) : NumAt w' b xs := by
  obtain ⟨D, h1, h2⟩ := h
  exact ⟨D, h1.kept hg (Ne.symm hne), h2⟩
theorem NumAt.block {w : World} {b : Nat} {xs : List Nat} (h : NumAt w b xs) : b < w.heap.size ∧ ∃ o, w.heap[b]? = some o ∧ ∀ c t f, o ≠ .cells c t f := by
  obtain ⟨D, ⟨es, clock, hb, _⟩, _⟩ := h
  exact ⟨(Array.getElem?_eq_some_iff.1 hb).1, _, hb, fun _ _ _ e => by cases e⟩

theorem keyLit {y : Int} : WideAt.IsKeyLit (.int .i64 y) := by simp [WideAt.IsKeyLit]
/-- A state is looked up. -/
theorem NumAt.look {w : World} {b : Nat} {xs : List Nat} (h : NumAt w b xs) {y : Nat} (hy : y < 4611686018427387904) (hxs : ∀ x, x ∈ xs → x < 4611686018427387904) :
    (y ∈ xs → (Instr.lookup 112 (.map (some b)) (.int .i64 y) true).run Try.prog w = .ok (.tuple #[.int .i64 ((ix id xs y : Nat) : Int), .bool true]) w) ∧
    (y ∉ xs → ∃ c, (Instr.lookup 112 (.map (some b)) (.int .i64 y) true).run Try.prog w = .ok (.tuple #[.int .i64 c, .bool false]) w) := by
  obtain ⟨D, h1, h2, h3⟩ := h
  obtain ⟨v, ps, hrun, hv⟩ := h1.look_ok Try.keyed3 Try.underlying112 (zero3 w) (plainElem_int Try.underlying3 (by decide)) (keyOf_int_mk Try.underlying3 (wf64 hy))
  obtain ⟨c, rfl, hc, hwc⟩ := plainElem_int_inv Try.underlying3 hv
  simp only [Prod.mk.injEq] at hc
  refine ⟨fun hm => ?_, fun hm => ⟨c, ?_⟩⟩
  · have hk : hasK id xs y := ⟨y, hm, rfl⟩
    have e1 := h3 (ix id xs y) (ix_lt hk) (.lit (.int .i64 0))
    have e2 : xs.getD (ix id xs y) 0 = y := ix_key hk
    rw [e2] at e1
    rw [e1] at hc
    have e3 : c = (ix id xs y : Nat) := by have := hc.1; simp at this; exact this.symm
    rw [hrun, (h2 y hy).2 hm, e3]
  · have : Maps.has D (.int .i64 (y : Int)) = false := by
      cases hb : Maps.has D (.int .i64 (y : Int)) with
      | false => rfl
      | true => exact absurd ((h2 y hy).1 hb) hm
    rw [hrun, this]
/-- A new state is numbered. -/
theorem NumAt.put {w : World} {b : Nat} {xs : List Nat} (h : NumAt w b xs) {y : Nat} (hy : y < 4611686018427387904) (hxs : ∀ x, x ∈ xs → x < 4611686018427387904) (hm : y ∉ xs) (hl : xs.length < 4611686018427387904) :
    ∃ w', (Instr.mapUpdate 112 (.map (some b)) (.int .i64 y) (.int .i64 xs.length)).run Try.prog w = .ok () w' ∧ NumAt w' b (xs ++ [y]) ∧ w.grownBy w' (some b) := by
  obtain ⟨D, h1, h2, h3⟩ := h
  obtain ⟨w', hrun, h4, h5⟩ := h1.update Try.keyed3 Try.underlying112 (by unfold maxLen; omega) (keyOf_int_mk Try.underlying3 (wf64 hy)) (plainElem_int Try.underlying3 (wf64 hl))
  refine ⟨w', hrun, ⟨_, by simpa using h4, fun z hz => ?_, fun i hi z => ?_⟩, h5⟩
  · by_cases hzy : z = y
    · subst hzy
      rw [has_put_same h1.isMap keyLit]
      simp
    · rw [has_put_other (by simp; omega), h2 z hz]
      simp [hzy]
  · simp at hi
    by_cases hil : i < xs.length
    · have hmem := getD_mem hil
      rw [getD_app _ hil, atKey_put_other (fun e => hm (by have e3 := e; simp only [Lit.int.injEq, true_and] at e3; have e2 : xs.getD i 0 = y := Int.ofNat.inj e3; rw [← e2]; exact hmem))]
      exact h3 i hil z
    · have : i = xs.length := by omega
      subst this
      have e : (xs ++ [y]).getD xs.length 0 = y := by simp [List.getD]
      rw [e, atKey_put_same h1.isMap keyLit]

end Go.Proofs.Ytcgkflddipflbaa

namespace Go.Proofs.Ytcgkflddipflbaa
open Go.RowKit
set_option linter.unusedVariables false

/-- An automaton under way: the states xs, the rows rs, the marks M. -/
structure OfAt (B : Nat) (l : Nat) (w : World) (vS vR vM : Value) (xs : List Nat) (rs : List (Value × List Int)) (M : List Int) (more : List Item) : Prop where
  res : w.heap[B]? = some (.cells #[.int .i64 0, .int .i64 0, .slice none 0 0, .slice none 0 0] 36 (0, 0))
  det : w.heap[B + 1]? = some (.cells #[.int .i64 l, .int .i64 0, vR, vM] 36 (0, 0))
  num : NumAt w (B + 3) xs
  own : Owns (B + 2) w ((3, vS, vals (natInts xs)) :: (23, vR, rs.map (·.1)) :: (3, vM, vals M) :: (more ++ rowItems rs))

section
variable {B l : Nat} {w w' : World} {vS vR vM : Value} {xs : List Nat} {rs : List (Value × List Int)} {M : List Int} {more : List Item}

theorem OfAt.kept (h : OfAt B l w vS vR vM xs rs M more) (hg : w.grownBy w' none) : OfAt B l w' vS vR vM xs rs M more :=
  ⟨(hg.block _ (Array.getElem?_eq_some_iff.1 h.res).1 (by simp)).trans h.res, (hg.block _ (Array.getElem?_eq_some_iff.1 h.det).1 (by simp)).trans h.det, h.num.kept hg (by simp), h.own.kept hg⟩
theorem OfAt.lt (h : OfAt B l w vS vR vM xs rs M more) : B + 3 < w.heap.size := h.num.block.1
theorem OfAt.cells (h : OfAt B l w vS vR vM xs rs M more) : w.cell? ⟨B + 1, 0, none⟩ = some (.int .i64 l) ∧ w.cell? ⟨B + 1, 1, none⟩ = some (.int .i64 0) ∧ w.cell? ⟨B + 1, 2, none⟩ = some vR ∧ w.cell? ⟨B + 1, 3, none⟩ = some vM ∧ ∀ k, w.frozen? ⟨B + 1, k, none⟩ = false :=
  ⟨by rw [cell_of_row _ _ _ _ _ (0, 0) h.det]; rfl, by rw [cell_of_row _ _ _ _ _ (0, 0) h.det]; rfl, by rw [cell_of_row _ _ _ _ _ (0, 0) h.det]; rfl, by rw [cell_of_row _ _ _ _ _ (0, 0) h.det]; rfl, fun k => frozen_of_row _ _ k _ _ h.det⟩
theorem OfAt.ress (h : OfAt B l w vS vR vM xs rs M more) : w.cell? ⟨B, 0, none⟩ = some (.int .i64 0) ∧ w.cell? ⟨B, 1, none⟩ = some (.int .i64 0) ∧ w.cell? ⟨B, 2, none⟩ = some (.slice none 0 0) ∧ w.cell? ⟨B, 3, none⟩ = some (.slice none 0 0) ∧ ∀ k, w.frozen? ⟨B, k, none⟩ = false :=
  ⟨by rw [cell_of_row _ _ _ _ _ (0, 0) h.res]; rfl, by rw [cell_of_row _ _ _ _ _ (0, 0) h.res]; rfl, by rw [cell_of_row _ _ _ _ _ (0, 0) h.res]; rfl, by rw [cell_of_row _ _ _ _ _ (0, 0) h.res]; rfl, fun k => frozen_of_row _ _ k _ _ h.res⟩
/-- A state that is there. -/
theorem OfAt.state (h : OfAt B l w vS vR vM xs rs M more) {i : Nat} (hi : i < xs.length) : ∃ g cap, vS = .slice (some ⟨g, 0, none⟩) xs.length cap ∧ w.cell? ⟨g, i, none⟩ = some (.int .i64 ((xs.getD i 0 : Nat) : Int)) := by
  obtain ⟨g, cap, e, _⟩ := h.own.form (by simp; omega)
  simp at e
  subst e
  exact ⟨g, cap, rfl, h.own.cell (natInts_get hi)⟩
/-- The map has turned: a new state has its number. -/
theorem OfAt.numbered {y : Nat} (h : OfAt B l w vS vR vM xs rs M more) (hn : NumAt w' (B + 3) (xs ++ [y])) (hg : w.grownBy w' (some (B + 3))) :
    w'.heap[B]? = some (.cells #[.int .i64 0, .int .i64 0, .slice none 0 0, .slice none 0 0] 36 (0, 0)) ∧ w'.heap[B + 1]? = some (.cells #[.int .i64 l, .int .i64 0, vR, vM] 36 (0, 0)) ∧
    Owns (B + 2) w' ((3, vS, vals (natInts xs)) :: (23, vR, rs.map (·.1)) :: (3, vM, vals M) :: (more ++ rowItems rs)) := by
  obtain ⟨_, o, ho, hne⟩ := h.num.block
  exact ⟨(hg.block _ (Array.getElem?_eq_some_iff.1 h.res).1 (by simp)).trans h.res, (hg.block _ (Array.getElem?_eq_some_iff.1 h.det).1 (by simp)).trans h.det, h.own.far hg (h.own.other ho hne)⟩
end

/-- What 'Of' leaves behind. -/
def OfPost (l x0 n : Nat) (δ : Nat → Nat → Nat) (m : Nat → Bool) (w : World) (e : Ending) (w' : World) : Prop :=
  ∃ k vR vM rs, IsEnd (bfsL id δ l x0) k ∧ k ≤ n ∧ e = .returned (.agg #[.int .i64 l, .int .i64 0, vR, vM]) ∧
      rs.map (·.2) = resR id δ l (bfsL id δ l x0 k) ∧ Owns w.heap.size w' ((23, vR, rs.map (·.1)) :: (3, vM, vals (resM m (bfsL id δ l x0 k))) :: rowItems rs) ∧ w.grownBy w' none

theorem numAt_made (w : World) : NumAt (w.alloc (.map #[] 0)) w.heap.size [] :=
  ⟨.map [], World.ownsMap_made w _ _ _, fun y _ => by simp [Maps.has_eq], fun i hi => by simp at hi⟩

/-- How it begins. -/
theorem ofAt_start (w : World) (l x0 : Nat) (hx : x0 < 4611686018427387904) :
    ∃ W4, (Instr.mapUpdate 112 (.map (some (w.heap.size + 1 + 1 + 1))) (.int .i64 (x0 : Int)) (.int .i64 0)).run Try.prog ((((w.alloc (.cells #[.int .i64 0, .int .i64 0, .slice none 0 0, .slice none 0 0] 36)).alloc (.cells #[.int .i64 (l : Int), .int .i64 0, .slice none 0 0, .slice none 0 0] 36)).alloc (.cells #[.int .i64 (x0 : Int)] 3)).alloc (.map #[] 0)) = .ok () W4 ∧
      OfAt w.heap.size l W4 (.slice (some ⟨w.heap.size + 1 + 1, 0, none⟩) 1 1) (.slice none 0 0) (.slice none 0 0) [x0] [] [] [] ∧ w.grownBy W4 none := by
  generalize hW0 : w.alloc (.cells #[.int .i64 0, .int .i64 0, .slice none 0 0, .slice none 0 0] 36) = W0
  have s0 : W0.heap.size = w.heap.size + 1 := by rw [← hW0]; simp
  have b0 : W0.heap[w.heap.size]? = some (.cells #[.int .i64 0, .int .i64 0, .slice none 0 0, .slice none 0 0] 36 (0, 0)) := by rw [← hW0]; exact heap_alloc_new w _
  have g0 : w.grownBy W0 none := by rw [← hW0]; exact grown_alloc _ _
  generalize hW1 : W0.alloc (.cells #[.int .i64 (l : Int), .int .i64 0, .slice none 0 0, .slice none 0 0] 36) = W1
  have s1 : W1.heap.size = w.heap.size + 2 := by rw [← hW1]; simp [s0]
  have b1 : W1.heap[w.heap.size + 1]? = some (.cells #[.int .i64 (l : Int), .int .i64 0, .slice none 0 0, .slice none 0 0] 36 (0, 0)) := by rw [← hW1, ← s0]; exact heap_alloc_new W0 _
  have g1 : W0.grownBy W1 none := by rw [← hW1]; exact grown_alloc _ _
  have o1 : Owns (w.heap.size + 2) W1 ((23, .slice none 0 0, []) :: (3, .slice none 0 0, []) :: []) := ((Owns.no _ _).empty _).empty _
  have o2 := o1.made (arr := #[.int .i64 (x0 : Int)]) (n := 1) (by omega) 3 rfl (by unfold maxLen; omega)
  generalize hW2 : W1.alloc (.cells #[.int .i64 (x0 : Int)] 3) = W2 at *
  have s2 : W2.heap.size = w.heap.size + 3 := by rw [← hW2]; simp [s1]
  have g2 : W1.grownBy W2 none := by rw [← hW2]; exact grown_alloc _ _
  have n3 := numAt_made W2
  rw [s2] at n3
  have g3 : W2.grownBy (W2.alloc (.map #[] 0)) none := grown_alloc _ _
  generalize W2.alloc (.map #[] 0) = W3 at *
  obtain ⟨W4, hr, hn4, hg4⟩ := n3.put hx (by simp) (by simp) (by simp)
  refine ⟨W4, by simpa using hr, ?_, ?_⟩
  · have gg : W2.grownBy W4 (some (w.heap.size + 3)) := ⟨hg4.os.trans g3.os, hg4.tape.trans g3.tape, hg4.output.trans g3.output, Nat.le_trans g3.size hg4.size, fun k hk hne => (hg4.block k (Nat.lt_of_lt_of_le hk g3.size) hne).trans (g3.block k hk (by simp))⟩
    refine ⟨?_, ?_, by simpa using hn4, ?_⟩
    · exact (gg.block _ (by omega) (by simp)).trans ((g2.block _ (by omega) (by simp)).trans ((g1.block _ (by omega) (by simp)).trans b0))
    · exact (gg.block _ (by omega) (by simp)).trans ((g2.block _ (by omega) (by simp)).trans b1)
    · have o3 : Owns (w.heap.size + 2) W4 _ := o2.far gg (fun it hm hc => by have := ((o2.1 it hm).1.lt _ hc).2; omega)
      rw [s1] at o3
      simpa [vals, natInts] using o3
  · exact grown_new (grown_trans (grown_trans (grown_trans g0 g1) g2) g3) hg4 (by omega)

end Go.Proofs.Ytcgkflddipflbaa

namespace Go.Proofs.Ytcgkflddipflbaa
open Go.RowKit
set_option linter.unusedVariables false

/-- A row of noughts is made. -/
theorem make_ints (w : World) (n : Nat) (hn : n ≤ 1000000) : (Instr.makeSlice 23 (.int .i64 (n : Int)) (.int .i64 (n : Int))).run Try.prog w = .ok (.slice (some ⟨w.heap.size, 0, none⟩) n n) (w.alloc (.cells (Array.replicate n (Value.int .i64 0)) 3)) := by
  obtain ⟨i0, hi, hz0, hz1, hz2⟩ := info_parts Try.info3i
  have hmk := run_make (P := Try.prog) w 23 3 i0 (.int .i64 0) Try.underlying23 hi hz0 .i64 .i64 (n : Int) (n : Int) (by omega) (by omega) (by rw [hz2]; omega) (by omega)
  have e : madeCells (Value.cells (.int .i64 0)) n = Array.replicate n (Value.int .i64 0) := by
    apply Array.ext'
    simpa [Value.cells] using toList_madeCells_one (.int .i64 0) n
  rw [hz1, Nat.mul_one, Int.toNat_natCast, e] at hmk
  exact hmk
theorem vals_zero (n : Nat) : (Array.replicate n (Value.int .i64 0)).toList = vals (List.replicate n 0) := by simp [vals]

/-- A number is written into a row. -/
theorem row_write {l a : Nat} {f : Nat → Nat} (ha : a < l) : ((List.range l).map fun b => if b < a then ((f b : Nat) : Int) else 0).set a ((f a : Nat) : Int) = (List.range l).map fun b => if b < a + 1 then ((f b : Nat) : Int) else 0 := by
  apply List.ext_getElem (by simp)
  intro i h1 h2
  simp at h2
  rw [List.getElem_set]
  simp only [List.getElem_map, List.getElem_range]
  by_cases e : a = i
  · subst e; simp
  · rw [if_neg e]
    by_cases h3 : i < a
    · rw [if_pos h3, if_pos (by omega)]
    · rw [if_neg h3, if_neg (by omega)]

section
variable {B l : Nat} {w w' w0 : World} {vS vR vM : Value} {xs : List Nat} {rs : List (Value × List Int)} {M : List Int} {more : List Item}

theorem OfAt.row (h : OfAt B l w vS vR vM xs rs M []) (hl : l ≤ 4) : ∃ W, (Instr.makeSlice 23 (.int .i64 (l : Int)) (.int .i64 (l : Int))).run Try.prog w = .ok (.slice (some ⟨w.heap.size, 0, none⟩) l l) W ∧
    OfAt B l W vS vR vM xs rs M [(3, .slice (some ⟨w.heap.size, 0, none⟩) l l, vals (List.replicate l 0))] ∧ w.grownBy W none := by
  refine ⟨_, make_ints w l (by omega), ?_, grown_alloc _ _⟩
  have h1 := h.kept (grown_alloc w (.cells (Array.replicate l (Value.int .i64 0)) 3))
  refine ⟨h1.res, h1.det, h1.num, ?_⟩
  have h2 := h.own.made (arr := Array.replicate l (Value.int .i64 0)) (n := l) (by have := h.lt; omega) 3 (by simp) (by unfold maxLen; omega)
  rw [vals_zero] at h2
  refine h2.perm ?_
  simp only [List.singleton_append, List.nil_append]
  exact (List.Perm.swap _ _ _).trans ((List.Perm.swap _ _ _).cons _ |>.trans (((List.Perm.swap _ _ _).cons _).cons _))

/-- The row under way comes first. -/
theorem OfAt.cur {it : Item} (h : OfAt B l w vS vR vM xs rs M [it]) : Owns (B + 2) w (it :: (3, vS, vals (natInts xs)) :: (23, vR, rs.map (·.1)) :: (3, vM, vals M) :: rowItems rs) := by
  refine h.own.perm ?_
  simp only [List.singleton_append]
  exact ((((List.Perm.swap _ _ _).cons _).cons _).trans ((List.Perm.swap _ _ _).cons _)).trans (List.Perm.swap _ _ _)
theorem cur_back {it : Item} {a b c : Item} {r : List Item} : (it :: a :: b :: c :: r).Perm (a :: b :: c :: ([it] ++ r)) := by
  simp only [List.singleton_append]
  exact (List.Perm.swap _ _ _).trans ((List.Perm.swap _ _ _).cons _ |>.trans (((List.Perm.swap _ _ _).cons _).cons _))

/-- A number is written into the row. -/
theorem OfAt.write {g a : Nat} {zs : List Int} (h : OfAt B l w vS vR vM xs rs M [(3, .slice (some ⟨g, 0, none⟩) l l, vals zs)]) (ha : a < l) (x : Int) :
    (∃ u, w.cell? ⟨g, a, none⟩ = some (.int .i64 u)) ∧ w.frozen? ⟨g, a, none⟩ = false ∧ OfAt B l (w.setCell ⟨g, a, none⟩ (.int .i64 x)) vS vR vM xs rs M [(3, .slice (some ⟨g, 0, none⟩) l l, vals (zs.set a x))] ∧ B + 2 ≤ g := by
  have hc := h.cur
  have hlen : l = zs.length := by have := hc.len; rwa [vals_len] at this
  obtain ⟨g', cap, e, hB, hlt, hfz⟩ := hc.form (by rw [vals_len]; omega)
  have e1 : g = g' := by simp only [Value.slice.injEq, Option.some.injEq, Addr.mk.injEq] at e; exact e.1.1
  subst e1
  refine ⟨⟨_, hc.cell (vals_get (i := a) (by omega))⟩, hfz a, ?_, hB⟩
  obtain ⟨hb, o, ho, hne⟩ := h.num.block
  have hg := grown_set w ⟨g, a, none⟩ (.int .i64 x)
  have hgn : g ≠ B + 3 := fun e => by
    have := hc.other (b := B + 3) ho hne (3, .slice (some ⟨g, 0, none⟩) l l, vals zs) (List.mem_cons_self)
    exact this (by rw [e]; rfl)
  refine ⟨(hg.block _ (Array.getElem?_eq_some_iff.1 h.res).1 (by simp; omega)).trans h.res, (hg.block _ (Array.getElem?_eq_some_iff.1 h.det).1 (by simp; omega)).trans h.det, h.num.kept hg (by simpa using hgn), ?_⟩
  have h2 := hc.set ha (.int .i64 x)
  rw [vals_set] at h2
  exact h2.perm cur_back

/-- A state is put behind: its number is in the map already. -/
theorem OfAt.pushed {y g n cap H : Nat} (h1 : w.heap[B]? = some (.cells #[.int .i64 0, .int .i64 0, .slice none 0 0, .slice none 0 0] 36 (0, 0))) (h2 : w.heap[B + 1]? = some (.cells #[.int .i64 l, .int .i64 0, vR, vM] 36 (0, 0)))
    (h3 : NumAt w (B + 3) (xs ++ [y])) (h4 : Owns (B + 2) w ((3, vS, vals (natInts xs)) :: (23, vR, rs.map (·.1)) :: (3, vM, vals M) :: (more ++ rowItems rs)))
    (ho : w'.ownsRow (B + 2) 3 1 (.slice (some ⟨g, 0, none⟩) n cap) n (vals (natInts xs) ++ [.int .i64 (y : Int)])) (hn : n = xs.length + 1) (hg : w.grownBy w' vS.ownBlock) (hat : vS.ownBlock = some g ∨ g = H) (hH : w.heap.size = H) :
    OfAt B l w' (.slice (some ⟨g, 0, none⟩) n cap) vR vM (xs ++ [y]) rs M more := by
  have h5 := h4.append ho (by simp; omega) hg hat hH
  obtain ⟨hb, o, hoo, hne⟩ := h3.block
  refine ⟨h4.old (by omega) (Array.getElem?_eq_some_iff.1 h1).1 hg h1, h4.old (by omega) (Array.getElem?_eq_some_iff.1 h2).1 hg h2, h3.kept hg (fun e => h4.other hoo hne (3, vS, vals (natInts xs)) (by simp) e), ?_⟩
  simpa [vals, natInts] using h5

/-- A row is put behind. -/
theorem OfAt.pushR {u : Value} {zs : List Int} {g n cap H : Nat} (h : OfAt B l w vS vR vM xs rs M [(3, u, vals zs)]) (ho : w'.ownsRow (B + 2) 23 1 (.slice (some ⟨g, 0, none⟩) n cap) n (rs.map (·.1) ++ [u])) (hn : n = rs.length + 1)
    (hg : w.grownBy w' vR.ownBlock) (hat : vR.ownBlock = some g ∨ g = H) (hH : w.heap.size = H) :
    (w'.cell? ⟨B + 1, 2, none⟩ = some vR ∧ w'.frozen? ⟨B + 1, 2, none⟩ = false) ∧ OfAt B l (w'.setCell ⟨B + 1, 2, none⟩ (.slice (some ⟨g, 0, none⟩) n cap)) vS (.slice (some ⟨g, 0, none⟩) n cap) vM xs (rs ++ [(u, zs)]) M [] := by
  have hp : Owns (B + 2) w ((23, vR, rs.map (·.1)) :: (3, vS, vals (natInts xs)) :: (3, vM, vals M) :: (3, u, vals zs) :: rowItems rs) := h.own.perm (List.Perm.swap _ _ _)
  have h5 := hp.append ho (by simp; omega) hg hat hH
  obtain ⟨hb, o, hoo, hne⟩ := h.num.block
  have k1 := hp.old (by omega) (Array.getElem?_eq_some_iff.1 h.res).1 hg h.res
  have k2 := hp.old (by omega) (Array.getElem?_eq_some_iff.1 h.det).1 hg h.det
  have k3 := h.num.kept hg (fun e => hp.other hoo hne (23, vR, rs.map (·.1)) (by simp) e)
  refine ⟨⟨by rw [cell_of_row _ _ _ _ _ (0, 0) k2]; rfl, frozen_of_row _ _ _ _ _ k2⟩, ?_, ?_, ?_, ?_⟩
  · exact (Below.heap_setCell _ _ _ _ (by simp)).trans k1
  · rw [heap_setCell_same _ _ 2 _ _ _ k2]; rfl
  · exact k3.kept (grown_set _ _ _) (by simp)
  · have h6 := h5.below (grown_set w' ⟨B + 1, 2, none⟩ (.slice (some ⟨g, 0, none⟩) n cap)) (by simp)
    refine h6.perm ?_
    simp only [List.map_append, List.map_cons, List.map_nil, List.nil_append]
    refine (List.Perm.swap _ _ _).trans (List.Perm.cons _ (List.Perm.cons _ (List.Perm.cons _ ?_)))
    exact (List.perm_append_comm (l₁ := [(3, u, vals zs)]) (l₂ := rowItems rs))
/-- A mark is put behind. -/
theorem OfAt.pushM {x : Int} {g n cap H : Nat} (h : OfAt B l w vS vR vM xs rs M []) (ho : w'.ownsRow (B + 2) 3 1 (.slice (some ⟨g, 0, none⟩) n cap) n (vals M ++ [.int .i64 x])) (hn : n = M.length + 1)
    (hg : w.grownBy w' vM.ownBlock) (hat : vM.ownBlock = some g ∨ g = H) (hH : w.heap.size = H) :
    (w'.cell? ⟨B + 1, 3, none⟩ = some vM ∧ w'.frozen? ⟨B + 1, 3, none⟩ = false) ∧ OfAt B l (w'.setCell ⟨B + 1, 3, none⟩ (.slice (some ⟨g, 0, none⟩) n cap)) vS vR (.slice (some ⟨g, 0, none⟩) n cap) xs rs (M ++ [x]) [] := by
  have hp : Owns (B + 2) w ((3, vM, vals M) :: (3, vS, vals (natInts xs)) :: (23, vR, rs.map (·.1)) :: rowItems rs) := by
    refine h.own.perm ?_
    simp only [List.nil_append]
    exact (List.Perm.cons _ (List.Perm.swap _ _ _)).trans (List.Perm.swap _ _ _)
  have h5 := hp.append ho (by simp; omega) hg hat hH
  obtain ⟨hb, o, hoo, hne⟩ := h.num.block
  have k1 := hp.old (by omega) (Array.getElem?_eq_some_iff.1 h.res).1 hg h.res
  have k2 := hp.old (by omega) (Array.getElem?_eq_some_iff.1 h.det).1 hg h.det
  have k3 := h.num.kept hg (fun e => hp.other hoo hne (3, vM, vals M) (by simp) e)
  refine ⟨⟨by rw [cell_of_row _ _ _ _ _ (0, 0) k2]; rfl, frozen_of_row _ _ _ _ _ k2⟩, ?_, ?_, ?_, ?_⟩
  · exact (Below.heap_setCell _ _ _ _ (by simp)).trans k1
  · rw [heap_setCell_same _ _ 3 _ _ _ k2]; rfl
  · exact k3.kept (grown_set _ _ _) (by simp)
  · have h6 := h5.below (grown_set w' ⟨B + 1, 3, none⟩ (.slice (some ⟨g, 0, none⟩) n cap)) (by simp)
    rw [vals_snoc] at h6
    refine h6.perm ?_
    simp only [List.nil_append]
    exact (List.Perm.swap _ _ _).trans (List.Perm.cons _ (List.Perm.swap _ _ _))
end

theorem keep2 {W W' : World} {a1 a2 : Addr} {v1 v2 : Value} {row : Option Nat} (h : W.cell? a1 = some v1 ∧ W.cell? a2 = some v2) (hg : W.grownBy W' row) (h1 : row ≠ some a1.block) (h2 : row ≠ some a2.block) : W'.cell? a1 = some v1 ∧ W'.cell? a2 = some v2 :=
  ⟨hg.cell h.1 (Ne.symm h1), hg.cell h.2 (Ne.symm h2)⟩

/-- The states and the marks lie in two blocks. -/
theorem OfAt.apartSM {B l n : Nat} {w : World} {vR vM : Value} {g cap : Nat} {xs : List Nat} {rs : List (Value × List Int)} {M : List Int} {more : List Item} (h : OfAt B l w (.slice (some ⟨g, 0, none⟩) n cap) vR vM xs rs M more) : vM.ownBlock ≠ some g ∧ vM.ownBlock ≠ some (B + 1) := by
  refine ⟨fun e => ?_, fun e => ?_⟩
  · have := (List.pairwise_cons.1 h.own.2).1 (3, vM, vals M) (by simp)
    rcases this with h1 | h1 | h1
    · cases h1
    · rw [e] at h1; cases h1
    · exact h1 (by rw [e]; rfl)
  · have := ((h.own.1 (3, vM, vals M) (by simp)).1.lt _ e).1
    omega

theorem ofAt_marks {B l : Nat} {w : World} {vS vR vM : Value} {xs : List Nat} {rs : List (Value × List Int)} {M : List Int} (h : OfAt B l w vS vR vM xs rs M []) : Owns (B + 2) w ((3, vM, vals M) :: (3, vS, vals (natInts xs)) :: (23, vR, rs.map (·.1)) :: rowItems rs) := by
  refine h.own.perm ?_
  simp only [List.nil_append]
  exact (List.Perm.cons _ (List.Perm.swap _ _ _)).trans (List.Perm.swap _ _ _)

theorem bit_any (b : Bool) (w : World) : Calls Try.prog 64 #[.bool b] w fun e w' => e = .returned (.int .i64 (if b = true then 1 else 0)) ∧ w' = w := by
  cases b with
  | true =>
    go_enter Try.func64, Try.ntmps64
    go_wp2
    go_ret
    exact ⟨rfl, rfl⟩
  | false =>
    go_enter Try.func64, Try.ntmps64
    go_wp2
    go_ret
    exact ⟨rfl, rfl⟩

theorem grown_set2 {a b : World} {g : Nat} (h : a.grownBy b (some g)) (o : Nat) (v : Value) : a.grownBy (b.setCell ⟨g, o, none⟩ v) (some g) :=
  grown_trans h (grown_set b ⟨g, o, none⟩ v)
/-- Four cells are written. -/
theorem det_store {W : World} {B : Nat} {T : TypeId} {a0 a1 a2 a3 : Value} (hb : W.heap[B]? = some (.cells #[a0, a1, a2, a3] T (0, 0))) (v0 v1 v2 v3 : Value) :
    ∃ W', W' = (((W.setCell ⟨B, 0, none⟩ v0).setCell ⟨B, 1, none⟩ v1).setCell ⟨B, 2, none⟩ v2).setCell ⟨B, 3, none⟩ v3 ∧ W.grownBy W' (some B) ∧ W'.cell? ⟨B, 0, none⟩ = some v0 ∧ W'.cell? ⟨B, 1, none⟩ = some v1 ∧ W'.cell? ⟨B, 2, none⟩ = some v2 ∧ W'.cell? ⟨B, 3, none⟩ = some v3 := by
  have h0 : (W.setCell ⟨B, 0, none⟩ v0).heap[B]? = some (.cells #[v0, a1, a2, a3] T (0, 0)) := by rw [heap_setCell_same W B 0 _ _ _ hb]; rfl
  have h1 : ((W.setCell ⟨B, 0, none⟩ v0).setCell ⟨B, 1, none⟩ v1).heap[B]? = some (.cells #[v0, v1, a2, a3] T (0, 0)) := by rw [heap_setCell_same _ B 1 _ _ _ h0]; rfl
  have h2 : (((W.setCell ⟨B, 0, none⟩ v0).setCell ⟨B, 1, none⟩ v1).setCell ⟨B, 2, none⟩ v2).heap[B]? = some (.cells #[v0, v1, v2, a3] T (0, 0)) := by rw [heap_setCell_same _ B 2 _ _ _ h1]; rfl
  have h3 : ((((W.setCell ⟨B, 0, none⟩ v0).setCell ⟨B, 1, none⟩ v1).setCell ⟨B, 2, none⟩ v2).setCell ⟨B, 3, none⟩ v3).heap[B]? = some (.cells #[v0, v1, v2, v3] T (0, 0)) := by rw [heap_setCell_same _ B 3 _ _ _ h2]; rfl
  exact ⟨_, rfl, grown_set2 (grown_set2 (grown_set2 (grown_set W ⟨B, 0, none⟩ v0) 1 v1) 2 v2) 3 v3, by rw [cell_of_row _ _ _ _ _ (0, 0) h3]; rfl, by rw [cell_of_row _ _ _ _ _ (0, 0) h3]; rfl, by rw [cell_of_row _ _ _ _ _ (0, 0) h3]; rfl, by rw [cell_of_row _ _ _ _ _ (0, 0) h3]; rfl⟩

theorem owns_slice {B : Nat} {w : World} {its : List Item} (h : Owns B w its) {it : Item} (hm : it ∈ its) : ∃ a n c, it.2.1 = .slice a n c := by
  obtain ⟨a, c, h1⟩ := (h.1 it hm).2
  exact ⟨a, _, c, h1⟩
/-- The box of the test, and the automaton to come. -/
theorem of_boxes (w : World) (T : TypeId) (f : Value) : ∃ W, W = (w.alloc (.cells #[f] T)).alloc (.cells #[.int .i64 0, .int .i64 0, .slice none 0 0, .slice none 0 0] 36) ∧ w.grownBy W none ∧ W.heap.size = w.heap.size + 2 ∧ W.heap[w.heap.size + 1]? = some (.cells #[.int .i64 0, .int .i64 0, .slice none 0 0, .slice none 0 0] 36 (0, 0)) ∧ ∀ W', W.grownBy W' none → W'.cell? ⟨w.heap.size, 0, none⟩ = some f := by
  refine ⟨_, rfl, grown_trans (grown_alloc _ _) (grown_alloc _ _), by simp, ?_, fun W' h => ?_⟩
  · have := heap_alloc_new (w.alloc (.cells #[f] T)) (.cells #[.int .i64 0, .int .i64 0, .slice none 0 0, .slice none 0 0] 36)
    rwa [World.size_alloc] at this
  · have hb := heap_alloc_new w (.cells #[f] T)
    exact (grown_trans (grown_alloc _ _) h).cell (by rw [cell_of_row _ _ 0 _ _ (0, 0) hb]; rfl) (by simp)

end Go.Proofs.Ytcgkflddipflbaa
