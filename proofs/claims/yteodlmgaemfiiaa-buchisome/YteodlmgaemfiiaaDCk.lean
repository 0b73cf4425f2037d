/- Rows of rows of numbers, and automata, in memory; and among the arguments. -/
/- A truth that is told. -/
/- What calls answer, in a word; a box of four. -/
/- What a step of an automaton reads. -/
import Derived.Test.YteodlmgaemfiiaaDSpec
import Derived.ProofKit
import Derived.OpenShut
import Derived.ShutString
import Derived.ChangeOld
import Derived.Below
import Derived.Lib.SmallJoins
import Derived.Deep.Matrix
namespace Go.Proofs.Yteodlmgaemfiiaa
open Go.ChangeShapes Go.WideShapes Go.ChangeAt Go.RowKit Go.Joins
set_option linter.unusedVariables false

/-- Rows of numbers lie at an address. -/
def RowsAt (w : World) (a : Option Addr) (R : List (List Int)) : Prop :=
  R = [] ∨ ∃ b off, a = some ⟨b, off, none⟩ ∧ ∀ i, i < R.length → ∃ x c, w.cell? ⟨b, off + i, none⟩ = some (.slice x (R.getD i []).length c) ∧ Ints w x (R.getD i []) ∧ (R.getD i []).length ≤ maxLen

theorem RowsAt.grown {w w' : World} {a : Option Addr} {R : List (List Int)} (h : RowsAt w a R) (hg : w.grownBy w' none) : RowsAt w' a R := by
  rcases h with h | ⟨b, off, ha, hc⟩
  · exact .inl h
  · refine .inr ⟨b, off, ha, fun i hi => ?_⟩
    obtain ⟨x, c, h1, h2, h3⟩ := hc i hi
    exact ⟨x, c, hg.cell h1 (by simp), h2.grown hg, h3⟩
theorem RowsAt.at {w : World} {a : Option Addr} {R : List (List Int)} (h : RowsAt w a R) {k : Nat} (hk : k < R.length) :
    ∃ b off, a = some ⟨b, off, none⟩ ∧ ∀ i, i < R.length → ∃ x c, w.cell? ⟨b, off + i, none⟩ = some (.slice x (R.getD i []).length c) ∧ Ints w x (R.getD i []) ∧ (R.getD i []).length ≤ maxLen := by
  rcases h with rfl | h
  · simp at hk
  · exact h

/-- An automaton's rows and marks lie there. -/
structure DetAt (w : World) (d : Dfa) (a a' : Option Addr) : Prop where
  rows : RowsAt w a d.R
  marks : Ints w a' d.M
  rm : d.R.length ≤ maxLen
  mm : d.M.length ≤ maxLen

theorem DetAt.grown {w w' : World} {d : Dfa} {a a' : Option Addr} (h : DetAt w d a a') (hg : w.grownBy w' none) : DetAt w' d a a' := ⟨h.rows.grown hg, h.marks.grown hg, h.rm, h.mm⟩

theorem Try.cells3 : Try.prog.cellsOf 3 = 1 := by kernel_rfl
theorem Try.cells22 : Try.prog.cellsOf 22 = 1 := by kernel_rfl
theorem Try.cells29 : Try.prog.cellsOf 29 = 4 := by kernel_rfl
theorem Try.laidOut : laidOutB Try.prog = true := by kernel_rfl

theorem add_off (b off i : Nat) : (⟨b, off, none⟩ : Addr).add i = ⟨b, off + i, none⟩ := by
  by_cases hi0 : i = 0
  · subst hi0; simp [Addr.add]
  · simp [Addr.add, hi0]

theorem ints_of_trod {H : Type} {enc : TypeId × Value → H} {W : World} {fuel : Nat} {cs : List Value} {x : DataW H × List MemPlace} (h : DataW.trod enc Try.prog W 0 (fun _ => true) true fuel 22 cs = some x) :
    ∃ a c zs, cs = [.slice a (List.length zs) c] ∧ Ints W a zs ∧ zs.length ≤ maxLen := by
  rcases open_ints Try.underlying22 Try.underlying3 Try.cells3 h with ⟨hcs, _⟩ | ⟨x, len, cap, zs, hcs, _, hl, hm, hz, _, hcell, hwz⟩
  · exact ⟨none, 0, [], hcs, .inl rfl, Nat.zero_le _⟩
  · simp only [if_true] at hz
    have hlen : (zs.take len).length = len := by rw [List.length_take]; omega
    refine ⟨some x, cap, zs.take len, by rw [hlen]; exact hcs, ?_, by rw [hlen]; omega⟩
    by_cases h0 : len = 0
    · left; rw [h0]; rfl
    · right
      obtain ⟨b, off, spot⟩ := x
      have hc := hcell 0 (by omega)
      have hspot : spot = none := by simpa [Addr.add] using World.cell?_spot hc
      subst hspot
      refine ⟨b, off, rfl, fun i hi => ?_⟩
      rw [hlen] at hi
      have := hcell i (by omega)
      rw [add_off] at this
      rw [this]
      simp [List.getD, hi]

set_option maxRecDepth 100000 in
theorem slice_of_trod {H : Type} {enc : TypeId × Value → H} {W : World} {base : Nat} {v : Value} {d : DataW H} {p : List MemPlace} (hv : Value.okWide Try.prog W .any base 22 v) (h : DataW.Trod enc Try.prog W 0 (fun _ => true) true 22 v d p) :
    ∃ a c zs, v = .slice a (List.length zs) c ∧ Ints W a zs ∧ zs.length ≤ maxLen := by
  obtain ⟨a0, len, cap, rfl⟩ := okWide_slice Try.underlying22 hv
  obtain ⟨fuel, hf⟩ := h
  obtain ⟨a, c, zs, hcs, hi, hm⟩ := ints_of_trod hf
  simp only [Value.cells, List.cons.injEq, and_true] at hcs
  exact ⟨a, c, zs, by simpa using hcs, hi, hm⟩

set_option maxRecDepth 100000 in
theorem rows_of_trod {H : Type} {enc : TypeId × Value → H} {W : World} {fuel : Nat} {cs : List Value} {x : DataW H × List MemPlace} (h : DataW.trod enc Try.prog W 0 (fun _ => true) true fuel 27 cs = some x) :
    ∃ a c R, cs = [.slice a (List.length R) c] ∧ RowsAt W a R ∧ R.length ≤ maxLen := by
  rcases Deep.open_int_rows Try.underlying27 Try.underlying22 Try.underlying3 Try.cells22 Try.cells3 h with ⟨hcs, _⟩ | ⟨x, len, cap, A, L, C, Z, hcs, _, hl, hm, _, hr⟩
  · exact ⟨none, 0, [], hcs, .inl rfl, Nat.zero_le _⟩
  · have hlen : ((List.range len).map fun r => (Z r).take (L r)).length = len := by simp
    refine ⟨some x, cap, (List.range len).map fun r => (Z r).take (L r), by rw [hlen]; exact hcs, ?_, by rw [hlen]; omega⟩
    by_cases h0 : len = 0
    · left; rw [h0]; rfl
    · right
      obtain ⟨b, off, spot⟩ := x
      obtain ⟨hc, _⟩ := hr 0 (by omega)
      have hspot : spot = none := by simpa [Addr.add] using World.cell?_spot hc
      subst hspot
      refine ⟨b, off, rfl, fun i hi => ?_⟩
      rw [hlen] at hi
      obtain ⟨k1, k2, k3, k4, _, k6, k7⟩ := hr i (by omega)
      have hg : ((List.range len).map fun r => (Z r).take (L r)).getD i [] = (Z i).take (L i) := by simp [List.getD, hi]
      have hlz : ((Z i).take (L i)).length = L i := by rw [List.length_take]; omega
      rw [add_off] at k1
      rw [hg, hlz]
      refine ⟨A i, C i, k1, ?_, by omega⟩
      by_cases hz : L i = 0
      · left; rw [hz]; rfl
      · right
        cases hA : A i with
        | none => have := k6 hA; omega
        | some y =>
          obtain ⟨k8, k9⟩ := k7 y hA
          obtain ⟨b', off', spot'⟩ := y
          have hc' := k9 0 (by omega)
          have hspot' : spot' = none := by simpa [Addr.add] using World.cell?_spot hc'
          subst hspot'
          refine ⟨b', off', rfl, fun j hj => ?_⟩
          rw [hlz] at hj
          have := k9 j (by omega)
          rw [add_off] at this
          rw [this]
          simp [List.getD, hj]

set_option maxRecDepth 100000 in
theorem det_of_trod {H : Type} {enc : TypeId × Value → H} {W : World} {base : Nat} {v : Value} {d : DataW H} {p : List MemPlace} (hv : Value.okWide Try.prog W .any base 29 v) (h : DataW.Trod enc Try.prog W 0 (fun _ => true) true 29 v d p) :
    ∃ (L S : Int) (a : Option Addr) (c : Nat) (R : List (List Int)) (a' : Option Addr) (c' : Nat) (M : List Int), v = .agg #[.int .i64 L, .int .i64 S, .slice a R.length c, .slice a' M.length c'] ∧ DetAt W ⟨L, S, R, M⟩ a a' ∧
      (Lit.int .i64 L).wf = true ∧ (Lit.int .i64 S).wf = true := by
  obtain ⟨c0, c1, c2, c3, y0, y1, y2, y3, m, rfl, _, _, hy0, hy1, hy2, hy3⟩ := open_agg4 Try.underlying29 (by kernel_rfl) Try.cells29 hv h
  obtain ⟨n0, e0, _, w0⟩ := DataW.trod_int Try.underlying3 hy0
  obtain ⟨n1, e1, _, w1⟩ := DataW.trod_int Try.underlying3 hy1
  obtain ⟨a, c, R, e2, i2, m2⟩ := rows_of_trod hy2
  obtain ⟨a', c', M, e3, i3, m3⟩ := ints_of_trod hy3
  simp only [List.cons.injEq, and_true] at e0 e1 e2 e3
  subst e0 e1 e2 e3
  exact ⟨n0, n1, a, c, R, a', c', M, rfl, ⟨i2, i3, m2, m3⟩, w0, w1⟩

end Go.Proofs.Yteodlmgaemfiiaa

namespace Go.Proofs.Yteodlmgaemfiiaa
open Go.RowKit
set_option linter.unusedVariables false

/-- A truth is told, and nothing old has turned. -/
def TellsB (P : Prop) (w : World) (e : Ending) (w' : World) : Prop := ∃ b, e = .returned (.bool b) ∧ (b = true ↔ P) ∧ w.grownBy w' none
theorem tellsB {P : Prop} {w w' : World} {e : Ending} (b : Bool) (he : e = .returned (.bool b)) (hb : b = true ↔ P) (hg : w.grownBy w' none) : TellsB P w e w' := ⟨b, he, hb, hg⟩

def Shaped (L : Int) (R : List (List Int)) (M : List Int) : Prop := M.length = R.length ∧ ∀ i, i < R.length → ((R.getD i []).length : Int) = L

theorem box4 {w wr : World} {v0 v1 v2 v3 : Value} {t : TypeId} (h : (w.alloc (.cells #[v0, v1, v2, v3] t)).grownBy wr none) :
    wr.cell? ⟨w.heap.size, 0, none⟩ = some v0 ∧ wr.cell? ⟨w.heap.size, 1, none⟩ = some v1 ∧ wr.cell? ⟨w.heap.size, 2, none⟩ = some v2 ∧ wr.cell? ⟨w.heap.size, 3, none⟩ = some v3 := by
  have hb := heap_alloc_new w (.cells #[v0, v1, v2, v3] t)
  have hc : ∀ k v, #[v0, v1, v2, v3][k]? = some v → wr.cell? ⟨w.heap.size, k, none⟩ = some v := fun k v hv => h.cell (by rw [cell_of_row _ _ k _ _ (0, 0) hb]; exact hv) (by simp)
  exact ⟨hc 0 _ rfl, hc 1 _ rfl, hc 2 _ rfl, hc 3 _ rfl⟩

end Go.Proofs.Yteodlmgaemfiiaa

namespace Go.Proofs.Yteodlmgaemfiiaa
open Go.RowKit
set_option linter.unusedVariables false

/-- An automaton as a value. -/
abbrev detV (L S : Int) (a : Option Addr) (n c : Nat) (a' : Option Addr) (n' c' : Nat) : Value := .agg #[.int .i64 L, .int .i64 S, .slice a n c, .slice a' n' c']
/-- A call that answers a known value and writes nothing that was there. -/
def Says (v : Value) (w : World) (e : Ending) (w' : World) : Prop := e = .returned v ∧ w.grownBy w' none
theorem says_of_tells {P : Prop} {w w' : World} {e : Ending} (h : TellsB P w e w') (hP : P) : Says (.bool true) w e w' := by
  obtain ⟨b, h1, h2, h3⟩ := h
  have : b = true := h2.2 hP
  subst this
  exact ⟨h1, h3⟩
theorem says_not {P : Prop} {w w' : World} {e : Ending} (h : TellsB P w e w') (hP : ¬ P) : Says (.bool false) w e w' := by
  obtain ⟨b, h1, h2, h3⟩ := h
  cases b with
  | false => exact ⟨h1, h3⟩
  | true => exact absurd (h2.1 rfl) hP

/-- A box of four. -/
theorem box_new (w : World) (v0 v1 v2 v3 : Value) (t : TypeId) : ∃ W, W = w.alloc (.cells #[v0, v1, v2, v3] t) ∧ w.grownBy W none ∧ W.heap.size = w.heap.size + 1 ∧ ∀ W', W.grownBy W' none → W'.cell? ⟨w.heap.size, 0, none⟩ = some v0 ∧ W'.cell? ⟨w.heap.size, 1, none⟩ = some v1 ∧ W'.cell? ⟨w.heap.size, 2, none⟩ = some v2 ∧ W'.cell? ⟨w.heap.size, 3, none⟩ = some v3 :=
  ⟨_, rfl, grown_alloc _ _, by simp, fun W' h => box4 h⟩

def TellsAny (w : World) (e : Ending) (w' : World) : Prop := ∃ b, e = .returned (.bool b) ∧ w.grownBy w' none

end Go.Proofs.Yteodlmgaemfiiaa

namespace Go.Proofs.Yteodlmgaemfiiaa
open Go.RowKit
set_option linter.unusedVariables false

/-- What a step reads. -/
theorem step_reads {w : World} {L S : Int} {R : List (List Int)} {M : List Int} {a a' : Option Addr} (h : DetAt w ⟨L, S, R, M⟩ a a') (hG : Good ⟨L, S, R, M⟩) {s l : Nat} (hs : s < R.length) (hl : (l : Int) < L) :
    ∃ b off bx ox cx, a = some ⟨b, off, none⟩ ∧ w.cell? ⟨b, off + s, none⟩ = some (.slice (some ⟨bx, ox, none⟩) L.toNat cx) ∧ w.cell? ⟨bx, ox + l, none⟩ = some (.int .i64 ((Dfa.nx ⟨L, S, R, M⟩ s l : Nat) : Int)) := by
  obtain ⟨b, off, ha, hc⟩ := h.rows.at hs
  obtain ⟨x, cx, hck, hix, hlx⟩ := hc s hs
  have hrow := hG.row hs
  have hl' : l < L.toNat := by omega
  simp only at hrow hck hix
  rw [hrow] at hck
  obtain ⟨bx, ox, rfl, hcx⟩ := hix.at (k := l) (by rw [hrow]; exact hl')
  have := hcx l (by rw [hrow]; exact hl')
  have e := hG.nx_eq hs hl'
  simp only at e
  rw [e] at this
  exact ⟨b, off, bx, ox, cx, ha, hck, this⟩

theorem mark_reads {w : World} {L S : Int} {R : List (List Int)} {M : List Int} {a a' : Option Addr} (h : DetAt w ⟨L, S, R, M⟩ a a') (hG : Good ⟨L, S, R, M⟩) {s : Nat} (hs : s < R.length) :
    ∃ b off, a' = some ⟨b, off, none⟩ ∧ w.cell? ⟨b, off + s, none⟩ = some (.int .i64 (M.getD s 0)) := by
  have hl : s < M.length := by have := hG.ml; simp only at this; omega
  obtain ⟨b, off, ha, hc⟩ := h.marks.at hl
  exact ⟨b, off, ha, hc s hl⟩

end Go.Proofs.Yteodlmgaemfiiaa
