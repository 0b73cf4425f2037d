/- Rows of rows of numbers in memory; and among the arguments. -/
/- Automata in memory; and among the arguments. -/
import Derived.Test.YtcgkflddipflbaaGrow
import Derived.ProofKit
import Derived.OpenShut
import Derived.ShutString
import Derived.ChangeOld
import Derived.Below
import Derived.Lib.SmallJoins
import Derived.Deep.Matrix
import Derived.Test.YtcgkflddipflbaaDSpec
namespace Go.Proofs.Ytcgkflddipflbaa
open Go.ChangeShapes Go.WideShapes Go.ChangeAt Go.RowKit Go.Joins
set_option linter.unusedVariables false

/-- Rows of numbers lie at an address. -/
def RowsAt (w : World) (a : Option Addr) (R : List (List Int)) : Prop :=
  R = [] ∨ ∃ b off, a = some ⟨b, off, none⟩ ∧ ∀ i, i < R.length → ∃ x c, w.cell? ⟨b, off + i, none⟩ = some (.slice x (R.getD i []).length c) ∧ Ints w x (R.getD i []) ∧ (R.getD i []).length ≤ maxLen

theorem RowsAt.grown {w w' : World} {a : Option Addr} {R : List (List Int)} (h : RowsAt w a R) (hg : w.grownBy w' none) : RowsAt w' a R := by
  rcases h with h | ⟨b, off, ha, hc⟩
  · exact .inl h
  · refine .inr ⟨b, off, ha, fun i hi => ?_⟩
    obtain ⟨x, c, h1, h2, h3⟩ := hc i hi
    exact ⟨x, c, hg.cell h1 (by simp), h2.grown hg, h3⟩
theorem RowsAt.at {w : World} {a : Option Addr} {R : List (List Int)} (h : RowsAt w a R) {k : Nat} (hk : k < R.length) :
    ∃ b off, a = some ⟨b, off, none⟩ ∧ ∀ i, i < R.length → ∃ x c, w.cell? ⟨b, off + i, none⟩ = some (.slice x (R.getD i []).length c) ∧ Ints w x (R.getD i []) ∧ (R.getD i []).length ≤ maxLen := by
  rcases h with rfl | h
  · simp at hk
  · exact h

theorem Try.cells3 : Try.prog.cellsOf 3 = 1 := by kernel_rfl
theorem Try.cells23 : Try.prog.cellsOf 23 = 1 := by kernel_rfl
theorem Try.laidOut : laidOutB Try.prog = true := by kernel_rfl

theorem add_off (b off i : Nat) : (⟨b, off, none⟩ : Addr).add i = ⟨b, off + i, none⟩ := by
  by_cases hi0 : i = 0
  · subst hi0; simp [Addr.add]
  · simp [Addr.add, hi0]

theorem ints_of_trod {H : Type} {enc : TypeId × Value → H} {W : World} {fuel : Nat} {cs : List Value} {x : DataW H × List MemPlace} (h : DataW.trod enc Try.prog W 0 (fun _ => true) true fuel 23 cs = some x) :
    ∃ a c zs, cs = [.slice a (List.length zs) c] ∧ Ints W a zs ∧ zs.length ≤ maxLen := by
  rcases open_ints Try.underlying23 Try.underlying3 Try.cells3 h with ⟨hcs, _⟩ | ⟨x, len, cap, zs, hcs, _, hl, hm, hz, _, hcell, hwz⟩
  · exact ⟨none, 0, [], hcs, .inl rfl, Nat.zero_le _⟩
  · simp only [if_true] at hz
    have hlen : (zs.take len).length = len := by rw [List.length_take]; omega
    refine ⟨some x, cap, zs.take len, by rw [hlen]; exact hcs, ?_, by rw [hlen]; omega⟩
    by_cases h0 : len = 0
    · left; rw [h0]; rfl
    · right
      obtain ⟨b, off, spot⟩ := x
      have hc := hcell 0 (by omega)
      have hspot : spot = none := by simpa [Addr.add] using World.cell?_spot hc
      subst hspot
      refine ⟨b, off, rfl, fun i hi => ?_⟩
      rw [hlen] at hi
      have := hcell i (by omega)
      rw [add_off] at this
      rw [this]
      simp [List.getD, hi]

set_option maxRecDepth 100000 in
theorem slice_of_trod {H : Type} {enc : TypeId × Value → H} {W : World} {base : Nat} {v : Value} {d : DataW H} {p : List MemPlace} (hv : Value.okWide Try.prog W .any base 23 v) (h : DataW.Trod enc Try.prog W 0 (fun _ => true) true 23 v d p) :
    ∃ a c zs, v = .slice a (List.length zs) c ∧ Ints W a zs ∧ zs.length ≤ maxLen := by
  obtain ⟨a0, len, cap, rfl⟩ := okWide_slice Try.underlying23 hv
  obtain ⟨fuel, hf⟩ := h
  obtain ⟨a, c, zs, hcs, hi, hm⟩ := ints_of_trod hf
  simp only [Value.cells, List.cons.injEq, and_true] at hcs
  exact ⟨a, c, zs, by simpa using hcs, hi, hm⟩

set_option maxRecDepth 100000 in
theorem rows_of_trod {H : Type} {enc : TypeId × Value → H} {W : World} {fuel : Nat} {cs : List Value} {x : DataW H × List MemPlace} (h : DataW.trod enc Try.prog W 0 (fun _ => true) true fuel 34 cs = some x) :
    ∃ a c R, cs = [.slice a (List.length R) c] ∧ RowsAt W a R ∧ R.length ≤ maxLen := by
  rcases Deep.open_int_rows Try.underlying34 Try.underlying23 Try.underlying3 Try.cells23 Try.cells3 h with ⟨hcs, _⟩ | ⟨x, len, cap, A, L, C, Z, hcs, _, hl, hm, _, hr⟩
  · exact ⟨none, 0, [], hcs, .inl rfl, Nat.zero_le _⟩
  · have hlen : ((List.range len).map fun r => (Z r).take (L r)).length = len := by simp
    refine ⟨some x, cap, (List.range len).map fun r => (Z r).take (L r), by rw [hlen]; exact hcs, ?_, by rw [hlen]; omega⟩
    by_cases h0 : len = 0
    · left; rw [h0]; rfl
    · right
      obtain ⟨b, off, spot⟩ := x
      obtain ⟨hc, _⟩ := hr 0 (by omega)
      have hspot : spot = none := by simpa [Addr.add] using World.cell?_spot hc
      subst hspot
      refine ⟨b, off, rfl, fun i hi => ?_⟩
      rw [hlen] at hi
      obtain ⟨k1, k2, k3, k4, _, k6, k7⟩ := hr i (by omega)
      have hg : ((List.range len).map fun r => (Z r).take (L r)).getD i [] = (Z i).take (L i) := by simp [List.getD, hi]
      have hlz : ((Z i).take (L i)).length = L i := by rw [List.length_take]; omega
      rw [add_off] at k1
      rw [hg, hlz]
      refine ⟨A i, C i, k1, ?_, by omega⟩
      by_cases hz : L i = 0
      · left; rw [hz]; rfl
      · right
        cases hA : A i with
        | none => have := k6 hA; omega
        | some y =>
          obtain ⟨k8, k9⟩ := k7 y hA
          obtain ⟨b', off', spot'⟩ := y
          have hc' := k9 0 (by omega)
          have hspot' : spot' = none := by simpa [Addr.add] using World.cell?_spot hc'
          subst hspot'
          refine ⟨b', off', rfl, fun j hj => ?_⟩
          rw [hlz] at hj
          have := k9 j (by omega)
          rw [add_off] at this
          rw [this]
          simp [List.getD, hj]

end Go.Proofs.Ytcgkflddipflbaa

namespace Go.Proofs.Ytcgkflddipflbaa
open Go.ChangeShapes Go.WideShapes Go.ChangeAt Go.RowKit Go.Joins
set_option linter.unusedVariables false

/-- An automaton's rows and marks lie there. -/
structure DetAt (w : World) (d : Dfa) (a a' : Option Addr) : Prop where
  rows : RowsAt w a d.R
  marks : Ints w a' d.M
  rm : d.R.length ≤ maxLen
  mm : d.M.length ≤ maxLen

theorem DetAt.grown {w w' : World} {d : Dfa} {a a' : Option Addr} (h : DetAt w d a a') (hg : w.grownBy w' none) : DetAt w' d a a' := ⟨h.rows.grown hg, h.marks.grown hg, h.rm, h.mm⟩

theorem Try.cells36 : Try.prog.cellsOf 36 = 4 := by kernel_rfl

set_option maxRecDepth 100000 in
theorem det_of_trod {H : Type} {enc : TypeId × Value → H} {W : World} {base : Nat} {v : Value} {d : DataW H} {p : List MemPlace} (hv : Value.okWide Try.prog W .any base 36 v) (h : DataW.Trod enc Try.prog W 0 (fun _ => true) true 36 v d p) :
    ∃ (L S : Int) (a : Option Addr) (c : Nat) (R : List (List Int)) (a' : Option Addr) (c' : Nat) (M : List Int), v = .agg #[.int .i64 L, .int .i64 S, .slice a R.length c, .slice a' M.length c'] ∧ DetAt W ⟨L, S, R, M⟩ a a' ∧
      (Lit.int .i64 L).wf = true ∧ (Lit.int .i64 S).wf = true := by
  obtain ⟨c0, c1, c2, c3, y0, y1, y2, y3, m, rfl, _, _, hy0, hy1, hy2, hy3⟩ := open_agg4 Try.underlying36 (by kernel_rfl) Try.cells36 hv h
  obtain ⟨n0, e0, _, w0⟩ := DataW.trod_int Try.underlying3 hy0
  obtain ⟨n1, e1, _, w1⟩ := DataW.trod_int Try.underlying3 hy1
  obtain ⟨a, c, R, e2, i2, m2⟩ := rows_of_trod hy2
  obtain ⟨a', c', M, e3, i3, m3⟩ := ints_of_trod hy3
  simp only [List.cons.injEq, and_true] at e0 e1 e2 e3
  subst e0 e1 e2 e3
  exact ⟨n0, n1, a, c, R, a', c', M, rfl, ⟨i2, i3, m2, m3⟩, w0, w1⟩

end Go.Proofs.Ytcgkflddipflbaa
