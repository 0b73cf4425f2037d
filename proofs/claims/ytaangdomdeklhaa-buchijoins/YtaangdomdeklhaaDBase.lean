/- Automata in memory; and among the arguments. -/
import Derived.Test.YtaangdomdeklhaaDSpec
import Derived.Test.YtaangdomdeklhaaDRows
import Derived.ProofKit
import Derived.OpenShut
import Derived.ShutString
import Derived.ChangeOld
import Derived.Below
import Derived.Lib.SmallJoins
import Derived.Deep.Matrix
namespace Go.Proofs.Ytaangdomdeklhaa
open Go.ChangeShapes Go.WideShapes Go.ChangeAt Go.RowKit Go.Joins
set_option linter.unusedVariables false

/-- An automaton's rows and marks lie there. -/
structure DetAt (w : World) (d : Dfa) (a a' : Option Addr) : Prop where
  rows : RowsAt w a d.R
  marks : Ints w a' d.M
  rm : d.R.length ≤ maxLen
  mm : d.M.length ≤ maxLen

theorem DetAt.grown {w w' : World} {d : Dfa} {a a' : Option Addr} (h : DetAt w d a a') (hg : w.grownBy w' none) : DetAt w' d a a' := ⟨h.rows.grown hg, h.marks.grown hg, h.rm, h.mm⟩

theorem Try.cells29 : Try.prog.cellsOf 29 = 4 := by kernel_rfl

set_option maxRecDepth 100000 in
theorem det_of_trod {H : Type} {enc : TypeId × Value → H} {W : World} {base : Nat} {v : Value} {d : DataW H} {p : List MemPlace} (hv : Value.okWide Try.prog W .any base 29 v) (h : DataW.Trod enc Try.prog W 0 (fun _ => true) true 29 v d p) :
    ∃ (L S : Int) (a : Option Addr) (c : Nat) (R : List (List Int)) (a' : Option Addr) (c' : Nat) (M : List Int), v = .agg #[.int .i64 L, .int .i64 S, .slice a R.length c, .slice a' M.length c'] ∧ DetAt W ⟨L, S, R, M⟩ a a' ∧
      (Lit.int .i64 L).wf = true ∧ (Lit.int .i64 S).wf = true := by
  obtain ⟨c0, c1, c2, c3, y0, y1, y2, y3, m, rfl, _, _, hy0, hy1, hy2, hy3⟩ := open_agg4 Try.underlying29 (by kernel_rfl) Try.cells29 hv h
  obtain ⟨n0, e0, _, w0⟩ := DataW.trod_int Try.underlying3 hy0
  obtain ⟨n1, e1, _, w1⟩ := DataW.trod_int Try.underlying3 hy1
  obtain ⟨a, c, R, e2, i2, m2⟩ := rows_of_trod hy2
  obtain ⟨a', c', M, e3, i3, m3⟩ := ints_of_trod hy3
  simp only [List.cons.injEq, and_true] at e0 e1 e2 e3
  subst e0 e1 e2 e3
  exact ⟨n0, n1, a, c, R, a', c', M, rfl, ⟨i2, i3, m2, m3⟩, w0, w1⟩

end Go.Proofs.Ytaangdomdeklhaa
