/- Lassos among the arguments, opened with the room behind their heads. -/
import Derived.Test.YthccdfjmkdcehaaOpen
namespace Go.Proofs.Ythccdfjmkdcehaa
open Go.ChangeShapes Go.WideShapes Go.ChangeAt Go.RowKit Go.Joins
set_option linter.unusedVariables false

theorem cap_of_trod {H : Type} {enc : TypeId × Value → H} {W : World} {fuel : Nat} {a : Option Addr} {n c : Nat} {x : DataW H × List MemPlace} (h : DataW.trod enc Try.prog W 0 (fun _ => true) true fuel 26 [.slice a n c] = some x) : n ≤ c := by
  rcases open_ints Try.underlying26 Try.underlying3 Try.cells3 h with ⟨hcs, _⟩ | ⟨x, len, cap, zs, hcs, _, hl, hm, hz, _, hcell, hwz⟩
  · simp only [List.cons.injEq, Value.slice.injEq, and_true] at hcs
    omega
  · simp only [List.cons.injEq, Value.slice.injEq, and_true] at hcs
    omega

theorem lasso_of_trod2 {H : Type} {enc : TypeId × Value → H} {W : World} {base : Nat} {v : Value} {d : DataW H} {p : List MemPlace} (hv : Value.okWide Try.prog W .any base 30 v) (h : DataW.Trod enc Try.prog W 0 (fun _ => true) true 30 v d p) :
    ∃ a c hs a' c' ls, v = .agg #[.slice a (List.length hs) c, .slice a' (List.length ls) c'] ∧ Ints W a hs ∧ Ints W a' ls ∧ hs.length ≤ maxLen ∧ ls.length ≤ maxLen ∧ hs.length ≤ c ∧ ls.length ≤ c' := by
  obtain ⟨c0, c1, y0, y1, m, rfl, _, _, hy0, hy1⟩ := open_agg2 Try.underlying30 (by kernel_rfl) Try.cells30 hv h
  obtain ⟨a, c, zs, e0, i0, m0⟩ := ints_of_trod hy0
  obtain ⟨a', c', zs', e1, i1, m1⟩ := ints_of_trod hy1
  simp only [List.cons.injEq, and_true] at e0 e1
  subst e0 e1
  exact ⟨a, c, zs, a', c', zs', rfl, i0, i1, m0, m1, cap_of_trod hy0, cap_of_trod hy1⟩

end Go.Proofs.Ythccdfjmkdcehaa
