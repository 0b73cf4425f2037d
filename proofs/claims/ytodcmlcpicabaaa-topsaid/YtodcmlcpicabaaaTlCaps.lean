/- Transducers among the arguments: their last words have room for themselves. -/
import Derived.Test.YtodcmlcpicabaaaCts
namespace Go.Proofs.Ytodcmlcpicabaaa
open Go.ChangeShapes Go.WideShapes Go.ChangeAt Go.RowKit Go.Joins
set_option linter.unusedVariables false

theorem rowsC_of_trod {H : Type} {enc : TypeId × Value → H} {W : World} {fuel : Nat} {cs : List Value} {x : DataW H × List MemPlace} (h : DataW.trod enc Try.prog W 0 (fun _ => true) true fuel 23 cs = some x) :
    ∃ a c R, cs = [.slice a (List.length R) c] ∧ RowsAt W a R ∧ R.length ≤ maxLen ∧ CapsAt W a R := by
  rcases Deep.open_int_rows Try.underlying23 Try.underlying22 Try.underlying3 Try.cells22 Try.cells3 h with ⟨hcs, _⟩ | ⟨x, len, cap, A, L, C, Z, hcs, _, hl, hm, _, hr⟩
  · exact ⟨none, 0, [], hcs, .inl rfl, Nat.zero_le _, .inl rfl⟩
  · have hlen : ((List.range len).map fun r => (Z r).take (L r)).length = len := by simp
    refine ⟨some x, cap, (List.range len).map fun r => (Z r).take (L r), by rw [hlen]; exact hcs, ?_, by rw [hlen]; omega, ?_⟩
    · by_cases h0 : len = 0
      · left; rw [h0]; rfl
      · right
        obtain ⟨b, off, spot⟩ := x
        obtain ⟨hc, _⟩ := hr 0 (by omega)
        have hspot : spot = none := by simpa [Addr.add] using World.cell?_spot hc
        subst hspot
        refine ⟨b, off, rfl, fun i hi => ?_⟩
        rw [hlen] at hi
        obtain ⟨k1, k2, k3, k4, _, k6, k7⟩ := hr i (by omega)
        have hg : ((List.range len).map fun r => (Z r).take (L r)).getD i [] = (Z i).take (L i) := by simp [List.getD, hi]
        have hlz : ((Z i).take (L i)).length = L i := by rw [List.length_take]; omega
        rw [add_off] at k1
        rw [hg, hlz]
        refine ⟨A i, C i, k1, ?_, by omega⟩
        by_cases hz : L i = 0
        · left; rw [hz]; rfl
        · right
          cases hA : A i with
          | none => have := k6 hA; omega
          | some y =>
            obtain ⟨k8, k9⟩ := k7 y hA
            obtain ⟨b', off', spot'⟩ := y
            have hc' := k9 0 (by omega)
            have hspot' : spot' = none := by simpa [Addr.add] using World.cell?_spot hc'
            subst hspot'
            refine ⟨b', off', rfl, fun j hj => ?_⟩
            rw [hlz] at hj
            have := k9 j (by omega)
            rw [add_off] at this
            rw [this]
            simp [List.getD, hj]
    · by_cases h0 : len = 0
      · left; rw [h0]; rfl
      · right
        obtain ⟨b, off, spot⟩ := x
        obtain ⟨hc, _⟩ := hr 0 (by omega)
        have hspot : spot = none := by simpa [Addr.add] using World.cell?_spot hc
        subst hspot
        refine ⟨b, off, rfl, fun i hi => ?_⟩
        rw [hlen] at hi
        obtain ⟨k1, k2, k3, k4, _, k6, k7⟩ := hr i (by omega)
        have hg : ((List.range len).map fun r => (Z r).take (L r)).getD i [] = (Z i).take (L i) := by simp [List.getD, hi]
        have hlz : ((Z i).take (L i)).length = L i := by rw [List.length_take]; omega
        rw [add_off] at k1
        rw [hg, hlz]
        exact ⟨A i, C i, k1, k2⟩

theorem tnC_of_trod {H : Type} {enc : TypeId × Value → H} {W : World} {base : Nat} {v : Value} {d : DataW H} {p : List MemPlace} (hv : Value.okWide Try.prog W .any base 26 v) (h : DataW.Trod enc Try.prog W 0 (fun _ => true) true 26 v d p) :
    ∃ (x : TrI) (a3 a4 a5 a6 : Option Addr) (c3 c4 c5 c6 : Nat), v = tnV x.I x.O x.S a3 x.F.length c3 a4 x.N.length c4 a5 x.Y.length c5 a6 x.E.length c6 ∧ TnAt W x a3 a4 a5 a6 ∧ (Lit.int .i64 x.I).wf = true ∧ (Lit.int .i64 x.O).wf = true ∧ (Lit.int .i64 x.S).wf = true ∧ CapsAt W a6 x.E := by
  obtain ⟨cs, rfl, hsz⟩ := okWide_struct Try.underlying26 hv
  obtain ⟨fuel, hf⟩ := h
  obtain ⟨xs, k, hk, hxy, _, hxl, hf⟩ := DataW.trod_struct Try.underlying26 hf
  rw [Try.cells26] at hsz
  obtain ⟨cs⟩ := cs
  simp only [List.size_toArray] at hsz
  match xs, hxl, cs, hsz with
  | [y0, y1, y2, y3, y4, y5, y6], _, [v0, v1, v2, v3, v4, v5, v6], _ =>
    have g0 := hf 0 _ rfl
    have g1 := hf 1 _ rfl
    have g2 := hf 2 _ rfl
    have g3 := hf 3 _ rfl
    have g4 := hf 4 _ rfl
    have g5 := hf 5 _ rfl
    have g6 := hf 6 _ rfl
    simp [Try.cells3, Try.cells22, Try.cells23, Try.cells24, Value.cells] at g0 g1 g2 g3 g4 g5 g6
    obtain ⟨n0, e0, _, w0⟩ := DataW.trod_int Try.underlying3 g0
    obtain ⟨n1, e1, _, w1⟩ := DataW.trod_int Try.underlying3 g1
    obtain ⟨n2, e2, _, w2⟩ := DataW.trod_int Try.underlying3 g2
    obtain ⟨a3, c3, F, e3, i3, m3⟩ := ints_of_trod g3
    obtain ⟨a4, c4, N, e4, i4, m4⟩ := rows_of_trod g4
    obtain ⟨a5, c5, Y, e5, i5, m5⟩ := tab_of_trod g5
    obtain ⟨a6, c6, E, e6, i6, m6, k6⟩ := rowsC_of_trod g6
    simp only [List.cons.injEq, and_true] at e0 e1 e2 e3 e4 e5 e6
    subst e0 e1 e2 e3 e4 e5 e6
    exact ⟨⟨n0, n1, n2, F, N, Y, E⟩, a3, a4, a5, a6, c3, c4, c5, c6, rfl, ⟨i3, i4, i5, i6, m3, m4, m5, m6⟩, w0, w1, w2, k6⟩

end Go.Proofs.Ytodcmlcpicabaaa
