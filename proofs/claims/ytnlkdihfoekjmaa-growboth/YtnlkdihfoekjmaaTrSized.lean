/- An automaton of trees among the arguments, with its sizes. -/
import Derived.Test.YtnlkdihfoekjmaaTrBase
import Derived.SizedLaws
namespace Go.Proofs.Ytnlkdihfoekjmaa
open Go.ChangeShapes Go.WideShapes Go.ChangeAt Go.RowKit Go.Joins
set_option linter.unusedVariables false

theorem Try.bytes3 : Try.prog.bytesOf 3 = 8 := by kernel_rfl
theorem Try.bytes47 : Try.prog.bytesOf 47 = 32 := by kernel_rfl
theorem weight_of_trod {H : Type} {enc : TypeId × Value → H} {W : World} {fuel : Nat} {a : Option Addr} {n c : Nat} {x : DataW H × List MemPlace} (h : DataW.trod enc Try.prog W 0 (fun _ => true) true fuel 23 [.slice a n c] = some x)
    (hw : ∀ m ∈ x.1.weights Try.prog 23, m ≤ reachBytes) : n ≤ 17592186044416 := by
  rcases open_ints Try.underlying23 Try.underlying3 Try.cells3 h with ⟨hcs, _⟩ | ⟨x', len, cap, zs, hcs, _, hl, hm, hz, hx, hcell, hwz⟩
  · simp only [List.cons.injEq, Value.slice.injEq, and_true] at hcs
    omega
  · simp only [List.cons.injEq, Value.slice.injEq, and_true] at hcs
    subst hx
    simp only [if_true] at hz
    have := hw (((lits (H := H) .i64 (zs.take len)).length + (lits (H := H) .i64 (zs.drop len)).length) * Try.prog.bytesOf 3) (by simp [DataW.weights, Try.underlying23])
    rw [Try.bytes3] at this
    simp only [lits, List.length_map, List.length_take, List.length_drop, reachBytes] at this
    omega
set_option maxRecDepth 100000 in
theorem rules_sized {H : Type} {enc : TypeId × Value → H} {W : World} {fuel : Nat} {a : Option Addr} {n c : Nat} {x : DataW H × List MemPlace} (h : DataW.trod enc Try.prog W 0 (fun _ => true) true fuel 22 [.slice a n c] = some x)
    (hw : ∀ m ∈ x.1.weights Try.prog 22, m ≤ reachBytes) : n * 32 ≤ 140737488355328 ∧ (a = none → c = 0) := by
  rcases Deep.open_slice Try.underlying22 h with ⟨hcs, _⟩ | ⟨y, len, cap, m, k, D, Pl, hcs, _, hl, hm, hmm, hx, _⟩
  · simp only [List.cons.injEq, Value.slice.injEq, and_true] at hcs
    exact ⟨by omega, fun _ => hcs.2.2⟩
  · simp only [List.cons.injEq, Value.slice.injEq, and_true] at hcs
    subst hx
    simp only [if_true] at hmm
    refine ⟨?_, fun h0 => by rw [hcs.1] at h0; cases h0⟩
    have := hw (((List.range len).map D).length * Try.prog.bytesOf 47 + ((List.range (m - len)).map fun j => D (len + j)).length * Try.prog.bytesOf 47) (by
      rw [← Nat.add_mul]
      simp [DataW.weights, Try.underlying22])
    rw [Try.bytes47] at this
    simp only [List.length_map, List.length_range, reachBytes] at this
    omega
set_option maxRecDepth 100000 in
theorem trs_sized {H : Type} {enc : TypeId × Value → H} {W : World} {base : Nat} {v : Value} {dd : DataW H} {p : List MemPlace} (hv : Value.okWide Try.prog W .any base 25 v) (h : DataW.Trod enc Try.prog W 0 (fun _ => true) true 25 v dd p) (hw : ∀ m ∈ dd.weights Try.prog 25, m ≤ reachBytes) :
    ∃ (x : Trs) (b e : Option Addr) (d f : Nat), v = trsV x.L x.N b x.R.length d x.S e x.M.length f ∧ TrsAt W x b e ∧ x.R.length * 32 ≤ 140737488355328 ∧ x.M.length ≤ 17592186044416 ∧ (b = none → d = 0) := by
  obtain ⟨cs, rfl, hsz⟩ := okWide_struct Try.underlying25 hv
  obtain ⟨fuel, hf⟩ := h
  obtain ⟨xs, k, hk, hxy, _, hxl, hf⟩ := DataW.trod_struct Try.underlying25 hf
  rw [Try.cells25] at hsz
  obtain ⟨cs⟩ := cs
  simp only [List.size_toArray] at hsz
  match xs, hxl, cs, hsz with
  | [y0, y1, y2, y3, y4], _, [v0, v1, v2, v3, v4], _ =>
    have g0 := hf 0 _ rfl
    have g1 := hf 1 _ rfl
    have g2 := hf 2 _ rfl
    have g3 := hf 3 _ rfl
    have g4 := hf 4 _ rfl
    simp [Try.cells3, Try.cells23, Try.cells22, Value.cells] at g0 g1 g2 g3 g4
    obtain ⟨n0, e0, _, w0⟩ := DataW.trod_int Try.underlying3 g0
    obtain ⟨n1, e1, _, w1⟩ := DataW.trod_int Try.underlying3 g1
    obtain ⟨b, c', T, e2, i2, m2⟩ := rules_of_trod g2
    obtain ⟨n3, e3, _, w3⟩ := DataW.trod_int Try.underlying3 g3
    obtain ⟨e, c'', F, e4, i4, m4⟩ := ints_of_trod g4
    simp only [List.cons.injEq, and_true] at e0 e1 e2 e3 e4
    subst e0 e1 e2 e3 e4
    simp only [Prod.mk.injEq] at hxy
    have hd : dd = .agg [y0.1, y1.1, y2.1, y3.1, y4.1] := by simpa using hxy.1
    subst hd
    have hw2 : ∀ m ∈ y2.1.weights Try.prog 22, m ≤ reachBytes := fun m hm => hw m (by
      simp [DataW.weights, Try.underlying25, DataW.weightsEach]
      exact .inr (.inr (.inl hm)))
    have hw4 : ∀ m ∈ y4.1.weights Try.prog 23, m ≤ reachBytes := fun m hm => hw m (by
      simp [DataW.weights, Try.underlying25, DataW.weightsEach]
      exact .inr (.inr (.inr (.inr hm))))
    obtain ⟨z1, z2⟩ := rules_sized g2 hw2
    exact ⟨⟨n0, n1, T, n3, F⟩, b, e, c', c'', rfl, ⟨i2, i4, m2, m4⟩, z1, weight_of_trod g4 hw4, z2⟩

end Go.Proofs.Ytnlkdihfoekjmaa
