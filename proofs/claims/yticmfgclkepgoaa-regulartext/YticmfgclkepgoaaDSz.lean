/- How long what came in can be. -/
/- An automaton among the arguments, with how long it can be. (Parted from DLeastProof.) -/
import Derived.Test.YticmfgclkepgoaaDBs
import Derived.SizedLaws
namespace Go.Proofs.Yticmfgclkepgoaa
open Go.ChangeShapes Go.WideShapes Go.ChangeAt Go.RowKit Go.Joins
set_option linter.unusedVariables false

theorem Try.bytes3 : Try.prog.bytesOf 3 = 8 := by kernel_rfl
theorem Try.bytes23 : Try.prog.bytesOf 23 = 24 := by kernel_rfl

theorem weightsAll_mem {H : Type} {P : Program} {e : TypeId} : ∀ {l : List (DataW H)} {d : DataW H}, d ∈ l → ∀ n ∈ d.weights P e, n ∈ DataW.weightsAll P e l
  | x :: l, d, h, n, hn => by
    simp only [DataW.weightsAll, List.mem_append]
    rcases List.mem_cons.1 h with rfl | h
    · exact Or.inl hn
    · exact Or.inr (weightsAll_mem h n hn)

theorem weight_of_trod {H : Type} {enc : TypeId × Value → H} {W : World} {fuel : Nat} {a : Option Addr} {n c : Nat} {x : DataW H × List MemPlace} (h : DataW.trod enc Try.prog W 0 (fun _ => true) true fuel 23 [.slice a n c] = some x)
    (hw : ∀ m ∈ x.1.weights Try.prog 23, m ≤ reachBytes) : n ≤ 17592186044416 := by
  rcases open_ints Try.underlying23 Try.underlying3 Try.cells3 h with ⟨hcs, _⟩ | ⟨x', len, cap, zs, hcs, _, hl, hm, hz, hx, hcell, hwz⟩
  · simp only [List.cons.injEq, Value.slice.injEq, and_true] at hcs
    omega
  · simp only [List.cons.injEq, Value.slice.injEq, and_true] at hcs
    subst hx
    simp only [if_true] at hz
    have := hw (((lits (H := H) .i64 (zs.take len)).length + (lits (H := H) .i64 (zs.drop len)).length) * Try.prog.bytesOf 3) (by simp [DataW.weights, Try.underlying23])
    rw [Try.bytes3] at this
    simp only [lits, List.length_map, List.length_take, List.length_drop, reachBytes] at this
    omega

theorem rows_weight {H : Type} {enc : TypeId × Value → H} {W : World} {fuel : Nat} {a : Option Addr} {c : Nat} {R : List (List Int)} {x : DataW H × List MemPlace} (h : DataW.trod enc Try.prog W 0 (fun _ => true) true fuel 22 [.slice a R.length c] = some x)
    (hR : RowsAt W a R) (hw : ∀ m ∈ x.1.weights Try.prog 22, m ≤ reachBytes) : R.length * 24 ≤ 140737488355328 ∧ ∀ i, i < R.length → (R.getD i []).length ≤ 17592186044416 := by
  rcases Deep.open_int_rows Try.underlying22 Try.underlying23 Try.underlying3 Try.cells23 Try.cells3 h with ⟨hcs, _⟩ | ⟨y, len, cap, A, L, C, Z, hcs, _, hl, hm, hx, hr⟩
  · simp only [List.cons.injEq, Value.slice.injEq, and_true] at hcs
    have h0 : R.length = 0 := hcs.2.1
    exact ⟨by omega, fun i hi => by omega⟩
  · simp only [List.cons.injEq, Value.slice.injEq, and_true] at hcs
    obtain ⟨rfl, hlen, rfl⟩ := hcs
    subst hx
    have hu := Try.underlying22
    constructor
    · have := hw (((List.range len).map fun r => Deep.intRow (H := H) .i64 (A r) (L r) (Z r)).length * Try.prog.bytesOf 23 + ((List.range (c - len)).map fun j => Deep.intRow (H := H) .i64 (A (len + j)) (L (len + j)) (Z (len + j))).length * Try.prog.bytesOf 23) (by
        rw [← Nat.add_mul]
        simp [DataW.weights, hu])
      rw [Try.bytes23] at this
      simp only [List.length_map, List.length_range, reachBytes] at this
      omega
    · intro i hi
      obtain ⟨k1, k2, k3, k4, _, k6, k7⟩ := hr i (by omega)
      rcases hR with h0 | ⟨b, off, ha, hc⟩
      · rw [h0] at hi; simp at hi
      · obtain ⟨x2, c2, e1, _, _⟩ := hc i hi
        simp only [Option.some.injEq] at ha
        subst ha
        rw [add_off, e1] at k1
        simp only [Option.some.injEq, Value.slice.injEq] at k1
        rw [k1.2.1]
        cases hA : A i with
        | none => have := k6 hA; omega
        | some z =>
          have hmem : Deep.intRow (H := H) .i64 (A i) (L i) (Z i) ∈ ((List.range len).map fun r => Deep.intRow (H := H) .i64 (A r) (L r) (Z r)) := List.mem_map.2 ⟨i, List.mem_range.2 (by omega), rfl⟩
          have := hw (((lits (H := H) .i64 ((Z i).take (L i))).length + (lits (H := H) .i64 ((Z i).drop (L i))).length) * Try.prog.bytesOf 3) (by
            have h3 := weightsAll_mem (P := Try.prog) (e := 23) hmem (((lits (H := H) .i64 ((Z i).take (L i))).length + (lits (H := H) .i64 ((Z i).drop (L i))).length) * Try.prog.bytesOf 3) (by simp [Deep.intRow, hA, DataW.weights, Try.underlying23])
            simp only [DataW.weights, hu]
            exact List.mem_cons_of_mem _ (List.mem_append_left _ h3))
          rw [Try.bytes3] at this
          simp only [lits, List.length_map, List.length_take, List.length_drop, reachBytes] at this
          omega

end Go.Proofs.Yticmfgclkepgoaa

namespace Go.Proofs.Yticmfgclkepgoaa
open Go.ChangeShapes Go.WideShapes Go.ChangeAt Go.RowKit Go.Joins
set_option linter.unusedVariables false

set_option maxRecDepth 100000 in
theorem det_sized {H : Type} {enc : TypeId × Value → H} {W : World} {base : Nat} {v : Value} {d : DataW H} {p : List MemPlace} (hv : Value.okWide Try.prog W .any base 25 v) (h : DataW.Trod enc Try.prog W 0 (fun _ => true) true 25 v d p) (hw : ∀ m ∈ d.weights Try.prog 25, m ≤ reachBytes) :
    ∃ (L S : Int) (a : Option Addr) (c : Nat) (R : List (List Int)) (a' : Option Addr) (c' : Nat) (M : List Int), v = .agg #[.int .i64 L, .int .i64 S, .slice a R.length c, .slice a' M.length c'] ∧ DetAt W ⟨L, S, R, M⟩ a a' ∧
      R.length * 24 ≤ 140737488355328 ∧ (∀ i, i < R.length → (R.getD i []).length ≤ 17592186044416) ∧ M.length ≤ 17592186044416 := by
  obtain ⟨c0, c1, c2, c3, y0, y1, y2, y3, m, rfl, rfl, _, hy0, hy1, hy2, hy3⟩ := open_agg4 Try.underlying25 (by kernel_rfl) Try.cells25 hv h
  obtain ⟨n0, e0, _, w0⟩ := DataW.trod_int Try.underlying3 hy0
  obtain ⟨n1, e1, _, w1⟩ := DataW.trod_int Try.underlying3 hy1
  obtain ⟨a, c, R, e2, i2, m2⟩ := rows_of_trod hy2
  obtain ⟨a', c', M, e3, i3, m3⟩ := ints_of_trod hy3
  simp only [List.cons.injEq, and_true] at e0 e1 e2 e3
  subst e0 e1 e2 e3
  have hw2 : ∀ m ∈ y2.1.weights Try.prog 22, m ≤ reachBytes := fun m hm => hw m (by
    simp [DataW.weights, Try.underlying25, DataW.weightsEach]
    exact .inr (.inr (.inl hm)))
  have hw3 : ∀ m ∈ y3.1.weights Try.prog 23, m ≤ reachBytes := fun m hm => hw m (by
    simp [DataW.weights, Try.underlying25, DataW.weightsEach]
    exact .inr (.inr (.inr hm)))
  obtain ⟨z1, z2⟩ := rows_weight hy2 i2 hw2
  exact ⟨n0, n1, a, c, R, a', c', M, rfl, ⟨i2, i3, m2, m3⟩, z1, z2, weight_of_trod hy3 hw3⟩

end Go.Proofs.Yticmfgclkepgoaa
