/- How long what came in can be. -/
import Derived.Test.YtlnlgjbpkjfbjaaDRows
import Derived.SizedLaws
namespace Go.Proofs.Ytlnlgjbpkjfbjaa
open Go.ChangeShapes Go.WideShapes Go.ChangeAt Go.RowKit Go.Joins
set_option linter.unusedVariables false

theorem Try.bytes3 : Try.prog.bytesOf 3 = 8 := by kernel_rfl
theorem Try.bytes25 : Try.prog.bytesOf 25 = 24 := by kernel_rfl

theorem weightsAll_mem {H : Type} {P : Program} {e : TypeId} : ∀ {l : List (DataW H)} {d : DataW H}, d ∈ l → ∀ n ∈ d.weights P e, n ∈ DataW.weightsAll P e l
  | x :: l, d, h, n, hn => by
    simp only [DataW.weightsAll, List.mem_append]
    rcases List.mem_cons.1 h with rfl | h
    · exact Or.inl hn
    · exact Or.inr (weightsAll_mem h n hn)

theorem weight_of_trod {H : Type} {enc : TypeId × Value → H} {W : World} {fuel : Nat} {a : Option Addr} {n c : Nat} {x : DataW H × List MemPlace} (h : DataW.trod enc Try.prog W 0 (fun _ => true) true fuel 25 [.slice a n c] = some x)
    (hw : ∀ m ∈ x.1.weights Try.prog 25, m ≤ reachBytes) : n ≤ 17592186044416 := by
  rcases open_ints Try.underlying25 Try.underlying3 Try.cells3 h with ⟨hcs, _⟩ | ⟨x', len, cap, zs, hcs, _, hl, hm, hz, hx, hcell, hwz⟩
  · simp only [List.cons.injEq, Value.slice.injEq, and_true] at hcs
    omega
  · simp only [List.cons.injEq, Value.slice.injEq, and_true] at hcs
    subst hx
    simp only [if_true] at hz
    have := hw (((lits (H := H) .i64 (zs.take len)).length + (lits (H := H) .i64 (zs.drop len)).length) * Try.prog.bytesOf 3) (by simp [DataW.weights, Try.underlying25])
    rw [Try.bytes3] at this
    simp only [lits, List.length_map, List.length_take, List.length_drop, reachBytes] at this
    omega

theorem rows_weight {H : Type} {enc : TypeId × Value → H} {W : World} {fuel : Nat} {a : Option Addr} {c : Nat} {R : List (List Int)} {x : DataW H × List MemPlace} (h : DataW.trod enc Try.prog W 0 (fun _ => true) true fuel 31 [.slice a R.length c] = some x)
    (hR : RowsAt W a R) (hw : ∀ m ∈ x.1.weights Try.prog 31, m ≤ reachBytes) : R.length * 24 ≤ 140737488355328 ∧ ∀ i, i < R.length → (R.getD i []).length ≤ 17592186044416 := by
  rcases Deep.open_int_rows Try.underlying31 Try.underlying25 Try.underlying3 Try.cells25 Try.cells3 h with ⟨hcs, _⟩ | ⟨y, len, cap, A, L, C, Z, hcs, _, hl, hm, hx, hr⟩
  · simp only [List.cons.injEq, Value.slice.injEq, and_true] at hcs
    have h0 : R.length = 0 := hcs.2.1
    exact ⟨by omega, fun i hi => by omega⟩
  · simp only [List.cons.injEq, Value.slice.injEq, and_true] at hcs
    obtain ⟨rfl, hlen, rfl⟩ := hcs
    subst hx
    have hu := Try.underlying31
    constructor
    · have := hw (((List.range len).map fun r => Deep.intRow (H := H) .i64 (A r) (L r) (Z r)).length * Try.prog.bytesOf 25 + ((List.range (c - len)).map fun j => Deep.intRow (H := H) .i64 (A (len + j)) (L (len + j)) (Z (len + j))).length * Try.prog.bytesOf 25) (by
        rw [← Nat.add_mul]
        simp [DataW.weights, hu])
      rw [Try.bytes25] at this
      simp only [List.length_map, List.length_range, reachBytes] at this
      omega
    · intro i hi
      obtain ⟨k1, k2, k3, k4, _, k6, k7⟩ := hr i (by omega)
      rcases hR with h0 | ⟨b, off, ha, hc⟩
      · rw [h0] at hi; simp at hi
      · obtain ⟨x2, c2, e1, _, _⟩ := hc i hi
        simp only [Option.some.injEq] at ha
        subst ha
        rw [add_off, e1] at k1
        simp only [Option.some.injEq, Value.slice.injEq] at k1
        rw [k1.2.1]
        cases hA : A i with
        | none => have := k6 hA; omega
        | some z =>
          have hmem : Deep.intRow (H := H) .i64 (A i) (L i) (Z i) ∈ ((List.range len).map fun r => Deep.intRow (H := H) .i64 (A r) (L r) (Z r)) := List.mem_map.2 ⟨i, List.mem_range.2 (by omega), rfl⟩
          have := hw (((lits (H := H) .i64 ((Z i).take (L i))).length + (lits (H := H) .i64 ((Z i).drop (L i))).length) * Try.prog.bytesOf 3) (by
            have h3 := weightsAll_mem (P := Try.prog) (e := 25) hmem (((lits (H := H) .i64 ((Z i).take (L i))).length + (lits (H := H) .i64 ((Z i).drop (L i))).length) * Try.prog.bytesOf 3) (by simp [Deep.intRow, hA, DataW.weights, Try.underlying25])
            simp only [DataW.weights, hu]
            exact List.mem_cons_of_mem _ (List.mem_append_left _ h3))
          rw [Try.bytes3] at this
          simp only [lits, List.length_map, List.length_take, List.length_drop, reachBytes] at this
          omega

end Go.Proofs.Ytlnlgjbpkjfbjaa
