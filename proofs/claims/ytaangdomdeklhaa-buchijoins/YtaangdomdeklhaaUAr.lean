/- An automaton that need not know its way, among the arguments, with their sizes. -/
/- A lasso among the arguments. -/
import Derived.Test.YtaangdomdeklhaaUAu
import Derived.Test.YtaangdomdeklhaaMyP
import Derived.SizedLaws
namespace Go.Proofs.Ytaangdomdeklhaa
open Go.ChangeShapes Go.WideShapes Go.ChangeAt Go.RowKit Go.Joins
set_option linter.unusedVariables false

theorem Try.bytes3 : Try.prog.bytesOf 3 = 8 := by kernel_rfl
theorem Try.bytes22 : Try.prog.bytesOf 22 = 24 := by kernel_rfl

theorem weightsAll_mem {H : Type} {P : Program} {e : TypeId} : ∀ {l : List (DataW H)} {d : DataW H}, d ∈ l → ∀ n ∈ d.weights P e, n ∈ DataW.weightsAll P e l
  | x :: l, d, h, n, hn => by
    simp only [DataW.weightsAll, List.mem_append]
    rcases List.mem_cons.1 h with rfl | h
    · exact Or.inl hn
    · exact Or.inr (weightsAll_mem h n hn)

theorem weight_of_trod {H : Type} {enc : TypeId × Value → H} {W : World} {fuel : Nat} {a : Option Addr} {n c : Nat} {x : DataW H × List MemPlace} (h : DataW.trod enc Try.prog W 0 (fun _ => true) true fuel 22 [.slice a n c] = some x)
    (hw : ∀ m ∈ x.1.weights Try.prog 22, m ≤ reachBytes) : n ≤ 17592186044416 := by
  rcases open_ints Try.underlying22 Try.underlying3 Try.cells3 h with ⟨hcs, _⟩ | ⟨x', len, cap, zs, hcs, _, hl, hm, hz, hx, hcell, hwz⟩
  · simp only [List.cons.injEq, Value.slice.injEq, and_true] at hcs
    omega
  · simp only [List.cons.injEq, Value.slice.injEq, and_true] at hcs
    subst hx
    simp only [if_true] at hz
    have := hw (((lits (H := H) .i64 (zs.take len)).length + (lits (H := H) .i64 (zs.drop len)).length) * Try.prog.bytesOf 3) (by simp [DataW.weights, Try.underlying22])
    rw [Try.bytes3] at this
    simp only [lits, List.length_map, List.length_take, List.length_drop, reachBytes] at this
    omega

theorem Try.bytes53 : Try.prog.bytesOf 53 = 24 := by kernel_rfl

/-- A word that may be, in numbers. -/
theorem may_word {l : Nat} {zs : List Int} (h : mayF l zs = 0) : ∃ us : List Nat, zs = natInts us ∧ (∀ x, x ∈ us → x < l) ∧ us.length ≤ 60 := by
  unfold mayF at h
  split at h
  · cases h
  · split at h
    · cases h
    · split at h
      · next h1 =>
        have h2 : ∀ x, x ∈ zs → 0 ≤ x ∧ x < (l : Int) := fun x hx => by simpa using List.all_eq_true.1 h1 x hx
        refine ⟨zs.map Int.toNat, ?_, ?_, by rw [List.length_map]; omega⟩
        · unfold natInts
          rw [List.map_map]
          have : zs = zs.map id := (List.map_id zs).symm
          conv => lhs; rw [this]
          refine List.map_congr_left fun x hx => ?_
          have := h2 x hx
          simp
          omega
        · intro x hx
          obtain ⟨y, hy, rfl⟩ := List.mem_map.1 hx
          have := h2 y hy
          omega
      · cases h

set_option maxRecDepth 100000 in
theorem steps_sized {H : Type} {enc : TypeId × Value → H} {W : World} {fuel : Nat} {a : Option Addr} {n c : Nat} {x : DataW H × List MemPlace} (h : DataW.trod enc Try.prog W 0 (fun _ => true) true fuel 23 [.slice a n c] = some x)
    (hw : ∀ m ∈ x.1.weights Try.prog 23, m ≤ reachBytes) : n * 24 ≤ 140737488355328 ∧ (a = none → c = 0) := by
  rcases Deep.open_slice Try.underlying23 h with ⟨hcs, _⟩ | ⟨y, len, cap, m, k, D, Pl, hcs, _, hl, hm, hmm, hx, _⟩
  · simp only [List.cons.injEq, Value.slice.injEq, and_true] at hcs
    exact ⟨by omega, fun _ => hcs.2.2⟩
  · simp only [List.cons.injEq, Value.slice.injEq, and_true] at hcs
    subst hx
    simp only [if_true] at hmm
    refine ⟨?_, fun h0 => by rw [hcs.1] at h0; cases h0⟩
    have := hw (((List.range len).map D).length * Try.prog.bytesOf 53 + ((List.range (m - len)).map fun j => D (len + j)).length * Try.prog.bytesOf 53) (by
      rw [← Nat.add_mul]
      simp [DataW.weights, Try.underlying23])
    rw [Try.bytes53] at this
    simp only [List.length_map, List.length_range, reachBytes] at this
    omega

set_option maxRecDepth 100000 in
theorem aut_sized {H : Type} {enc : TypeId × Value → H} {W : World} {base : Nat} {v : Value} {dd : DataW H} {p : List MemPlace} (hv : Value.okWide Try.prog W .any base 25 v) (h : DataW.Trod enc Try.prog W 0 (fun _ => true) true 25 v dd p) (hw : ∀ m ∈ dd.weights Try.prog 25, m ≤ reachBytes) :
    ∃ (x : Aut) (a b e : Option Addr) (c d f : Nat), v = autV x.L x.N a x.S.length c b x.T.length d e x.F.length f ∧ AutAt W x a b e ∧ x.S.length ≤ 17592186044416 ∧ x.F.length ≤ 17592186044416 ∧ x.T.length * 24 ≤ 140737488355328 ∧ (b = none → d = 0) := by
  obtain ⟨cs, rfl, hsz⟩ := okWide_struct Try.underlying25 hv
  obtain ⟨fuel, hf⟩ := h
  obtain ⟨xs, k, hk, hxy, _, hxl, hf⟩ := DataW.trod_struct Try.underlying25 hf
  rw [Try.cells25] at hsz
  obtain ⟨cs⟩ := cs
  simp only [List.size_toArray] at hsz
  match xs, hxl, cs, hsz with
  | [y0, y1, y2, y3, y4], _, [v0, v1, v2, v3, v4], _ =>
    have g0 := hf 0 _ rfl
    have g1 := hf 1 _ rfl
    have g2 := hf 2 _ rfl
    have g3 := hf 3 _ rfl
    have g4 := hf 4 _ rfl
    simp [Try.cells3, Try.cells22, Try.cells23, Value.cells] at g0 g1 g2 g3 g4
    obtain ⟨n0, e0, _, w0⟩ := DataW.trod_int Try.underlying3 g0
    obtain ⟨n1, e1, _, w1⟩ := DataW.trod_int Try.underlying3 g1
    obtain ⟨a, c, S, e2, i2, m2⟩ := ints_of_trod g2
    obtain ⟨b, c', T, e3, i3, m3⟩ := steps_of_trod g3
    obtain ⟨e, c'', F, e4, i4, m4⟩ := ints_of_trod g4
    simp only [List.cons.injEq, and_true] at e0 e1 e2 e3 e4
    subst e0 e1 e2 e3 e4
    simp only [Prod.mk.injEq] at hxy
    have hd : dd = .agg [y0.1, y1.1, y2.1, y3.1, y4.1] := by simpa using hxy.1
    subst hd
    have hw2 : ∀ m ∈ y2.1.weights Try.prog 22, m ≤ reachBytes := fun m hm => hw m (by
      simp [DataW.weights, Try.underlying25, DataW.weightsEach]
      exact .inr (.inr (.inl hm)))
    have hw3 : ∀ m ∈ y3.1.weights Try.prog 23, m ≤ reachBytes := fun m hm => hw m (by
      simp [DataW.weights, Try.underlying25, DataW.weightsEach]
      exact .inr (.inr (.inr (.inl hm))))
    have hw4 : ∀ m ∈ y4.1.weights Try.prog 22, m ≤ reachBytes := fun m hm => hw m (by
      simp [DataW.weights, Try.underlying25, DataW.weightsEach]
      exact .inr (.inr (.inr (.inr hm))))
    obtain ⟨z1, z2⟩ := steps_sized g3 hw3
    exact ⟨⟨n0, n1, S, T, F⟩, a, b, e, c, c', c'', rfl, ⟨i2, i3, i4, m2, m3, m4⟩, weight_of_trod g2 hw2, weight_of_trod g4 hw4, z1, z2⟩

end Go.Proofs.Ytaangdomdeklhaa

namespace Go.Proofs.Ytaangdomdeklhaa
open Go.ChangeShapes Go.WideShapes Go.ChangeAt Go.RowKit Go.Joins
set_option linter.unusedVariables false

theorem Try.cells42 : Try.prog.cellsOf 42 = 2 := by kernel_rfl
set_option maxRecDepth 100000 in
theorem las_of_trod {H : Type} {enc : TypeId × Value → H} {W : World} {base : Nat} {v : Value} {dd : DataW H} {p : List MemPlace} (hv : Value.okWide Try.prog W .any base 42 v) (h : DataW.Trod enc Try.prog W 0 (fun _ => true) true 42 v dd p) :
    ∃ (a a' : Option Addr) (c c' : Nat) (hs ls : List Int), v = .agg #[.slice a hs.length c, .slice a' ls.length c'] ∧ Ints W a hs ∧ Ints W a' ls ∧ hs.length ≤ maxLen ∧ ls.length ≤ maxLen := by
  obtain ⟨cs, rfl, hsz⟩ := okWide_struct Try.underlying42 hv
  obtain ⟨fuel, hf⟩ := h
  obtain ⟨xs, k, hk, hxy, _, hxl, hf⟩ := DataW.trod_struct Try.underlying42 hf
  rw [Try.cells42] at hsz
  obtain ⟨cs⟩ := cs
  simp only [List.size_toArray] at hsz
  match xs, hxl, cs, hsz with
  | [y0, y1], _, [v0, v1], _ =>
    have g0 := hf 0 _ rfl
    have g1 := hf 1 _ rfl
    simp [Try.cells22, Value.cells] at g0 g1
    obtain ⟨a, c, S, e0, i0, m0⟩ := ints_of_trod g0
    obtain ⟨a', c', F, e1, i1, m1⟩ := ints_of_trod g1
    simp only [List.cons.injEq, and_true] at e0 e1
    subst e0 e1
    exact ⟨a, a', c, c', S, F, rfl, i0, i1, m0, m1⟩

end Go.Proofs.Ytaangdomdeklhaa
