/- Automata that need not know their way, in memory; and among the arguments. -/
import Derived.Test.YtcgkflddipflbaaUSp
import Derived.Test.YtcgkflddipflbaaTls
import Derived.Deep.Slices
namespace Go.Proofs.Ytcgkflddipflbaa
open Go.ChangeShapes Go.WideShapes Go.ChangeAt Go.RowKit Go.Joins
set_option linter.unusedVariables false

/-- Steps lie at an address, three cells each. -/
def StepsAt (w : World) (a : Option Addr) (T : List StepI) : Prop :=
  T = [] ∨ ∃ b off, a = some ⟨b, off, none⟩ ∧ ∀ i, i < T.length → w.cell? ⟨b, off + i * 3, none⟩ = some (.int .i64 (T.getD i (0, 0, 0)).1) ∧ w.cell? ⟨b, off + i * 3 + 1, none⟩ = some (.int .i64 (T.getD i (0, 0, 0)).2.1) ∧ w.cell? ⟨b, off + i * 3 + 2, none⟩ = some (.int .i64 (T.getD i (0, 0, 0)).2.2)
theorem StepsAt.grown {w w' : World} {a : Option Addr} {T : List StepI} (h : StepsAt w a T) (hg : w.grownBy w' none) : StepsAt w' a T := by
  rcases h with h | ⟨b, off, ha, hc⟩
  · exact .inl h
  · refine .inr ⟨b, off, ha, fun i hi => ?_⟩
    obtain ⟨h1, h2, h3⟩ := hc i hi
    exact ⟨hg.cell h1 (by simp), hg.cell h2 (by simp), hg.cell h3 (by simp)⟩
theorem StepsAt.at {w : World} {a : Option Addr} {T : List StepI} (h : StepsAt w a T) {k : Nat} (hk : k < T.length) :
    ∃ b off, a = some ⟨b, off, none⟩ ∧ ∀ i, i < T.length → w.cell? ⟨b, off + i * 3, none⟩ = some (.int .i64 (T.getD i (0, 0, 0)).1) ∧ w.cell? ⟨b, off + i * 3 + 1, none⟩ = some (.int .i64 (T.getD i (0, 0, 0)).2.1) ∧ w.cell? ⟨b, off + i * 3 + 2, none⟩ = some (.int .i64 (T.getD i (0, 0, 0)).2.2) := by
  rcases h with rfl | h
  · simp at hk
  · exact h

/-- An automaton's rows lie there. -/
structure AutAt (w : World) (x : Aut) (a b e : Option Addr) : Prop where
  start : Ints w a x.S
  steps : StepsAt w b x.T
  final : Ints w e x.F
  ms : x.S.length ≤ maxLen
  mt : x.T.length ≤ maxLen
  mf : x.F.length ≤ maxLen
theorem AutAt.grown {w w' : World} {x : Aut} {a b e : Option Addr} (h : AutAt w x a b e) (hg : w.grownBy w' none) : AutAt w' x a b e := ⟨h.start.grown hg, h.steps.grown hg, h.final.grown hg, h.ms, h.mt, h.mf⟩

/-- An automaton as a value. -/
abbrev autV (L N : Int) (a : Option Addr) (n c : Nat) (b : Option Addr) (k d : Nat) (e : Option Addr) (m f : Nat) : Value := .agg #[.int .i64 L, .int .i64 N, .slice a n c, .slice b k d, .slice e m f]

theorem Try.cells73 : Try.prog.cellsOf 73 = 1 := by kernel_rfl
theorem Try.cells78 : Try.prog.cellsOf 78 = 3 := by kernel_rfl
theorem Try.cells75 : Try.prog.cellsOf 75 = 5 := by kernel_rfl

theorem choose_ltU {α : Type} [Inhabited α] {P : Nat → α → Prop} {m : Nat} (h : ∀ i, i < m → ∃ q, P i q) : ∃ f : Nat → α, ∀ i, i < m → P i (f i) := by
  classical
  exact ⟨fun i => if hi : i < m then (h i hi).choose else default, fun i hi => by simp only [hi, dif_pos]; exact (h i hi).choose_spec⟩

set_option maxRecDepth 100000 in
theorem steps_of_trod {H : Type} {enc : TypeId × Value → H} {W : World} {fuel : Nat} {cs : List Value} {x : DataW H × List MemPlace} (h : DataW.trod enc Try.prog W 0 (fun _ => true) true fuel 73 cs = some x) :
    ∃ a c T, cs = [.slice a (List.length T) c] ∧ StepsAt W a T ∧ T.length ≤ maxLen := by
  rcases Deep.open_slice Try.underlying73 h with ⟨hcs, _⟩ | ⟨y, len, cap, m, n, D, Pl, hcs, _, hl, hm, hmm, _, hx⟩
  · exact ⟨none, 0, [], hcs, .inl rfl, Nat.zero_le _⟩
  · simp only [if_true] at hmm
    have each : ∀ i, i < m → ∃ q : StepI, W.cell? (y.add (i * 3)) = some (.int .i64 q.1) ∧ W.cell? (y.add (i * 3 + 1)) = some (.int .i64 q.2.1) ∧ W.cell? (y.add (i * 3 + 2)) = some (.int .i64 q.2.2) := by
      intro i hi
      obtain ⟨cs', h1, h2⟩ := hx i hi
      rw [Try.cells78] at h1
      obtain ⟨_, hlen, hcell⟩ := World.cells?_some h1
      obtain ⟨xs, k, hk, hxy, _, hxl, hf⟩ := DataW.trod_struct Try.underlying78 h2
      match xs, hxl, cs', hlen with
      | [y0, y1, y2], _, [v0, v1, v2], _ =>
        have g0 := hf 0 _ rfl
        have g1 := hf 1 _ rfl
        have g2 := hf 2 _ rfl
        simp [Try.cells3] at g0 g1 g2
        have e0 := hcell 0 (by omega)
        have e1 := hcell 1 (by omega)
        have e2 := hcell 2 (by omega)
        rw [Deep.add_add] at e0 e1 e2
        obtain ⟨n0, z0, _, _⟩ := DataW.trod_int Try.underlying3 g0
        obtain ⟨n1, z1, _, _⟩ := DataW.trod_int Try.underlying3 g1
        obtain ⟨n2, z2, _, _⟩ := DataW.trod_int Try.underlying3 g2
        simp only [List.cons.injEq, and_true] at z0 z1 z2
        subst z0 z1 z2
        exact ⟨(n0, n1, n2), by simpa using e0, by simpa using e1, by simpa using e2⟩
    obtain ⟨q, hq⟩ := choose_ltU each
    have hlen : ((List.range len).map q).length = len := by simp
    refine ⟨some y, cap, (List.range len).map q, by rw [hlen]; exact hcs, ?_, by rw [hlen]; omega⟩
    by_cases h0 : len = 0
    · left; rw [h0]; rfl
    · right
      obtain ⟨b, off, spot⟩ := y
      have hc := (hq 0 (by omega)).1
      have hspot : spot = none := by simpa [Addr.add] using World.cell?_spot hc
      subst hspot
      refine ⟨b, off, rfl, fun i hi => ?_⟩
      rw [hlen] at hi
      obtain ⟨h1, h2, h3⟩ := hq i (by omega)
      rw [add_off] at h1 h2 h3
      have hg : ((List.range len).map q).getD i (0, 0, 0) = q i := by simp [List.getD, hi]
      rw [hg]
      exact ⟨h1, h2, h3⟩

set_option maxRecDepth 100000 in
theorem aut_of_trod {H : Type} {enc : TypeId × Value → H} {W : World} {base : Nat} {v : Value} {d : DataW H} {p : List MemPlace} (hv : Value.okWide Try.prog W .any base 75 v) (h : DataW.Trod enc Try.prog W 0 (fun _ => true) true 75 v d p) :
    ∃ (x : Aut) (a b e : Option Addr) (c d f : Nat), v = autV x.L x.N a x.S.length c b x.T.length d e x.F.length f ∧ AutAt W x a b e ∧ (Lit.int .i64 x.L).wf = true ∧ (Lit.int .i64 x.N).wf = true := by
  obtain ⟨cs, rfl, hsz⟩ := okWide_struct Try.underlying75 hv
  obtain ⟨fuel, hf⟩ := h
  obtain ⟨xs, k, hk, hxy, _, hxl, hf⟩ := DataW.trod_struct Try.underlying75 hf
  rw [Try.cells75] at hsz
  obtain ⟨cs⟩ := cs
  simp only [List.size_toArray] at hsz
  match xs, hxl, cs, hsz with
  | [y0, y1, y2, y3, y4], _, [v0, v1, v2, v3, v4], _ =>
    have g0 := hf 0 _ rfl
    have g1 := hf 1 _ rfl
    have g2 := hf 2 _ rfl
    have g3 := hf 3 _ rfl
    have g4 := hf 4 _ rfl
    simp [Try.cells3, Try.cells23, Try.cells73, Value.cells] at g0 g1 g2 g3 g4
    obtain ⟨n0, e0, _, w0⟩ := DataW.trod_int Try.underlying3 g0
    obtain ⟨n1, e1, _, w1⟩ := DataW.trod_int Try.underlying3 g1
    obtain ⟨a, c, S, e2, i2, m2⟩ := ints_of_trod g2
    obtain ⟨b, c', T, e3, i3, m3⟩ := steps_of_trod g3
    obtain ⟨e, c'', F, e4, i4, m4⟩ := ints_of_trod g4
    simp only [List.cons.injEq, and_true] at e0 e1 e2 e3 e4
    subst e0 e1 e2 e3 e4
    exact ⟨⟨n0, n1, S, T, F⟩, a, b, e, c, c', c'', rfl, ⟨i2, i3, i4, m2, m3, m4⟩, w0, w1⟩

end Go.Proofs.Ytcgkflddipflbaa
