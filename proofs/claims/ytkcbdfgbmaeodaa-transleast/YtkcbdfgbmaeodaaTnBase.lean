/- Transducers in memory; and among the arguments. -/
import Derived.Test.YtkcbdfgbmaeodaaTnSpec
import Derived.Test.YtkcbdfgbmaeodaaDRows
import Derived.Test.YtkcbdfgbmaeodaaTell
import Derived.Test.YtkcbdfgbmaeodaaSay
import Derived.Deep.Slices
namespace Go.Proofs.Ytkcbdfgbmaeodaa
open Go.ChangeShapes Go.WideShapes Go.ChangeAt Go.RowKit Go.Joins
set_option linter.unusedVariables false

/-- Rows of words lie at an address. -/
def TabAt (w : World) (a : Option Addr) (Y : List (List (List Int))) : Prop :=
  Y = [] ∨ ∃ b off, a = some ⟨b, off, none⟩ ∧ ∀ i, i < Y.length → ∃ x c, w.cell? ⟨b, off + i, none⟩ = some (.slice x (Y.getD i []).length c) ∧ RowsAt w x (Y.getD i []) ∧ (Y.getD i []).length ≤ maxLen
theorem TabAt.grown {w w' : World} {a : Option Addr} {Y : List (List (List Int))} (h : TabAt w a Y) (hg : w.grownBy w' none) : TabAt w' a Y := by
  rcases h with h | ⟨b, off, ha, hc⟩
  · exact .inl h
  · refine .inr ⟨b, off, ha, fun i hi => ?_⟩
    obtain ⟨x, c, h1, h2, h3⟩ := hc i hi
    exact ⟨x, c, hg.cell h1 (by simp), h2.grown hg, h3⟩
theorem TabAt.at {w : World} {a : Option Addr} {Y : List (List (List Int))} (h : TabAt w a Y) {k : Nat} (hk : k < Y.length) :
    ∃ b off, a = some ⟨b, off, none⟩ ∧ ∀ i, i < Y.length → ∃ x c, w.cell? ⟨b, off + i, none⟩ = some (.slice x (Y.getD i []).length c) ∧ RowsAt w x (Y.getD i []) ∧ (Y.getD i []).length ≤ maxLen := by
  rcases h with rfl | h
  · simp at hk
  · exact h

structure TnAt (w : World) (x : TrI) (a3 a4 a5 a6 : Option Addr) : Prop where
  first : Ints w a3 x.F
  next : RowsAt w a4 x.N
  says : TabAt w a5 x.Y
  last : RowsAt w a6 x.E
  m3 : x.F.length ≤ maxLen
  m4 : x.N.length ≤ maxLen
  m5 : x.Y.length ≤ maxLen
  m6 : x.E.length ≤ maxLen
theorem TnAt.grown {w w' : World} {x : TrI} {a3 a4 a5 a6 : Option Addr} (h : TnAt w x a3 a4 a5 a6) (hg : w.grownBy w' none) : TnAt w' x a3 a4 a5 a6 := ⟨h.first.grown hg, h.next.grown hg, h.says.grown hg, h.last.grown hg, h.m3, h.m4, h.m5, h.m6⟩
abbrev tnV (I O S : Int) (a3 : Option Addr) (n3 c3 : Nat) (a4 : Option Addr) (n4 c4 : Nat) (a5 : Option Addr) (n5 c5 : Nat) (a6 : Option Addr) (n6 c6 : Nat) : Value := .agg #[.int .i64 I, .int .i64 O, .int .i64 S, .slice a3 n3 c3, .slice a4 n4 c4, .slice a5 n5 c5, .slice a6 n6 c6]
/-- A transducer's box. -/
structure Box7 (W : World) (b : Nat) (I O S : Int) (a3 : Option Addr) (n3 c3 : Nat) (a4 : Option Addr) (n4 c4 : Nat) (a5 : Option Addr) (n5 c5 : Nat) (a6 : Option Addr) (n6 c6 : Nat) : Prop where
  b0 : W.cell? ⟨b, 0, none⟩ = some (.int .i64 I)
  b1 : W.cell? ⟨b, 1, none⟩ = some (.int .i64 O)
  b2 : W.cell? ⟨b, 2, none⟩ = some (.int .i64 S)
  b3 : W.cell? ⟨b, 3, none⟩ = some (.slice a3 n3 c3)
  b4 : W.cell? ⟨b, 4, none⟩ = some (.slice a4 n4 c4)
  b5 : W.cell? ⟨b, 5, none⟩ = some (.slice a5 n5 c5)
  b6 : W.cell? ⟨b, 6, none⟩ = some (.slice a6 n6 c6)
theorem Box7.grown {W W' : World} {b : Nat} {I O S : Int} {a3 : Option Addr} {n3 c3 : Nat} {a4 : Option Addr} {n4 c4 : Nat} {a5 : Option Addr} {n5 c5 : Nat} {a6 : Option Addr} {n6 c6 : Nat} (h : Box7 W b I O S a3 n3 c3 a4 n4 c4 a5 n5 c5 a6 n6 c6) (g : W.grownBy W' none) : Box7 W' b I O S a3 n3 c3 a4 n4 c4 a5 n5 c5 a6 n6 c6 :=
  ⟨g.cell h.b0 (by simp), g.cell h.b1 (by simp), g.cell h.b2 (by simp), g.cell h.b3 (by simp), g.cell h.b4 (by simp), g.cell h.b5 (by simp), g.cell h.b6 (by simp)⟩
abbrev tnO (I O S : Int) (a3 : Option Addr) (n3 c3 : Nat) (a4 : Option Addr) (n4 c4 : Nat) (a5 : Option Addr) (n5 c5 : Nat) (a6 : Option Addr) (n6 c6 : Nat) : Obj := .cells #[.int .i64 I, .int .i64 O, .int .i64 S, .slice a3 n3 c3, .slice a4 n4 c4, .slice a5 n5 c5, .slice a6 n6 c6] 26
theorem box7_new (w : World) (I O S : Int) (a3 : Option Addr) (n3 c3 : Nat) (a4 : Option Addr) (n4 c4 : Nat) (a5 : Option Addr) (n5 c5 : Nat) (a6 : Option Addr) (n6 c6 : Nat) : ∃ W, W = w.alloc (tnO I O S a3 n3 c3 a4 n4 c4 a5 n5 c5 a6 n6 c6) ∧ w.grownBy W none ∧ W.heap.size = w.heap.size + 1 ∧ Box7 W w.heap.size I O S a3 n3 c3 a4 n4 c4 a5 n5 c5 a6 n6 c6 := by
  refine ⟨_, rfl, grown_alloc _ _, by simp, ?_⟩
  have hb := heap_alloc_new w (tnO I O S a3 n3 c3 a4 n4 c4 a5 n5 c5 a6 n6 c6)
  have hc : ∀ k v, #[Value.int .i64 I, .int .i64 O, .int .i64 S, .slice a3 n3 c3, .slice a4 n4 c4, .slice a5 n5 c5, .slice a6 n6 c6][k]? = some v → (w.alloc (tnO I O S a3 n3 c3 a4 n4 c4 a5 n5 c5 a6 n6 c6)).cell? ⟨w.heap.size, k, none⟩ = some v := fun k v hv => by rw [cell_of_row _ _ k _ _ (0, 0) hb]; exact hv
  exact ⟨hc 0 _ rfl, hc 1 _ rfl, hc 2 _ rfl, hc 3 _ rfl, hc 4 _ rfl, hc 5 _ rfl, hc 6 _ rfl⟩

theorem Try.cells23 : Try.prog.cellsOf 23 = 1 := by kernel_rfl
theorem Try.cells24 : Try.prog.cellsOf 24 = 1 := by kernel_rfl
theorem Try.cells26 : Try.prog.cellsOf 26 = 7 := by kernel_rfl
theorem choose_ltN {α : Type} [Inhabited α] {P : Nat → α → Prop} {m : Nat} (h : ∀ i, i < m → ∃ q, P i q) : ∃ f : Nat → α, ∀ i, i < m → P i (f i) := by
  classical
  exact ⟨fun i => if hi : i < m then (h i hi).choose else default, fun i hi => by simp only [hi, dif_pos]; exact (h i hi).choose_spec⟩

set_option maxRecDepth 100000 in
theorem tab_of_trod {H : Type} {enc : TypeId × Value → H} {W : World} {fuel : Nat} {cs : List Value} {x : DataW H × List MemPlace} (h : DataW.trod enc Try.prog W 0 (fun _ => true) true fuel 24 cs = some x) :
    ∃ a c T, cs = [.slice a (List.length T) c] ∧ TabAt W a T ∧ T.length ≤ maxLen := by
  rcases Deep.open_slice Try.underlying24 h with ⟨hcs, _⟩ | ⟨y, len, cap, m, n, D, Pl, hcs, _, hl, hm, hmm, _, hx⟩
  · exact ⟨none, 0, [], hcs, .inl rfl, Nat.zero_le _⟩
  · simp only [if_true] at hmm
    have each : ∀ i, i < m → ∃ q : Option Addr × Nat × List (List Int), W.cell? (y.add i) = some (.slice q.1 q.2.2.length q.2.1) ∧ RowsAt W q.1 q.2.2 ∧ q.2.2.length ≤ maxLen := by
      intro i hi
      obtain ⟨cs', h1, h2⟩ := hx i hi
      rw [Try.cells23] at h1
      obtain ⟨_, hlen, hcell⟩ := World.cells?_some h1
      match cs', hlen with
      | [v0], _ =>
        have e0 := hcell 0 (by omega)
        rw [Deep.add_add] at e0
        obtain ⟨a, c, R, z0, hr, hmR⟩ := rows_of_trod h2
        simp only [List.cons.injEq, and_true] at z0
        subst z0
        exact ⟨(a, c, R), by simpa using e0, hr, hmR⟩
    obtain ⟨q, hq⟩ := choose_ltN each
    have hlen : ((List.range len).map fun i => (q i).2.2).length = len := by simp
    refine ⟨some y, cap, (List.range len).map fun i => (q i).2.2, by rw [hlen]; exact hcs, ?_, by rw [hlen]; omega⟩
    by_cases h0 : len = 0
    · left; rw [h0]; rfl
    · right
      obtain ⟨b, off, spot⟩ := y
      have hc := (hq 0 (by omega)).1
      have hspot : spot = none := by simpa [Addr.add] using World.cell?_spot hc
      subst hspot
      refine ⟨b, off, rfl, fun i hi => ?_⟩
      rw [hlen] at hi
      obtain ⟨h1, h2, h3⟩ := hq i (by omega)
      rw [add_off] at h1
      have hg : ((List.range len).map fun i => (q i).2.2).getD i [] = (q i).2.2 := by simp [List.getD, hi]
      rw [hg]
      exact ⟨_, _, h1, h2, h3⟩

theorem ints_cap {H : Type} {enc : TypeId × Value → H} {W : World} {fuel : Nat} {a : Option Addr} {n c : Nat} {x : DataW H × List MemPlace} (h : DataW.trod enc Try.prog W 0 (fun _ => true) true fuel 22 [.slice a n c] = some x) : n ≤ c := by
  rcases open_ints Try.underlying22 Try.underlying3 Try.cells3 h with ⟨hcs, _⟩ | ⟨x', len, cap, zs, hcs, _, hl, hm, hz, _⟩
  · simp only [List.cons.injEq, Value.slice.injEq, and_true] at hcs
    omega
  · simp only [List.cons.injEq, Value.slice.injEq, and_true] at hcs
    omega

set_option maxRecDepth 100000 in
theorem tn_of_trod {H : Type} {enc : TypeId × Value → H} {W : World} {base : Nat} {v : Value} {d : DataW H} {p : List MemPlace} (hv : Value.okWide Try.prog W .any base 26 v) (h : DataW.Trod enc Try.prog W 0 (fun _ => true) true 26 v d p) :
    ∃ (x : TrI) (a3 a4 a5 a6 : Option Addr) (c3 c4 c5 c6 : Nat), v = tnV x.I x.O x.S a3 x.F.length c3 a4 x.N.length c4 a5 x.Y.length c5 a6 x.E.length c6 ∧ TnAt W x a3 a4 a5 a6 ∧ (Lit.int .i64 x.I).wf = true ∧ (Lit.int .i64 x.O).wf = true ∧ (Lit.int .i64 x.S).wf = true ∧ x.F.length ≤ c3 := by
  obtain ⟨cs, rfl, hsz⟩ := okWide_struct Try.underlying26 hv
  obtain ⟨fuel, hf⟩ := h
  obtain ⟨xs, k, hk, hxy, _, hxl, hf⟩ := DataW.trod_struct Try.underlying26 hf
  rw [Try.cells26] at hsz
  obtain ⟨cs⟩ := cs
  simp only [List.size_toArray] at hsz
  match xs, hxl, cs, hsz with
  | [y0, y1, y2, y3, y4, y5, y6], _, [v0, v1, v2, v3, v4, v5, v6], _ =>
    have g0 := hf 0 _ rfl
    have g1 := hf 1 _ rfl
    have g2 := hf 2 _ rfl
    have g3 := hf 3 _ rfl
    have g4 := hf 4 _ rfl
    have g5 := hf 5 _ rfl
    have g6 := hf 6 _ rfl
    simp [Try.cells3, Try.cells22, Try.cells23, Try.cells24, Value.cells] at g0 g1 g2 g3 g4 g5 g6
    obtain ⟨n0, e0, _, w0⟩ := DataW.trod_int Try.underlying3 g0
    obtain ⟨n1, e1, _, w1⟩ := DataW.trod_int Try.underlying3 g1
    obtain ⟨n2, e2, _, w2⟩ := DataW.trod_int Try.underlying3 g2
    obtain ⟨a3, c3, F, e3, i3, m3⟩ := ints_of_trod g3
    obtain ⟨a4, c4, N, e4, i4, m4⟩ := rows_of_trod g4
    obtain ⟨a5, c5, Y, e5, i5, m5⟩ := tab_of_trod g5
    obtain ⟨a6, c6, E, e6, i6, m6⟩ := rows_of_trod g6
    simp only [List.cons.injEq, and_true] at e0 e1 e2 e3 e4 e5 e6
    subst e0 e1 e2 e3 e4 e5 e6
    exact ⟨⟨n0, n1, n2, F, N, Y, E⟩, a3, a4, a5, a6, c3, c4, c5, c6, rfl, ⟨i3, i4, i5, i6, m3, m4, m5, m6⟩, w0, w1, w2, ints_cap g3⟩

end Go.Proofs.Ytkcbdfgbmaeodaa
