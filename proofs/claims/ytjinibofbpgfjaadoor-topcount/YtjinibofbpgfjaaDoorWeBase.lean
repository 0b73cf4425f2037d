/- Weighing automata in memory; and among the arguments. -/
import Derived.Test.YtjinibofbpgfjaaDoorWeSpec
import Derived.Test.YtjinibofbpgfjaaDoorDRows
import Derived.Test.YtjinibofbpgfjaaDoorTell
import Derived.Test.YtjinibofbpgfjaaDoorSay
import Derived.Deep.Slices
namespace Go.Proofs.YtjinibofbpgfjaaDoor
open Go.ChangeShapes Go.WideShapes Go.ChangeAt Go.RowKit Go.Joins
set_option linter.unusedVariables false
set_option linter.unusedSimpArgs false

/-- Rows of words lie at an address. -/
def TabAt (w : World) (a : Option Addr) (Y : List (List (List Int))) : Prop :=
  Y = [] ∨ ∃ b off, a = some ⟨b, off, none⟩ ∧ ∀ i, i < Y.length → ∃ x c, w.cell? ⟨b, off + i, none⟩ = some (.slice x (Y.getD i []).length c) ∧ RowsAt w x (Y.getD i []) ∧ (Y.getD i []).length ≤ maxLen
theorem TabAt.grown {w w' : World} {a : Option Addr} {Y : List (List (List Int))} (h : TabAt w a Y) (hg : w.grownBy w' none) : TabAt w' a Y := by
  rcases h with h | ⟨b, off, ha, hc⟩
  · exact .inl h
  · refine .inr ⟨b, off, ha, fun i hi => ?_⟩
    obtain ⟨x, c, h1, h2, h3⟩ := hc i hi
    exact ⟨x, c, hg.cell h1 (by simp), h2.grown hg, h3⟩
theorem TabAt.at {w : World} {a : Option Addr} {Y : List (List (List Int))} (h : TabAt w a Y) {k : Nat} (hk : k < Y.length) :
    ∃ b off, a = some ⟨b, off, none⟩ ∧ ∀ i, i < Y.length → ∃ x c, w.cell? ⟨b, off + i, none⟩ = some (.slice x (Y.getD i []).length c) ∧ RowsAt w x (Y.getD i []) ∧ (Y.getD i []).length ≤ maxLen := by
  rcases h with rfl | h
  · simp at hk
  · exact h

structure WgAt (w : World) (x : WgI) (a1 a2 a3 : Option Addr) : Prop where
  first : Ints w a1 x.F
  step : TabAt w a2 x.S
  last : Ints w a3 x.E
  m1 : x.F.length ≤ maxLen
  m2 : x.S.length ≤ maxLen
  m3 : x.E.length ≤ maxLen
theorem WgAt.grown {w w' : World} {x : WgI} {a1 a2 a3 : Option Addr} (h : WgAt w x a1 a2 a3) (hg : w.grownBy w' none) : WgAt w' x a1 a2 a3 := ⟨h.first.grown hg, h.step.grown hg, h.last.grown hg, h.m1, h.m2, h.m3⟩
abbrev wgV (L : Int) (a1 : Option Addr) (n1 c1 : Nat) (a2 : Option Addr) (n2 c2 : Nat) (a3 : Option Addr) (n3 c3 : Nat) : Value := .agg #[.int .i64 L, .slice a1 n1 c1, .slice a2 n2 c2, .slice a3 n3 c3]
/-- A weighing automaton's box. -/
structure Box4 (W : World) (b : Nat) (L : Int) (a1 : Option Addr) (n1 c1 : Nat) (a2 : Option Addr) (n2 c2 : Nat) (a3 : Option Addr) (n3 c3 : Nat) : Prop where
  b0 : W.cell? ⟨b, 0, none⟩ = some (.int .i64 L)
  b1 : W.cell? ⟨b, 1, none⟩ = some (.slice a1 n1 c1)
  b2 : W.cell? ⟨b, 2, none⟩ = some (.slice a2 n2 c2)
  b3 : W.cell? ⟨b, 3, none⟩ = some (.slice a3 n3 c3)
theorem Box4.grown {W W' : World} {b : Nat} {L : Int} {a1 : Option Addr} {n1 c1 : Nat} {a2 : Option Addr} {n2 c2 : Nat} {a3 : Option Addr} {n3 c3 : Nat} (h : Box4 W b L a1 n1 c1 a2 n2 c2 a3 n3 c3) (g : W.grownBy W' none) : Box4 W' b L a1 n1 c1 a2 n2 c2 a3 n3 c3 :=
  ⟨g.cell h.b0 (by simp), g.cell h.b1 (by simp), g.cell h.b2 (by simp), g.cell h.b3 (by simp)⟩
abbrev wgO (L : Int) (a1 : Option Addr) (n1 c1 : Nat) (a2 : Option Addr) (n2 c2 : Nat) (a3 : Option Addr) (n3 c3 : Nat) : Obj := .cells #[.int .i64 L, .slice a1 n1 c1, .slice a2 n2 c2, .slice a3 n3 c3] 25
theorem box4_new (w : World) (L : Int) (a1 : Option Addr) (n1 c1 : Nat) (a2 : Option Addr) (n2 c2 : Nat) (a3 : Option Addr) (n3 c3 : Nat) : ∃ W, W = w.alloc (wgO L a1 n1 c1 a2 n2 c2 a3 n3 c3) ∧ w.grownBy W none ∧ W.heap.size = w.heap.size + 1 ∧ Box4 W w.heap.size L a1 n1 c1 a2 n2 c2 a3 n3 c3 := by
  refine ⟨_, rfl, grown_alloc _ _, by simp, ?_⟩
  have hb := heap_alloc_new w (wgO L a1 n1 c1 a2 n2 c2 a3 n3 c3)
  have hc : ∀ k v, #[Value.int .i64 L, .slice a1 n1 c1, .slice a2 n2 c2, .slice a3 n3 c3][k]? = some v → (w.alloc (wgO L a1 n1 c1 a2 n2 c2 a3 n3 c3)).cell? ⟨w.heap.size, k, none⟩ = some v := fun k v hv => by rw [cell_of_row _ _ k _ _ (0, 0) hb]; exact hv
  exact ⟨hc 0 _ rfl, hc 1 _ rfl, hc 2 _ rfl, hc 3 _ rfl⟩

theorem Tryd.cells36 : Tryd.prog.cellsOf 36 = 1 := by kernel_rfl
theorem Tryd.cells23 : Tryd.prog.cellsOf 23 = 1 := by kernel_rfl
theorem Tryd.cells25 : Tryd.prog.cellsOf 25 = 4 := by kernel_rfl
theorem choose_ltN {α : Type} [Inhabited α] {P : Nat → α → Prop} {m : Nat} (h : ∀ i, i < m → ∃ q, P i q) : ∃ f : Nat → α, ∀ i, i < m → P i (f i) := by
  classical
  exact ⟨fun i => if hi : i < m then (h i hi).choose else default, fun i hi => by simp only [hi, dif_pos]; exact (h i hi).choose_spec⟩

set_option maxRecDepth 100000 in
theorem tab_of_trod {H : Type} {enc : TypeId × Value → H} {W : World} {fuel : Nat} {cs : List Value} {x : DataW H × List MemPlace} (h : DataW.trod enc Tryd.prog W 0 (fun _ => true) true fuel 23 cs = some x) :
    ∃ a c T, cs = [.slice a (List.length T) c] ∧ TabAt W a T ∧ T.length ≤ maxLen := by
  rcases Deep.open_slice Tryd.underlying23 h with ⟨hcs, _⟩ | ⟨y, len, cap, m, n, D, Pl, hcs, _, hl, hm, hmm, _, hx⟩
  · exact ⟨none, 0, [], hcs, .inl rfl, Nat.zero_le _⟩
  · simp only [if_true] at hmm
    have each : ∀ i, i < m → ∃ q : Option Addr × Nat × List (List Int), W.cell? (y.add i) = some (.slice q.1 q.2.2.length q.2.1) ∧ RowsAt W q.1 q.2.2 ∧ q.2.2.length ≤ maxLen := by
      intro i hi
      obtain ⟨cs', h1, h2⟩ := hx i hi
      rw [Tryd.cells36] at h1
      obtain ⟨_, hlen, hcell⟩ := World.cells?_some h1
      match cs', hlen with
      | [v0], _ =>
        have e0 := hcell 0 (by omega)
        rw [Deep.add_add] at e0
        obtain ⟨a, c, R, z0, hr, hmR⟩ := rows_of_trod h2
        simp only [List.cons.injEq, and_true] at z0
        subst z0
        exact ⟨(a, c, R), by simpa using e0, hr, hmR⟩
    obtain ⟨q, hq⟩ := choose_ltN each
    have hlen : ((List.range len).map fun i => (q i).2.2).length = len := by simp
    refine ⟨some y, cap, (List.range len).map fun i => (q i).2.2, by rw [hlen]; exact hcs, ?_, by rw [hlen]; omega⟩
    by_cases h0 : len = 0
    · left; rw [h0]; rfl
    · right
      obtain ⟨b, off, spot⟩ := y
      have hc := (hq 0 (by omega)).1
      have hspot : spot = none := by simpa [Addr.add] using World.cell?_spot hc
      subst hspot
      refine ⟨b, off, rfl, fun i hi => ?_⟩
      rw [hlen] at hi
      obtain ⟨h1, h2, h3⟩ := hq i (by omega)
      rw [add_off] at h1
      have hg : ((List.range len).map fun i => (q i).2.2).getD i [] = (q i).2.2 := by simp [List.getD, hi]
      rw [hg]
      exact ⟨_, _, h1, h2, h3⟩

theorem ints_cap {H : Type} {enc : TypeId × Value → H} {W : World} {fuel : Nat} {a : Option Addr} {n c : Nat} {x : DataW H × List MemPlace} (h : DataW.trod enc Tryd.prog W 0 (fun _ => true) true fuel 22 [.slice a n c] = some x) : n ≤ c := by
  rcases open_ints Tryd.underlying22 Tryd.underlying3 Tryd.cells3 h with ⟨hcs, _⟩ | ⟨x', len, cap, zs, hcs, _, hl, hm, hz, _⟩
  · simp only [List.cons.injEq, Value.slice.injEq, and_true] at hcs
    omega
  · simp only [List.cons.injEq, Value.slice.injEq, and_true] at hcs
    omega

set_option maxRecDepth 100000 in
theorem wg_of_trod {H : Type} {enc : TypeId × Value → H} {W : World} {base : Nat} {v : Value} {d : DataW H} {p : List MemPlace} (hv : Value.okWide Tryd.prog W .any base 25 v) (h : DataW.Trod enc Tryd.prog W 0 (fun _ => true) true 25 v d p) :
    ∃ (x : WgI) (a1 a2 a3 : Option Addr) (c1 c2 c3 : Nat), v = wgV x.L a1 x.F.length c1 a2 x.S.length c2 a3 x.E.length c3 ∧ WgAt W x a1 a2 a3 ∧ (Lit.int .i64 x.L).wf = true ∧ (x.F.length ≤ c1 ∧ x.E.length ≤ c3) := by
  obtain ⟨cs, rfl, hsz⟩ := okWide_struct Tryd.underlying25 hv
  obtain ⟨fuel, hf⟩ := h
  obtain ⟨xs, k, hk, hxy, _, hxl, hf⟩ := DataW.trod_struct Tryd.underlying25 hf
  rw [Tryd.cells25] at hsz
  obtain ⟨cs⟩ := cs
  simp only [List.size_toArray] at hsz
  match xs, hxl, cs, hsz with
  | [y0, y1, y2, y3], _, [v0, v1, v2, v3], _ =>
    have g0 := hf 0 _ rfl
    have g1 := hf 1 _ rfl
    have g2 := hf 2 _ rfl
    have g3 := hf 3 _ rfl
    simp [Tryd.cells3, Tryd.cells22, Tryd.cells36, Tryd.cells23, Value.cells] at g0 g1 g2 g3
    obtain ⟨n0, e0, _, w0⟩ := DataW.trod_int Tryd.underlying3 g0
    obtain ⟨a1, c1, F, e1, i1, m1⟩ := ints_of_trod g1
    obtain ⟨a2, c2, Y, e2, i2, m2⟩ := tab_of_trod g2
    obtain ⟨a3, c3, E, e3, i3, m3⟩ := ints_of_trod g3
    simp only [List.cons.injEq, and_true] at e0 e1 e2 e3
    subst e0 e1 e2 e3
    exact ⟨⟨n0, F, Y, E⟩, a1, a2, a3, c1, c2, c3, rfl, ⟨i1, i2, i3, m1, m2, m3⟩, w0, ints_cap g1, ints_cap g3⟩

end Go.Proofs.YtjinibofbpgfjaaDoor
