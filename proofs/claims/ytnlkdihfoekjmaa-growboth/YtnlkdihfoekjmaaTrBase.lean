/- Automata of trees, and trees, in memory; and among the arguments. -/
import Derived.Test.YtnlkdihfoekjmaaTrSpec
import Derived.Test.YtnlkdihfoekjmaaDRows
import Derived.Test.YtnlkdihfoekjmaaTell
import Derived.Test.YtnlkdihfoekjmaaSay
import Derived.Deep.Slices
namespace Go.Proofs.Ytnlkdihfoekjmaa
open Go.ChangeShapes Go.WideShapes Go.ChangeAt Go.RowKit Go.Joins
set_option linter.unusedVariables false

/-- A rule's four cells, a node's three. -/
def Rule4 (w : World) (b o : Nat) (r : RuleI) : Prop := w.cell? ⟨b, o, none⟩ = some (.int .i64 r.1) ∧ w.cell? ⟨b, o + 1, none⟩ = some (.int .i64 r.2.1) ∧ w.cell? ⟨b, o + 2, none⟩ = some (.int .i64 r.2.2.1) ∧ w.cell? ⟨b, o + 3, none⟩ = some (.int .i64 r.2.2.2)
def Node3 (w : World) (b o : Nat) (r : NodeI) : Prop := w.cell? ⟨b, o, none⟩ = some (.int .i64 r.1) ∧ w.cell? ⟨b, o + 1, none⟩ = some (.int .i64 r.2.1) ∧ w.cell? ⟨b, o + 2, none⟩ = some (.int .i64 r.2.2)
theorem Rule4.grown {w w' : World} {b o : Nat} {r : RuleI} (h : Rule4 w b o r) (hg : w.grownBy w' none) : Rule4 w' b o r := ⟨hg.cell h.1 (by simp), hg.cell h.2.1 (by simp), hg.cell h.2.2.1 (by simp), hg.cell h.2.2.2 (by simp)⟩
theorem Node3.grown {w w' : World} {b o : Nat} {r : NodeI} (h : Node3 w b o r) (hg : w.grownBy w' none) : Node3 w' b o r := ⟨hg.cell h.1 (by simp), hg.cell h.2.1 (by simp), hg.cell h.2.2 (by simp)⟩
def RulesAt (w : World) (a : Option Addr) (R : List RuleI) : Prop :=
  R = [] ∨ ∃ b off, a = some ⟨b, off, none⟩ ∧ ∀ i, i < R.length → Rule4 w b (off + i * 4) (R.getD i ru0)
def NodesAt (w : World) (a : Option Addr) (T : List NodeI) : Prop :=
  T = [] ∨ ∃ b off, a = some ⟨b, off, none⟩ ∧ ∀ i, i < T.length → Node3 w b (off + i * 3) (T.getD i no0)
theorem RulesAt.grown {w w' : World} {a : Option Addr} {R : List RuleI} (h : RulesAt w a R) (hg : w.grownBy w' none) : RulesAt w' a R := by
  rcases h with h | ⟨b, off, ha, hc⟩
  · exact .inl h
  · exact .inr ⟨b, off, ha, fun i hi => (hc i hi).grown hg⟩
theorem NodesAt.grown {w w' : World} {a : Option Addr} {T : List NodeI} (h : NodesAt w a T) (hg : w.grownBy w' none) : NodesAt w' a T := by
  rcases h with h | ⟨b, off, ha, hc⟩
  · exact .inl h
  · exact .inr ⟨b, off, ha, fun i hi => (hc i hi).grown hg⟩
theorem RulesAt.at {w : World} {a : Option Addr} {R : List RuleI} (h : RulesAt w a R) {k : Nat} (hk : k < R.length) : ∃ b off, a = some ⟨b, off, none⟩ ∧ ∀ i, i < R.length → Rule4 w b (off + i * 4) (R.getD i ru0) := by
  rcases h with rfl | h
  · simp at hk
  · exact h
theorem NodesAt.at {w : World} {a : Option Addr} {T : List NodeI} (h : NodesAt w a T) {k : Nat} (hk : k < T.length) : ∃ b off, a = some ⟨b, off, none⟩ ∧ ∀ i, i < T.length → Node3 w b (off + i * 3) (T.getD i no0) := by
  rcases h with rfl | h
  · simp at hk
  · exact h
structure TrsAt (w : World) (x : Trs) (b e : Option Addr) : Prop where
  rules : RulesAt w b x.R
  marks : Ints w e x.M
  mr : x.R.length ≤ maxLen
  mm : x.M.length ≤ maxLen
theorem TrsAt.grown {w w' : World} {x : Trs} {b e : Option Addr} (h : TrsAt w x b e) (hg : w.grownBy w' none) : TrsAt w' x b e := ⟨h.rules.grown hg, h.marks.grown hg, h.mr, h.mm⟩
abbrev trsV (L N : Int) (b : Option Addr) (k d : Nat) (S : Int) (e : Option Addr) (m f : Nat) : Value := .agg #[.int .i64 L, .int .i64 N, .slice b k d, .int .i64 S, .slice e m f]
abbrev treeV (a : Option Addr) (n c : Nat) : Value := .agg #[.slice a n c]

theorem box5_new (w : World) (v0 v1 v2 v3 v4 : Value) (t : TypeId) : ∃ W, W = w.alloc (.cells #[v0, v1, v2, v3, v4] t) ∧ w.grownBy W none ∧ W.heap.size = w.heap.size + 1 ∧ ∀ W', W.grownBy W' none → W'.cell? ⟨w.heap.size, 0, none⟩ = some v0 ∧ W'.cell? ⟨w.heap.size, 1, none⟩ = some v1 ∧ W'.cell? ⟨w.heap.size, 2, none⟩ = some v2 ∧ W'.cell? ⟨w.heap.size, 3, none⟩ = some v3 ∧ W'.cell? ⟨w.heap.size, 4, none⟩ = some v4 := by
  refine ⟨_, rfl, grown_alloc _ _, by simp, fun W' h => ?_⟩
  have hb := heap_alloc_new w (.cells #[v0, v1, v2, v3, v4] t)
  have hc : ∀ k v, #[v0, v1, v2, v3, v4][k]? = some v → W'.cell? ⟨w.heap.size, k, none⟩ = some v := fun k v hv => h.cell (by rw [cell_of_row _ _ k _ _ (0, 0) hb]; exact hv) (by simp)
  exact ⟨hc 0 _ rfl, hc 1 _ rfl, hc 2 _ rfl, hc 3 _ rfl, hc 4 _ rfl⟩
theorem box1_new (w : World) (v0 : Value) (t : TypeId) : ∃ W, W = w.alloc (.cells #[v0] t) ∧ w.grownBy W none ∧ W.heap.size = w.heap.size + 1 ∧ ∀ W', W.grownBy W' none → W'.cell? ⟨w.heap.size, 0, none⟩ = some v0 := by
  refine ⟨_, rfl, grown_alloc _ _, by simp, fun W' h => ?_⟩
  have hb := heap_alloc_new w (.cells #[v0] t)
  exact h.cell (by rw [cell_of_row _ _ 0 _ _ (0, 0) hb]; rfl) (by simp)

theorem Try.cells22 : Try.prog.cellsOf 22 = 1 := by kernel_rfl
theorem Try.cells47 : Try.prog.cellsOf 47 = 4 := by kernel_rfl
theorem Try.cells25 : Try.prog.cellsOf 25 = 5 := by kernel_rfl
theorem choose_ltT {α : Type} [Inhabited α] {P : Nat → α → Prop} {m : Nat} (h : ∀ i, i < m → ∃ q, P i q) : ∃ f : Nat → α, ∀ i, i < m → P i (f i) := by
  classical
  exact ⟨fun i => if hi : i < m then (h i hi).choose else default, fun i hi => by simp only [hi, dif_pos]; exact (h i hi).choose_spec⟩

set_option maxRecDepth 100000 in
theorem rules_of_trod {H : Type} {enc : TypeId × Value → H} {W : World} {fuel : Nat} {cs : List Value} {x : DataW H × List MemPlace} (h : DataW.trod enc Try.prog W 0 (fun _ => true) true fuel 22 cs = some x) :
    ∃ a c T, cs = [.slice a (List.length T) c] ∧ RulesAt W a T ∧ T.length ≤ maxLen := by
  rcases Deep.open_slice Try.underlying22 h with ⟨hcs, _⟩ | ⟨y, len, cap, m, n, D, Pl, hcs, _, hl, hm, hmm, _, hx⟩
  · exact ⟨none, 0, [], hcs, .inl rfl, Nat.zero_le _⟩
  · simp only [if_true] at hmm
    have each : ∀ i, i < m → ∃ q : RuleI, W.cell? (y.add (i * 4)) = some (.int .i64 q.1) ∧ W.cell? (y.add (i * 4 + 1)) = some (.int .i64 q.2.1) ∧ W.cell? (y.add (i * 4 + 2)) = some (.int .i64 q.2.2.1) ∧ W.cell? (y.add (i * 4 + 3)) = some (.int .i64 q.2.2.2) := by
      intro i hi
      obtain ⟨cs', h1, h2⟩ := hx i hi
      rw [Try.cells47] at h1
      obtain ⟨_, hlen, hcell⟩ := World.cells?_some h1
      obtain ⟨xs, k, hk, hxy, _, hxl, hf⟩ := DataW.trod_struct Try.underlying47 h2
      match xs, hxl, cs', hlen with
      | [y0, y1, y2, y3], _, [v0, v1, v2, v3], _ =>
        have g0 := hf 0 _ rfl
        have g1 := hf 1 _ rfl
        have g2 := hf 2 _ rfl
        have g3 := hf 3 _ rfl
        simp [Try.cells3] at g0 g1 g2 g3
        have e0 := hcell 0 (by omega)
        have e1 := hcell 1 (by omega)
        have e2 := hcell 2 (by omega)
        have e3 := hcell 3 (by omega)
        rw [Deep.add_add] at e0 e1 e2 e3
        obtain ⟨n0, z0, _, _⟩ := DataW.trod_int Try.underlying3 g0
        obtain ⟨n1, z1, _, _⟩ := DataW.trod_int Try.underlying3 g1
        obtain ⟨n2, z2, _, _⟩ := DataW.trod_int Try.underlying3 g2
        obtain ⟨n3, z3, _, _⟩ := DataW.trod_int Try.underlying3 g3
        simp only [List.cons.injEq, and_true] at z0 z1 z2 z3
        subst z0 z1 z2 z3
        exact ⟨(n0, n1, n2, n3), by simpa using e0, by simpa using e1, by simpa using e2, by simpa using e3⟩
    obtain ⟨q, hq⟩ := choose_ltT each
    have hlen : ((List.range len).map q).length = len := by simp
    refine ⟨some y, cap, (List.range len).map q, by rw [hlen]; exact hcs, ?_, by rw [hlen]; omega⟩
    by_cases h0 : len = 0
    · left; rw [h0]; rfl
    · right
      obtain ⟨b, off, spot⟩ := y
      have hc := (hq 0 (by omega)).1
      have hspot : spot = none := by simpa [Addr.add] using World.cell?_spot hc
      subst hspot
      refine ⟨b, off, rfl, fun i hi => ?_⟩
      rw [hlen] at hi
      obtain ⟨h1, h2, h3, h4⟩ := hq i (by omega)
      rw [add_off] at h1 h2 h3 h4
      have hg : ((List.range len).map q).getD i ru0 = q i := by simp [List.getD, hi]
      rw [hg]
      exact ⟨h1, h2, h3, h4⟩

set_option maxRecDepth 100000 in
theorem trs_of_trod {H : Type} {enc : TypeId × Value → H} {W : World} {base : Nat} {v : Value} {d : DataW H} {p : List MemPlace} (hv : Value.okWide Try.prog W .any base 25 v) (h : DataW.Trod enc Try.prog W 0 (fun _ => true) true 25 v d p) :
    ∃ (x : Trs) (b e : Option Addr) (d f : Nat), v = trsV x.L x.N b x.R.length d x.S e x.M.length f ∧ TrsAt W x b e ∧ (Lit.int .i64 x.L).wf = true ∧ (Lit.int .i64 x.N).wf = true ∧ (Lit.int .i64 x.S).wf = true := by
  obtain ⟨cs, rfl, hsz⟩ := okWide_struct Try.underlying25 hv
  obtain ⟨fuel, hf⟩ := h
  obtain ⟨xs, k, hk, hxy, _, hxl, hf⟩ := DataW.trod_struct Try.underlying25 hf
  rw [Try.cells25] at hsz
  obtain ⟨cs⟩ := cs
  simp only [List.size_toArray] at hsz
  match xs, hxl, cs, hsz with
  | [y0, y1, y2, y3, y4], _, [v0, v1, v2, v3, v4], _ =>
    have g0 := hf 0 _ rfl
    have g1 := hf 1 _ rfl
    have g2 := hf 2 _ rfl
    have g3 := hf 3 _ rfl
    have g4 := hf 4 _ rfl
    simp [Try.cells3, Try.cells23, Try.cells22, Value.cells] at g0 g1 g2 g3 g4
    obtain ⟨n0, e0, _, w0⟩ := DataW.trod_int Try.underlying3 g0
    obtain ⟨n1, e1, _, w1⟩ := DataW.trod_int Try.underlying3 g1
    obtain ⟨b, c', T, e2, i2, m2⟩ := rules_of_trod g2
    obtain ⟨n3, e3, _, w3⟩ := DataW.trod_int Try.underlying3 g3
    obtain ⟨e, c'', F, e4, i4, m4⟩ := ints_of_trod g4
    simp only [List.cons.injEq, and_true] at e0 e1 e2 e3 e4
    subst e0 e1 e2 e3 e4
    exact ⟨⟨n0, n1, T, n3, F⟩, b, e, c', c'', rfl, ⟨i2, i4, m2, m4⟩, w0, w1, w3⟩

end Go.Proofs.Ytnlkdihfoekjmaa
