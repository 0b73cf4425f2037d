/- Rows of truths and of numbers in memory, each a block; the solver's box. -/
import Derived.Test.YtdlogdbpgajdpaaGMath
import Derived.Test.YtdlogdbpgajdpaaTurn
namespace Go.Proofs.Ytdlogdbpgajdpaa
open Go.RowKit
set_option linter.unusedVariables false

/-- A block of c cells, of which the first n are told. -/
def RowB (W : World) (g : Nat) (t : TypeId) (n c : Nat) (f : Nat → Value) : Prop := ∃ cur : Array Value, W.heap[g]? = some (.cells cur t (0, 0)) ∧ cur.size = c ∧ n ≤ c ∧ ∀ i, i < n → cur[i]? = some (f i)
section
variable {W W' : World} {g n c : Nat} {t : TypeId} {f f' : Nat → Value}
theorem RowB.lt (h : RowB W g t n c f) : g < W.heap.size := by obtain ⟨cur, h1, _⟩ := h; exact (Array.getElem?_eq_some_iff.1 h1).1
theorem RowB.cell (h : RowB W g t n c f) {i : Nat} (hi : i < n) : W.cell? ⟨g, i, none⟩ = some (f i) := by
  obtain ⟨cur, h1, _, _, h3⟩ := h
  rw [cell_of_row W g i _ _ (0, 0) h1]; exact h3 i hi
theorem RowB.frozen (h : RowB W g t n c f) (i : Nat) : W.frozen? ⟨g, i, none⟩ = false := by
  obtain ⟨cur, h1, _⟩ := h
  exact frozen_of_row W g i _ _ h1
theorem RowB.block (h : RowB W g t n c f) (e : W'.heap[g]? = W.heap[g]?) : RowB W' g t n c f := by
  obtain ⟨cur, h1, h2⟩ := h
  exact ⟨cur, e.trans h1, h2⟩
theorem RowB.kept (h : RowB W g t n c f) (hg : W.grownBy W' none) : RowB W' g t n c f := h.block (hg.block g h.lt (by simp))
theorem RowB.turn {S : Nat → Prop} (h : RowB W g t n c f) (ht : Turn S W W') (hS : ¬ S g) : RowB W' g t n c f := h.block (ht.block g h.lt hS)
theorem RowB.grown {b : Nat} (h : RowB W g t n c f) (hg : W.grownBy W' (some b)) (hb : g ≠ b) : RowB W' g t n c f := h.block (hg.block g h.lt (by simpa using hb))
theorem RowB.grownO {o : Option Nat} (h : RowB W g t n c f) (hg : W.grownBy W' o) (hb : ∀ b, o = some b → g ≠ b) : RowB W' g t n c f := h.block (hg.block g h.lt (fun e => hb g e.symm rfl))
theorem RowB.set (h : RowB W g t n c f) {i : Nat} (hi : i < n) (v : Value) : RowB (W.setCell ⟨g, i, none⟩ v) g t n c (fun j => if j = i then v else f j) := by
  obtain ⟨cur, h1, h2, h4, h3⟩ := h
  refine ⟨cur.setIfInBounds i v, heap_setCell_same W g i _ _ _ h1, by simpa using h2, h4, fun j hj => ?_⟩
  by_cases e : j = i
  · subst e; simp [show j < cur.size by omega]
  · rw [Array.getElem?_setIfInBounds_ne (by omega)]
    show _ = some (if j = i then v else f j)
    rw [if_neg e]; exact h3 j hj
theorem RowB.other (h : RowB W g t n c f) {g' i : Nat} (hne : g ≠ g') (v : Value) : RowB (W.setCell ⟨g', i, none⟩ v) g t n c f := h.block (Below.heap_setCell _ _ _ _ (by simpa using hne))
theorem RowB.congr (h : RowB W g t n c f) (e : ∀ i, i < n → f i = f' i) : RowB W g t n c f' := by
  obtain ⟨cur, h1, h2, h4, h3⟩ := h
  exact ⟨cur, h1, h2, h4, fun i hi => by rw [h3 i hi, e i hi]⟩
theorem RowB.alloc (h : RowB W g t n c f) (o : Obj) : RowB (W.alloc o) g t n c f := h.kept (grown_alloc _ _)
end
theorem RowB.make (W : World) (t : TypeId) (n : Nat) (v : Value) : RowB (W.alloc (.cells (Array.replicate n v) t)) W.heap.size t n n (fun _ => v) :=
  ⟨_, heap_alloc_new _ _, by simp, Nat.le_refl _, fun i hi => by simp [hi]⟩
/-- A row of one's own is such a block. -/
theorem RowB.of_owns {B : Nat} {W : World} {r : List Item} {e : TypeId} {g n c : Nat} {f : Nat → Value} (h : Owns B W ((e, .slice (some ⟨g, 0, none⟩) n c, (List.range n).map f) :: r)) : RowB W g e n c f := by
  obtain ⟨_, h2⟩ := h.row
  rcases h2 with ⟨e0, _⟩ | ⟨g', cap', cur, e1, _, hh, h5, h6, h7, h8⟩
  · cases e0
  · simp only [List.length_map, List.length_range, Nat.mul_one] at e1 h5 h7 h8
    cases e1
    refine ⟨cur, hh, h7, h5, fun i hi => ?_⟩
    have := congrArg (fun l => l[i]?) h8
    simp only [List.getElem?_take, hi, if_true, List.getElem?_map, List.getElem?_range hi, Option.map_some, Array.getElem?_toList] at this
    exact this
theorem RowB.owns {B : Nat} {W : World} {e : TypeId} {g n c : Nat} {f : Nat → Value} (h : RowB W g e n c f) (hB : B ≤ g) (hc : c ≤ maxLen) : Owns B W [(e, .slice (some ⟨g, 0, none⟩) n c, (List.range n).map f)] := by
  obtain ⟨cur, h1, h2, h3, h4⟩ := h
  refine ⟨fun it hm => ?_, List.Pairwise.cons (fun q hq => by simp at hq) .nil⟩
  rw [List.mem_singleton] at hm
  subst hm
  refine ⟨⟨by simp, .inr ⟨g, c, cur, by simp, hB, h1, by simpa using h3, hc, by simpa using h2, ?_⟩⟩, some ⟨g, 0, none⟩, c, by simp⟩
  simp only [List.length_map, List.length_range, Nat.mul_one]
  apply List.ext_getElem (by simp; omega)
  intro i hi1 hi2
  have hi : i < n := by simpa using hi2
  have := h4 i hi
  rw [List.getElem_take]
  rw [← Array.getElem?_toList, List.getElem?_eq_getElem (by simp; omega)] at this
  simpa using this

abbrev BRow (W : World) (g n c : Nat) (o : Nat → Bool) : Prop := RowB W g 4 n c (fun i => .bool (o i))
abbrev IRow (W : World) (g n c : Nat) (f : Nat → Int) : Prop := RowB W g 3 n c (fun i => .int .i64 (f i))
theorem BRow.put {W : World} {g n c i : Nat} {o o' : Nat → Bool} (h : BRow W g n c o) (hi : i < n) {b : Bool} (e1 : o' i = b) (e2 : ∀ j, j ≠ i → o' j = o j) : BRow (W.setCell ⟨g, i, none⟩ (.bool b)) g n c o' :=
  (h.set hi (.bool b)).congr fun j hj => by
    by_cases e : j = i
    · subst e; simp [e1]
    · simp [e, e2 j e]
theorem IRow.put {W : World} {g n c i : Nat} {f f' : Nat → Int} (h : IRow W g n c f) (hi : i < n) {x : Int} (e1 : f' i = x) (e2 : ∀ j, j ≠ i → f' j = f j) : IRow (W.setCell ⟨g, i, none⟩ (.int .i64 x)) g n c f' :=
  (h.set hi (.int .i64 x)).congr fun j hj => by
    by_cases e : j = i
    · subst e; simp [e1]
    · simp [e, e2 j e]

/-- Rows of places in memory. -/
def NatsAt (w : World) (a : Option Addr) (l : List Nat) : Prop := l = [] ∨ ∃ b off, a = some ⟨b, off, none⟩ ∧ ∀ k, k < l.length → w.cell? ⟨b, off + k, none⟩ = some (.int .i64 ((l.getD k 0 : Nat) : Int))
theorem NatsAt.at {w : World} {a : Option Addr} {l : List Nat} (h : NatsAt w a l) {k : Nat} (hk : k < l.length) : ∃ b off, a = some ⟨b, off, none⟩ ∧ ∀ k, k < l.length → w.cell? ⟨b, off + k, none⟩ = some (.int .i64 ((l.getD k 0 : Nat) : Int)) := by
  rcases h with rfl | h
  · simp at hk
  · exact h

/-- Where the solver's box lies, and the rows that it names. -/
structure Box where
  s : Nat
  bw : Nat
  bm : Nat
  ob : Nat
  oo : Nat
  oc : Nat
  mb : Nat
  mo : Nat
  mc : Nat
  xb : Nat
  xo : Nat
  xc : Nat
  xa : Nat → Option Addr
  xd : Nat → Nat
  fb : Nat
  fo : Nat
  fc : Nat
  fa : Nat → Option Addr
  fd : Nat → Nat
/-- The solver's box: the game, who wins and how one moves, where one comes from. -/
structure SolB (G : Gm) (fr : Nat → List Nat) (B : Box) (w : World) : Prop where
  own0 : w.cell? ⟨B.s, 0, none⟩ = some (.slice (some ⟨B.ob, B.oo, none⟩) G.n B.oc)
  own : ∀ p, p < G.n → w.cell? ⟨B.ob, B.oo + p, none⟩ = some (.int .i64 (G.own p))
  mark0 : w.cell? ⟨B.s, 1, none⟩ = some (.slice (some ⟨B.mb, B.mo, none⟩) G.n B.mc)
  mark : ∀ p, p < G.n → w.cell? ⟨B.mb, B.mo + p, none⟩ = some (.int .i64 (G.mark p))
  nx0 : w.cell? ⟨B.s, 2, none⟩ = some (.slice (some ⟨B.xb, B.xo, none⟩) G.n B.xc)
  nx : ∀ p, p < G.n → w.cell? ⟨B.xb, B.xo + p, none⟩ = some (.slice (B.xa p) (G.nx p).length (B.xd p)) ∧ NatsAt w (B.xa p) (G.nx p)
  won : w.cell? ⟨B.s, 3, none⟩ = some (.slice (some ⟨B.bw, 0, none⟩) G.n G.n)
  move : w.cell? ⟨B.s, 4, none⟩ = some (.slice (some ⟨B.bm, 0, none⟩) G.n G.n)
  fr0 : w.cell? ⟨B.s, 5, none⟩ = some (.slice (some ⟨B.fb, B.fo, none⟩) G.n B.fc)
  fr : ∀ p, p < G.n → w.cell? ⟨B.fb, B.fo + p, none⟩ = some (.slice (B.fa p) (fr p).length (B.fd p)) ∧ NatsAt w (B.fa p) (fr p)
/-- Who wins and how one moves may turn. -/
abbrev WM (B : Box) : Nat → Prop := fun b => b = B.bw ∨ b = B.bm
/-- The box stays whatever else turns. -/
def Ready (G : Gm) (fr : Nat → List Nat) (B : Box) (w : World) : Prop := ∀ W, Turn (WM B) w W → SolB G fr B W
theorem Ready.turn {G : Gm} {fr : Nat → List Nat} {B : Box} {w w' : World} (h : Ready G fr B w) (ht : Turn (WM B) w w') : Ready G fr B w' := fun W hW => h W (ht.trans hW (fun x hx => .inl hx))
theorem Ready.grown {G : Gm} {fr : Nat → List Nat} {B : Box} {w w' : World} (h : Ready G fr B w) (ht : w.grownBy w' none) : Ready G fr B w' := h.turn (Turn.of ht)
theorem Ready.at {G : Gm} {fr : Nat → List Nat} {B : Box} {w w' : World} (h : Ready G fr B w) (ht : w.grownBy w' none) : SolB G fr B w' := h w' (Turn.of ht)

theorem Try.infoB4 : (Try.prog.info? 4).map (fun i => (i.zero, i.size, i.bytes)) = some (some (.bool false), 1, 1) := by kernel_rfl
theorem Try.infoI3 : (Try.prog.info? 3).map (fun i => (i.zero, i.size, i.bytes)) = some (some (.int .i64 0), 1, 8) := by kernel_rfl
theorem madeF (n : Nat) : madeCells (Value.cells (.bool false)) n = Array.replicate n (Value.bool false) := by
  apply Array.ext'
  simpa [Value.cells] using toList_madeCells_one (.bool false) n
theorem madeI (n : Nat) : madeCells (Value.cells (.int .i64 0)) n = Array.replicate n (Value.int .i64 0) := by
  apply Array.ext'
  simpa [Value.cells] using toList_madeCells_one (.int .i64 0) n
theorem set_make (w : World) (n : Nat) (hn : n ≤ 1000) : ∃ W, (Instr.makeSlice 46 (.int .i64 (n : Int)) (.int .i64 (n : Int))).run Try.prog w = .ok (.slice (some ⟨w.heap.size, 0, none⟩) n n) W ∧ BRow W w.heap.size n n (fun _ => false) ∧ w.grownBy W none ∧ W.heap.size = w.heap.size + 1 := by
  obtain ⟨i0, hi, hz0, hz1, hz2⟩ := info_parts Try.infoB4
  have hmk := run_make (P := Try.prog) w 46 4 i0 (.bool false) Try.underlying46 hi hz0 .i64 .i64 (n : Int) (n : Int) (by omega) (by omega) (by rw [hz2]; omega) (by omega)
  rw [hz1, Nat.mul_one, Int.toNat_natCast, madeF] at hmk
  exact ⟨_, hmk, RowB.make _ _ _ _, grown_alloc _ _, World.size_alloc _ _⟩
theorem ints_make (w : World) (n : Nat) (hn : n ≤ 1000) : ∃ W, (Instr.makeSlice 22 (.int .i64 (n : Int)) (.int .i64 (n : Int))).run Try.prog w = .ok (.slice (some ⟨w.heap.size, 0, none⟩) n n) W ∧ IRow W w.heap.size n n (fun _ => 0) ∧ w.grownBy W none ∧ W.heap.size = w.heap.size + 1 := by
  obtain ⟨i0, hi, hz0, hz1, hz2⟩ := info_parts Try.infoI3
  have hmk := run_make (P := Try.prog) w 22 3 i0 (.int .i64 0) Try.underlying22 hi hz0 .i64 .i64 (n : Int) (n : Int) (by omega) (by omega) (by rw [hz2]; omega) (by omega)
  rw [hz1, Nat.mul_one, Int.toNat_natCast, madeI] at hmk
  exact ⟨_, hmk, RowB.make _ _ _ _, grown_alloc _ _, World.size_alloc _ _⟩

/-- A new set of places. -/
def SetPost (n : Nat) (o : Nat → Bool) (w : World) (E : Ending) (w' : World) : Prop :=
  ∃ g c, E = .returned (.slice (some ⟨g, 0, none⟩) n c) ∧ BRow w' g n c o ∧ w.heap.size ≤ g ∧ w.grownBy w' none

end Go.Proofs.Ytdlogdbpgajdpaa
