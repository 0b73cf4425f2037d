/- Rows of truths and of numbers in memory, each a block; the solver's box. -/
import Derived.Test.YtnlkdihfoekjmaaGMath
import Derived.Test.YtnlkdihfoekjmaaRowB
namespace Go.Proofs.Ytnlkdihfoekjmaa
open Go.RowKit
set_option linter.unusedVariables false

abbrev BRow (W : World) (g n c : Nat) (o : Nat → Bool) : Prop := RowB W g 4 n c (fun i => .bool (o i))
abbrev IRow (W : World) (g n c : Nat) (f : Nat → Int) : Prop := RowB W g 3 n c (fun i => .int .i64 (f i))
theorem BRow.put {W : World} {g n c i : Nat} {o o' : Nat → Bool} (h : BRow W g n c o) (hi : i < n) {b : Bool} (e1 : o' i = b) (e2 : ∀ j, j ≠ i → o' j = o j) : BRow (W.setCell ⟨g, i, none⟩ (.bool b)) g n c o' :=
  (h.set hi (.bool b)).congr fun j hj => by
    by_cases e : j = i
    · subst e; simp [e1]
    · simp [e, e2 j e]
theorem IRow.put {W : World} {g n c i : Nat} {f f' : Nat → Int} (h : IRow W g n c f) (hi : i < n) {x : Int} (e1 : f' i = x) (e2 : ∀ j, j ≠ i → f' j = f j) : IRow (W.setCell ⟨g, i, none⟩ (.int .i64 x)) g n c f' :=
  (h.set hi (.int .i64 x)).congr fun j hj => by
    by_cases e : j = i
    · subst e; simp [e1]
    · simp [e, e2 j e]

/-- Rows of places in memory. -/
def NatsAt (w : World) (a : Option Addr) (l : List Nat) : Prop := l = [] ∨ ∃ b off, a = some ⟨b, off, none⟩ ∧ ∀ k, k < l.length → w.cell? ⟨b, off + k, none⟩ = some (.int .i64 ((l.getD k 0 : Nat) : Int))
theorem NatsAt.at {w : World} {a : Option Addr} {l : List Nat} (h : NatsAt w a l) {k : Nat} (hk : k < l.length) : ∃ b off, a = some ⟨b, off, none⟩ ∧ ∀ k, k < l.length → w.cell? ⟨b, off + k, none⟩ = some (.int .i64 ((l.getD k 0 : Nat) : Int)) := by
  rcases h with rfl | h
  · simp at hk
  · exact h

/-- Where the solver's box lies, and the rows that it names. -/
structure Box where
  s : Nat
  bw : Nat
  bm : Nat
  ob : Nat
  oo : Nat
  oc : Nat
  mb : Nat
  mo : Nat
  mc : Nat
  xb : Nat
  xo : Nat
  xc : Nat
  xa : Nat → Option Addr
  xd : Nat → Nat
  fb : Nat
  fo : Nat
  fc : Nat
  fa : Nat → Option Addr
  fd : Nat → Nat
/-- The solver's box: the game, who wins and how one moves, where one comes from. -/
structure SolB (G : Gm) (fr : Nat → List Nat) (B : Box) (w : World) : Prop where
  own0 : w.cell? ⟨B.s, 0, none⟩ = some (.slice (some ⟨B.ob, B.oo, none⟩) G.n B.oc)
  own : ∀ p, p < G.n → w.cell? ⟨B.ob, B.oo + p, none⟩ = some (.int .i64 (G.own p))
  mark0 : w.cell? ⟨B.s, 1, none⟩ = some (.slice (some ⟨B.mb, B.mo, none⟩) G.n B.mc)
  mark : ∀ p, p < G.n → w.cell? ⟨B.mb, B.mo + p, none⟩ = some (.int .i64 (G.mark p))
  nx0 : w.cell? ⟨B.s, 2, none⟩ = some (.slice (some ⟨B.xb, B.xo, none⟩) G.n B.xc)
  nx : ∀ p, p < G.n → w.cell? ⟨B.xb, B.xo + p, none⟩ = some (.slice (B.xa p) (G.nx p).length (B.xd p)) ∧ NatsAt w (B.xa p) (G.nx p)
  won : w.cell? ⟨B.s, 3, none⟩ = some (.slice (some ⟨B.bw, 0, none⟩) G.n G.n)
  move : w.cell? ⟨B.s, 4, none⟩ = some (.slice (some ⟨B.bm, 0, none⟩) G.n G.n)
  fr0 : w.cell? ⟨B.s, 5, none⟩ = some (.slice (some ⟨B.fb, B.fo, none⟩) G.n B.fc)
  fr : ∀ p, p < G.n → w.cell? ⟨B.fb, B.fo + p, none⟩ = some (.slice (B.fa p) (fr p).length (B.fd p)) ∧ NatsAt w (B.fa p) (fr p)
/-- Who wins and how one moves may turn. -/
abbrev WM (B : Box) : Nat → Prop := fun b => b = B.bw ∨ b = B.bm
/-- The box stays whatever else turns. -/
def Ready (G : Gm) (fr : Nat → List Nat) (B : Box) (w : World) : Prop := ∀ W, Turn (WM B) w W → SolB G fr B W
theorem Ready.turn {G : Gm} {fr : Nat → List Nat} {B : Box} {w w' : World} (h : Ready G fr B w) (ht : Turn (WM B) w w') : Ready G fr B w' := fun W hW => h W (ht.trans hW (fun x hx => .inl hx))
theorem Ready.grown {G : Gm} {fr : Nat → List Nat} {B : Box} {w w' : World} (h : Ready G fr B w) (ht : w.grownBy w' none) : Ready G fr B w' := h.turn (Turn.of ht)
theorem Ready.at {G : Gm} {fr : Nat → List Nat} {B : Box} {w w' : World} (h : Ready G fr B w) (ht : w.grownBy w' none) : SolB G fr B w' := h w' (Turn.of ht)

theorem Try.infoB4 : (Try.prog.info? 4).map (fun i => (i.zero, i.size, i.bytes)) = some (some (.bool false), 1, 1) := by kernel_rfl
theorem Try.infoI3 : (Try.prog.info? 3).map (fun i => (i.zero, i.size, i.bytes)) = some (some (.int .i64 0), 1, 8) := by kernel_rfl
theorem madeF (n : Nat) : madeCells (Value.cells (.bool false)) n = Array.replicate n (Value.bool false) := by
  apply Array.ext'
  simpa [Value.cells] using toList_madeCells_one (.bool false) n
theorem madeI (n : Nat) : madeCells (Value.cells (.int .i64 0)) n = Array.replicate n (Value.int .i64 0) := by
  apply Array.ext'
  simpa [Value.cells] using toList_madeCells_one (.int .i64 0) n
theorem set_make (w : World) (n : Nat) (hn : n ≤ 1000) : ∃ W, (Instr.makeSlice 66 (.int .i64 (n : Int)) (.int .i64 (n : Int))).run Try.prog w = .ok (.slice (some ⟨w.heap.size, 0, none⟩) n n) W ∧ BRow W w.heap.size n n (fun _ => false) ∧ w.grownBy W none ∧ W.heap.size = w.heap.size + 1 := by
  obtain ⟨i0, hi, hz0, hz1, hz2⟩ := info_parts Try.infoB4
  have hmk := run_make (P := Try.prog) w 66 4 i0 (.bool false) Try.underlying66 hi hz0 .i64 .i64 (n : Int) (n : Int) (by omega) (by omega) (by rw [hz2]; omega) (by omega)
  rw [hz1, Nat.mul_one, Int.toNat_natCast, madeF] at hmk
  exact ⟨_, hmk, RowB.make _ _ _ _, grown_alloc _ _, World.size_alloc _ _⟩
theorem ints_make (w : World) (n : Nat) (hn : n ≤ 1000) : ∃ W, (Instr.makeSlice 23 (.int .i64 (n : Int)) (.int .i64 (n : Int))).run Try.prog w = .ok (.slice (some ⟨w.heap.size, 0, none⟩) n n) W ∧ IRow W w.heap.size n n (fun _ => 0) ∧ w.grownBy W none ∧ W.heap.size = w.heap.size + 1 := by
  obtain ⟨i0, hi, hz0, hz1, hz2⟩ := info_parts Try.infoI3
  have hmk := run_make (P := Try.prog) w 23 3 i0 (.int .i64 0) Try.underlying23 hi hz0 .i64 .i64 (n : Int) (n : Int) (by omega) (by omega) (by rw [hz2]; omega) (by omega)
  rw [hz1, Nat.mul_one, Int.toNat_natCast, madeI] at hmk
  exact ⟨_, hmk, RowB.make _ _ _ _, grown_alloc _ _, World.size_alloc _ _⟩

/-- A new set of places. -/
def SetPost (n : Nat) (o : Nat → Bool) (w : World) (E : Ending) (w' : World) : Prop :=
  ∃ g c, E = .returned (.slice (some ⟨g, 0, none⟩) n c) ∧ BRow w' g n c o ∧ w.heap.size ≤ g ∧ w.grownBy w' none

end Go.Proofs.Ytnlkdihfoekjmaa
