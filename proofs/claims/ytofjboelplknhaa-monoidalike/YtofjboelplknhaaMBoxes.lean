/- Two rows in two boxes of their own: what stays, what comes to be; whether two rows are one. -/
import Derived.Test.YtofjboelplknhaaMDone
import Derived.Test.YtofjboelplknhaaMSmall
import Derived.Deep.RegionWith
import Derived.Deep.RegionHeld3
import Derived.Deep.RegionLaw
import Derived.Deep.DeepCutAuto
import Derived.Deep.CutRange
namespace Go.Proofs.Ytofjboelplknhaa
open Go.RowKit
set_option linter.unusedVariables false

/-- Two rows in two new boxes. -/
def BoxUV (w : World) (cu cv : Nat) (v v' : Value) (w' : World) : Prop := ∃ bu bv, v = .pointer (some ⟨bu, 0, none⟩) ∧ v' = .pointer (some ⟨bv, 0, none⟩) ∧ w.heap.size ≤ bu ∧ w.heap.size ≤ bv ∧ bu ≠ bv ∧ RowAt w' bu cu ∧ RowAt w' bv cv ∧ w.grownBy w' none
theorem cell_same {P W : World} (hg : P.grownBy W none) : ∀ b off, b < P.heap.size → W.cell? ⟨b, off, none⟩ = P.cell? ⟨b, off, none⟩ := fun b off hb => by
  have h1 := hg.block b hb (by simp)
  simp only [World.cell?, h1]
theorem frozen_same {P W : World} (hg : P.grownBy W none) : ∀ b off, b < P.heap.size → W.frozen? ⟨b, off, none⟩ = P.frozen? ⟨b, off, none⟩ := fun b off hb => by
  have h1 := hg.block b hb (by simp)
  simp only [World.frozen?, h1]


/-- What stays while both are done: nothing old turned, the automaton's box. -/
abbrev KeepA (P W : World) (b0 : Nat) (v0 v1 v2 v3 : Value) : Prop :=
  P.grownBy W none ∧ b0 < P.heap.size ∧ P.heap.size ≤ W.heap.size ∧ W.cell? ⟨b0, 0, none⟩ = some v0 ∧ W.cell? ⟨b0, 1, none⟩ = some v1 ∧ W.cell? ⟨b0, 2, none⟩ = some v2 ∧ W.cell? ⟨b0, 3, none⟩ = some v3
section
variable {P W W' : World} {b0 : Nat} {v0 v1 v2 v3 : Value}
theorem KeepA.next (h : KeepA P W b0 v0 v1 v2 v3) (hg : P.grownBy W' none) : KeepA P W' b0 v0 v1 v2 v3 := by
  obtain ⟨hp, hlt, hs, c0, c1, c2, c3⟩ := h
  have e1 := cell_same hp
  have e2 := cell_same hg
  exact ⟨hg, hlt, hg.size, by rw [e2 _ _ hlt, ← e1 _ _ hlt, c0], by rw [e2 _ _ hlt, ← e1 _ _ hlt, c1], by rw [e2 _ _ hlt, ← e1 _ _ hlt, c2], by rw [e2 _ _ hlt, ← e1 _ _ hlt, c3]⟩
theorem KeepA.gr (h : KeepA P W b0 v0 v1 v2 v3) : P.grownBy W none := h.1
theorem KeepA.drew (h : KeepA P W b0 v0 v1 v2 v3) : KeepA P W.drew b0 v0 v1 v2 v3 := h.next (grown_drew h.1)
theorem KeepA.call (h : KeepA P W b0 v0 v1 v2 v3) (hg : W.grownBy W' none) : KeepA P W' b0 v0 v1 v2 v3 := h.next (grown_trans h.1 hg)
theorem KeepA.alloc (h : KeepA P W b0 v0 v1 v2 v3) (o : Obj) : KeepA P (W.alloc o) b0 v0 v1 v2 v3 := h.call (grown_alloc _ _)
theorem KeepA.set (h : KeepA P W b0 v0 v1 v2 v3) {b o : Nat} (hb : P.heap.size ≤ b) (u : Value) : KeepA P (W.setCell ⟨b, o, none⟩ u) b0 v0 v1 v2 v3 := h.next (grown_new h.1 (grown_set W ⟨b, o, none⟩ u) hb)
end
/-- A box of five zeros. -/
def Zer (W : World) (b : Nat) : Prop := W.heap[b]? = some (.cells #[.int .i64 0, .int .i64 0, .int .i64 0, .int .i64 0, .int .i64 0] 83 (0, 0))
abbrev zeroO : Obj := .cells #[.int .i64 0, .int .i64 0, .int .i64 0, .int .i64 0, .int .i64 0] 83
section
variable {Q W : World} {b : Nat}
theorem Zer.nw (Q : World) : Zer (Q.alloc zeroO) Q.heap.size := heap_alloc_new Q _
theorem Zer.lt (h : Zer W b) : b < W.heap.size := (Array.getElem?_eq_some_iff.1 h).1
theorem Zer.thru (h : Zer Q b) (hg : Q.grownBy W none) : Zer W b := (hg.block b h.lt (by simp)).trans h
theorem Zer.al (h : Zer Q b) (o : Obj) : Zer (Q.alloc o) b := h.thru (grown_alloc _ _)
theorem Zer.nw2 (Q : World) (o : Obj) : Zer ((Q.alloc o).alloc zeroO) (Q.heap.size + 1) := by have := Zer.nw (Q.alloc o); simpa using this
theorem Zer.c1 (hg : (Q.alloc zeroO).grownBy W none) : Zer W Q.heap.size := (Zer.nw Q).thru hg
theorem Zer.c2a (hg : ((Q.alloc zeroO).alloc zeroO).grownBy W none) : Zer W Q.heap.size := ((Zer.nw Q).al _).thru hg
theorem Zer.c2b (hg : ((Q.alloc zeroO).alloc zeroO).grownBy W none) : Zer W (Q.heap.size + 1) := (Zer.nw2 Q _).thru hg
theorem Zer.dr (h : Zer Q b) : Zer Q.drew b := h
theorem Zer.d1 (hg : (Q.alloc zeroO).drew.grownBy W none) : Zer W Q.heap.size := (Zer.nw Q).dr.thru hg
theorem Zer.d2a (hg : ((Q.alloc zeroO).alloc zeroO).drew.grownBy W none) : Zer W Q.heap.size := ((Zer.nw Q).al _).dr.thru hg
theorem Zer.d2b (hg : ((Q.alloc zeroO).alloc zeroO).drew.grownBy W none) : Zer W (Q.heap.size + 1) := (Zer.nw2 Q _).dr.thru hg
theorem Zer.o0 (h : Zer Q b) (hg : Q.grownBy W none) : Zer W b := h.thru hg
theorem Zer.o1 {o : Obj} (h : Zer Q b) (hg : (Q.alloc o).grownBy W none) : Zer W b := (h.al _).thru hg
theorem Zer.cells (h : Zer W b) : W.cell? ⟨b, 0, none⟩ = some (.int .i64 0) ∧ W.cell? ⟨b, 1, none⟩ = some (.int .i64 0) ∧ W.cell? ⟨b, 2, none⟩ = some (.int .i64 0) ∧ W.cell? ⟨b, 3, none⟩ = some (.int .i64 0) ∧ W.cell? ⟨b, 4, none⟩ = some (.int .i64 0) ∧ W.frozen? ⟨b, 0, none⟩ = false ∧ W.frozen? ⟨b, 1, none⟩ = false ∧ W.frozen? ⟨b, 2, none⟩ = false ∧ W.frozen? ⟨b, 3, none⟩ = false ∧ W.frozen? ⟨b, 4, none⟩ = false := by
  obtain ⟨z0, z1, z2, z3, z4, zf⟩ := block_cells5 h
  exact ⟨z0, z1, z2, z3, z4, zf 0, zf 1, zf 2, zf 3, zf 4⟩
end
abbrev set5 (W : World) (b c : Nat) : World := ((((W.setCell ⟨b, 0, none⟩ (.int .i64 ((dg c 0 : Nat) : Int))).setCell ⟨b, 1, none⟩ (.int .i64 ((dg c 1 : Nat) : Int))).setCell ⟨b, 2, none⟩ (.int .i64 ((dg c 2 : Nat) : Int))).setCell ⟨b, 3, none⟩ (.int .i64 ((dg c 3 : Nat) : Int))).setCell ⟨b, 4, none⟩ (.int .i64 ((dg c 4 : Nat) : Int))
abbrev rowO (c : Nat) : Obj := .cells #[.int .i64 ((dg c 0 : Nat) : Int), .int .i64 ((dg c 1 : Nat) : Int), .int .i64 ((dg c 2 : Nat) : Int), .int .i64 ((dg c 3 : Nat) : Int), .int .i64 ((dg c 4 : Nat) : Int)] 83
section
variable {W : World} {b b' c c' : Nat}
theorem RowAt.nw (W : World) (c : Nat) : RowAt (W.alloc (rowO c)) W.heap.size c := heap_alloc_new W _
theorem RowAt.nw2 (W : World) (c : Nat) (o : Obj) : RowAt ((W.alloc o).alloc (rowO c)) (W.heap.size + 1) c := by have := RowAt.nw (W.alloc o) c; simpa using this
theorem RowAt.lt (h : RowAt W b c) : b < W.heap.size := (Array.getElem?_eq_some_iff.1 h).1
theorem RowAt.al (h : RowAt W b c) (o : Obj) : RowAt (W.alloc o) b c := ((grown_alloc W o).block b h.lt (by simp)).trans h
theorem set5_grown (W : World) (b c : Nat) : W.grownBy (set5 W b c) (some b) := grown_set2 (grown_set2 (grown_set2 (grown_set2 (grown_set W ⟨b, 0, none⟩ _) 1 _) 2 _) 3 _) 4 _
theorem Zer.row (h : Zer W b) (c : Nat) : RowAt (set5 W b c) b c := by
  obtain ⟨W1, e1, g1, k1⟩ := store5 h (.int .i64 ((dg c 0 : Nat) : Int)) (.int .i64 ((dg c 1 : Nat) : Int)) (.int .i64 ((dg c 2 : Nat) : Int)) (.int .i64 ((dg c 3 : Nat) : Int)) (.int .i64 ((dg c 4 : Nat) : Int))
  rw [e1] at k1
  exact k1
theorem RowAt.nwS (W : World) (c b' c' : Nat) : RowAt ((set5 W b' c').alloc (rowO c)) W.heap.size c := by have := RowAt.nw (set5 W b' c') c; simpa using this
theorem Zer.skip (h : Zer W b) (hne : b ≠ b') (c' : Nat) : Zer (set5 W b' c') b := ((set5_grown W b' c').block b h.lt (by simp; omega)).trans h
theorem RowAt.skip (h : RowAt W b c) (hne : b ≠ b') (c' : Nat) : RowAt (set5 W b' c') b c := ((set5_grown W b' c').block b h.lt (by simp; omega)).trans h
end

set_option maxRecDepth 100000 in
theorem eqRow {cu cv : Nat} (hu : cu < 3125) (hv : cv < 3125) (w : World) : (Op.equalIn 10000 83 (rowV cu) (rowV cv)).run Try.prog w = .ok (decide (cu = cv)) w := by
  obtain ⟨r, hr, hi⟩ := run_equal_deep w (m := 2) (by omega) (k := 83) (P := Try.prog) (by kernel_rfl) Try.wide5 (klit_key cu) (klit_key cv)
  have e : r = decide (cu = cv) := by
    rw [Bool.eq_iff_iff, hi, decide_eq_true_iff]
    exact ⟨fun h => klit_inj hu hv h, fun h => by rw [h]⟩
  rw [← e]
  exact hr
/-- Two boxes of one number each. -/
theorem two_ints (w : World) : ∃ W, W = (w.alloc (.cells #[.int .i64 0] 3)).alloc (.cells #[.int .i64 0] 3) ∧ w.grownBy W none ∧ W.heap.size = w.heap.size + 1 + 1 ∧ W.heap[w.heap.size]? = some (.cells #[.int .i64 0] 3 (0, 0)) ∧ W.heap[w.heap.size + 1]? = some (.cells #[.int .i64 0] 3 (0, 0)) := by
  refine ⟨_, rfl, grown_trans (grown_alloc _ _) (grown_alloc _ _), by simp, ?_, ?_⟩
  · exact ((grown_alloc _ _).block _ (by simp) (by simp)).trans (heap_alloc_new w _)
  · have := heap_alloc_new (w.alloc (.cells #[.int .i64 0] 3)) (.cells #[.int .i64 0] 3)
    simpa using this

end Go.Proofs.Ytofjboelplknhaa
