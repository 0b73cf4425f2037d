/- monoid.seek: what it answers, how it begins. -/
import Derived.Test.YtofjboelplknhaaMSkB
namespace Go.Proofs.Ytofjboelplknhaa
open Go.RowKit
set_option linter.unusedVariables false

/-- The one who looks answers. -/
def LookPost (J : List Nat → World → (Nat → Prop) → Prop) (seen : List Nat) (c : Nat) (S : Nat → Prop) (v : Nat → Bool) (W : World) (E : Ending) (W' : World) : Prop :=
  E = .returned (.bool (v c)) ∧ ∃ S', J (seen ++ [c]) W' S' ∧ Turn S W W' ∧ (∀ b, S' b → S b ∨ W.heap.size ≤ b) ∧ ∀ b, S' b → b < W'.heap.size
/-- No row is wanted. -/
def SeekNo (κ : List Nat → Nat) (l : Nat) (J : List Nat → World → (Nat → Prop) → Prop) (S0 : Nat → Prop) (v : Nat → Bool) (w : World) (E : Ending) (w' : World) : Prop :=
  E = .returned (.tuple #[.slice none 0 0, .bool false]) ∧ ∃ k, EndW κ l k ∧ (∀ u, u ∈ bfsW κ l k → v (κ u) = false) ∧ (∃ S, J ((bfsW κ l k).map κ) w' S ∧ (∀ b, S b → S0 b ∨ w.heap.size ≤ b) ∧ ∀ b, S b → b < w'.heap.size) ∧ Turn S0 w w'
/-- The i-th one is. -/
def SeekYes (κ : List Nat → Nat) (l : Nat) (J : List Nat → World → (Nat → Prop) → Prop) (S0 : Nat → Prop) (v : Nat → Bool) (w : World) (E : Ending) (w' : World) : Prop :=
  ∃ (i : Nat) (az : Option Addr) (cz : Nat), i < (bfsW κ l i).length ∧ (∀ j, j < i → j < (bfsW κ l j).length) ∧ (∀ j, j < i → v (κ ((bfsW κ l i).getD j [])) = false) ∧ v (κ ((bfsW κ l i).getD i [])) = true ∧
    E = .returned (.tuple #[.slice az ((bfsW κ l i).getD i []).length cz, .bool true]) ∧ Ints w' az (natInts ((bfsW κ l i).getD i [])) ∧ (∃ S, J (((bfsW κ l i).take (i + 1)).map κ) w' S ∧ (∀ b, S b → S0 b ∨ w.heap.size ≤ b) ∧ ∀ b, S b → b < w'.heap.size) ∧ Turn S0 w w'
def SeekPost (κ : List Nat → Nat) (l : Nat) (J : List Nat → World → (Nat → Prop) → Prop) (S0 : Nat → Prop) (v : Nat → Bool) (w : World) (E : Ending) (w' : World) : Prop := SeekNo κ l J S0 v w E w' ∨ SeekYes κ l J S0 v w E w'

/-- How it begins. -/
theorem sk_start {w0 : World} {S0 : Nat → Prop} {J : List Nat → World → (Nat → Prop) → Prop} {v0 v1 v2 v3 : Value} (hJ : Stable w0 S0 J) (h0 : J [] w0 S0) (hS0 : ∀ b, S0 b → b < w0.heap.size) {w2 : World} (hg2 : (w0.alloc (.cells #[v0, v1, v2, v3] 25)).grownBy w2 none) {c : Nat} (hc : c < 3125) {w5 : World}
    (hg5 : ((w2.alloc (.cells #[.int .i64 ((dg c 0 : Nat) : Int), .int .i64 ((dg c 1 : Nat) : Int), .int .i64 ((dg c 2 : Nat) : Int), .int .i64 ((dg c 3 : Nat) : Int), .int .i64 ((dg c 4 : Nat) : Int), .int .i64 (-1), .int .i64 0] 114)).alloc (.map #[] 0)).grownBy w5 none) :
    ∃ w6, (Instr.mapUpdate 117 (.map (some (w2.heap.size + 1))) (rowV c) (.agg #[])).run Try.prog w5 = .ok () w6 ∧ SkAt w0 S0 J [] w0.heap.size (w2.heap.size + 1) v0 v1 v2 v3 (some ⟨w2.heap.size, 0, none⟩) 1 [(c, -1, 0)] [c] w6 := by
  obtain ⟨W3, hW3⟩ : ∃ W3, W3 = w2.alloc (.cells #[.int .i64 ((dg c 0 : Nat) : Int), .int .i64 ((dg c 1 : Nat) : Int), .int .i64 ((dg c 2 : Nat) : Int), .int .i64 ((dg c 3 : Nat) : Int), .int .i64 ((dg c 4 : Nat) : Int), .int .i64 (-1), .int .i64 0] 114) := ⟨_, rfl⟩
  rw [← hW3] at hg5
  have s3 : W3.heap.size = w2.heap.size + 1 := by rw [hW3]; simp
  have g0 : w0.grownBy w2 none := grown_trans (grown_alloc _ _) hg2
  have gs2 : w0.heap.size + 1 ≤ w2.heap.size := by have := hg2.size; simpa using this
  have g3 : w2.grownBy W3 none := by rw [hW3]; exact grown_alloc _ _
  have hrow : W3.ownsRow w0.heap.size 114 7 (.slice (some ⟨w2.heap.size, 0, none⟩) 1 1) 1 (scells [(c, -1, 0)]) := by
    rw [hW3]
    exact ⟨by simp [scells, stpC], .inr ⟨w2.heap.size, 1, _, rfl, by omega, heap_alloc_new _ _, Nat.le_refl _, by unfold maxLen; omega, rfl, by simp [scells, stpC]⟩⟩
  have hset := setAt_made W3
  rw [s3] at hset
  have g5 : w2.grownBy w5 none := grown_trans g3 (grown_trans (grown_alloc _ _) hg5)
  have hbox : w5.heap[w0.heap.size]? = some (.cells #[v0, v1, v2, v3] 25 (0, 0)) := ((grown_trans hg2 g5).block _ (by simp) (by simp)).trans (heap_alloc_new _ _)
  have ht : Turn S0 w0 w5 := Turn.of (grown_trans g0 g5)
  have sk : SkAt w0 S0 J [] w0.heap.size (w2.heap.size + 1) v0 v1 v2 v3 (some ⟨w2.heap.size, 0, none⟩) 1 [(c, -1, 0)] [] w5 := by
    refine ⟨hrow.kept (grown_trans (grown_alloc _ _) hg5) (by simp [Value.ownBlock]), hset.kept hg5 (by simp), hbox, ⟨by omega, Nat.le_refl _⟩, ht, ⟨S0, hJ _ _ _ _ h0 (fun b hb => (grown_trans g0 g5).block b (hS0 b hb) (by simp)) ht, fun b hb => Nat.lt_of_lt_of_le (hS0 b hb) (grown_trans g0 g5).size, fun b hb => .inl hb, fun b hb => ?_⟩⟩
    have := hS0 b hb
    simp only [Value.ownBlock, ne_eq, Option.some.injEq]
    omega
  obtain ⟨w6, hr, hs, _⟩ := sk.know hJ hc (by simp)
  exact ⟨w6, hr, hs⟩

end Go.Proofs.Ytofjboelplknhaa
