/- The box in which an automaton is made. (Parted from WeStep.) -/
import Derived.Test.YtjinibofbpgfjaaDoorWeBase
import Derived.Test.YtjinibofbpgfjaaDoorSkRow
namespace Go.Proofs.YtjinibofbpgfjaaDoor
open Go.RowKit
set_option linter.unusedVariables false
set_option linter.unusedSimpArgs false

/-- The box of an automaton that is made. -/
structure BxW (W : World) (k : Nat) (L : Int) (aF : Option Addr) (nF cF : Nat) (aS : Option Addr) (nS cS : Nat) (aE : Option Addr) (nE cE : Nat) : Prop where
  heap : W.heap[k]? = some (.cells #[.int .i64 L, .slice aF nF cF, .slice aS nS cS, .slice aE nE cE] 25 (0, 0))
theorem BxW.box {W : World} {k : Nat} {L : Int} {aF aS aE : Option Addr} {nF cF nS cS nE cE : Nat} (h : BxW W k L aF nF cF aS nS cS aE nE cE) : Box4 W k L aF nF cF aS nS cS aE nE cE ∧ ∀ i, W.frozen? ⟨k, i, none⟩ = false := by
  have hc : ∀ i v, #[Value.int .i64 L, .slice aF nF cF, .slice aS nS cS, .slice aE nE cE][i]? = some v → W.cell? ⟨k, i, none⟩ = some v := fun i v hv => by rw [cell_of_row _ _ i _ _ (0, 0) h.heap]; exact hv
  exact ⟨⟨hc 0 _ rfl, hc 1 _ rfl, hc 2 _ rfl, hc 3 _ rfl⟩, fun i => frozen_of_row _ _ _ _ _ h.heap⟩
theorem BxW.step {W : World} {k : Nat} {L : Int} {aF aS aE : Option Addr} {nF cF nS cS nE cE : Nat} (h : BxW W k L aF nF cF aS nS cS aE nE cE) (a : Option Addr) (n c : Nat) : BxW (W.setCell ⟨k, 2, none⟩ (.slice a n c)) k L aF nF cF a n c aE nE cE := by
  have h1 := heap_setCell_same W k 2 _ _ (.slice a n c) h.heap
  exact ⟨by rw [h1]; simp⟩
theorem four_store {W : World} {B : Nat} {t : TypeId} {u0 u1 u2 u3 : Value} (h : W.heap[B]? = some (.cells #[u0, u1, u2, u3] t (0, 0))) (v0 v1 v2 v3 : Value) :
    (W.cell? ⟨B, 0, none⟩ = some u0 ∧ W.cell? ⟨B, 1, none⟩ = some u1 ∧ W.cell? ⟨B, 2, none⟩ = some u2 ∧ W.cell? ⟨B, 3, none⟩ = some u3) ∧ (∀ i, W.frozen? ⟨B, i, none⟩ = false) ∧ ∃ W', W' = (((W.setCell ⟨B, 0, none⟩ v0).setCell ⟨B, 1, none⟩ v1).setCell ⟨B, 2, none⟩ v2).setCell ⟨B, 3, none⟩ v3 ∧ W.grownBy W' (some B) ∧ W'.heap[B]? = some (.cells #[v0, v1, v2, v3] t (0, 0)) := by
  have hc : ∀ k v, #[u0, u1, u2, u3][k]? = some v → W.cell? ⟨B, k, none⟩ = some v := fun k v hv => by rw [cell_of_row _ _ k _ _ (0, 0) h]; exact hv
  have h1 := heap_setCell_same W B 0 _ _ v0 h
  have h2 := heap_setCell_same _ B 1 _ _ v1 h1
  have h3 := heap_setCell_same _ B 2 _ _ v2 h2
  have h4 := heap_setCell_same _ B 3 _ _ v3 h3
  exact ⟨⟨hc 0 _ rfl, hc 1 _ rfl, hc 2 _ rfl, hc 3 _ rfl⟩, fun i => frozen_of_row _ _ _ _ _ h, _, rfl, grown_trans (grown_set _ _ _) (grown_trans (grown_set _ _ _) (grown_trans (grown_set _ _ _) (grown_set _ _ _))), by rw [h4]; simp⟩
end Go.Proofs.YtjinibofbpgfjaaDoor
