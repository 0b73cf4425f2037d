/- The least automaton of the states that are come to. -/
import Derived.Test.YtcgkflddipflbaaHLs
namespace Go.Proofs.Ytcgkflddipflbaa
open Go.RowKit
set_option linter.unusedVariables false

/-- The least one of what is come to is the least one. -/
theorem least_reach {δ : Nat → Nat → Nat} {m : Nat → Bool} {n l S k0 : Nat} {R : List (List Int)} {M : List Int} (hδ : ∀ s a, s < n → a < l → δ s a < n) (hS : S < n) (e0 : IsEnd (bfsL id δ l S) k0)
    (h : LeastOf (reachD δ m l S k0).nx (reachD δ m l S k0).mk1 k0 l 0 R M) : LeastOf δ m n l S R M := by
  obtain ⟨f1, f2, f3, f4⟩ := reach_facts hδ hS e0
  intro κ hκ
  obtain ⟨k1, e1, r1, m1⟩ := h (fun i => κ ((bfsL id δ l S k0).getD i 0)) (fun p q hp hq => by
    rw [hκ _ _ (f1 p hp) (f1 q hq), reach_ner hδ hS e0 hp hq])
  have h0 : (0 : Nat) < k0 ∧ (bfsL id δ l S k0).getD 0 0 = S := ⟨f3, f2⟩
  have hs : ∀ i q a, (i < k0 ∧ (bfsL id δ l S k0).getD i 0 = q) → a < l → ((reachD δ m l S k0).nx i a < k0 ∧ (bfsL id δ l S k0).getD ((reachD δ m l S k0).nx i a) 0 = δ q a) := fun i q a hi ha => by
    rw [reachD_nx e0 hi.1 ha, ← hi.2]
    exact f4 _ _ hi.1 ha
  have hk : ∀ i q i' q', (i < k0 ∧ (bfsL id δ l S k0).getD i 0 = q) → (i' < k0 ∧ (bfsL id δ l S k0).getD i' 0 = q') → ((fun i => κ ((bfsL id δ l S k0).getD i 0)) i = (fun i => κ ((bfsL id δ l S k0).getD i 0)) i' ↔ κ q = κ q') := fun i q i' q' hi hi' => by
    simp only [hi.2, hi'.2]
  have hb := beside_bfs (κ1 := fun i => κ ((bfsL id δ l S k0).getD i 0)) (κ2 := κ) (δ1 := (reachD δ m l S k0).nx) (δ2 := δ) (l := l) (ρ := fun i q => i < k0 ∧ (bfsL id δ l S k0).getD i 0 = q) h0 hs hk
  have e2 : IsEnd (bfsL κ δ l S) k1 := ⟨by rw [← (hb k1).1]; exact e1.len, fun i hi => by rw [← (hb i).1]; exact e1.go i hi⟩
  obtain ⟨r2, m2⟩ := beside_res (m1 := (reachD δ m l S k0).mk1) (m2 := m) (ρ := fun i q => i < k0 ∧ (bfsL id δ l S k0).getD i 0 = q) h0 hs hk (fun i q hi => by rw [reachD_mk e0 hi.1, hi.2]) e1 e2
  exact ⟨k1, e2, r1.trans r2, m1.trans m2⟩

end Go.Proofs.Ytcgkflddipflbaa
