/- States that no word tells apart have one number (no program). -/
import Derived.Test.YtofjboelplknhaaLMath
namespace Go.Proofs.Ytofjboelplknhaa
set_option linter.unusedVariables false

theorem ner_key (δ : Nat → Nat → Nat) (m : Nat → Bool) (n l : Nat) : ∃ κ : Nat → Nat, ∀ p q, p < n → q < n → (κ p = κ q ↔ Ner δ m l p q) := by
  classical
  refine ⟨fun p => (List.range n).findIdx fun r => decide (Ner δ m l r p), fun p q hp hq => ?_⟩
  have key : ∀ p, p < n → Ner δ m l ((List.range n).findIdx fun r => decide (Ner δ m l r p)) p := fun p hp => by
    have h1 : (List.range n).findIdx (fun r => decide (Ner δ m l r p)) < (List.range n).length := List.findIdx_lt_length_of_exists ⟨p, List.mem_range.2 hp, by simpa using Ner.refl δ m l p⟩
    have h2 := List.findIdx_getElem (w := h1)
    simpa using h2
  constructor
  · intro e
    have h1 := key p hp
    have h2 := key q hq
    simp only at e
    rw [e] at h1
    exact h1.symm.trans h2
  · intro e
    have : (fun r => decide (Ner δ m l r p)) = fun r => decide (Ner δ m l r q) := funext fun r => by
      congr 1
      exact propext ⟨fun h => h.trans e, fun h => h.trans e.symm⟩
    simp only [this]

end Go.Proofs.Ytofjboelplknhaa
