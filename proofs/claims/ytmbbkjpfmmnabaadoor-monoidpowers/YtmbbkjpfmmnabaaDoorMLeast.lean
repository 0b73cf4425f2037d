/- The least automaton is one, and there is one. -/
import Derived.Test.YtmbbkjpfmmnabaaDoorRLeast
import Derived.Test.YtmbbkjpfmmnabaaDoorLMath
namespace Go.Proofs.YtmbbkjpfmmnabaaDoor
open Go.RowKit
set_option linter.unusedVariables false

theorem LeastOf.good {δ : Nat → Nat → Nat} {m : Nat → Bool} {n l S : Nat} {R : List (List Int)} {M : List Int} (h : LeastOf δ m n l S R M) (hδ : ∀ s a, s < n → a < l → δ s a < n) (hS : S < n) (hl1 : 1 ≤ l) (hl4 : l ≤ 4) (hn : n ≤ 3000) : Good ⟨l, 0, R, M⟩ := by
  obtain ⟨κ, hκ⟩ := ner_key δ m n l
  obtain ⟨k, e, rfl, rfl⟩ := h κ hκ
  have hnd := bfsL_nodup κ δ l S k
  have hlt := bfsL_lt κ hδ hS k
  have hk : k ≤ n := by
    have h1 := nodup_le n (bfsL κ δ l S k) ((List.pairwise_map.1 hnd).imp (fun hne e => hne (by rw [e]))) hlt
    rw [e.len] at h1
    exact h1
  have hk1 : 1 ≤ k := by
    rcases Nat.eq_zero_or_pos k with h0 | h0
    · have h1 := e.len
      subst h0
      simp [bfsL] at h1
    · exact h0
  have hR : (resR κ δ l (bfsL κ δ l S k)).length = k := by simp [resR, e.len]
  have hM : (resM m (bfsL κ δ l S k)).length = k := by simp [resM, e.len]
  have row : ∀ i, i < k → (resR κ δ l (bfsL κ δ l S k)).getD i [] = rowR κ δ l (bfsL κ δ l S k) ((bfsL κ δ l S k).getD i 0) := fun i hi => by
    have : i < (bfsL κ δ l S k).length := by rw [e.len]; exact hi
    simp [resR, List.getD, this]
  refine ⟨by simp only; omega, by simp only; omega, by simp only [hR]; exact hk1, by simp only [hR]; omega, by simp only [hR, hM], fun i hi => ?_, fun i hi x hx => ?_, by simp only [hR]; omega, fun i hi => ?_⟩
  · simp only [hR] at hi ⊢
    rw [row i hi]; simp [rowR]
  · simp only [hR] at hi ⊢
    simp only at hx
    rw [row i hi] at hx ⊢
    have hxl : x < l := by simpa [rowR] using hx
    have h1 := bfsL_has (κ := κ) (δ := δ) (x0 := S) (j := k) hi (e.go i hi) hxl
    have h2 := ix_lt h1
    rw [e.len] at h2
    have e2 : (rowR κ δ l (bfsL κ δ l S k) ((bfsL κ δ l S k).getD i 0)).getD x 0 = ((ix κ (bfsL κ δ l S k) (δ ((bfsL κ δ l S k).getD i 0) x) : Nat) : Int) := by simp [rowR, List.getD, hxl]
    rw [e2]
    omega
  · simp only [hM] at hi
    have hi2 : i < (bfsL κ δ l S k).length := by rw [e.len]; exact hi
    have e3 : (resM m (bfsL κ δ l S k)).getD i 0 = if m ((bfsL κ δ l S k).getD i 0) = true then 1 else 0 := by simp [resM, List.getD, hi2]
    simp only
    rw [e3]
    split
    · exact .inr rfl
    · exact .inl rfl
/-- There is one. -/
theorem least_exists (L S : Int) (R : List (List Int)) (M : List Int) (a a' : Option Addr) (c c' : Nat) (w : World) (h : DetAt w ⟨L, S, R, M⟩ a a') (hG : Good ⟨L, S, R, M⟩) : ∃ RL ML, LeastOf (Dfa.nx ⟨L, S, R, M⟩) (Dfa.mk1 ⟨L, S, R, M⟩) R.length L.toNat S.toNat RL ML := by
  obtain ⟨e, w', fr, ⟨aR, cR, aM, cM, rs, M9, _, hlo, _⟩, _⟩ := leastR_any L S R M a a' c c' w h hG []
  exact ⟨_, _, hlo⟩

end Go.Proofs.YtmbbkjpfmmnabaaDoor
