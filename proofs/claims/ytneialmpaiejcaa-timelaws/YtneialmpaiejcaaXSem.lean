/- What a formula over time says of the places of a lasso: two passes backward, and a search along the places, tell the same. No program is in it. -/
import Derived.Test.YtneialmpaiejcaaWBack
import Derived.Test.YtneialmpaiejcaaWMath
import Derived.Test.YtneialmpaiejcaaTSpec
namespace Go.Proofs.Ytneialmpaiejcaa
open Go.RowKit
set_option linter.unusedVariables false
set_option linter.unusedSimpArgs false

/-- Two passes backward. -/
def cmB (n t : Nat) (kp gl : Nat → Bool) : Nat → Bool := passL (aft n t) kp gl (passL (aft n t) kp gl (fun _ => false) (endsT n n)) (endsT n n)
/-- What a node says of a place: n places, the loop begins at t, the letters are lt. -/
def semT (n t : Nat) (lt : Nat → Nat) : Tr → Nat → Bool
  | .nil, _ => false
  | .node k l r, i => if k = 8 then cmB n t (semT n t lt l) (semT n t lt r) i else if k = 1 then true else if k = 2 then lt i % 2 == 1 else if k = 3 then decide (2 ≤ lt i)
    else if k = 4 then !semT n t lt l i else if k = 5 then semT n t lt l i && semT n t lt r i else if k = 6 then semT n t lt l i || semT n t lt r i else if k = 7 then semT n t lt l (aft n t i) else false
def WellTr : Tr → Prop
  | .nil => False
  | .node k l r => (k ≤ 3 ∧ l = .nil ∧ r = .nil) ∨ ((k = 4 ∨ k = 7) ∧ WellTr l ∧ r = .nil) ∨ ((k = 5 ∨ k = 6 ∨ k = 8) ∧ WellTr l ∧ WellTr r)
theorem wellTr_trOf : ∀ f, WellTr (trOf f) := by
  intro f
  induction f with
  | zero => exact .inl ⟨by omega, rfl, rfl⟩
  | one => exact .inl ⟨by omega, rfl, rfl⟩
  | p => exact .inl ⟨by omega, rfl, rfl⟩
  | q => exact .inl ⟨by omega, rfl, rfl⟩
  | not a ih => exact .inr (.inl ⟨.inl rfl, ih, rfl⟩)
  | next a ih => exact .inr (.inl ⟨.inr rfl, ih, rfl⟩)
  | ev a ih => exact .inr (.inr ⟨.inr (.inr rfl), .inl ⟨by omega, rfl, rfl⟩, ih⟩)
  | glob a ih => exact .inr (.inl ⟨.inl rfl, .inr (.inr ⟨.inr (.inr rfl), .inr (.inl ⟨.inl rfl, .inl ⟨by omega, rfl, rfl⟩, rfl⟩), .inr (.inl ⟨.inl rfl, ih, rfl⟩)⟩), rfl⟩)
  | and a b iha ihb => exact .inr (.inr ⟨.inl rfl, iha, ihb⟩)
  | or a b iha ihb => exact .inr (.inr ⟨.inr (.inl rfl), iha, ihb⟩)
  | til a b iha ihb => exact .inr (.inr ⟨.inr (.inr rfl), iha, ihb⟩)
  | rel a b iha ihb => exact .inr (.inl ⟨.inl rfl, .inr (.inr ⟨.inr (.inr rfl), .inr (.inl ⟨.inl rfl, iha, rfl⟩), .inr (.inl ⟨.inl rfl, ihb, rfl⟩)⟩), rfl⟩)
theorem aft_eq {n t : Nat} : ∀ i, i < n → aft n t i = if i + 1 < n then i + 1 else t := fun i _ => rfl
theorem cmB_iff {n t : Nat} (ht : t < n) {kp gl : Nat → Bool} {i : Nat} (hi : i < n) : cmB n t kp gl i = true ↔ Til (aft n t) kp gl i := comes_iff aft_eq ht hi
/-- A search along the places. -/
def srch (n t : Nat) (kp gl : Nat → Bool) : Nat → Nat → Bool
  | 0, _ => false
  | m + 1, i => if gl i = true then true else if kp i = true then srch n t kp gl m (aft n t i) else false
theorem srch_iff {n t : Nat} {kp gl : Nat → Bool} : ∀ m i, srch n t kp gl m i = true ↔ ∃ j, j < m ∧ gl (goI (aft n t) j i) = true ∧ ∀ k, k < j → kp (goI (aft n t) k i) = true := by
  intro m
  induction m with
  | zero => intro i; simp [srch]
  | succ m ih =>
    intro i
    unfold srch
    by_cases hg : gl i = true
    · rw [if_pos hg]
      exact ⟨fun _ => ⟨0, by omega, hg, fun k hk => by omega⟩, fun _ => rfl⟩
    · rw [if_neg hg]
      by_cases hk : kp i = true
      · rw [if_pos hk, ih]
        constructor
        · rintro ⟨j, h1, h2, h3⟩
          refine ⟨j + 1, by omega, h2, fun k hk' => ?_⟩
          cases k with
          | zero => exact hk
          | succ k => exact h3 k (by omega)
        · rintro ⟨j, h1, h2, h3⟩
          cases j with
          | zero => exact absurd h2 hg
          | succ j => exact ⟨j, by omega, h2, fun k hk' => h3 (k + 1) (by omega)⟩
      · rw [if_neg hk]
        constructor
        · intro h; cases h
        · rintro ⟨j, h1, h2, h3⟩
          cases j with
          | zero => exact absurd h2 hg
          | succ j => exact absurd (h3 0 (by omega)) hk
/-- A goal comes, if ever, within n steps. -/
theorem til_bound {n t : Nat} (ht : t < n) {kp gl : Nat → Bool} {i : Nat} (hi : i < n) (h : Til (aft n t) kp gl i) : ∃ j, j < n ∧ gl (goI (aft n t) j i) = true ∧ ∀ k, k < j → kp (goI (aft n t) k i) = true := by
  obtain ⟨j, hg, hk⟩ := h
  by_cases hj : i + j < n
  · exact ⟨j, by omega, hg, hk⟩
  · have hline : ∀ q, i ≤ q → q < n → kp q = true := fun q h1 h2 => by
      by_cases hqj : q - i < j
      · have := hk (q - i) hqj
        rwa [goI_line aft_eq (q - i) i (by omega), show i + (q - i) = q by omega] at this
      · omega
    have hturn : goI (aft n t) (n - i) i = t := by
      rw [show n - i = (n - 1 - i) + 1 by omega, goI_add, goI_line aft_eq (n - 1 - i) i (by omega)]
      show goI (aft n t) 0 (aft n t _) = t
      rw [aft_eq _ (by omega), if_neg (by omega)]
      rfl
    have hs : ∀ k, goI (aft n t) ((n - i) + k) i = goI (aft n t) k t := fun k => by rw [goI_add, hturn]
    obtain ⟨d, d1, d2, d3⟩ := til_turn (kp := kp) (gl := gl) aft_eq ht (j - (n - i)) (by rw [← hs, show n - i + (j - (n - i)) = j by omega]; exact hg) (fun k hk' => by rw [← hs]; exact hk _ (by omega))
    by_cases hd : i ≤ t + d
    · refine ⟨t + d - i, by omega, ?_, fun k hk' => ?_⟩
      · rw [goI_line aft_eq (t + d - i) i (by omega), show i + (t + d - i) = t + d by omega]; exact d2
      · rw [goI_line aft_eq k i (by omega)]; exact hline _ (by omega) (by omega)
    · refine ⟨(n - i) + d, by omega, ?_, fun k hk' => ?_⟩
      · rw [hs, goI_line aft_eq d t d1]; exact d2
      · by_cases hkn : k < n - i
        · rw [goI_line aft_eq k i (by omega)]; exact hline _ (by omega) (by omega)
        · rw [show k = (n - i) + (k - (n - i)) by omega, hs, goI_line aft_eq _ t (by omega)]
          exact d3 _ (by omega)
theorem cmB_srch {n t : Nat} (ht : t < n) (kp gl : Nat → Bool) {i : Nat} (hi : i < n) : cmB n t kp gl i = srch n t kp gl n i := by
  have h1 := cmB_iff ht (kp := kp) (gl := gl) hi
  have h2 := srch_iff (n := n) (t := t) (kp := kp) (gl := gl) n i
  have h3 : Til (aft n t) kp gl i ↔ srch n t kp gl n i = true := ⟨fun h => h2.2 (til_bound ht hi h), fun h => by obtain ⟨j, _, h4, h5⟩ := h2.1 h; exact ⟨j, h4, h5⟩⟩
  rw [Bool.eq_iff_iff, h1, h3]

end Go.Proofs.Ytneialmpaiejcaa
