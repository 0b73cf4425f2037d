/- Until, over the places of a lasso: two passes backward tell it. No program is in it. -/
import Derived.Test.YtneialmpaiejcaaSay
namespace Go.Proofs.Ytneialmpaiejcaa
set_option linter.unusedVariables false

/-- One place of a pass. -/
def pstep (nx : Nat → Nat) (kp gl : Nat → Bool) (o : Nat → Bool) (i : Nat) : Nat → Bool := fun j => if j = i then gl i || (kp i && o (nx i)) else o j
/-- A pass over these places. -/
def passL (nx : Nat → Nat) (kp gl : Nat → Bool) (o : Nat → Bool) (is : List Nat) : Nat → Bool := is.foldl (pstep nx kp gl) o
/-- A step again and again. -/
def goI (nx : Nat → Nat) : Nat → Nat → Nat
  | 0, i => i
  | k + 1, i => goI nx k (nx i)
/-- It keeps until a goal comes. -/
def Til (nx : Nat → Nat) (kp gl : Nat → Bool) (i : Nat) : Prop := ∃ j, gl (goI nx j i) = true ∧ ∀ k, k < j → kp (goI nx k i) = true
theorem til_unfold {nx : Nat → Nat} {kp gl : Nat → Bool} {i : Nat} : Til nx kp gl i ↔ (gl i = true ∨ (kp i = true ∧ Til nx kp gl (nx i))) := by
  constructor
  · rintro ⟨j, h1, h2⟩
    cases j with
    | zero => exact .inl h1
    | succ j => exact .inr ⟨h2 0 (by omega), j, h1, fun k hk => h2 (k + 1) (by omega)⟩
  · rintro (h | ⟨h1, j, h2, h3⟩)
    · exact ⟨0, h, fun k hk => by omega⟩
    · refine ⟨j + 1, h2, fun k hk => ?_⟩
      cases k with
      | zero => exact h1
      | succ k => exact h3 k (by omega)
theorem pass_sound {nx : Nat → Nat} {kp gl : Nat → Bool} : ∀ (is : List Nat) (o : Nat → Bool), (∀ j, o j = true → Til nx kp gl j) → ∀ j, passL nx kp gl o is j = true → Til nx kp gl j := by
  intro is
  induction is with
  | nil => intro o h j hj; exact h j hj
  | cons i is ih =>
    intro o h j hj
    refine ih _ (fun q hq => ?_) j hj
    unfold pstep at hq
    by_cases e : q = i
    · rw [if_pos e] at hq
      subst e
      rw [til_unfold]
      simp only [Bool.or_eq_true, Bool.and_eq_true] at hq
      rcases hq with h1 | ⟨h1, h2⟩
      · exact .inl h1
      · exact .inr ⟨h1, h _ h2⟩
    · rw [if_neg e] at hq; exact h q hq
def endsT (n r : Nat) : List Nat := (List.range r).map fun q => n - 1 - q
theorem endsT_succ (n r : Nat) : endsT n (r + 1) = endsT n r ++ [n - 1 - r] := by simp [endsT, List.range_succ]
theorem passL_snoc {nx : Nat → Nat} {kp gl : Nat → Bool} (o : Nat → Bool) (is : List Nat) (i : Nat) : passL nx kp gl o (is ++ [i]) = pstep nx kp gl (passL nx kp gl o is) i := by simp [passL]
/-- A place keeps its value once the pass is by. -/
theorem pass_keep {nx : Nat → Nat} {kp gl : Nat → Bool} (o : Nat → Bool) (n : Nat) : ∀ r r' i, r ≤ r' → r' ≤ n → n ≤ i + r → i < n → passL nx kp gl o (endsT n r') i = passL nx kp gl o (endsT n r) i := by
  intro r r' i h1 h2 h3 h4
  induction r' with
  | zero => obtain rfl : r = 0 := by omega
            rfl
  | succ r' ih =>
    by_cases e : r = r' + 1
    · rw [e]
    · rw [endsT_succ, passL_snoc]
      unfold pstep
      rw [if_neg (by omega)]
      exact ih (by omega) (by omega)
/-- A place has its old value until the pass comes to it. -/
theorem pass_old {nx : Nat → Nat} {kp gl : Nat → Bool} (o : Nat → Bool) (n : Nat) : ∀ r i, i + r < n → passL nx kp gl o (endsT n r) i = o i := by
  intro r i h
  induction r with
  | zero => rfl
  | succ r ih =>
    rw [endsT_succ, passL_snoc]
    unfold pstep
    rw [if_neg (by omega)]
    exact ih (by omega)
/-- What the pass makes of a place. -/
theorem pass_at {nx : Nat → Nat} {kp gl : Nat → Bool} (o : Nat → Bool) {n i : Nat} (hi : i < n) : passL nx kp gl o (endsT n n) i = (gl i || (kp i && passL nx kp gl o (endsT n (n - 1 - i)) (nx i))) := by
  rw [pass_keep o n (n - i) n i (by omega) (by omega) (by omega) hi]
  rw [show n - i = (n - 1 - i) + 1 by omega, endsT_succ, passL_snoc]
  unfold pstep
  rw [if_pos (by omega), show n - 1 - (n - 1 - i) = i by omega]

theorem pass_next {n t : Nat} {kp gl : Nat → Bool} {nx : Nat → Nat} (hnx : ∀ i, i < n → nx i = if i + 1 < n then i + 1 else t) (o : Nat → Bool) {i : Nat} (hi : i + 1 < n) : passL nx kp gl o (endsT n n) i = (gl i || (kp i && passL nx kp gl o (endsT n n) (i + 1))) := by
  rw [pass_at o (by omega), hnx i (by omega), if_pos hi, pass_keep o n (n - 1 - i) n (i + 1) (by omega) (by omega) (by omega) hi]
theorem pass_last {n t : Nat} {kp gl : Nat → Bool} {nx : Nat → Nat} (hnx : ∀ i, i < n → nx i = if i + 1 < n then i + 1 else t) (o : Nat → Bool) {i : Nat} (hi : i < n) (hl : ¬ i + 1 < n) : passL nx kp gl o (endsT n n) i = (gl i || (kp i && o t)) := by
  rw [pass_at o hi, hnx i hi, if_neg hl]
  have : n - 1 - i = 0 := by omega
  rw [this]
  rfl
/-- A goal ahead of the end is told by the first pass. -/
theorem pass_first {n t : Nat} {kp gl : Nat → Bool} {nx : Nat → Nat} (hnx : ∀ i, i < n → nx i = if i + 1 < n then i + 1 else t) (o : Nat → Bool) : ∀ d i, i + d < n → gl (i + d) = true → (∀ k, k < d → kp (i + k) = true) → passL nx kp gl o (endsT n n) i = true := by
  intro d
  induction d with
  | zero =>
    intro i hi hg _
    rw [pass_at o (by omega), show i = i + 0 by omega, hg]
    rfl
  | succ d ih =>
    intro i hi hg hk
    rw [pass_next hnx o (by omega), ih (i + 1) (by omega) (by rw [show i + 1 + d = i + (d + 1) by omega]; exact hg) (fun k hk' => by rw [show i + 1 + k = i + (k + 1) by omega]; exact hk (k + 1) (by omega))]
    have h0 := hk 0 (by omega)
    rw [Nat.add_zero] at h0
    rw [h0]
    simp
theorem goI_line {n t : Nat} {nx : Nat → Nat} (hnx : ∀ i, i < n → nx i = if i + 1 < n then i + 1 else t) : ∀ k i, i + k < n → goI nx k i = i + k := by
  intro k
  induction k with
  | zero => intro i _; rfl
  | succ k ih =>
    intro i h
    rw [goI, hnx i (by omega), if_pos (by omega), ih (i + 1) (by omega)]
    omega
theorem goI_add {nx : Nat → Nat} : ∀ a b i, goI nx (a + b) i = goI nx b (goI nx a i) := by
  intro a
  induction a with
  | zero => intro b i; rw [Nat.zero_add]; rfl
  | succ a ih => intro b i; rw [show a + 1 + b = (a + b) + 1 by omega, goI, ih, goI]
/-- From the loop's first place on a goal comes, if ever, ahead of the end. -/
theorem til_turn {n t : Nat} {kp gl : Nat → Bool} {nx : Nat → Nat} (hnx : ∀ i, i < n → nx i = if i + 1 < n then i + 1 else t) (ht : t < n) : ∀ j, gl (goI nx j t) = true → (∀ k, k < j → kp (goI nx k t) = true) → ∃ d, t + d < n ∧ gl (t + d) = true ∧ ∀ k, k < d → kp (t + k) = true := by
  intro j
  induction j using Nat.strongRecOn with
  | ind j ih =>
    intro hg hk
    by_cases hj : t + j < n
    · rw [goI_line hnx j t hj] at hg
      exact ⟨j, hj, hg, fun k hk' => by have := hk k hk'; rwa [goI_line hnx k t (by omega)] at this⟩
    · have hr : goI nx (n - t) t = t := by
        rw [show n - t = (n - 1 - t) + 1 by omega, goI_add, goI_line hnx (n - 1 - t) t (by omega)]
        show goI nx 0 (nx _) = t
        rw [hnx _ (by omega), if_neg (by omega)]
        rfl
      have hs : ∀ k, goI nx ((n - t) + k) t = goI nx k t := fun k => by rw [goI_add, hr]
      refine ih (j - (n - t)) (by omega) ?_ (fun k hk' => ?_)
      · rw [← hs, show n - t + (j - (n - t)) = j by omega]; exact hg
      · rw [← hs]; exact hk _ (by omega)
theorem pass_all {n t : Nat} {kp gl : Nat → Bool} {nx : Nat → Nat} (hnx : ∀ i, i < n → nx i = if i + 1 < n then i + 1 else t) (ht : t < n) {i : Nat} (hi : i < n) (h : Til nx kp gl i) : passL nx kp gl (passL nx kp gl (fun _ => false) (endsT n n)) (endsT n n) i = true := by
  have key : ∀ m i, i < n → n ≤ i + m → Til nx kp gl i → passL nx kp gl (passL nx kp gl (fun _ => false) (endsT n n)) (endsT n n) i = true := by
    intro m
    induction m with
    | zero => intro i h1 h2; omega
    | succ m ih =>
      intro i h1 h2 hT
      rw [til_unfold] at hT
      by_cases hl : i + 1 < n
      · rw [pass_next hnx _ hl]
        rcases hT with h | ⟨h3, h4⟩
        · rw [h]; rfl
        · rw [hnx i h1, if_pos hl] at h4
          rw [ih (i + 1) hl (by omega) h4, h3]; simp
      · rw [pass_last hnx _ h1 hl]
        rcases hT with h | ⟨h3, h4⟩
        · rw [h]; rfl
        · rw [hnx i h1, if_neg hl] at h4
          obtain ⟨j, hg, hk⟩ := h4
          obtain ⟨d, d1, d2, d3⟩ := til_turn hnx ht j hg hk
          rw [pass_first hnx _ d t d1 d2 d3, h3]; simp
  exact key (n - i) i hi (by omega) h
/-- Two passes tell it. -/
theorem comes_iff {n t : Nat} {kp gl : Nat → Bool} {nx : Nat → Nat} (hnx : ∀ i, i < n → nx i = if i + 1 < n then i + 1 else t) (ht : t < n) {i : Nat} (hi : i < n) : passL nx kp gl (passL nx kp gl (fun _ => false) (endsT n n)) (endsT n n) i = true ↔ Til nx kp gl i :=
  ⟨fun h => pass_sound _ _ (fun j hj => pass_sound _ _ (fun q hq => by cases hq) j hj) i h, pass_all hnx ht hi⟩

end Go.Proofs.Ytneialmpaiejcaa
