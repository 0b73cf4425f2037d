/- Who wins is one: two ways to solve a game name the same winners. -/
import Derived.Test.YtnlkdihfoekjmaaGMath
namespace Go.Proofs.Ytnlkdihfoekjmaa
set_option linter.unusedVariables false

theorem least_from (g : Nat → Nat) (i : Nat) : ∃ t, i ≤ t ∧ ∀ k, i ≤ k → g t ≤ g k := by
  have key : ∀ b k, i ≤ k → g k ≤ b → ∃ t, i ≤ t ∧ ∀ k, i ≤ k → g t ≤ g k := by
    intro b
    induction b with
    | zero => intro k hk hg; exact ⟨k, hk, fun j hj => by omega⟩
    | succ b ih =>
      intro k hk hg
      by_cases h : ∃ j, i ≤ j ∧ g j ≤ b
      · obtain ⟨j, h1, h2⟩ := h
        exact ih j h1 h2
      · exact ⟨k, hk, fun j hj => by
          have : ¬ g j ≤ b := fun e => h ⟨j, hj, e⟩
          omega⟩
  exact key (g i) i (Nat.le_refl _) (Nat.le_refl _)
/-- One goes on and on. -/
def goF (f : Nat → Nat) (p : Nat) : Nat → Nat
  | 0 => p
  | k + 1 => f (goF f p k)
theorem goF_round (f : Nat → Nat) (p n : Nat) (h : ∀ k, goF f p k < n) : ∃ i d, 1 ≤ d ∧ ∀ t, i ≤ t → goF f p (t + d) = goF f p t := by
  have h1 : ∃ i j, i < j ∧ goF f p i = goF f p j := by
    refine Classical.byContradiction fun hno => ?_
    have hnd : ((List.range (n + 1)).map (goF f p)).Nodup := by
      refine List.pairwise_map.2 (List.Pairwise.imp ?_ List.pairwise_lt_range)
      intro a b hab e
      exact hno ⟨a, b, hab, e⟩
    have := List.Nodup.length_le_of_subset hnd (l₂ := List.range n) (fun q hq => by
      obtain ⟨k, _, rfl⟩ := List.mem_map.1 hq
      exact List.mem_range.2 (h k))
    simp at this
    omega
  obtain ⟨i, j, hij, e⟩ := h1
  refine ⟨i, j - i, by omega, fun t ht => ?_⟩
  have key : ∀ k, goF f p (j + k) = goF f p (i + k) := by
    intro k
    induction k with
    | zero => exact e.symm
    | succ k ih =>
      show f (goF f p (j + k)) = f (goF f p (i + k))
      rw [ih]
  have := key (t - i)
  rw [show j + (t - i) = t + (j - i) by omega, show i + (t - i) = t by omega] at this
  exact this
theorem Solved.one {G : Gm} (hG : GoodG G) {W M W' M' : Nat → Int} (h : Solved G (fun p => decide (p < G.n)) W M) (h' : Solved G (fun p => decide (p < G.n)) W' M') {p : Nat} (hp : p < G.n) (h0 : W p = 0) : W' p = 0 := by
  have inP : ∀ q, q < G.n → (fun p => decide (p < G.n)) q = true := fun q hq => decide_eq_true hq
  refine (h'.who p (inP p hp)).resolve_right fun h1 => ?_
  obtain ⟨f, hf⟩ : ∃ f : Nat → Nat, f = fun x => if G.own x = 0 then (M x).toNat else (M' x).toNat := ⟨_, rfl⟩
  -- one step
  have step : ∀ x, x < G.n → W x = 0 → W' x = 1 → f x < G.n ∧ W (f x) = 0 ∧ W' (f x) = 1 ∧ f x ∈ G.nx x ∧ (G.own x = 0 → M x = (f x : Int)) ∧ (G.own x = 1 → M' x = (f x : Int)) := by
    intro x hx a b
    rcases hG.own x hx with ho | ho
    · obtain ⟨q, q1, q2, q3, q4⟩ := h.mine x (inP x hx) (by rw [ho, a])
      have e : f x = q := by rw [hf]; simp [ho, q2]
      have hqn := hG.lt x hx q q1
      rw [e]
      exact ⟨hqn, q4.trans a, (h'.oth x (inP x hx) (by rw [ho, b]; decide) q q1 (inP q hqn)).trans b, q1, fun _ => q2, (fun e1 => by rw [ho] at e1; cases e1)⟩
    · obtain ⟨q, q1, q2, q3, q4⟩ := h'.mine x (inP x hx) (by rw [ho, b])
      have e : f x = q := by rw [hf]; simp [ho, q2]
      have hqn := hG.lt x hx q q1
      rw [e]
      exact ⟨hqn, (h.oth x (inP x hx) (by rw [ho, a]; decide) q q1 (inP q hqn)).trans a, q4.trans b, q1, (fun e1 => by rw [ho] at e1; cases e1), fun _ => q2⟩
  have all : ∀ k, goF f p k < G.n ∧ W (goF f p k) = 0 ∧ W' (goF f p k) = 1 := by
    intro k
    induction k with
    | zero => exact ⟨hp, h0, h1⟩
    | succ k ih =>
      obtain ⟨s1, s2, s3, _⟩ := step _ ih.1 ih.2.1 ih.2.2
      exact ⟨s1, s2, s3⟩
  obtain ⟨i, d, hd, hper⟩ := goF_round f p G.n (fun k => (all k).1)
  obtain ⟨t, ht, hmin⟩ := least_from (fun k => (G.mark (goF f p k)).toNat) i
  have hm : ∀ k, i ≤ k → G.mark (goF f p t) ≤ G.mark (goF f p k) := fun k hk => by
    have a := (hG.mark _ (all t).1).1
    have b := (hG.mark _ (all k).1).1
    have := hmin k hk
    omega
  have round : ∀ E : Nat → Nat → Prop, (∀ k, i ≤ k → E (goF f p k) (goF f p (k + 1))) → Pt E (goF f p t) (goF f p t) := by
    intro E hE
    have key : ∀ k, Pt E (goF f p t) (goF f p (t + k + 1)) := by
      intro k
      induction k with
      | zero => exact .one (hE t ht)
      | succ k ih => exact .more ih (hE (t + k + 1) (by omega))
    have := key (d - 1)
    rw [show t + (d - 1) + 1 = t + d by omega, hper t ht] at this
    exact this
  obtain ⟨a1, a2, a3⟩ := all t
  by_cases hpar : G.mark (goF f p t) % 2 = 0
  · refine h'.bad (goF f p t) (inP _ a1) (by rw [hpar, a3]; decide) (round _ fun k hk => ?_)
    obtain ⟨b1, b2, b3⟩ := all k
    obtain ⟨c1, c2, c3, c4, c5, c6⟩ := step _ b1 b2 b3
    rw [a3]
    exact ⟨c4, inP _ b1, inP _ c1, b3, c3, hm k hk, hm (k + 1) (by omega), c6⟩
  · refine h.bad (goF f p t) (inP _ a1) (by rw [a2]; exact hpar) (round _ fun k hk => ?_)
    obtain ⟨b1, b2, b3⟩ := all k
    obtain ⟨c1, c2, c3, c4, c5, c6⟩ := step _ b1 b2 b3
    rw [a2]
    exact ⟨c4, inP _ b1, inP _ c1, b2, c2, hm k hk, hm (k + 1) (by omega), c5⟩

end Go.Proofs.Ytnlkdihfoekjmaa
