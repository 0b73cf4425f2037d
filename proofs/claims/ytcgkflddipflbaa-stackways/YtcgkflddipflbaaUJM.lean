/- Two automata of infinite words in one, without the program: beside each other (what either accepts), and both at once, with a mark for which of the two is waited for (what both accept). -/
/- Two automata in one, as numbers: what is put together may be one, and accepts what it should. -/
import Derived.Test.YtcgkflddipflbaaUSem
namespace Go.Proofs.Ytcgkflddipflbaa
set_option linter.unusedVariables false

theorem pw_add (z : List Nat) (a b : Nat) : pw z (a + b) = pw z a ++ pw z b := by
  induction b with
  | zero => simp [pw]
  | succ b ih => rw [Nat.add_succ]; simp only [pw]; rw [ih, List.append_assoc]
theorem good_plain {T : List StepI} {fs : Nat} {z : List Nat} {p q : Nat} (h : goodP T fs z p q) : plainP T z p q := by
  induction z generalizing p with
  | nil => exact h.elim
  | cons a z ih =>
    obtain ⟨r, h1, ⟨_, h2⟩ | h2⟩ := h
    · exact ⟨r, h1, h2⟩
    · exact ⟨r, h1, ih h2⟩

/-! ### one within another -/
section
variable {T T' : List StepI} {D : Nat → Prop} {f : Nat → Nat} {fs fs' : Nat}
theorem plain_sim (hs : ∀ p a r, D p → (stepR T' (f p) a r ↔ ∃ r0, r = f r0 ∧ stepR T p a r0)) (hD : ∀ p a r, D p → stepR T p a r → D r) {z : List Nat} {p q : Nat} (hp : D p) : plainP T' z (f p) q ↔ ∃ q0, q = f q0 ∧ plainP T z p q0 := by
  induction z generalizing p with
  | nil =>
    constructor
    · intro h
      have h' : f p = q := h
      exact ⟨p, h'.symm, rfl⟩
    · rintro ⟨q0, rfl, h⟩
      have h' : p = q0 := h
      subst h'
      rfl
  | cons a z ih =>
    constructor
    · rintro ⟨r, h1, h2⟩
      obtain ⟨r0, rfl, h3⟩ := (hs p a r hp).1 h1
      obtain ⟨q0, rfl, h4⟩ := (ih (hD _ _ _ hp h3)).1 h2
      exact ⟨q0, rfl, r0, h3, h4⟩
    · rintro ⟨q0, rfl, r0, h3, h4⟩
      exact ⟨f r0, (hs p a _ hp).2 ⟨r0, rfl, h3⟩, (ih (hD _ _ _ hp h3)).2 ⟨q0, rfl, h4⟩⟩
theorem plain_D (hD : ∀ p a r, D p → stepR T p a r → D r) {z : List Nat} {p q : Nat} (hp : D p) (h : plainP T z p q) : D q := by
  induction z generalizing p with
  | nil => have h' : p = q := h; exact h' ▸ hp
  | cons a z ih => obtain ⟨r, h1, h2⟩ := h; exact ih (hD _ _ _ hp h1) h2
theorem good_sim (hs : ∀ p a r, D p → (stepR T' (f p) a r ↔ ∃ r0, r = f r0 ∧ stepR T p a r0)) (hD : ∀ p a r, D p → stepR T p a r → D r) (hf : ∀ p, D p → fs'.testBit (f p) = fs.testBit p) {z : List Nat} {p q : Nat} (hp : D p) : goodP T' fs' z (f p) q ↔ ∃ q0, q = f q0 ∧ goodP T fs z p q0 := by
  induction z generalizing p with
  | nil => exact ⟨fun h => h.elim, fun ⟨_, _, h⟩ => h.elim⟩
  | cons a z ih =>
    constructor
    · rintro ⟨r, h1, h2⟩
      obtain ⟨r0, rfl, h3⟩ := (hs p a r hp).1 h1
      have hr := hD _ _ _ hp h3
      rcases h2 with ⟨h4, h5⟩ | h4
      · obtain ⟨q0, rfl, h6⟩ := (plain_sim hs hD hr).1 h5
        exact ⟨q0, rfl, r0, h3, .inl ⟨(hf p hp) ▸ h4, h6⟩⟩
      · obtain ⟨q0, rfl, h6⟩ := (ih hr).1 h4
        exact ⟨q0, rfl, r0, h3, .inr h6⟩
    · rintro ⟨q0, rfl, r0, h3, h2⟩
      have hr := hD _ _ _ hp h3
      refine ⟨f r0, (hs p a _ hp).2 ⟨r0, rfl, h3⟩, ?_⟩
      rcases h2 with ⟨h4, h5⟩ | h4
      · exact .inl ⟨by rw [hf p hp]; exact h4, (plain_sim hs hD hr).2 ⟨q0, rfl, h5⟩⟩
      · exact .inr ((ih hr).2 ⟨q0, rfl, h4⟩)
/-- A start's way in the greater one is a way in the smaller one. -/
theorem acc_sim (hs : ∀ p a r, D p → (stepR T' (f p) a r ↔ ∃ r0, r = f r0 ∧ stepR T p a r0)) (hD : ∀ p a r, D p → stepR T p a r → D r) (hf : ∀ p, D p → fs'.testBit (f p) = fs.testBit p) (hi : ∀ p q, f p = f q → p = q) {ss : Nat} (hS : ∀ p, ss.testBit p = true → D p) {h lp : List Nat} :
    (∃ p q i j, ss.testBit p = true ∧ plainP T' (h ++ pw lp i) (f p) q ∧ goodP T' fs' (pw lp j) q q) ↔ AccL T ss fs h lp := by
  constructor
  · rintro ⟨p, q, i, j, h1, h2, h3⟩
    obtain ⟨q0, rfl, h4⟩ := (plain_sim hs hD (hS p h1)).1 h2
    obtain ⟨q1, h5, h6⟩ := (good_sim hs hD hf (plain_D hD (hS p h1) h4)).1 h3
    have := hi _ _ h5
    subst this
    exact ⟨p, q0, i, j, h1, h4, h6⟩
  · rintro ⟨p, q0, i, j, h1, h4, h6⟩
    exact ⟨p, f q0, i, j, h1, (plain_sim hs hD (hS p h1)).2 ⟨q0, rfl, h4⟩, (good_sim hs hD hf (plain_D hD (hS p h1) h4)).2 ⟨q0, rfl, h6⟩⟩
end

/-! ### ways round, to a common measure -/
section
variable {T : List StepI} {fs ss : Nat} {h lp : List Nat}
theorem round_times {q j : Nat} (hg : goodP T fs (pw lp j) q q) : ∀ k, goodP T fs (pw lp (j * (k + 1))) q q := by
  intro k
  induction k with
  | zero => simpa using hg
  | succ k ih =>
    rw [Nat.mul_succ, pw_add]
    exact goodP_append.2 ⟨q, .inl ⟨ih, good_plain hg⟩⟩
theorem good_pos {q j : Nat} (hg : goodP T fs (pw lp j) q q) : 1 ≤ j := by
  rcases Nat.eq_zero_or_pos j with h | h
  · subst h; exact hg.elim
  · exact h
/-- One that is accepted is so however late it is looked. -/
theorem acc_late {q0 q i j : Nat} (hp : plainP T (h ++ pw lp i) q0 q) (hg : goodP T fs (pw lp j) q q) (n : Nat) : ∃ m J, 1 ≤ J ∧ plainP T (h ++ pw lp (i + n)) q0 m ∧ goodP T fs (pw lp J) m m := by
  have hj := good_pos hg
  have h1 := good_plain (round_times hg n)
  obtain ⟨e, he⟩ : ∃ e, j * (n + 1) = n + e := ⟨j * (n + 1) - n, by have : 1 * (n + 1) ≤ j * (n + 1) := Nat.mul_le_mul_right _ hj; omega⟩
  rw [he, pw_add] at h1
  obtain ⟨m, h2, h3⟩ := plainP_append.1 h1
  refine ⟨m, e + (j + n), by omega, ?_, ?_⟩
  · rw [pw_add, ← List.append_assoc]
    exact plainP_append.2 ⟨q, hp, h2⟩
  · rw [pw_add]
    refine goodP_append.2 ⟨q, .inr ⟨h3, ?_⟩⟩
    rw [pw_add]
    exact goodP_append.2 ⟨q, .inl ⟨hg, h2⟩⟩
end

/-! ### both at once -/
/-- For which of the two it is waited next. -/
def nxW (fa fb s t w : Nat) : Nat := if w = 0 then (if fa.testBit s = true then 1 else 0) else (if fb.testBit t = true then 0 else 1)
theorem nxW_le (fa fb s t w : Nat) : nxW fa fb s t w ≤ 1 := by unfold nxW; split <;> split <;> omega
/-- A state of both, and for which it is waited. -/
def codeW (nb s t w : Nat) : Nat := (s * nb + t) * 2 + w
theorem codeW_inj {nb s t w s' t' w' : Nat} (ht : t < nb) (ht' : t' < nb) (hw : w ≤ 1) (hw' : w' ≤ 1) (h : codeW nb s t w = codeW nb s' t' w') : s = s' ∧ t = t' ∧ w = w' := by
  unfold codeW at h
  have h1 : w = w' := by omega
  have h2 : s * nb + t = s' * nb + t' := by omega
  have h3 : s = s' := by
    rcases Nat.lt_trichotomy s s' with c | c | c
    · have : (s + 1) * nb ≤ s' * nb := Nat.mul_le_mul_right _ c
      rw [Nat.succ_mul] at this; omega
    · exact c
    · have : (s' + 1) * nb ≤ s * nb := Nat.mul_le_mul_right _ c
      rw [Nat.succ_mul] at this; omega
  subst h3
  exact ⟨rfl, by omega, h1⟩
structure BothT (A B T' : List StepI) (fa fb f' nb : Nat) : Prop where
  step : ∀ P a Q, stepR T' P a Q ↔ ∃ s t w s' t', w ≤ 1 ∧ P = codeW nb s t w ∧ Q = codeW nb s' t' (nxW fa fb s t w) ∧ stepR A s a s' ∧ stepR B t a t'
  b1 : ∀ t a t', stepR B t a t' → t < nb
  b2 : ∀ t a t', stepR B t a t' → t' < nb
  fin : ∀ s t w, t < nb → w ≤ 1 → (f'.testBit (codeW nb s t w) = true ↔ w = 0 ∧ fa.testBit s = true)
section
variable {A B T' : List StepI} {fa fb f' nb : Nat}
theorem BothT.down (H : BothT A B T' fa fb f' nb) {s t w a Q : Nat} (ht : t < nb) (hw : w ≤ 1) (h : stepR T' (codeW nb s t w) a Q) : ∃ s' t', Q = codeW nb s' t' (nxW fa fb s t w) ∧ stepR A s a s' ∧ stepR B t a t' := by
  obtain ⟨s1, t1, w1, s', t', h1, h2, h3, h4, h5⟩ := (H.step _ _ _).1 h
  obtain ⟨rfl, rfl, rfl⟩ := codeW_inj ht (H.b1 _ _ _ h5) hw h1 h2
  exact ⟨s', t', h3, h4, h5⟩
theorem BothT.up (H : BothT A B T' fa fb f' nb) {s t w a s' t' : Nat} (hw : w ≤ 1) (h1 : stepR A s a s') (h2 : stepR B t a t') : stepR T' (codeW nb s t w) a (codeW nb s' t' (nxW fa fb s t w)) :=
  (H.step _ _ _).2 ⟨s, t, w, s', t', hw, rfl, rfl, h1, h2⟩
theorem BothT.plain_down (H : BothT A B T' fa fb f' nb) {z : List Nat} {s t w Q : Nat} (ht : t < nb) (hw : w ≤ 1) (h : plainP T' z (codeW nb s t w) Q) : ∃ s' t' w', t' < nb ∧ w' ≤ 1 ∧ Q = codeW nb s' t' w' ∧ plainP A z s s' ∧ plainP B z t t' := by
  induction z generalizing s t w with
  | nil => have h' : codeW nb s t w = Q := h; exact ⟨s, t, w, ht, hw, h'.symm, rfl, rfl⟩
  | cons a z ih =>
    obtain ⟨r, h1, h2⟩ := h
    obtain ⟨s1, t1, rfl, h3, h4⟩ := H.down ht hw h1
    obtain ⟨s', t', w', h5, h6, h7, h8, h9⟩ := ih (H.b2 _ _ _ h4) (nxW_le _ _ _ _ _) h2
    exact ⟨s', t', w', h5, h6, h7, ⟨s1, h3, h8⟩, t1, h4, h9⟩
/-- The first is in a final state of its own where both are in one. -/
theorem BothT.goodA (H : BothT A B T' fa fb f' nb) {z : List Nat} {s t w s' t' w' : Nat} (ht : t < nb) (hw : w ≤ 1) (ht' : t' < nb) (hw' : w' ≤ 1) (h : goodP T' f' z (codeW nb s t w) (codeW nb s' t' w')) : goodP A fa z s s' := by
  induction z generalizing s t w with
  | nil => exact h.elim
  | cons a z ih =>
    obtain ⟨r, h1, h2⟩ := h
    obtain ⟨s1, t1, rfl, h3, h4⟩ := H.down ht hw h1
    rcases h2 with ⟨h5, h6⟩ | h5
    · obtain ⟨s2, t2, w2, h7, h8, h9, h10, _⟩ := H.plain_down (H.b2 _ _ _ h4) (nxW_le _ _ _ _ _) h6
      obtain ⟨rfl, _, _⟩ := codeW_inj ht' h7 hw' h8 h9
      exact ⟨s1, h3, .inl ⟨((H.fin s t w ht hw).1 h5).2, h10⟩⟩
    · exact ⟨s1, h3, .inr (ih (H.b2 _ _ _ h4) (nxW_le _ _ _ _ _) h5)⟩
/-- Where it is no longer waited for the second, the second was in a final state. -/
theorem BothT.turned (H : BothT A B T' fa fb f' nb) {z : List Nat} {s t s' t' : Nat} (ht : t < nb) (ht' : t' < nb) (h : plainP T' z (codeW nb s t 1) (codeW nb s' t' 0)) : goodP B fb z t t' := by
  induction z generalizing s t with
  | nil => have h' : codeW nb s t 1 = codeW nb s' t' 0 := h; have := (codeW_inj ht ht' (by omega) (by omega) h').2.2; omega
  | cons a z ih =>
    obtain ⟨r, h1, h2⟩ := h
    obtain ⟨s1, t1, rfl, h3, h4⟩ := H.down ht (by omega) h1
    by_cases c : fb.testBit t = true
    · obtain ⟨s2, t2, w2, h7, h8, h9, _, h10⟩ := H.plain_down (H.b2 _ _ _ h4) (nxW_le _ _ _ _ _) h2
      obtain ⟨_, rfl, _⟩ := codeW_inj ht' h7 (by omega) h8 h9
      exact ⟨t1, h4, .inl ⟨c, h10⟩⟩
    · have e : nxW fa fb s t 1 = 1 := by simp [nxW, c]
      rw [e] at h2
      exact ⟨t1, h4, .inr (ih (H.b2 _ _ _ h4) h2)⟩
theorem BothT.goodB (H : BothT A B T' fa fb f' nb) {z : List Nat} {s t w s' t' w' : Nat} (ht : t < nb) (hw : w ≤ 1) (ht' : t' < nb) (hw' : w' ≤ 1) (hc : w' = 0 ∨ w = 1) (h : goodP T' f' z (codeW nb s t w) (codeW nb s' t' w')) : goodP B fb z t t' := by
  induction z generalizing s t w with
  | nil => exact h.elim
  | cons a z ih =>
    obtain ⟨r, h1, h2⟩ := h
    obtain ⟨s1, t1, rfl, h3, h4⟩ := H.down ht hw h1
    rcases h2 with ⟨h5, h6⟩ | h5
    · obtain ⟨h7, h8⟩ := (H.fin s t w ht hw).1 h5
      subst h7
      have e : nxW fa fb s t 0 = 1 := by simp [nxW, h8]
      have e' : w' = 0 := by omega
      subst e'
      rw [e] at h6
      exact ⟨t1, h4, .inr (H.turned (H.b2 _ _ _ h4) ht' h6)⟩
    · rcases hc with hc | hc
      · exact ⟨t1, h4, .inr (ih (H.b2 _ _ _ h4) (nxW_le _ _ _ _ _) (.inl hc) h5)⟩
      · subst hc
        by_cases c : fb.testBit t = true
        · obtain ⟨s2, t2, w2, h7, h8, h9, _, h10⟩ := H.plain_down (H.b2 _ _ _ h4) (nxW_le _ _ _ _ _) (good_plain h5)
          obtain ⟨_, rfl, _⟩ := codeW_inj ht' h7 hw' h8 h9
          exact ⟨t1, h4, .inl ⟨c, h10⟩⟩
        · have e : nxW fa fb s t 1 = 1 := by simp [nxW, c]
          rw [e] at h5
          exact ⟨t1, h4, .inr (ih (H.b2 _ _ _ h4) (by omega) (.inr rfl) h5)⟩
theorem BothT.lift (H : BothT A B T' fa fb f' nb) {z : List Nat} {s t w s' t' : Nat} (hw : w ≤ 1) (h1 : plainP A z s s') (h2 : plainP B z t t') : ∃ w', w' ≤ 1 ∧ plainP T' z (codeW nb s t w) (codeW nb s' t' w') := by
  induction z generalizing s t w with
  | nil => have e1 : s = s' := h1; have e2 : t = t' := h2; subst e1; subst e2; exact ⟨w, hw, rfl⟩
  | cons a z ih =>
    obtain ⟨s1, h3, h4⟩ := h1
    obtain ⟨t1, h5, h6⟩ := h2
    obtain ⟨w', h7, h8⟩ := ih (nxW_le fa fb s t w) h4 h6
    exact ⟨w', h7, _, H.up hw h3 h5, h8⟩
/-- While it is waited for the first, and the first comes to a final state. -/
theorem BothT.lift0 (H : BothT A B T' fa fb f' nb) {z : List Nat} {s t s' t' : Nat} (ht : t < nb) (h1 : goodP A fa z s s') (h2 : plainP B z t t') : ∃ w', w' ≤ 1 ∧ goodP T' f' z (codeW nb s t 0) (codeW nb s' t' w') := by
  induction z generalizing s t with
  | nil => exact h1.elim
  | cons a z ih =>
    obtain ⟨s1, h3, h4⟩ := h1
    obtain ⟨t1, h5, h6⟩ := h2
    have hu := H.up (w := 0) (by omega) h3 h5
    by_cases c : fa.testBit s = true
    · have hp : plainP A z s1 s' := by
        rcases h4 with ⟨_, h4⟩ | h4
        · exact h4
        · exact good_plain h4
      obtain ⟨w', h7, h8⟩ := H.lift (nxW_le fa fb s t 0) hp h6
      exact ⟨w', h7, _, hu, .inl ⟨(H.fin s t 0 ht (by omega)).2 ⟨rfl, c⟩, h8⟩⟩
    · have e : nxW fa fb s t 0 = 0 := by simp [nxW, c]
      rw [e] at hu
      rcases h4 with ⟨h4, _⟩ | h4
      · exact absurd h4 c
      · obtain ⟨w', h7, h8⟩ := ih (H.b2 _ _ _ h5) h4 h6
        exact ⟨w', h7, _, hu, .inr h8⟩
theorem BothT.lift0p (H : BothT A B T' fa fb f' nb) {z : List Nat} {s t s' t' : Nat} (ht : t < nb) (h1 : plainP A z s s') (h2 : plainP B z t t') : ∃ w', w' ≤ 1 ∧ plainP T' z (codeW nb s t 0) (codeW nb s' t' w') ∧ (w' = 0 ∨ goodP T' f' z (codeW nb s t 0) (codeW nb s' t' w')) := by
  induction z generalizing s t with
  | nil => have e1 : s = s' := h1; have e2 : t = t' := h2; subst e1; subst e2; exact ⟨0, by omega, rfl, .inl rfl⟩
  | cons a z ih =>
    obtain ⟨s1, h3, h4⟩ := h1
    obtain ⟨t1, h5, h6⟩ := h2
    have hu := H.up (w := 0) (by omega) h3 h5
    by_cases c : fa.testBit s = true
    · obtain ⟨w', h7, h8⟩ := H.lift (nxW_le fa fb s t 0) h4 h6
      exact ⟨w', h7, ⟨_, hu, h8⟩, .inr ⟨_, hu, .inl ⟨(H.fin s t 0 ht (by omega)).2 ⟨rfl, c⟩, h8⟩⟩⟩
    · have e : nxW fa fb s t 0 = 0 := by simp [nxW, c]
      rw [e] at hu
      obtain ⟨w', h7, h8, h9⟩ := ih (H.b2 _ _ _ h5) h4 h6
      refine ⟨w', h7, ⟨_, hu, h8⟩, ?_⟩
      rcases h9 with h9 | h9
      · exact .inl h9
      · exact .inr ⟨_, hu, .inr h9⟩
/-- While it is waited for the second, and the second comes to a final state. -/
theorem BothT.lift1 (H : BothT A B T' fa fb f' nb) {z : List Nat} {s t s' t' : Nat} (ht : t < nb) (h1 : plainP A z s s') (h2 : goodP B fb z t t') : ∃ w', w' ≤ 1 ∧ plainP T' z (codeW nb s t 1) (codeW nb s' t' w') ∧ (w' = 0 ∨ goodP T' f' z (codeW nb s t 1) (codeW nb s' t' w')) := by
  induction z generalizing s t with
  | nil => exact h2.elim
  | cons a z ih =>
    obtain ⟨s1, h3, h4⟩ := h1
    obtain ⟨t1, h5, h6⟩ := h2
    have hu := H.up (w := 1) (by omega) h3 h5
    by_cases c : fb.testBit t = true
    · have e : nxW fa fb s t 1 = 0 := by simp [nxW, c]
      rw [e] at hu
      have hp : plainP B z t1 t' := by
        rcases h6 with ⟨_, h6⟩ | h6
        · exact h6
        · exact good_plain h6
      obtain ⟨w', h7, h8, h9⟩ := H.lift0p (H.b2 _ _ _ h5) h4 hp
      refine ⟨w', h7, ⟨_, hu, h8⟩, ?_⟩
      rcases h9 with h9 | h9
      · exact .inl h9
      · exact .inr ⟨_, hu, .inr h9⟩
    · have e : nxW fa fb s t 1 = 1 := by simp [nxW, c]
      rw [e] at hu
      rcases h6 with ⟨h6, _⟩ | h6
      · exact absurd h6 c
      · obtain ⟨w', h7, h8, h9⟩ := ih (H.b2 _ _ _ h5) h4 h6
        refine ⟨w', h7, ⟨_, hu, h8⟩, ?_⟩
        rcases h9 with h9 | h9
        · exact .inl h9
        · exact .inr ⟨_, hu, .inr h9⟩
/-- Where both go round over final states of their own, both at once do, at last. -/
theorem BothT.rounds (H : BothT A B T' fa fb f' nb) {lp : List Nat} {m n J w : Nat} (hn : n < nb) (hw : w ≤ 1) (h1 : goodP A fa (pw lp J) m m) (h2 : goodP B fb (pw lp J) n n) :
    ∃ v k k', plainP T' (pw lp k) (codeW nb m n w) (codeW nb m n v) ∧ goodP T' f' (pw lp k') (codeW nb m n v) (codeW nb m n v) := by
  obtain ⟨w0, g0, g1⟩ := H.lift0 hn h1 (good_plain h2)
  obtain ⟨w1, g2, g3, g4⟩ := H.lift1 hn (good_plain h1) h2
  by_cases c0 : w0 = 0
  · subst c0
    -- round at 0
    rcases Nat.eq_zero_or_pos w with c | c
    · subst c; exact ⟨0, 0, J, rfl, g1⟩
    · have : w = 1 := by omega
      subst this
      by_cases c1 : w1 = 0
      · subst c1; exact ⟨0, J, J, g3, g1⟩
      · have : w1 = 1 := by omega
        subst this
        rcases g4 with g4 | g4
        · omega
        · exact ⟨1, 0, J, rfl, g4⟩
  · have : w0 = 1 := by omega
    subst this
    by_cases c1 : w1 = 0
    · subst c1
      have hr : goodP T' f' (pw lp (J + J)) (codeW nb m n 0) (codeW nb m n 0) := by
        rw [pw_add]; exact goodP_append.2 ⟨_, .inl ⟨g1, g3⟩⟩
      rcases Nat.eq_zero_or_pos w with c | c
      · subst c; exact ⟨0, 0, J + J, rfl, hr⟩
      · have : w = 1 := by omega
        subst this
        exact ⟨0, J, J + J, g3, hr⟩
    · have : w1 = 1 := by omega
      subst this
      rcases g4 with g4 | g4
      · omega
      · rcases Nat.eq_zero_or_pos w with c | c
        · subst c; exact ⟨1, J, J, good_plain g1, g4⟩
        · have : w = 1 := by omega
          subst this
          exact ⟨1, 0, J, rfl, g4⟩
/-- Both at once accept just what both do. -/
theorem BothT.acc (H : BothT A B T' fa fb f' nb) {sa sb s' : Nat} (hsb : ∀ t, sb.testBit t = true → t < nb) (hst : ∀ P, s'.testBit P = true ↔ ∃ s t, P = codeW nb s t 0 ∧ sa.testBit s = true ∧ sb.testBit t = true) {h lp : List Nat} :
    AccL T' s' f' h lp ↔ AccL A sa fa h lp ∧ AccL B sb fb h lp := by
  constructor
  · rintro ⟨P, Q, i, j, h1, h2, h3⟩
    obtain ⟨s, t, rfl, h4, h5⟩ := (hst P).1 h1
    obtain ⟨s1, t1, w1, h6, h7, rfl, h8, h9⟩ := H.plain_down (hsb t h5) (by omega) h2
    exact ⟨⟨s, s1, i, j, h4, h8, H.goodA h6 h7 h6 h7 h3⟩, t, t1, i, j, h5, h9, H.goodB h6 h7 h6 h7 (by omega) h3⟩
  · rintro ⟨⟨s, s1, i, j, h1, h2, h3⟩, t, t1, i', j', h4, h5, h6⟩
    obtain ⟨m, J, a1, a2, a3⟩ := acc_late h2 h3 i'
    obtain ⟨n, K, b1, b2, b3⟩ := acc_late h5 h6 i
    rw [Nat.add_comm i' i] at b2
    have a4 := round_times a3 (K - 1)
    have b4 := round_times b3 (J - 1)
    rw [show K - 1 + 1 = K by omega] at a4
    rw [show J - 1 + 1 = J by omega, Nat.mul_comm] at b4
    have hn : n < nb := plain_D (D := fun p => p < nb) (fun p a r _ hr => H.b2 _ _ _ hr) (hsb t h4) b2
    obtain ⟨w, hw, c1⟩ := H.lift (w := 0) (by omega) a2 b2
    obtain ⟨v, k, k', c2, c3⟩ := H.rounds hn hw a4 b4
    refine ⟨codeW nb s t 0, codeW nb m n v, i + i' + k, k', (hst _).2 ⟨s, t, rfl, h1, h4⟩, ?_, c3⟩
    rw [pw_add, ← List.append_assoc]
    exact plainP_append.2 ⟨_, c1, c2⟩
end

end Go.Proofs.Ytcgkflddipflbaa

namespace Go.Proofs.Ytcgkflddipflbaa
set_option linter.unusedVariables false

/-! ### rows that rise -/
theorem rise_pw {α : Type} (d : α) (R : α → α → Prop) (htr : ∀ a b c, R a b → R b c → R a c) (zs : List α) : (∀ i, i < zs.length - 1 → R (zs.getD i d) (zs.getD (i + 1) d)) ↔ zs.Pairwise R := by
  induction zs with
  | nil => simp
  | cons a l ih =>
    constructor
    · intro h
      have hl : l.Pairwise R := ih.1 fun i hi => h (i + 1) (by simp; omega)
      refine List.pairwise_cons.2 ⟨?_, hl⟩
      cases l with
      | nil => intro b hb; cases hb
      | cons c l =>
        have h0 : R a c := h 0 (by simp)
        intro b hb
        rcases List.mem_cons.1 hb with rfl | hb
        · exact h0
        · exact htr _ _ _ h0 ((List.pairwise_cons.1 hl).1 b hb)
    · intro h i hi
      have hi2 : i + 1 < (a :: l).length := by omega
      have := List.pairwise_iff_getElem.1 h i (i + 1) (by omega) hi2 (by omega)
      rw [List.getD, List.getD, List.getElem?_eq_getElem hi2, List.getElem?_eq_getElem (by omega : i < (a :: l).length)]
      exact this
theorem rise_iff {zs : List Int} : Rise zs ↔ zs.Pairwise (· < ·) := rise_pw 0 (· < ·) (fun a b c h1 h2 => Int.lt_trans h1 h2) zs
theorem lex_trans (a b c : StepI) (h1 : Lex a b) (h2 : Lex b c) : Lex a c := by
  obtain ⟨a1, a2, a3⟩ := a
  obtain ⟨b1, b2, b3⟩ := b
  obtain ⟨c1, c2, c3⟩ := c
  simp only [Lex] at *
  omega
theorem lex_irrefl (a : StepI) : ¬ Lex a a := by
  obtain ⟨a1, a2, a3⟩ := a
  simp only [Lex]
  omega
theorem riseT_iff {T : List StepI} : RiseT T ↔ T.Pairwise Lex := rise_pw (0, 0, 0) Lex lex_trans T
theorem inR_iff {zs : List Int} {n : Int} : InR zs n ↔ ∀ z, z ∈ zs → 0 ≤ z ∧ z < n := by
  constructor
  · intro h z hz; exact mem_in h hz
  · intro h i hi
    have : zs.getD i 0 = zs[i] := by simp [List.getD, hi]
    rw [this]
    exact h _ (List.getElem_mem hi)
theorem inT_iff {T : List StepI} {l n : Int} : InT T l n ↔ ∀ t, t ∈ T → StIn l n t := by
  constructor
  · intro h z hz; exact memT_in h hz
  · intro h i hi
    rw [getT_lt hi]
    exact h _ (List.getElem_mem hi)
/-- A row that rises is no longer than its numbers are large. -/
theorem rise_short {zs : List Int} {n : Int} (hr : zs.Pairwise (· < ·)) (hn : ∀ z, z ∈ zs → 0 ≤ z ∧ z < n) : (zs.length : Int) ≤ max n 0 := by
  have key : ∀ (l : List Int) (m : Int), l.Pairwise (· < ·) → (∀ z, z ∈ l → m ≤ z ∧ z < n) → m ≤ n → (l.length : Int) ≤ n - m := by
    intro l
    induction l with
    | nil => intro m _ _ h; simp; omega
    | cons a l ih =>
      intro m h1 h2 h3
      obtain ⟨h4, h5⟩ := List.pairwise_cons.1 h1
      have ha := h2 a (by simp)
      have := ih (a + 1) h5 (fun z hz => ⟨h4 z hz, (h2 z (List.mem_cons_of_mem _ hz)).2⟩) (by omega)
      simp only [List.length_cons]
      omega
  by_cases h0 : 0 ≤ n
  · have := key zs 0 hr hn h0
    omega
  · cases zs with
    | nil => simp; omega
    | cons a l => have := hn a (by simp); omega

/-! ### what may be put together -/
structure GoodJ (x y : Aut) : Prop where
  a : GoodA x
  b : GoodA y
  l : x.L = y.L
  na : x.N ≤ 8
  nb : y.N ≤ 8
def checkJ (x y : Aut) : Int :=
  if checkA x ≠ 0 then checkA x else if checkA y ≠ 0 then checkA y else if x.L ≠ y.L then 3 else if 8 < x.N ∨ 8 < y.N then 1 else 0
theorem goodJ_of {x y : Aut} (h : checkJ x y = 0) : GoodJ x y := by
  unfold checkJ at h
  split at h
  · next h1 => exact absurd h h1
  · next h1 =>
    split at h
    · next h2 => exact absurd h h2
    · next h2 =>
      split at h
      · cases h
      · next h3 =>
        split at h
        · cases h
        · next h4 => exact ⟨goodA_of_check (by omega), goodA_of_check (by omega), by omega, by omega, by omega⟩
theorem few_S {x : Aut} (h : GoodA x) (hn : x.N ≤ 8) : x.S.length ≤ 8 ∧ x.F.length ≤ 8 := by
  have h1 := rise_short (rise_iff.1 h.sr) (inR_iff.1 h.s)
  have h2 := rise_short (rise_iff.1 h.fr) (inR_iff.1 h.f)
  have := h.n1
  omega
theorem few_T {x : Aut} (h : GoodA x) (hn : x.N ≤ 8) : x.T.length ≤ 256 := by
  have h1 : (x.T.map (numS x.L x.N)).Pairwise (· < ·) := by
    rw [List.pairwise_map]
    refine (riseT_iff.1 h.tr).imp_of_mem fun {p q} hp hq hl => ?_
    exact numS_lt h.l1 h.n1 (inT_iff.1 h.t p hp) (inT_iff.1 h.t q hq) hl
  have h2 : ∀ z, z ∈ x.T.map (numS x.L x.N) → 0 ≤ z ∧ z < 256 := by
    intro z hz
    obtain ⟨t, ht, rfl⟩ := List.mem_map.1 hz
    obtain ⟨⟨a1, a2⟩, ⟨b1, b2⟩, ⟨c1, c2⟩⟩ := inT_iff.1 h.t t ht
    have hl := h.l4
    have hl1 := h.l1
    have e1 : 0 ≤ t.1 * x.L := Int.mul_nonneg a1 (by omega)
    have e2 : t.1 * x.L ≤ 7 * 4 := Int.mul_le_mul (by omega) (by omega) (by omega) (by omega)
    have e3 : 0 ≤ (t.1 * x.L + t.2.1) * x.N := Int.mul_nonneg (by omega) (by omega)
    have e4 : (t.1 * x.L + t.2.1) * x.N ≤ 31 * 8 := Int.mul_le_mul (by omega) (by omega) (by omega) (by omega)
    unfold numS
    omega
  have := rise_short h1 h2
  rw [List.length_map] at this
  omega

/-! ### beside each other -/
def shS (n : Int) (t : StepI) : StepI := (n + t.1, t.2.1, n + t.2.2)
def besA (x y : Aut) : Aut := ⟨x.L, x.N + y.N, x.S ++ y.S.map (x.N + ·), x.T ++ y.T.map (shS x.N), x.F ++ y.F.map (x.N + ·)⟩
theorem rise_beside {S U : List Int} {n m : Int} (h1 : S.Pairwise (· < ·)) (h2 : U.Pairwise (· < ·)) (h3 : ∀ z, z ∈ S → 0 ≤ z ∧ z < n) (h4 : ∀ z, z ∈ U → 0 ≤ z ∧ z < m) : (S ++ U.map (n + ·)).Pairwise (· < ·) := by
  refine List.pairwise_append.2 ⟨h1, ?_, fun a ha b hb => ?_⟩
  · rw [List.pairwise_map]; exact h2.imp fun {a b} h => by omega
  · obtain ⟨u, hu, rfl⟩ := List.mem_map.1 hb
    have := h3 a ha
    have := h4 u hu
    omega
theorem in_beside {S U : List Int} {n m : Int} (hn : 0 ≤ n) (hm : 0 ≤ m) (h3 : ∀ z, z ∈ S → 0 ≤ z ∧ z < n) (h4 : ∀ z, z ∈ U → 0 ≤ z ∧ z < m) : ∀ z, z ∈ S ++ U.map (n + ·) → 0 ≤ z ∧ z < n + m := by
  intro z hz
  rcases List.mem_append.1 hz with hz | hz
  · have := h3 z hz; omega
  · obtain ⟨u, hu, rfl⟩ := List.mem_map.1 hz
    have := h4 u hu; omega
theorem good_besA {x y : Aut} (h : GoodJ x y) : GoodA (besA x y) := by
  obtain ⟨hx, hy, hl, hna, hnb⟩ := h
  have hx1 := hx.n1
  have hy1 := hy.n1
  refine ⟨hx.l1, hx.l4, by show 1 ≤ x.N + y.N; omega, by show x.N + y.N ≤ 300; omega, ?_, inR_iff.2 (in_beside (by omega) (by omega) (inR_iff.1 hx.s) (inR_iff.1 hy.s)), inR_iff.2 (in_beside (by omega) (by omega) (inR_iff.1 hx.f) (inR_iff.1 hy.f)), inT_iff.2 ?_, rise_iff.2 (rise_beside (rise_iff.1 hx.sr) (rise_iff.1 hy.sr) (inR_iff.1 hx.s) (inR_iff.1 hy.s)), rise_iff.2 (rise_beside (rise_iff.1 hx.fr) (rise_iff.1 hy.fr) (inR_iff.1 hx.f) (inR_iff.1 hy.f)), riseT_iff.2 ?_⟩
  · show (x.T ++ y.T.map (shS x.N)).length ≤ 40000
    have := few_T hx hna
    have := few_T hy hnb
    simp only [List.length_append, List.length_map]
    omega
  · intro t ht
    show StIn x.L (x.N + y.N) t
    rcases List.mem_append.1 (show t ∈ x.T ++ y.T.map (shS x.N) from ht) with ht | ht
    · obtain ⟨⟨a1, a2⟩, ⟨b1, b2⟩, ⟨c1, c2⟩⟩ := inT_iff.1 hx.t t ht
      exact ⟨⟨a1, by omega⟩, ⟨b1, by omega⟩, c1, c2⟩
    · obtain ⟨u, hu, rfl⟩ := List.mem_map.1 ht
      obtain ⟨⟨a1, a2⟩, ⟨b1, b2⟩, ⟨c1, c2⟩⟩ := inT_iff.1 hy.t u hu
      refine ⟨⟨?_, ?_⟩, ⟨?_, ?_⟩, c1, by rw [hl]; exact c2⟩ <;> simp only [shS] <;> omega
  · show (x.T ++ y.T.map (shS x.N)).Pairwise Lex
    refine List.pairwise_append.2 ⟨riseT_iff.1 hx.tr, ?_, fun a ha b hb => ?_⟩
    · rw [List.pairwise_map]
      refine (riseT_iff.1 hy.tr).imp fun {p q} h => ?_
      obtain ⟨p1, p2, p3⟩ := p
      obtain ⟨q1, q2, q3⟩ := q
      simp only [Lex, shS] at *
      omega
    · obtain ⟨u, hu, rfl⟩ := List.mem_map.1 hb
      obtain ⟨⟨a1, a2⟩, _⟩ := inT_iff.1 hx.t a ha
      obtain ⟨⟨b1, b2⟩, _⟩ := inT_iff.1 hy.t u hu
      left
      simp only [shS]
      omega
theorem setOf_app {S U : List Int} {i : Nat} : (setOf (S ++ U)).testBit i = true ↔ (setOf S).testBit i = true ∨ (setOf U).testBit i = true := by
  simp only [setOf_bit, List.mem_append]
  constructor
  · rintro ⟨z, h | h, e⟩
    · exact .inl ⟨z, h, e⟩
    · exact .inr ⟨z, h, e⟩
  · rintro (⟨z, h, e⟩ | ⟨z, h, e⟩)
    · exact ⟨z, .inl h, e⟩
    · exact ⟨z, .inr h, e⟩
theorem setOf_sh {U : List Int} {n : Nat} {m : Int} (h : ∀ z, z ∈ U → 0 ≤ z ∧ z < m) {i : Nat} : (setOf (U.map ((n : Int) + ·))).testBit i = true ↔ ∃ p, i = n + p ∧ (setOf U).testBit p = true := by
  simp only [setOf_bit, List.mem_map]
  constructor
  · rintro ⟨z, ⟨u, hu, rfl⟩, e⟩
    have := h u hu
    exact ⟨u.toNat, by omega, u, hu, rfl⟩
  · rintro ⟨p, rfl, u, hu, rfl⟩
    have := h u hu
    exact ⟨_, ⟨u, hu, rfl⟩, by omega⟩
theorem acc_besA {x y : Aut} (hJ : GoodJ x y) {h lp : List Nat} : AccL (besA x y).T (setOf (besA x y).S) (setOf (besA x y).F) h lp ↔ AccL x.T (setOf x.S) (setOf x.F) h lp ∨ AccL y.T (setOf y.S) (setOf y.F) h lp := by
  obtain ⟨hx, hy, hl, hna, hnb⟩ := hJ
  obtain ⟨L, N, S, T, F⟩ := x
  obtain ⟨L', N', S', T', F'⟩ := y
  have n1 : 1 ≤ N := hx.n1
  have m1 : 1 ≤ N' := hy.n1
  obtain ⟨n, rfl⟩ : ∃ n : Nat, N = n := ⟨N.toNat, by omega⟩
  obtain ⟨m, rfl⟩ : ∃ m : Nat, N' = m := ⟨N'.toNat, by omega⟩
  show AccL (T ++ T'.map (shS n)) (setOf (S ++ S'.map ((n : Int) + ·))) (setOf (F ++ F'.map ((n : Int) + ·))) h lp ↔ AccL T (setOf S) (setOf F) h lp ∨ AccL T' (setOf S') (setOf F') h lp
  have tS : ∀ t, t ∈ T → StIn L n t := inT_iff.1 hx.t
  have tS' : ∀ t, t ∈ T' → StIn L' m t := inT_iff.1 hy.t
  have sS : ∀ z, z ∈ S → 0 ≤ z ∧ z < (n : Int) := inR_iff.1 hx.s
  have sS' : ∀ z, z ∈ S' → 0 ≤ z ∧ z < (m : Int) := inR_iff.1 hy.s
  have sF : ∀ z, z ∈ F → 0 ≤ z ∧ z < (n : Int) := inR_iff.1 hx.f
  have sF' : ∀ z, z ∈ F' → 0 ≤ z ∧ z < (m : Int) := inR_iff.1 hy.f
  have stp : ∀ p a q, stepR (T ++ T'.map (shS n)) p a q ↔ stepR T p a q ∨ ∃ p0 q0, p = n + p0 ∧ q = n + q0 ∧ stepR T' p0 a q0 := by
    intro p a q
    constructor
    · rintro ⟨t, ht, h1, h2, h3⟩
      rcases List.mem_append.1 ht with ht | ht
      · exact .inl ⟨t, ht, h1, h2, h3⟩
      · obtain ⟨u, hu, rfl⟩ := List.mem_map.1 ht
        obtain ⟨⟨b1, b2⟩, ⟨b3, b4⟩, _⟩ := tS' u hu
        simp only [shS] at h1 h2 h3
        exact .inr ⟨u.1.toNat, u.2.2.toNat, by omega, by omega, u, hu, rfl, h2, rfl⟩
    · rintro (⟨t, ht, h1, h2, h3⟩ | ⟨p0, q0, rfl, rfl, u, hu, h1, h2, h3⟩)
      · exact ⟨t, List.mem_append.2 (.inl ht), h1, h2, h3⟩
      · obtain ⟨⟨b1, b2⟩, ⟨b3, b4⟩, _⟩ := tS' u hu
        refine ⟨shS n u, List.mem_append.2 (.inr (List.mem_map.2 ⟨u, hu, rfl⟩)), ?_, ?_, ?_⟩ <;> simp only [shS] <;> omega
  have inT1 : ∀ p a q, stepR T p a q → p < n ∧ q < n := by
    rintro p a q ⟨t, ht, h1, h2, h3⟩
    obtain ⟨⟨b1, b2⟩, ⟨b3, b4⟩, _⟩ := tS t ht
    omega
  have A1 := acc_sim (T := T) (T' := T ++ T'.map (shS n)) (D := fun p => p < n) (f := fun p => p) (fs := setOf F) (fs' := setOf (F ++ F'.map ((n : Int) + ·))) (ss := setOf S) (h := h) (lp := lp)
    (fun p a r hp => by
      rw [stp]
      constructor
      · rintro (h1 | ⟨p0, q0, h1, _⟩)
        · exact ⟨r, rfl, h1⟩
        · omega
      · rintro ⟨r0, rfl, h1⟩; exact .inl h1)
    (fun p a r hp hr => (inT1 p a r hr).2)
    (fun p hp => Bool.eq_iff_iff.2 (by
      rw [setOf_app, setOf_sh sF']
      constructor
      · rintro (h1 | ⟨p0, h1, _⟩)
        · exact h1
        · omega
      · exact fun h1 => .inl h1))
    (fun p q e => e)
    (fun p hp => by
      obtain ⟨z, hz, rfl⟩ := setOf_bit.1 hp
      have := sS z hz
      show z.toNat < n
      omega)
  have A2 := acc_sim (T := T') (T' := T ++ T'.map (shS n)) (D := fun p => p < m) (f := fun p => n + p) (fs := setOf F') (fs' := setOf (F ++ F'.map ((n : Int) + ·))) (ss := setOf S') (h := h) (lp := lp)
    (fun p a r hp => by
      rw [stp]
      constructor
      · rintro (h1 | ⟨p0, q0, h1, h2, h3⟩)
        · have := (inT1 _ _ _ h1).1; omega
        · have : p0 = p := by omega
          subst this
          exact ⟨q0, h2, h3⟩
      · rintro ⟨r0, rfl, h1⟩; exact .inr ⟨p, r0, rfl, rfl, h1⟩)
    (fun p a r hp hr => by
      obtain ⟨t, ht, h1, h2, h3⟩ := hr
      obtain ⟨⟨b1, b2⟩, ⟨b3, b4⟩, _⟩ := tS' t ht
      show r < m
      omega)
    (fun p hp => Bool.eq_iff_iff.2 (by
      rw [setOf_app, setOf_sh sF']
      constructor
      · rintro (h1 | ⟨p0, h1, h2⟩)
        · obtain ⟨z, hz, e⟩ := setOf_bit.1 h1
          have := sF z hz
          omega
        · have : p0 = p := by omega
          subst this
          exact h2
      · exact fun h1 => .inr ⟨p, rfl, h1⟩))
    (fun p q e => by have e' : n + p = n + q := e; omega)
    (fun p hp => by
      obtain ⟨z, hz, rfl⟩ := setOf_bit.1 hp
      have := sS' z hz
      show z.toNat < m
      omega)
  rw [← A1, ← A2]
  constructor
  · rintro ⟨q0, q, i, j, h1, h2, h3⟩
    rw [setOf_app, setOf_sh sS'] at h1
    rcases h1 with h1 | ⟨p, rfl, h1⟩
    · exact .inl ⟨q0, q, i, j, h1, h2, h3⟩
    · exact .inr ⟨p, q, i, j, h1, h2, h3⟩
  · rintro (⟨p, q, i, j, h1, h2, h3⟩ | ⟨p, q, i, j, h1, h2, h3⟩)
    · exact ⟨p, q, i, j, setOf_app.2 (.inl h1), h2, h3⟩
    · exact ⟨n + p, q, i, j, setOf_app.2 (.inr ((setOf_sh sS').2 ⟨p, rfl, h1⟩)), h2, h3⟩

end Go.Proofs.Ytcgkflddipflbaa
