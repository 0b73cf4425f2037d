/- Infinite words by steps, without the program: ways, ways over a final state, round and round; which lassos are accepted. -/
import Derived.Test.YtcgkflddipflbaaUSp
namespace Go.Proofs.Ytcgkflddipflbaa
set_option linter.unusedVariables false

def stepR (T : List StepI) (p a q : Nat) : Prop := ∃ t, t ∈ T ∧ t.1.toNat = p ∧ t.2.1.toNat = a ∧ t.2.2.toNat = q
theorem dset_bit {T : List StepI} {s a q : Nat} : (dset T s a).testBit q = true ↔ ∃ p, s.testBit p = true ∧ stepR T p a q := by
  unfold dset
  rw [orIf_bit]
  constructor
  · rintro ⟨t, ht, hp, hq⟩
    simp only [setP, Bool.and_eq_true, decide_eq_true_eq] at hp
    exact ⟨t.1.toNat, hp.2, t, ht, rfl, hp.1, hq⟩
  · rintro ⟨p, hp, t, ht, rfl, h2, h3⟩
    refine ⟨t, ht, ?_, h3⟩
    simp only [setP, Bool.and_eq_true, decide_eq_true_eq]
    exact ⟨h2, hp⟩
/-- A way by a word. -/
def plainP (T : List StepI) : List Nat → Nat → Nat → Prop
  | [], p, q => p = q
  | a :: z, p, q => ∃ r, stepR T p a r ∧ plainP T z r q
/-- A way by a word over a state of a set, which a letter is read in. -/
def goodP (T : List StepI) (fs : Nat) : List Nat → Nat → Nat → Prop
  | [], _, _ => False
  | a :: z, p, q => ∃ r, stepR T p a r ∧ ((fs.testBit p = true ∧ plainP T z r q) ∨ goodP T fs z r q)
section
variable {T : List StepI} {fs : Nat}
theorem plainP_append {z z' : List Nat} {p q : Nat} : plainP T (z ++ z') p q ↔ ∃ r, plainP T z p r ∧ plainP T z' r q := by
  induction z generalizing p with
  | nil => exact ⟨fun h => ⟨p, rfl, h⟩, fun ⟨r, h1, h2⟩ => by have : p = r := h1; rw [this]; exact h2⟩
  | cons a z ih =>
    simp only [List.cons_append, plainP]
    constructor
    · rintro ⟨r, h1, h2⟩
      obtain ⟨m, h3, h4⟩ := ih.1 h2
      exact ⟨m, ⟨r, h1, h3⟩, h4⟩
    · rintro ⟨m, ⟨r, h1, h3⟩, h4⟩
      exact ⟨r, h1, ih.2 ⟨m, h3, h4⟩⟩
theorem goodP_append {z z' : List Nat} {p q : Nat} : goodP T fs (z ++ z') p q ↔ ∃ r, (goodP T fs z p r ∧ plainP T z' r q) ∨ (plainP T z p r ∧ goodP T fs z' r q) := by
  induction z generalizing p with
  | nil =>
    constructor
    · intro h; exact ⟨p, .inr ⟨rfl, h⟩⟩
    · rintro ⟨r, ⟨h1, _⟩ | ⟨h1, h2⟩⟩
      · exact h1.elim
      · have : p = r := h1
        rw [this]; exact h2
  | cons a z ih =>
    simp only [List.cons_append, goodP, plainP]
    constructor
    · rintro ⟨r, h1, ⟨h2, h3⟩ | h2⟩
      · obtain ⟨m, h4, h5⟩ := plainP_append.1 h3
        exact ⟨m, .inl ⟨⟨r, h1, .inl ⟨h2, h4⟩⟩, h5⟩⟩
      · obtain ⟨m, ⟨h4, h5⟩ | ⟨h4, h5⟩⟩ := ih.1 h2
        · exact ⟨m, .inl ⟨⟨r, h1, .inr h4⟩, h5⟩⟩
        · exact ⟨m, .inr ⟨⟨r, h1, h4⟩, h5⟩⟩
    · rintro ⟨m, ⟨⟨r, h1, ⟨h2, h4⟩ | h4⟩, h5⟩ | ⟨⟨r, h1, h4⟩, h5⟩⟩
      · exact ⟨r, h1, .inl ⟨h2, plainP_append.2 ⟨m, h4, h5⟩⟩⟩
      · exact ⟨r, h1, .inr (ih.2 ⟨m, .inl ⟨h4, h5⟩⟩)⟩
      · exact ⟨r, h1, .inr (ih.2 ⟨m, .inr ⟨h4, h5⟩⟩)⟩
theorem goS_bit {s : Nat} {z : List Nat} {q : Nat} : (goS T s z).testBit q = true ↔ ∃ p, s.testBit p = true ∧ plainP T z p q := by
  induction z generalizing s with
  | nil => exact ⟨fun h => ⟨q, h, rfl⟩, fun ⟨p, h1, h2⟩ => by have : p = q := h2; rw [← this]; exact h1⟩
  | cons a z ih =>
    have e : goS T s (a :: z) = goS T (dset T s a) z := rfl
    rw [e, ih]
    simp only [plainP]
    constructor
    · rintro ⟨r, h1, h2⟩
      obtain ⟨p, h3, h4⟩ := dset_bit.1 h1
      exact ⟨p, h3, r, h4, h2⟩
    · rintro ⟨p, h3, r, h4, h2⟩
      exact ⟨r, dset_bit.2 ⟨p, h3, h4⟩, h2⟩
end
/-- Where two sets lead by a word: the states, and those that were come to over a state of a set. -/
def goG (T : List StepI) (fs : Nat) : Nat × Nat → List Nat → Nat × Nat
  | pg, [] => pg
  | pg, a :: z => goG T fs (dset T pg.1 a, dset T (pg.2 ||| (pg.1 &&& fs)) a) z
section
variable {T : List StepI} {fs : Nat}
theorem goG_fst (pg : Nat × Nat) (z : List Nat) : (goG T fs pg z).1 = goS T pg.1 z := by
  induction z generalizing pg with
  | nil => rfl
  | cons a z ih => simp only [goG]; rw [ih]; rfl
theorem goG_bit {pg : Nat × Nat} {z : List Nat} {q : Nat} : (goG T fs pg z).2.testBit q = true ↔ (∃ r, pg.1.testBit r = true ∧ goodP T fs z r q) ∨ (∃ r, pg.2.testBit r = true ∧ plainP T z r q) := by
  induction z generalizing pg with
  | nil =>
    constructor
    · intro h; exact .inr ⟨q, h, rfl⟩
    · rintro (⟨r, _, h⟩ | ⟨r, h1, h2⟩)
      · exact h.elim
      · have : r = q := h2
        rw [← this]; exact h1
  | cons a z ih =>
    simp only [goG]
    rw [ih]
    simp only [goodP, plainP]
    constructor
    · rintro (⟨r, h1, h2⟩ | ⟨r, h1, h2⟩)
      · obtain ⟨m, h3, h4⟩ := dset_bit.1 h1
        exact .inl ⟨m, h3, r, h4, .inr h2⟩
      · obtain ⟨m, h3, h4⟩ := dset_bit.1 h1
        rw [Nat.testBit_or, Nat.testBit_and, Bool.or_eq_true, Bool.and_eq_true] at h3
        rcases h3 with h3 | h3
        · exact .inr ⟨m, h3, r, h4, h2⟩
        · exact .inl ⟨m, h3.1, r, h4, .inl ⟨h3.2, h2⟩⟩
    · rintro (⟨m, h3, r, h4, ⟨h5, h2⟩ | h2⟩ | ⟨m, h3, r, h4, h2⟩)
      · exact .inr ⟨r, dset_bit.2 ⟨m, by rw [Nat.testBit_or, Nat.testBit_and, h3, h5]; simp, h4⟩, h2⟩
      · exact .inl ⟨r, dset_bit.2 ⟨m, h3, h4⟩, h2⟩
      · exact .inr ⟨r, dset_bit.2 ⟨m, by rw [Nat.testBit_or, h3]; simp, h4⟩, h2⟩
theorem goG_snoc (pg : Nat × Nat) (z : List Nat) (a : Nat) : goG T fs pg (z ++ [a]) = (dset T (goG T fs pg z).1 a, dset T ((goG T fs pg z).2 ||| ((goG T fs pg z).1 &&& fs)) a) := by
  induction z generalizing pg with
  | nil => rfl
  | cons b z ih => simp only [List.cons_append, goG]; rw [ih]
end
/-- A word so many times. -/
def pw (z : List Nat) : Nat → List Nat
  | 0 => []
  | n + 1 => pw z n ++ z
/-- A lasso is accepted. -/
def AccL (T : List StepI) (ss fs : Nat) (h lp : List Nat) : Prop := ∃ q0 q i j, ss.testBit q0 = true ∧ plainP T (h ++ pw lp i) q0 q ∧ goodP T fs (pw lp j) q q
/-- A state comes round to itself over a state of a set. -/
def RoundP (T : List StepI) (fs : Nat) (lp : List Nat) (q : Nat) : Prop := ∃ j, goodP T fs (pw lp j) q q

section
variable {T : List StepI} {fs ss : Nat} {h lp : List Nat}
/-- What is far is come to. -/
structure FarAt (T : List StepI) (ss : Nat) (h lp : List Nat) (far : Nat) : Prop where
  come : ∀ q, far.testBit q = true → ∃ i q0, ss.testBit q0 = true ∧ plainP T (h ++ pw lp i) q0 q
  first : ∀ q, (goS T ss h).testBit q = true → far.testBit q = true
theorem FarAt.start : FarAt T ss h lp (goS T ss h) := by
  refine ⟨fun q hq => ?_, fun q hq => hq⟩
  obtain ⟨p, h1, h2⟩ := goS_bit.1 hq
  exact ⟨0, p, h1, by simpa [pw] using h2⟩
theorem FarAt.more {far : Nat} (hf : FarAt T ss h lp far) : FarAt T ss h lp (far ||| goS T far lp) := by
  refine ⟨fun q hq => ?_, fun q hq => by rw [Nat.testBit_or, hf.first q hq]; rfl⟩
  rw [Nat.testBit_or, Bool.or_eq_true] at hq
  rcases hq with hq | hq
  · exact hf.come q hq
  · obtain ⟨p, h1, h2⟩ := goS_bit.1 hq
    obtain ⟨i, q0, h3, h4⟩ := hf.come p h1
    refine ⟨i + 1, q0, h3, ?_⟩
    simp only [pw]
    rw [← List.append_assoc]
    exact plainP_append.2 ⟨p, h4, h2⟩
theorem FarAt.all {far : Nat} (hf : FarAt T ss h lp far) (hc : far ||| goS T far lp = far) {i q0 q : Nat} (h0 : ss.testBit q0 = true) (hp : plainP T (h ++ pw lp i) q0 q) : far.testBit q = true := by
  induction i generalizing q with
  | zero => exact hf.first q (goS_bit.2 ⟨q0, h0, by simpa [pw] using hp⟩)
  | succ i ih =>
    simp only [pw] at hp
    rw [← List.append_assoc] at hp
    obtain ⟨r, h1, h2⟩ := plainP_append.1 hp
    have h3 := ih h1
    rw [← hc, Nat.testBit_or, goS_bit.2 ⟨r, h3, h2⟩]
    simp
/-- What holds while it is gone round. -/
structure RndAt (T : List StepI) (fs : Nat) (lp : List Nat) (q pl gd : Nat) : Prop where
  self : pl.testBit q = true
  pls : ∀ r, pl.testBit r = true → ∃ i, plainP T (pw lp i) q r
  gds : ∀ r, gd.testBit r = true → ∃ i, goodP T fs (pw lp i) q r
  not : gd.testBit q = false
theorem RndAt.start {q : Nat} : RndAt T fs lp q (2 ^ q) 0 := by
  refine ⟨by simp, fun r hr => ?_, fun r hr => by simp at hr, by simp⟩
  rw [Nat.testBit_two_pow] at hr
  have : q = r := by simpa using hr
  exact ⟨0, this⟩
theorem RndAt.found {q pl gd : Nat} (h : RndAt T fs lp q pl gd) {r : Nat} (hg : (goG T fs (pl, gd) lp).2.testBit r = true) : ∃ j, goodP T fs (pw lp j) q r := by
  rcases goG_bit.1 hg with ⟨m, h1, h2⟩ | ⟨m, h1, h2⟩
  · obtain ⟨i, h3⟩ := h.pls m h1
    exact ⟨i + 1, goodP_append.2 ⟨m, .inr ⟨h3, h2⟩⟩⟩
  · obtain ⟨i, h3⟩ := h.gds m h1
    exact ⟨i + 1, goodP_append.2 ⟨m, .inl ⟨h3, h2⟩⟩⟩
theorem RndAt.more {q pl gd : Nat} (h : RndAt T fs lp q pl gd) (hg : (goG T fs (pl, gd) lp).2.testBit q = false) : RndAt T fs lp q (pl ||| (goG T fs (pl, gd) lp).1) (gd ||| (goG T fs (pl, gd) lp).2) := by
  refine ⟨by rw [Nat.testBit_or, h.self]; rfl, fun r hr => ?_, fun r hr => ?_, by rw [Nat.testBit_or, h.not, hg]; rfl⟩
  · rw [Nat.testBit_or, Bool.or_eq_true] at hr
    rcases hr with hr | hr
    · exact h.pls r hr
    · rw [goG_fst] at hr
      obtain ⟨m, h1, h2⟩ := goS_bit.1 hr
      obtain ⟨i, h3⟩ := h.pls m h1
      exact ⟨i + 1, plainP_append.2 ⟨m, h3, h2⟩⟩
  · rw [Nat.testBit_or, Bool.or_eq_true] at hr
    rcases hr with hr | hr
    · exact h.gds r hr
    · exact h.found hr
theorem RndAt.none {q pl gd : Nat} (h : RndAt T fs lp q pl gd) (h1 : pl ||| (goG T fs (pl, gd) lp).1 = pl) (h2 : gd ||| (goG T fs (pl, gd) lp).2 = gd) : ¬ RoundP T fs lp q := by
  have key : ∀ j r, (plainP T (pw lp j) q r → pl.testBit r = true) ∧ (goodP T fs (pw lp j) q r → gd.testBit r = true) := by
    intro j
    induction j with
    | zero => exact fun r => ⟨fun e => by have : q = r := e; rw [← this]; exact h.self, fun e => e.elim⟩
    | succ j ih =>
      intro r
      constructor
      · intro e
        obtain ⟨m, h3, h4⟩ := plainP_append.1 e
        rw [← h1, Nat.testBit_or, goG_fst, goS_bit.2 ⟨m, (ih m).1 h3, h4⟩]
        simp
      · intro e
        rw [← h2, Nat.testBit_or]
        have : (goG T fs (pl, gd) lp).2.testBit r = true := by
          rw [goG_bit]
          obtain ⟨m, ⟨h3, h4⟩ | ⟨h3, h4⟩⟩ := goodP_append.1 e
          · exact .inr ⟨m, (ih m).2 h3, h4⟩
          · exact .inl ⟨m, (ih m).1 h3, h4⟩
        rw [this]; simp
  rintro ⟨j, hj⟩
  have := (key j q).2 hj
  rw [h.not] at this
  cases this
theorem acc_iff : AccL T ss fs h lp ↔ ∃ q, (∃ i q0, ss.testBit q0 = true ∧ plainP T (h ++ pw lp i) q0 q) ∧ RoundP T fs lp q := by
  constructor
  · rintro ⟨q0, q, i, j, h1, h2, h3⟩; exact ⟨q, ⟨i, q0, h1, h2⟩, j, h3⟩
  · rintro ⟨q, ⟨i, q0, h1, h2⟩, j, h3⟩; exact ⟨q0, q, i, j, h1, h2, h3⟩
end

/-! ### sets that grow bit by bit -/
theorem testBit_mod {p k i : Nat} : (p % 2 ^ k).testBit i = (decide (i < k) && p.testBit i) := Nat.testBit_mod_two_pow p k i
theorem or_ge (s t : Nat) : s ≤ s ||| t := Nat.left_le_or
theorem mod_succ_bits {s p k i : Nat} : (s ||| p % 2 ^ (k + 1)).testBit i = if i = k then (s.testBit k || p.testBit k) else (s ||| p % 2 ^ k).testBit i := by
  rw [Nat.testBit_or, testBit_mod]
  by_cases h : i = k
  · subst h; simp
  · rw [if_neg h, Nat.testBit_or, testBit_mod]
    congr 2
    by_cases h2 : i < k
    · simp [h2]; omega
    · simp [h2]; omega
theorem or_lt {s t n : Nat} (hs : s < 2 ^ n) (ht : t < 2 ^ n) : s ||| t < 2 ^ n := Nat.or_lt_two_pow hs ht
theorem setOf_ltn {zs : List Int} {n : Nat} (h : InR zs n) : setOf zs < 2 ^ n := lt_of_bits fun i hi => by
  obtain ⟨z, hz, rfl⟩ := setOf_bit.1 hi
  have := mem_in h hz; omega
theorem dset_ltn {T : List StepI} {L : Int} {n : Nat} (h : InT T L n) (s l : Nat) : dset T s l < 2 ^ n := lt_of_bits fun i hi => by
  obtain ⟨t, ht, _, rfl⟩ := orIf_bit.1 hi
  have := (memT_in h ht).2.1; omega
theorem goS_ltn {T : List StepI} {L : Int} {n : Nat} (h : InT T L n) {s : Nat} (hs : s < 2 ^ n) (z : List Nat) : goS T s z < 2 ^ n := by
  induction z generalizing s with
  | nil => exact hs
  | cons a z ih => exact ih (dset_ltn h s a)
theorem goG_ltn {T : List StepI} {L : Int} {n fs : Nat} (h : InT T L n) {pg : Nat × Nat} (h1 : pg.1 < 2 ^ n) (h2 : pg.2 < 2 ^ n) (z : List Nat) : (goG T fs pg z).1 < 2 ^ n ∧ (goG T fs pg z).2 < 2 ^ n := by
  induction z generalizing pg with
  | nil => exact ⟨h1, h2⟩
  | cons a z ih => exact ih (dset_ltn h _ a) (dset_ltn h _ a)

end Go.Proofs.Ytcgkflddipflbaa
