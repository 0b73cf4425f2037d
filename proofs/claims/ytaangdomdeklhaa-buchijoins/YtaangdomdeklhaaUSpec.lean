/- Automata that need not know their way, without the program: what may be one, where sets of states lead, which words are accepted. -/
import Derived.Test.YtaangdomdeklhaaGrow
namespace Go.Proofs.Ytaangdomdeklhaa
set_option linter.unusedVariables false

/-- A step: from a state, by a letter, to a state. -/
abbrev StepI := Int × Int × Int
/-- An automaton's numbers: its letters, its states, where it starts, its steps, its final states. -/
structure Aut where
  L : Int
  N : Int
  S : List Int
  T : List StepI
  F : List Int

/-- All numbers of a row are below n. -/
def InR (zs : List Int) (n : Int) : Prop := ∀ i, i < zs.length → 0 ≤ zs.getD i 0 ∧ zs.getD i 0 < n
/-- A step is one of n states and l letters. -/
def StIn (l n : Int) (x : StepI) : Prop := (0 ≤ x.1 ∧ x.1 < n) ∧ (0 ≤ x.2.2 ∧ x.2.2 < n) ∧ (0 ≤ x.2.1 ∧ x.2.1 < l)
def InT (T : List StepI) (l n : Int) : Prop := ∀ i, i < T.length → StIn l n (T.getD i (0, 0, 0))
/-- The numbers of a row rise. -/
def Rise (zs : List Int) : Prop := ∀ i, i < zs.length - 1 → zs.getD i 0 < zs.getD (i + 1) 0
/-- A step stands ahead of another one. -/
def Lex (x y : StepI) : Prop := x.1 < y.1 ∨ x.1 = y.1 ∧ (x.2.1 < y.2.1 ∨ x.2.1 = y.2.1 ∧ x.2.2 < y.2.2)
def RiseT (T : List StepI) : Prop := ∀ i, i < T.length - 1 → Lex (T.getD i (0, 0, 0)) (T.getD (i + 1) (0, 0, 0))

/-- It may be one. -/
structure GoodA (x : Aut) : Prop where
  l1 : 1 ≤ x.L
  l4 : x.L ≤ 4
  n1 : 1 ≤ x.N
  n3 : x.N ≤ 300
  t4 : x.T.length ≤ 40000
  s : InR x.S x.N
  f : InR x.F x.N
  t : InT x.T x.L x.N
  sr : Rise x.S
  fr : Rise x.F
  tr : RiseT x.T

/-- The tests, as truths. -/
def inRB (zs : List Int) (n : Int) : Bool := decide (∀ i, i < zs.length → 0 ≤ zs.getD i 0 ∧ zs.getD i 0 < n)
def stInB (l n : Int) (x : StepI) : Bool := decide ((0 ≤ x.1 ∧ x.1 < n) ∧ (0 ≤ x.2.2 ∧ x.2.2 < n) ∧ (0 ≤ x.2.1 ∧ x.2.1 < l))
def inTB (T : List StepI) (l n : Int) : Bool := decide (∀ i, i < T.length → stInB l n (T.getD i (0, 0, 0)) = true)
def riseB (zs : List Int) : Bool := decide (∀ i, i < zs.length - 1 → zs.getD i 0 < zs.getD (i + 1) 0)
def lexB (x y : StepI) : Bool := decide (x.1 < y.1 ∨ x.1 = y.1 ∧ (x.2.1 < y.2.1 ∨ x.2.1 = y.2.1 ∧ x.2.2 < y.2.2))
def riseTB (T : List StepI) : Bool := decide (∀ i, i < T.length - 1 → lexB (T.getD i (0, 0, 0)) (T.getD (i + 1) (0, 0, 0)) = true)
theorem inRB_iff (zs : List Int) (n : Int) : inRB zs n = true ↔ InR zs n := decide_eq_true_iff
theorem inTB_iff (T : List StepI) (l n : Int) : inTB T l n = true ↔ InT T l n := by
  unfold inTB InT StIn
  rw [decide_eq_true_iff]
  constructor
  · intro h i hi; exact decide_eq_true_iff.1 (h i hi)
  · intro h i hi; exact decide_eq_true_iff.2 (h i hi)
theorem riseB_iff (zs : List Int) : riseB zs = true ↔ Rise zs := decide_eq_true_iff
theorem riseTB_iff (T : List StepI) : riseTB T = true ↔ RiseT T := by
  unfold riseTB RiseT Lex
  rw [decide_eq_true_iff]
  constructor
  · intro h i hi; exact decide_eq_true_iff.1 (h i hi)
  · intro h i hi; exact decide_eq_true_iff.2 (h i hi)
def insB (x : Aut) : Bool := inRB x.S x.N && inRB x.F x.N && inTB x.T x.L x.N
def risB (x : Aut) : Bool := riseB x.S && riseB x.F && riseTB x.T
theorem insB_iff (x : Aut) : insB x = true ↔ (InR x.S x.N ∧ InR x.F x.N ∧ InT x.T x.L x.N) := by
  unfold insB
  rw [Bool.and_eq_true, Bool.and_eq_true, inRB_iff, inRB_iff, inTB_iff, and_assoc]
theorem risB_iff (x : Aut) : risB x = true ↔ (Rise x.S ∧ Rise x.F ∧ RiseT x.T) := by
  unfold risB
  rw [Bool.and_eq_true, Bool.and_eq_true, riseB_iff, riseB_iff, riseTB_iff, and_assoc]

/-- What is wrong with one. -/
def checkA (x : Aut) : Int :=
  if x.L < 1 ∨ 4 < x.L then 2
  else if x.N < 1 ∨ 300 < x.N ∨ 40000 < x.T.length then 1
  else if insB x = true then (if risB x = true then 0 else 3)
  else 2

theorem checkA_good {x : Aut} (h : GoodA x) : checkA x = 0 := by
  have h1 := h.l1; have h2 := h.l4; have h3 := h.n1; have h4 := h.n3; have h5 := h.t4
  unfold checkA
  rw [if_neg (by omega), if_neg (by omega), if_pos ((insB_iff x).2 ⟨h.s, h.f, h.t⟩), if_pos ((risB_iff x).2 ⟨h.sr, h.fr, h.tr⟩)]
theorem goodA_of_check {x : Aut} (h : checkA x = 0) : GoodA x := by
  unfold checkA at h
  split at h
  · cases h
  · split at h
    · cases h
    · split at h
      · split at h
        · next h1 h2 h3 h4 =>
          have h5 := (insB_iff x).1 h3
          have h6 := (risB_iff x).1 h4
          exact ⟨by omega, by omega, by omega, by omega, by omega, h5.1, h5.2.1, h5.2.2, h6.1, h6.2.1, h6.2.2⟩
        · cases h
      · cases h
theorem checkA_range {x : Aut} (h : x.L < 1 ∨ 4 < x.L) : checkA x = 2 := by unfold checkA; rw [if_pos h]
theorem checkA_size {x : Aut} (h : ¬ (x.L < 1 ∨ 4 < x.L)) (h2 : x.N < 1 ∨ 300 < x.N ∨ 40000 < x.T.length) : checkA x = 1 := by unfold checkA; rw [if_neg h, if_pos h2]
theorem checkA_in {x : Aut} (h : ¬ (x.L < 1 ∨ 4 < x.L)) (h2 : ¬ (x.N < 1 ∨ 300 < x.N ∨ 40000 < x.T.length)) (h3 : ¬ (InR x.S x.N ∧ InR x.F x.N ∧ InT x.T x.L x.N)) : checkA x = 2 := by
  unfold checkA; rw [if_neg h, if_neg h2, if_neg (fun e => h3 ((insB_iff x).1 e))]
theorem checkA_rise {x : Aut} (h : ¬ (x.L < 1 ∨ 4 < x.L)) (h2 : ¬ (x.N < 1 ∨ 300 < x.N ∨ 40000 < x.T.length)) (h3 : InR x.S x.N ∧ InR x.F x.N ∧ InT x.T x.L x.N) (h4 : ¬ (Rise x.S ∧ Rise x.F ∧ RiseT x.T)) : checkA x = 3 := by
  unfold checkA; rw [if_neg h, if_neg h2, if_pos ((insB_iff x).2 h3), if_neg (fun e => h4 ((risB_iff x).1 e))]

/-- A step's number. -/
def numS (l n : Int) (x : StepI) : Int := (x.1 * l + x.2.1) * n + x.2.2
theorem numS_range {l n : Int} {x : StepI} (hl : l ≤ 4) (hl1 : 1 ≤ l) (hn1 : 1 ≤ n) (hn : n ≤ 300) (h : StIn l n x) : 0 ≤ x.1 * l ∧ x.1 * l ≤ 1200 ∧ 0 ≤ (x.1 * l + x.2.1) * n ∧ (x.1 * l + x.2.1) * n ≤ 400000 ∧ 0 ≤ numS l n x ∧ numS l n x ≤ 500000 := by
  obtain ⟨⟨a1, a2⟩, ⟨b1, b2⟩, ⟨c1, c2⟩⟩ := h
  have h1 : 0 ≤ x.1 * l := Int.mul_nonneg a1 (by omega)
  have h2 : x.1 * l ≤ 300 * 4 := Int.mul_le_mul (by omega) (by omega) (by omega) (by omega)
  have h3 : 0 ≤ (x.1 * l + x.2.1) * n := Int.mul_nonneg (by omega) (by omega)
  have h4 : (x.1 * l + x.2.1) * n ≤ 1204 * 300 := Int.mul_le_mul (by omega) (by omega) (by omega) (by omega)
  unfold numS
  omega
/-- Numbers of steps tell which one stands ahead. -/
theorem numS_lt {l n : Int} {x y : StepI} (hl1 : 1 ≤ l) (hn1 : 1 ≤ n) (h : StIn l n x) (h' : StIn l n y) (hx : Lex x y) : numS l n x < numS l n y := by
  obtain ⟨⟨a1, a2⟩, ⟨b1, b2⟩, ⟨c1, c2⟩⟩ := h
  obtain ⟨⟨a3, a4⟩, ⟨b3, b4⟩, ⟨c3, c4⟩⟩ := h'
  have key : ∀ p q : Int, p < q → p * n + n ≤ q * n := fun p q hpq => by
    have : (p + 1) * n ≤ q * n := Int.mul_le_mul_of_nonneg_right (by omega) (by omega)
    rw [Int.add_mul, Int.one_mul] at this
    exact this
  unfold numS
  rcases hx with hx | ⟨he, hx | ⟨he2, hx⟩⟩
  · have h1 : (x.1 + 1) * l ≤ y.1 * l := Int.mul_le_mul_of_nonneg_right (by omega) (by omega)
    rw [Int.add_mul, Int.one_mul] at h1
    have := key (x.1 * l + x.2.1) (y.1 * l + y.2.1) (by omega)
    omega
  · rw [he]
    have := key (y.1 * l + x.2.1) (y.1 * l + y.2.1) (by omega)
    omega
  · rw [he, he2]; omega
theorem lex_tri (x y : StepI) : Lex x y ∨ x = y ∨ Lex y x := by
  obtain ⟨a, b, c⟩ := x
  obtain ⟨a', b', c'⟩ := y
  simp only [Lex, Prod.mk.injEq]
  omega
theorem numS_iff {l n : Int} {x y : StepI} (hl1 : 1 ≤ l) (hn1 : 1 ≤ n) (h : StIn l n x) (h' : StIn l n y) : numS l n x < numS l n y ↔ Lex x y := by
  refine ⟨fun hn => ?_, numS_lt hl1 hn1 h h'⟩
  rcases lex_tri x y with h1 | rfl | h1
  · exact h1
  · omega
  · have := numS_lt hl1 hn1 h' h h1; omega

theorem getT_lt {T : List StepI} {k : Nat} (h : k < T.length) : T.getD k (0, 0, 0) = T[k] := by simp [List.getD, h]

end Go.Proofs.Ytaangdomdeklhaa
