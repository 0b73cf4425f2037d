/- Automata that need not know their way, without the program: what may be one, where sets of states lead, which words are accepted. -/
/- Sets of at most eight states as bits of a number, without the program's walks: where a set leads by a letter, which sets accept. -/
import Derived.Test.YtcgkflddipflbaaGrow
import Derived.Laws.BitsLemmas
namespace Go.Proofs.Ytcgkflddipflbaa
set_option linter.unusedVariables false

/-- A step: from a state, by a letter, to a state. -/
abbrev StepI := Int × Int × Int
/-- An automaton's numbers: its letters, its states, where it starts, its steps, its final states. -/
structure Aut where
  L : Int
  N : Int
  S : List Int
  T : List StepI
  F : List Int

/-- All numbers of a row are below n. -/
def InR (zs : List Int) (n : Int) : Prop := ∀ i, i < zs.length → 0 ≤ zs.getD i 0 ∧ zs.getD i 0 < n
/-- A step is one of n states and l letters. -/
def StIn (l n : Int) (x : StepI) : Prop := (0 ≤ x.1 ∧ x.1 < n) ∧ (0 ≤ x.2.2 ∧ x.2.2 < n) ∧ (0 ≤ x.2.1 ∧ x.2.1 < l)
def InT (T : List StepI) (l n : Int) : Prop := ∀ i, i < T.length → StIn l n (T.getD i (0, 0, 0))
/-- The numbers of a row rise. -/
def Rise (zs : List Int) : Prop := ∀ i, i < zs.length - 1 → zs.getD i 0 < zs.getD (i + 1) 0
/-- A step stands ahead of another one. -/
def Lex (x y : StepI) : Prop := x.1 < y.1 ∨ x.1 = y.1 ∧ (x.2.1 < y.2.1 ∨ x.2.1 = y.2.1 ∧ x.2.2 < y.2.2)
def RiseT (T : List StepI) : Prop := ∀ i, i < T.length - 1 → Lex (T.getD i (0, 0, 0)) (T.getD (i + 1) (0, 0, 0))

/-- It may be one. -/
structure GoodA (x : Aut) : Prop where
  l1 : 1 ≤ x.L
  l4 : x.L ≤ 4
  n1 : 1 ≤ x.N
  n3 : x.N ≤ 300
  t4 : x.T.length ≤ 40000
  s : InR x.S x.N
  f : InR x.F x.N
  t : InT x.T x.L x.N
  sr : Rise x.S
  fr : Rise x.F
  tr : RiseT x.T

/-- The tests, as truths. -/
def inRB (zs : List Int) (n : Int) : Bool := decide (∀ i, i < zs.length → 0 ≤ zs.getD i 0 ∧ zs.getD i 0 < n)
def stInB (l n : Int) (x : StepI) : Bool := decide ((0 ≤ x.1 ∧ x.1 < n) ∧ (0 ≤ x.2.2 ∧ x.2.2 < n) ∧ (0 ≤ x.2.1 ∧ x.2.1 < l))
def inTB (T : List StepI) (l n : Int) : Bool := decide (∀ i, i < T.length → stInB l n (T.getD i (0, 0, 0)) = true)
def riseB (zs : List Int) : Bool := decide (∀ i, i < zs.length - 1 → zs.getD i 0 < zs.getD (i + 1) 0)
def lexB (x y : StepI) : Bool := decide (x.1 < y.1 ∨ x.1 = y.1 ∧ (x.2.1 < y.2.1 ∨ x.2.1 = y.2.1 ∧ x.2.2 < y.2.2))
def riseTB (T : List StepI) : Bool := decide (∀ i, i < T.length - 1 → lexB (T.getD i (0, 0, 0)) (T.getD (i + 1) (0, 0, 0)) = true)
theorem inRB_iff (zs : List Int) (n : Int) : inRB zs n = true ↔ InR zs n := decide_eq_true_iff
theorem inTB_iff (T : List StepI) (l n : Int) : inTB T l n = true ↔ InT T l n := by
  unfold inTB InT StIn
  rw [decide_eq_true_iff]
  constructor
  · intro h i hi; exact decide_eq_true_iff.1 (h i hi)
  · intro h i hi; exact decide_eq_true_iff.2 (h i hi)
theorem riseB_iff (zs : List Int) : riseB zs = true ↔ Rise zs := decide_eq_true_iff
theorem riseTB_iff (T : List StepI) : riseTB T = true ↔ RiseT T := by
  unfold riseTB RiseT Lex
  rw [decide_eq_true_iff]
  constructor
  · intro h i hi; exact decide_eq_true_iff.1 (h i hi)
  · intro h i hi; exact decide_eq_true_iff.2 (h i hi)
def insB (x : Aut) : Bool := inRB x.S x.N && inRB x.F x.N && inTB x.T x.L x.N
def risB (x : Aut) : Bool := riseB x.S && riseB x.F && riseTB x.T
theorem insB_iff (x : Aut) : insB x = true ↔ (InR x.S x.N ∧ InR x.F x.N ∧ InT x.T x.L x.N) := by
  unfold insB
  rw [Bool.and_eq_true, Bool.and_eq_true, inRB_iff, inRB_iff, inTB_iff, and_assoc]
theorem risB_iff (x : Aut) : risB x = true ↔ (Rise x.S ∧ Rise x.F ∧ RiseT x.T) := by
  unfold risB
  rw [Bool.and_eq_true, Bool.and_eq_true, riseB_iff, riseB_iff, riseTB_iff, and_assoc]

/-- What is wrong with one. -/
def checkA (x : Aut) : Int :=
  if x.L < 1 ∨ 4 < x.L then 2
  else if x.N < 1 ∨ 300 < x.N ∨ 40000 < x.T.length then 1
  else if insB x = true then (if risB x = true then 0 else 3)
  else 2

theorem checkA_good {x : Aut} (h : GoodA x) : checkA x = 0 := by
  have h1 := h.l1; have h2 := h.l4; have h3 := h.n1; have h4 := h.n3; have h5 := h.t4
  unfold checkA
  rw [if_neg (by omega), if_neg (by omega), if_pos ((insB_iff x).2 ⟨h.s, h.f, h.t⟩), if_pos ((risB_iff x).2 ⟨h.sr, h.fr, h.tr⟩)]
theorem goodA_of_check {x : Aut} (h : checkA x = 0) : GoodA x := by
  unfold checkA at h
  split at h
  · cases h
  · split at h
    · cases h
    · split at h
      · split at h
        · next h1 h2 h3 h4 =>
          have h5 := (insB_iff x).1 h3
          have h6 := (risB_iff x).1 h4
          exact ⟨by omega, by omega, by omega, by omega, by omega, h5.1, h5.2.1, h5.2.2, h6.1, h6.2.1, h6.2.2⟩
        · cases h
      · cases h
theorem checkA_range {x : Aut} (h : x.L < 1 ∨ 4 < x.L) : checkA x = 2 := by unfold checkA; rw [if_pos h]
theorem checkA_size {x : Aut} (h : ¬ (x.L < 1 ∨ 4 < x.L)) (h2 : x.N < 1 ∨ 300 < x.N ∨ 40000 < x.T.length) : checkA x = 1 := by unfold checkA; rw [if_neg h, if_pos h2]
theorem checkA_in {x : Aut} (h : ¬ (x.L < 1 ∨ 4 < x.L)) (h2 : ¬ (x.N < 1 ∨ 300 < x.N ∨ 40000 < x.T.length)) (h3 : ¬ (InR x.S x.N ∧ InR x.F x.N ∧ InT x.T x.L x.N)) : checkA x = 2 := by
  unfold checkA; rw [if_neg h, if_neg h2, if_neg (fun e => h3 ((insB_iff x).1 e))]
theorem checkA_rise {x : Aut} (h : ¬ (x.L < 1 ∨ 4 < x.L)) (h2 : ¬ (x.N < 1 ∨ 300 < x.N ∨ 40000 < x.T.length)) (h3 : InR x.S x.N ∧ InR x.F x.N ∧ InT x.T x.L x.N) (h4 : ¬ (Rise x.S ∧ Rise x.F ∧ RiseT x.T)) : checkA x = 3 := by
  unfold checkA; rw [if_neg h, if_neg h2, if_pos ((insB_iff x).2 h3), if_neg (fun e => h4 ((risB_iff x).1 e))]

/-- A step's number. -/
def numS (l n : Int) (x : StepI) : Int := (x.1 * l + x.2.1) * n + x.2.2
theorem numS_range {l n : Int} {x : StepI} (hl : l ≤ 4) (hl1 : 1 ≤ l) (hn1 : 1 ≤ n) (hn : n ≤ 300) (h : StIn l n x) : 0 ≤ x.1 * l ∧ x.1 * l ≤ 1200 ∧ 0 ≤ (x.1 * l + x.2.1) * n ∧ (x.1 * l + x.2.1) * n ≤ 400000 ∧ 0 ≤ numS l n x ∧ numS l n x ≤ 500000 := by
  obtain ⟨⟨a1, a2⟩, ⟨b1, b2⟩, ⟨c1, c2⟩⟩ := h
  have h1 : 0 ≤ x.1 * l := Int.mul_nonneg a1 (by omega)
  have h2 : x.1 * l ≤ 300 * 4 := Int.mul_le_mul (by omega) (by omega) (by omega) (by omega)
  have h3 : 0 ≤ (x.1 * l + x.2.1) * n := Int.mul_nonneg (by omega) (by omega)
  have h4 : (x.1 * l + x.2.1) * n ≤ 1204 * 300 := Int.mul_le_mul (by omega) (by omega) (by omega) (by omega)
  unfold numS
  omega
/-- Numbers of steps tell which one stands ahead. -/
theorem numS_lt {l n : Int} {x y : StepI} (hl1 : 1 ≤ l) (hn1 : 1 ≤ n) (h : StIn l n x) (h' : StIn l n y) (hx : Lex x y) : numS l n x < numS l n y := by
  obtain ⟨⟨a1, a2⟩, ⟨b1, b2⟩, ⟨c1, c2⟩⟩ := h
  obtain ⟨⟨a3, a4⟩, ⟨b3, b4⟩, ⟨c3, c4⟩⟩ := h'
  have key : ∀ p q : Int, p < q → p * n + n ≤ q * n := fun p q hpq => by
    have : (p + 1) * n ≤ q * n := Int.mul_le_mul_of_nonneg_right (by omega) (by omega)
    rw [Int.add_mul, Int.one_mul] at this
    exact this
  unfold numS
  rcases hx with hx | ⟨he, hx | ⟨he2, hx⟩⟩
  · have h1 : (x.1 + 1) * l ≤ y.1 * l := Int.mul_le_mul_of_nonneg_right (by omega) (by omega)
    rw [Int.add_mul, Int.one_mul] at h1
    have := key (x.1 * l + x.2.1) (y.1 * l + y.2.1) (by omega)
    omega
  · rw [he]
    have := key (y.1 * l + x.2.1) (y.1 * l + y.2.1) (by omega)
    omega
  · rw [he, he2]; omega
theorem lex_tri (x y : StepI) : Lex x y ∨ x = y ∨ Lex y x := by
  obtain ⟨a, b, c⟩ := x
  obtain ⟨a', b', c'⟩ := y
  simp only [Lex, Prod.mk.injEq]
  omega
theorem numS_iff {l n : Int} {x y : StepI} (hl1 : 1 ≤ l) (hn1 : 1 ≤ n) (h : StIn l n x) (h' : StIn l n y) : numS l n x < numS l n y ↔ Lex x y := by
  refine ⟨fun hn => ?_, numS_lt hl1 hn1 h h'⟩
  rcases lex_tri x y with h1 | rfl | h1
  · exact h1
  · omega
  · have := numS_lt hl1 hn1 h' h h1; omega

theorem getT_lt {T : List StepI} {k : Nat} (h : k < T.length) : T.getD k (0, 0, 0) = T[k] := by simp [List.getD, h]

end Go.Proofs.Ytcgkflddipflbaa

namespace Go.Proofs.Ytcgkflddipflbaa
set_option linter.unusedVariables false

/-- A set of states as bits. -/
def setOf (zs : List Int) : Nat := zs.foldl (fun s z => s ||| 2 ^ z.toNat) 0
/-- The ends of the steps that have a property, as bits. -/
def orIf (p : StepI → Bool) (T : List StepI) : Nat := T.foldl (fun r t => if p t = true then r ||| 2 ^ t.2.2.toNat else r) 0
def tabP (f l : Nat) (t : StepI) : Bool := decide (t.1.toNat = f) && decide (t.2.1.toNat = l)
def setP (s l : Nat) (t : StepI) : Bool := decide (t.2.1.toNat = l) && s.testBit t.1.toNat
/-- Where a set leads by a letter. -/
def dset (T : List StepI) (s l : Nat) : Nat := orIf (setP s l) T
/-- Whether a set accepts. -/
def mset (F : List Int) (s : Nat) : Bool := decide (s &&& setOf F ≠ 0)

theorem setOf_snoc {zs : List Int} {k : Nat} (hk : k < zs.length) : setOf (zs.take (k + 1)) = setOf (zs.take k) ||| 2 ^ (zs.getD k 0).toNat := by
  unfold setOf
  rw [List.take_add_one, List.foldl_append, getD_lt hk]
  simp [hk]
theorem orIf_snoc {p : StepI → Bool} {T : List StepI} {k : Nat} (hk : k < T.length) : orIf p (T.take (k + 1)) = if p (T.getD k (0, 0, 0)) = true then orIf p (T.take k) ||| 2 ^ (T.getD k (0, 0, 0)).2.2.toNat else orIf p (T.take k) := by
  unfold orIf
  rw [List.take_add_one, List.foldl_append, getT_lt hk]
  simp [hk]
theorem foldl_bit {α : Type} (g : α → Nat) (p : α → Bool) (T : List α) (r i : Nat) : (T.foldl (fun r t => if p t = true then r ||| 2 ^ g t else r) r).testBit i = true ↔ r.testBit i = true ∨ ∃ t, t ∈ T ∧ p t = true ∧ g t = i := by
  induction T generalizing r with
  | nil => simp
  | cons t T ih =>
    rw [List.foldl_cons, ih]
    by_cases hp : p t = true
    · rw [if_pos hp]
      simp only [Nat.testBit_or, Bool.or_eq_true, Nat.testBit_two_pow, decide_eq_true_eq, List.mem_cons]
      constructor
      · rintro ((h | h) | ⟨u, h1, h2⟩)
        · exact .inl h
        · exact .inr ⟨t, .inl rfl, hp, h⟩
        · exact .inr ⟨u, .inr h1, h2⟩
      · rintro (h | ⟨u, rfl | h1, h2, h3⟩)
        · exact .inl (.inl h)
        · exact .inl (.inr h3)
        · exact .inr ⟨u, h1, h2, h3⟩
    · rw [if_neg hp]
      constructor
      · rintro (h | ⟨u, h1, h2⟩)
        · exact .inl h
        · exact .inr ⟨u, List.mem_cons_of_mem _ h1, h2⟩
      · rintro (h | ⟨u, h1, h2, h3⟩)
        · exact .inl h
        · rcases List.mem_cons.1 h1 with rfl | h1
          · exact absurd h2 hp
          · exact .inr ⟨u, h1, h2, h3⟩
theorem orIf_bit {p : StepI → Bool} {T : List StepI} {i : Nat} : (orIf p T).testBit i = true ↔ ∃ t, t ∈ T ∧ p t = true ∧ t.2.2.toNat = i := by
  unfold orIf
  rw [foldl_bit (fun t : StepI => t.2.2.toNat) p T 0 i]
  simp
theorem setOf_bit {zs : List Int} {i : Nat} : (setOf zs).testBit i = true ↔ ∃ z, z ∈ zs ∧ z.toNat = i := by
  have h := foldl_bit (fun z : Int => z.toNat) (fun _ => true) zs 0 i
  simp only [if_true] at h
  unfold setOf
  rw [h]
  simp
theorem mem_in {zs : List Int} {n : Int} (h : InR zs n) {z : Int} (hz : z ∈ zs) : 0 ≤ z ∧ z < n := by
  obtain ⟨i, hi, rfl⟩ := List.getElem_of_mem hz
  have := h i hi
  rwa [getD_lt hi] at this
theorem memT_in {T : List StepI} {l n : Int} (h : InT T l n) {t : StepI} (ht : t ∈ T) : StIn l n t := by
  obtain ⟨i, hi, rfl⟩ := List.getElem_of_mem ht
  have := h i hi
  rwa [getT_lt hi] at this
theorem lt_of_bits {x n : Nat} (h : ∀ i, x.testBit i = true → i < n) : x < 2 ^ n := by
  refine Nat.lt_pow_two_of_testBit x fun i hi => ?_
  cases hb : x.testBit i with
  | false => rfl
  | true => have := h i hb; omega
theorem setOf_lt {zs : List Int} {n : Int} (h : InR zs n) (hn : n ≤ 8) : setOf zs < 256 := by
  have : setOf zs < 2 ^ 8 := lt_of_bits fun i hi => by
    obtain ⟨z, hz, rfl⟩ := setOf_bit.1 hi
    have := mem_in h hz; omega
  simpa using this
theorem orIf_lt {p : StepI → Bool} {T : List StepI} {l n : Int} (h : InT T l n) (hn : n ≤ 8) : orIf p T < 256 := by
  have : orIf p T < 2 ^ 8 := lt_of_bits fun i hi => by
    obtain ⟨t, ht, _, rfl⟩ := orIf_bit.1 hi
    have := (memT_in h ht).2.1; omega
  simpa using this
theorem inT_take {T : List StepI} {l n : Int} (h : InT T l n) (k : Nat) : InT (T.take k) l n := fun i hi => by
  rw [List.length_take] at hi
  have := h i (by omega)
  rw [getT_lt (by omega)] at this
  rw [getT_lt (by rw [List.length_take]; omega), List.getElem_take]
  exact this
theorem inR_take {zs : List Int} {n : Int} (h : InR zs n) (k : Nat) : InR (zs.take k) n := fun i hi => by
  rw [List.length_take] at hi
  have := h i (by omega)
  rw [getD_lt (by omega)] at this
  rw [getD_lt (by rw [List.length_take]; omega), List.getElem_take]
  exact this

/-- The rows of the states of a set, put together. -/
def orTo (g : Nat → Nat) (s : Nat) : Nat → Nat
  | 0 => 0
  | n + 1 => if s.testBit n = true then orTo g s n ||| g n else orTo g s n
theorem orTo_bit {g : Nat → Nat} {s n i : Nat} : (orTo g s n).testBit i = true ↔ ∃ f, f < n ∧ s.testBit f = true ∧ (g f).testBit i = true := by
  induction n with
  | zero => simp [orTo]
  | succ n ih =>
    simp only [orTo]
    by_cases hb : s.testBit n = true
    · rw [if_pos hb, Nat.testBit_or, Bool.or_eq_true, ih]
      constructor
      · rintro (⟨f, h1, h2⟩ | h)
        · exact ⟨f, by omega, h2⟩
        · exact ⟨n, by omega, hb, h⟩
      · rintro ⟨f, h1, h2, h3⟩
        by_cases e : f = n
        · subst e; exact .inr h3
        · exact .inl ⟨f, by omega, h2, h3⟩
    · rw [if_neg hb, ih]
      constructor
      · rintro ⟨f, h1, h2⟩; exact ⟨f, by omega, h2⟩
      · rintro ⟨f, h1, h2, h3⟩
        by_cases e : f = n
        · subst e; exact absurd h2 hb
        · exact ⟨f, by omega, h2, h3⟩
theorem eq_of_bits {x y : Nat} (h : ∀ i, x.testBit i = true ↔ y.testBit i = true) : x = y := Nat.eq_of_testBit_eq fun i => Bool.eq_iff_iff.2 (h i)
theorem dset_tab {T : List StepI} {L N : Int} (h : InT T L N) (s l : Nat) : orTo (fun f => orIf (tabP f l) T) s N.toNat = dset T s l := by
  refine eq_of_bits fun i => ?_
  rw [orTo_bit]
  unfold dset
  rw [orIf_bit]
  constructor
  · rintro ⟨f, h1, h2, h3⟩
    obtain ⟨t, ht, hp, hi⟩ := orIf_bit.1 h3
    simp only [tabP, Bool.and_eq_true, decide_eq_true_eq] at hp
    refine ⟨t, ht, ?_, hi⟩
    simp only [setP, Bool.and_eq_true, decide_eq_true_eq]
    exact ⟨hp.2, by rw [hp.1]; exact h2⟩
  · rintro ⟨t, ht, hp, hi⟩
    simp only [setP, Bool.and_eq_true, decide_eq_true_eq] at hp
    have hin := (memT_in h ht).1
    refine ⟨t.1.toNat, by omega, hp.2, orIf_bit.2 ⟨t, ht, ?_, hi⟩⟩
    simp [tabP, hp.1]
theorem orTo_lt {g : Nat → Nat} {s n : Nat} (hg : ∀ f, f < n → g f < 256) : orTo g s n < 256 := by
  have : orTo g s n < 2 ^ 8 := lt_of_bits fun i hi => by
    obtain ⟨f, h1, _, h3⟩ := orTo_bit.1 hi
    have h4 := hg f h1
    rcases Nat.lt_or_ge i 8 with h5 | h5
    · exact h5
    · have : (g f).testBit i = false := Nat.testBit_lt_two_pow (Nat.lt_of_lt_of_le h4 (by have := Nat.pow_le_pow_right (show 0 < 2 by decide) h5; simpa using this))
      rw [this] at h3; cases h3
  simpa using this

/-! ### the machine's bits -/
theorem wraps_i64s (n : Int) (h0 : 0 ≤ n) (h1 : n < 2 ^ 62) : IntKind.i64.wrap n = n := by rw [IntKind.wrap_i64]; omega
theorem orI {s t : Nat} (hs : s < 256) (ht : t < 256) : bits .or .i64 (s : Int) (t : Int) = ((s ||| t : Nat) : Int) := (bits_nat .i64 62 (by decide) wraps_i64s s t (by omega) (by omega)).2
theorem andI {s t : Nat} (hs : s < 256) (ht : t < 256) : bits .and .i64 (s : Int) (t : Int) = ((s &&& t : Nat) : Int) := (bits_nat .i64 62 (by decide) wraps_i64s s t (by omega) (by omega)).1
theorem pow_lt8 {x : Nat} (hx : x < 8) : 2 ^ x < 256 := by
  have := Nat.pow_lt_pow_right (show 1 < 2 by decide) hx
  simpa using this
theorem pow_wrap {x : Nat} (hx : x < 8) : IntKind.i64.wrap ((2 : Int) ^ x) = ((2 ^ x : Nat) : Int) := by
  have h1 := pow_lt8 hx
  have h2 : ((2 : Int) ^ x) = ((2 ^ x : Nat) : Int) := by simp
  rw [h2, IntKind.wrap_i64]
  generalize 2 ^ x = y at *
  omega
theorem shr_bit {s x : Nat} (hs : s < 256) : bits .and .i64 ((s : Int) / 2 ^ x) 1 = (if s.testBit x = true then 1 else 0) := by
  have h2 : ((s : Int) / 2 ^ x) = ((s / 2 ^ x : Nat) : Int) := by simp
  have h3 : s / 2 ^ x < 256 := Nat.lt_of_le_of_lt (Nat.div_le_self _ _) hs
  have h4 := andI (t := 1) h3 (by omega)
  rw [h2]
  rw [show ((1 : Nat) : Int) = 1 from rfl] at h4
  rw [h4, Nat.and_one_is_mod, Nat.testBit_eq_decide_div_mod_eq]
  have : s / 2 ^ x % 2 = 0 ∨ s / 2 ^ x % 2 = 1 := by omega
  rcases this with h | h <;> simp [h]

/-! ### words -/
/-- Where a word leads from a set. -/
def goS (T : List StepI) (s : Nat) (z : List Nat) : Nat := z.foldl (dset T) s
theorem dset_lt {T : List StepI} {L N : Int} (h : InT T L N) (hn : N ≤ 8) (s l : Nat) : dset T s l < 256 := orIf_lt h hn

end Go.Proofs.Ytcgkflddipflbaa
