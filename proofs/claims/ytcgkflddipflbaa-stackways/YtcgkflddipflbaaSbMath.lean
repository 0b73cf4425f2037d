/- The automaton of the stacks that edges read from a control to an end. No program is in it. -/
import Derived.Test.YtcgkflddipflbaaSgM
import Derived.Test.YtcgkflddipflbaaUJM
namespace Go.Proofs.Ytcgkflddipflbaa
set_option linter.unusedVariables false

/-- The k-th triple, in the order in which they are written down. -/
def trK (k : Nat) : StepI := (((k / 18 : Nat) : Int), ((k / 6 % 3 : Nat) : Int), ((k % 6 : Nat) : Int))
def isK (E : Edg) (k : Nat) : Bool := decide (E (k / 18) (k / 6 % 3) (k % 6) < 2002)
/-- The steps of the first k triples. -/
def tE (E : Edg) (k : Nat) : List StepI := ((List.range k).filter (isK E)).map trK
theorem tE_zero (E : Edg) : tE E 0 = [] := rfl
theorem tE_succ (E : Edg) (k : Nat) : tE E (k + 1) = if isK E k = true then tE E k ++ [trK k] else tE E k := by
  unfold tE
  rw [List.range_succ, List.filter_append]
  by_cases h : isK E k = true
  · rw [if_pos h]; simp [h]
  · rw [if_neg h]; simp [h]
theorem tE_len (E : Edg) (k : Nat) : (tE E k).length ≤ k := by
  unfold tE
  rw [List.length_map]
  have := List.length_filter_le (isK E) (List.range k)
  rw [List.length_range] at this
  exact this
theorem mem_tE {E : Edg} {k : Nat} {t : StepI} : t ∈ tE E k ↔ ∃ j, j < k ∧ isK E j = true ∧ t = trK j := by
  unfold tE
  simp only [List.mem_map, List.mem_filter, List.mem_range]
  constructor
  · rintro ⟨j, ⟨h1, h2⟩, rfl⟩; exact ⟨j, h1, h2, rfl⟩
  · rintro ⟨j, h1, h2, rfl⟩; exact ⟨j, ⟨h1, h2⟩, rfl⟩
theorem stepR_tE {E : Edg} {p a q : Nat} : stepR (tE E 108) p a q ↔ p < 6 ∧ a < 3 ∧ q < 6 ∧ E p a q < 2002 := by
  constructor
  · rintro ⟨t, ht, rfl, rfl, rfl⟩
    obtain ⟨j, hj, hE, rfl⟩ := mem_tE.1 ht
    simp only [isK, decide_eq_true_eq] at hE
    simp only [trK, Int.toNat_natCast]
    exact ⟨by omega, by omega, by omega, hE⟩
  · rintro ⟨h1, h2, h3, h4⟩
    refine ⟨trK (p * 18 + a * 6 + q), mem_tE.2 ⟨_, by omega, ?_, rfl⟩, ?_, ?_, ?_⟩
    · simp only [isK, decide_eq_true_eq]
      have e1 : (p * 18 + a * 6 + q) / 18 = p := by omega
      have e2 : (p * 18 + a * 6 + q) / 6 % 3 = a := by omega
      have e3 : (p * 18 + a * 6 + q) % 6 = q := by omega
      rw [e1, e2, e3]
      exact h4
    · simp only [trK, Int.toNat_natCast]; omega
    · simp only [trK, Int.toNat_natCast]; omega
    · simp only [trK, Int.toNat_natCast]; omega
theorem plain_pth {E : Edg} : ∀ (zs : List Nat) {p q : Nat}, p < 6 → (∀ z, z ∈ zs → z < 3) → (plainP (tE E 108) zs p q ↔ Pth E p (zs.map fun z : Nat => (z : Int)) q)
  | [], p, q, hp, hz => Iff.rfl
  | a :: zs, p, q, hp, hz => by
    have ha : a < 3 := hz a (by simp)
    simp only [plainP, List.map_cons, Pth, PthR, Int.toNat_natCast]
    constructor
    · rintro ⟨r, h1, h2⟩
      obtain ⟨_, _, h3, h4⟩ := stepR_tE.1 h1
      exact ⟨r, h3, h4, (plain_pth zs h3 (fun z h => hz z (by simp [h]))).1 h2⟩
    · rintro ⟨r, h3, h4, h2⟩
      exact ⟨r, stepR_tE.2 ⟨hp, ha, h3, h4⟩, (plain_pth zs h3 (fun z h => hz z (by simp [h]))).2 h2⟩
theorem mset_one {en s : Nat} : mset [(en : Int)] s = true ↔ s.testBit en = true := by
  unfold mset
  rw [decide_eq_true_eq]
  constructor
  · intro h
    obtain ⟨i, hi⟩ := Nat.exists_testBit_of_ne_zero h
    rw [Nat.testBit_and, Bool.and_eq_true] at hi
    obtain ⟨f, hf, rfl⟩ := setOf_bit.1 hi.2
    have e : f = (en : Int) := by simpa using hf
    subst e
    simpa using hi.1
  · intro hb h0
    have : (s &&& setOf [(en : Int)]).testBit en = true := by rw [Nat.testBit_and, hb, setOf_bit.2 ⟨(en : Int), by simp, by simp⟩]; rfl
    rw [h0] at this
    simp at this
/-- The automaton accepts just what edges read to the end. -/
theorem lang_tE {E : Edg} (hE : Top E) {c en : Nat} (hc : c < 6) (he : en < 6) {zs : List Nat} (hz : ∀ z, z ∈ zs → z < 3) : mset [(en : Int)] (goS (tE E 108) (setOf [(c : Int)]) zs) = true ↔ readC E c (zs.map fun z : Nat => (z : Int)) en < 2002 := by
  rw [mset_one, goS_bit, readC_fin hE hc _ he]
  constructor
  · rintro ⟨p, h1, h2⟩
    obtain ⟨z, hz1, hz2⟩ := setOf_bit.1 h1
    have e : z = (c : Int) := by simpa using hz1
    subst e
    have e2 : p = c := by rw [← hz2]; simp
    subst e2
    exact (plain_pth zs hc hz).1 h2
  · intro h
    exact ⟨c, setOf_bit.2 ⟨(c : Int), by simp, by simp⟩, (plain_pth zs hc hz).2 h⟩
/-- The automaton, from a control to an end. -/
def autE (E : Edg) (c en : Nat) : Aut := ⟨3, 6, [(c : Int)], tE E 108, [(en : Int)]⟩

end Go.Proofs.Ytcgkflddipflbaa
