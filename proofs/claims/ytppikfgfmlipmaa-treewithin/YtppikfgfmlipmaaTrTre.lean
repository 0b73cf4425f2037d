/- Trees as such, without the program: which sets they lead to; two automata at once; whether one accepts all that another does. -/
import Derived.Test.YtppikfgfmlipmaaTrSub
namespace Go.Proofs.Ytppikfgfmlipmaa
set_option linter.unusedVariables false

inductive Tr3 where
  | lf (l : Nat)
  | nd (l : Nat) (a b : Tr3)
namespace Tr3
def size : Tr3 → Nat
  | lf _ => 1
  | nd _ a b => 1 + a.size + b.size
def ok (L : Nat) : Tr3 → Prop
  | lf l => l < L
  | nd l a b => l < L ∧ a.ok L ∧ b.ok L
/-- The set that a tree leads to. -/
def set (R : List RuleI) : Tr3 → Nat
  | lf l => nxA R l 1 1
  | nd l a b => nxA R l (a.set R) (b.set R)
theorem pos (t : Tr3) : 1 ≤ t.size := by cases t <;> simp only [size] <;> omega
theorem set_zero {R : List RuleI} {L : Int} {n : Nat} (hR : InRu R L n) (t : Tr3) : (t.set R).testBit 0 = false := by cases t <;> exact nxA_zero hR
theorem set_lt {R : List RuleI} {L : Int} {n : Nat} (hR : InRu R L n) (t : Tr3) : t.set R < 2 ^ (n + 1) := by cases t <;> exact nxS_lt hR (Nat.le_refl _)
end Tr3
theorem bit_one {z : Int} (hz : -1 ≤ z) : Nat.testBit 1 (plc z) = (z == -1) := by
  by_cases e : z = -1
  · subst e; rfl
  · have : ∃ k, plc z = k + 1 := ⟨plc z - 1, by unfold plc; omega⟩
    obtain ⟨k, hk⟩ := this
    rw [hk]
    have : (z == -1) = false := by simpa using e
    rw [this]
    simp [Nat.testBit_succ]
theorem plc_inj {a b : Int} (ha : -1 ≤ a) (hb : -1 ≤ b) (h : plc a = plc b) : a = b := by unfold plc at h; omega
/-- Trees with so many nodes, and the states that they can be given. -/
theorem der_iff {R : List RuleI} {L N : Nat} (hR : InRu R L N) {q : Nat} {m : Nat} : Der R q m ↔ ∃ t : Tr3, t.ok L ∧ t.size = m ∧ (t.set R).testBit (q + 1) = true := by
  constructor
  · intro h
    have key : ∀ z m, Der R z m → ∃ t : Tr3, t.ok L ∧ t.size = m ∧ (t.set R).testBit (plc z) = true := by
      intro z m h
      induction h with
      | leaf r hr hl =>
        have hin := hR.mem hr
        unfold RuIn at hin
        refine ⟨.lf r.1.toNat, by show _ < _; omega, rfl, ?_⟩
        show (nxA R _ 1 1).testBit _ = true
        rw [nxA_bit, List.any_eq_true]
        refine ⟨r, hr, ?_⟩
        have h2 : r.2.2.1 = -1 := by omega
        unfold hitS
        rw [bit_one (by omega), bit_one (by omega), hl, h2]
        simp
        omega
      | node r hr hl a b ha hb iha ihb =>
        have hin := hR.mem hr
        unfold RuIn at hin
        obtain ⟨ta, a1, a2, a3⟩ := iha
        obtain ⟨tb, b1, b2, b3⟩ := ihb
        refine ⟨.nd r.1.toNat ta tb, ⟨by omega, a1, b1⟩, by show 1 + _ + _ = _; rw [a2, b2], ?_⟩
        show (nxA R _ _ _).testBit _ = true
        rw [nxA_bit, List.any_eq_true]
        refine ⟨r, hr, ?_⟩
        unfold hitS
        rw [a3, b3]
        simp
        omega
    have := key q m h
    rwa [plc_nat] at this
  · rintro ⟨t, h1, h2, h3⟩
    have key : ∀ (t : Tr3) (z : Int), 0 ≤ z → t.ok L → (t.set R).testBit (plc z) = true → Der R z t.size := by
      intro t
      induction t with
      | lf l =>
        intro z hz _ hb
        rw [Tr3.set, nxA_bit, List.any_eq_true] at hb
        obtain ⟨r, hr, hh⟩ := hb
        rw [Bool.and_eq_true, beq_iff_eq] at hh
        have hin := hR.mem hr
        unfold RuIn at hin
        have ht : r.2.2.2 = z := plc_inj (by omega) (by omega) hh.2
        have h4 := hh.1
        unfold hitS at h4
        rw [bit_one (by omega)] at h4
        simp only [Bool.and_eq_true, beq_iff_eq] at h4
        rw [← ht]
        exact .leaf r hr h4.2.1
      | nd l ta tb iha ihb =>
        intro z hz hok hb
        rw [Tr3.set, nxA_bit, List.any_eq_true] at hb
        obtain ⟨r, hr, hh⟩ := hb
        rw [Bool.and_eq_true, beq_iff_eq] at hh
        have hin := hR.mem hr
        unfold RuIn at hin
        have ht : r.2.2.2 = z := plc_inj (by omega) (by omega) hh.2
        have h4 := hh.1
        unfold hitS at h4
        simp only [Bool.and_eq_true, beq_iff_eq] at h4
        have hl : r.2.1 ≠ -1 := fun e => by
          have := h4.2.1
          rw [e, plc_none, Tr3.set_zero hR] at this
          cases this
        rw [← ht]
        exact .node r hr hl _ _ (iha r.2.1 (by omega) hok.2.1 h4.2.1) (ihb r.2.2.1 (by omega) hok.2.2 h4.2.2)
    have := key t q (by omega) h1 (by rw [plc_nat]; exact h3)
    rwa [h2] at this

/-- Two rules at once. -/
def mtB (r r' : RuleI) : Bool := (r.1 == r'.1) && ((r.2.1 == -1) == (r'.2.1 == -1))
def prI (n : Nat) (p q : Int) : Int := if p = -1 then -1 else p * n + q
def prR (n : Nat) (r r' : RuleI) : RuleI := (r.1, prI n r.2.1 r'.2.1, prI n r.2.2.1 r'.2.2.1, prI n r.2.2.2 r'.2.2.2)
def botR (R Q : List RuleI) (n : Nat) : List RuleI := R.flatMap fun r => (Q.filter (mtB r)).map (prR n r)
theorem botR_mem {R Q : List RuleI} {n : Nat} {s : RuleI} : s ∈ botR R Q n ↔ ∃ r r', r ∈ R ∧ r' ∈ Q ∧ mtB r r' = true ∧ s = prR n r r' := by
  unfold botR
  constructor
  · intro h
    obtain ⟨r, hr, h2⟩ := List.mem_flatMap.1 h
    obtain ⟨r', hr', h3⟩ := List.mem_map.1 h2
    obtain ⟨h4, h5⟩ := List.mem_filter.1 hr'
    exact ⟨r, r', hr, h4, h5, h3.symm⟩
  · rintro ⟨r, r', h1, h2, h3, h4⟩
    exact List.mem_flatMap.2 ⟨r, h1, List.mem_map.2 ⟨r', List.mem_filter.2 ⟨h2, h3⟩, h4.symm⟩⟩
theorem pair_inj {n p q p' q' : Nat} (hq : q < n) (hq' : q' < n) (h : p * n + q = p' * n + q') : p = p' ∧ q = q' := by
  have h1 : (p * n + q) / n = p := by rw [Nat.mul_comm, Nat.mul_add_div (by omega), Nat.div_eq_of_lt hq, Nat.add_zero]
  have h2 : (p' * n + q') / n = p' := by rw [Nat.mul_comm, Nat.mul_add_div (by omega), Nat.div_eq_of_lt hq', Nat.add_zero]
  have h3 : p = p' := by rw [← h1, h, h2]
  subst h3
  exact ⟨rfl, by omega⟩
theorem prI_nat (n p q : Nat) : prI n (p : Int) (q : Int) = ((p * n + q : Nat) : Int) := by
  unfold prI
  rw [if_neg (by omega)]
  simp
theorem pair_lt {N n p q : Nat} (hp : p < N) (hq : q < n) : p * n + q < N * n := by
  have : (p + 1) * n ≤ N * n := Nat.mul_le_mul_right n hp
  rw [Nat.succ_mul] at this
  omega
theorem botR_in {R Q : List RuleI} {L N n : Nat} (hR : InRu R L N) (hQ : InRu Q L n) : InRu (botR R Q n) L ((N * n : Nat) : Int) := by
  intro i hi
  have hm := mem_getD hi
  obtain ⟨r, r', h1, h2, h3, h4⟩ := botR_mem.1 hm
  rw [h4]
  have a := hR.mem h1
  have b := hQ.mem h2
  unfold RuIn at a b
  unfold mtB at h3
  rw [Bool.and_eq_true, beq_iff_eq] at h3
  obtain ⟨t, ht⟩ : ∃ t : Nat, r.2.2.2 = t := ⟨r.2.2.2.toNat, by omega⟩
  obtain ⟨t', ht'⟩ : ∃ t : Nat, r'.2.2.2 = t := ⟨r'.2.2.2.toNat, by omega⟩
  have lt := pair_lt (N := N) (n := n) (p := t) (q := t') (by omega) (by omega)
  have e3 : (r.2.1 == -1) = (r'.2.1 == -1) := by simpa using h3.2
  by_cases e : r.2.1 = -1
  · have e2 : r'.2.1 = -1 := by rw [e] at e3; simpa using e3.symm
    have e4 : r.2.2.1 = -1 := by omega
    refine ⟨⟨by show 0 ≤ r.1; omega, by show r.1 < _; omega⟩, ?_, .inl ⟨?_, ?_⟩⟩
    · show 0 ≤ prI n _ _ ∧ prI n _ _ < _
      rw [ht, ht', prI_nat]; omega
    · show prI n _ _ = -1; rw [e]; rfl
    · show prI n _ _ = -1; rw [e4]; rfl
  · have e2 : r'.2.1 ≠ -1 := fun h => by
      rw [h] at e3
      exact e (by simpa using e3)
    obtain ⟨u, hu⟩ : ∃ t : Nat, r.2.1 = t := ⟨r.2.1.toNat, by omega⟩
    obtain ⟨u', hu'⟩ : ∃ t : Nat, r'.2.1 = t := ⟨r'.2.1.toNat, by omega⟩
    obtain ⟨v, hv⟩ : ∃ t : Nat, r.2.2.1 = t := ⟨r.2.2.1.toNat, by omega⟩
    obtain ⟨v', hv'⟩ : ∃ t : Nat, r'.2.2.1 = t := ⟨r'.2.2.1.toNat, by omega⟩
    have lu := pair_lt (N := N) (n := n) (p := u) (q := u') (by omega) (by omega)
    have lv := pair_lt (N := N) (n := n) (p := v) (q := v') (by omega) (by omega)
    refine ⟨⟨by show 0 ≤ r.1; omega, by show r.1 < _; omega⟩, ?_, .inr ⟨?_, ?_⟩⟩
    · show 0 ≤ prI n _ _ ∧ prI n _ _ < _
      rw [ht, ht', prI_nat]; omega
    · show 0 ≤ prI n _ _ ∧ prI n _ _ < _
      rw [hu, hu', prI_nat]; omega
    · show 0 ≤ prI n _ _ ∧ prI n _ _ < _
      rw [hv, hv', prI_nat]; omega
theorem bot_set {R Q : List RuleI} {L N n : Nat} (hR : InRu R L N) (hQ : InRu Q L n) (t : Tr3) : ∀ p q, p < N → q < n → (t.set (botR R Q n)).testBit (p * n + q + 1) = ((t.set R).testBit (p + 1) && (t.set Q).testBit (q + 1)) := by
  have step : ∀ (l s1 s2 u1 u2 v1 v2 : Nat), (∀ (r r' : RuleI), r ∈ R → r' ∈ Q → mtB r r' = true → (s1.testBit (plc (prI n r.2.1 r'.2.1)) = (u1.testBit (plc r.2.1) && v1.testBit (plc r'.2.1))) ∧ (s2.testBit (plc (prI n r.2.2.1 r'.2.2.1)) = (u2.testBit (plc r.2.2.1) && v2.testBit (plc r'.2.2.1)))) → (∀ (r r' : RuleI), r ∈ R → r' ∈ Q → hitS l u1 u2 r = true → hitS l v1 v2 r' = true → mtB r r' = true) → ∀ p q, p < N → q < n → (nxA (botR R Q n) l s1 s2).testBit (p * n + q + 1) = ((nxA R l u1 u2).testBit (p + 1) && (nxA Q l v1 v2).testBit (q + 1)) := by
    intro l s1 s2 u1 u2 v1 v2 hs hmt p q hp hq
    rw [nxA_bit, nxA_bit, nxA_bit, Bool.eq_iff_iff, Bool.and_eq_true, List.any_eq_true, List.any_eq_true, List.any_eq_true]
    constructor
    · rintro ⟨s, hsm, hh⟩
      obtain ⟨r, r', h1, h2, h3, rfl⟩ := botR_mem.1 hsm
      obtain ⟨e1, e2⟩ := hs r r' h1 h2 h3
      rw [Bool.and_eq_true, beq_iff_eq] at hh
      have a := hR.mem h1
      have b := hQ.mem h2
      unfold RuIn at a b
      obtain ⟨t, ht⟩ : ∃ t : Nat, r.2.2.2 = t := ⟨r.2.2.2.toNat, by omega⟩
      obtain ⟨t', ht'⟩ : ∃ t : Nat, r'.2.2.2 = t := ⟨r'.2.2.2.toNat, by omega⟩
      have h4 : plc (prI n r.2.2.2 r'.2.2.2) = p * n + q + 1 := hh.2
      rw [ht, ht', prI_nat, plc_nat] at h4
      obtain ⟨rfl, rfl⟩ := pair_inj (n := n) (p := t) (q := t') (p' := p) (q' := q) (by omega) hq (by omega)
      have h5 : hitS l s1 s2 (prR n r r') = true := hh.1
      unfold hitS prR at h5
      simp only [Bool.and_eq_true, beq_iff_eq] at h5
      rw [e1, e2, Bool.and_eq_true, Bool.and_eq_true] at h5
      unfold mtB at h3
      rw [Bool.and_eq_true, beq_iff_eq] at h3
      refine ⟨⟨r, h1, ?_⟩, ⟨r', h2, ?_⟩⟩
      · unfold hitS
        rw [h5.1, h5.2.1.1, h5.2.2.1, ht, plc_nat]
        simp
      · unfold hitS
        rw [← h3.1, h5.1, h5.2.1.2, h5.2.2.2, ht', plc_nat]
        simp
    · rintro ⟨⟨r, h1, h2⟩, ⟨r', h3, h4⟩⟩
      rw [Bool.and_eq_true, beq_iff_eq] at h2 h4
      have hm := hmt r r' h1 h3 h2.1 h4.1
      obtain ⟨e1, e2⟩ := hs r r' h1 h3 hm
      refine ⟨prR n r r', botR_mem.2 ⟨r, r', h1, h3, hm, rfl⟩, ?_⟩
      have a := hR.mem h1
      have b := hQ.mem h3
      unfold RuIn at a b
      have h5 := h2.1
      have h6 := h4.1
      unfold hitS at h5 h6
      simp only [Bool.and_eq_true, beq_iff_eq] at h5 h6
      rw [Bool.and_eq_true, beq_iff_eq]
      refine ⟨?_, ?_⟩
      · unfold hitS prR
        simp only
        rw [e1, e2, h5.1, h5.2.1, h5.2.2, h6.2.1, h6.2.2]
        simp
      · show plc (prI n r.2.2.2 r'.2.2.2) = _
        have t1 : r.2.2.2 = p := plc_inj (by omega) (by omega) (by rw [h2.2, plc_nat])
        have t2 : r'.2.2.2 = q := plc_inj (by omega) (by omega) (by rw [h4.2, plc_nat])
        rw [t1, t2, prI_nat, plc_nat]
  induction t with
  | lf l =>
    refine step l 1 1 1 1 1 1 (fun r r' h1 h2 h3 => ?_) (fun r r' h1 h2 h3 h4 => ?_)
    · have a := hR.mem h1
      have b := hQ.mem h2
      have c := (botR_in hR hQ).mem (botR_mem.2 ⟨r, r', h1, h2, h3, rfl⟩)
      unfold RuIn at a b c
      have c1 : -1 ≤ prI n r.2.1 r'.2.1 := by have := c.2.2; simp only [prR] at this; omega
      have c2 : -1 ≤ prI n r.2.2.1 r'.2.2.1 := by have := c.2.2; simp only [prR] at this; omega
      rw [bit_one c1, bit_one c2, bit_one (by omega), bit_one (by omega), bit_one (by omega), bit_one (by omega)]
      unfold mtB at h3
      rw [Bool.and_eq_true] at h3
      have e3 : (r.2.1 == -1) = (r'.2.1 == -1) := by simpa using h3.2
      by_cases e : r.2.1 = -1
      · have e2 : r'.2.1 = -1 := by rw [e] at e3; simpa using e3.symm
        have e4 : r.2.2.1 = -1 := by omega
        have e5 : r'.2.2.1 = -1 := by omega
        simp [e, e2, e4, e5, prI]
      · have e2 : r'.2.1 ≠ -1 := fun h => by rw [h] at e3; exact e (by simpa using e3)
        obtain ⟨u, hu⟩ : ∃ t : Nat, r.2.1 = t := ⟨r.2.1.toNat, by omega⟩
        obtain ⟨u', hu'⟩ : ∃ t : Nat, r'.2.1 = t := ⟨r'.2.1.toNat, by omega⟩
        obtain ⟨v, hv⟩ : ∃ t : Nat, r.2.2.1 = t := ⟨r.2.2.1.toNat, by omega⟩
        obtain ⟨v', hv'⟩ : ∃ t : Nat, r'.2.2.1 = t := ⟨r'.2.2.1.toNat, by omega⟩
        have z : ∀ k : Nat, (((k : Nat) : Int) == -1) = false := fun k => by rw [beq_eq_false_iff_ne]; omega
        rw [hu, hu', hv, hv', prI_nat, prI_nat, z, z, z, z, z, z]
        exact ⟨rfl, rfl⟩
    · have a := hR.mem h1
      have b := hQ.mem h2
      unfold RuIn at a b
      unfold hitS at h3 h4
      rw [bit_one (by omega), bit_one (by omega)] at h3 h4
      simp only [Bool.and_eq_true, beq_iff_eq] at h3 h4
      unfold mtB
      rw [h3.1, h4.1, h3.2.1, h4.2.1]
      simp
  | nd l ta tb iha ihb =>
    have kid : ∀ (t : Tr3), (∀ p q, p < N → q < n → (t.set (botR R Q n)).testBit (p * n + q + 1) = ((t.set R).testBit (p + 1) && (t.set Q).testBit (q + 1))) → ∀ (a b : Int), -1 ≤ a → a < N → -1 ≤ b → b < n → (a = -1 ↔ b = -1) → (t.set (botR R Q n)).testBit (plc (prI n a b)) = ((t.set R).testBit (plc a) && (t.set Q).testBit (plc b)) := by
      intro t ih a b ha1 ha2 hb1 hb2 hab
      by_cases e : a = -1
      · have e2 := hab.1 e
        subst e e2
        show (t.set (botR R Q n)).testBit (plc (-1)) = _
        rw [plc_none, Tr3.set_zero (botR_in hR hQ), Tr3.set_zero hR]; rfl
      · have e2 : b ≠ -1 := fun h => e (hab.2 h)
        obtain ⟨u, rfl⟩ : ∃ t : Nat, a = t := ⟨a.toNat, by omega⟩
        obtain ⟨v, rfl⟩ : ∃ t : Nat, b = t := ⟨b.toNat, by omega⟩
        rw [prI_nat, plc_nat, plc_nat, plc_nat]
        exact ih u v (by omega) (by omega)
    refine step l _ _ _ _ _ _ (fun r r' h1 h2 h3 => ?_) (fun r r' h1 h2 h3 h4 => ?_)
    · have a := hR.mem h1
      have b := hQ.mem h2
      unfold RuIn at a b
      unfold mtB at h3
      rw [Bool.and_eq_true] at h3
      have e3 : (r.2.1 == -1) = (r'.2.1 == -1) := by simpa using h3.2
      have e4 : r.2.1 = -1 ↔ r'.2.1 = -1 := by
        rw [Bool.eq_iff_iff, beq_iff_eq, beq_iff_eq] at e3
        exact e3
      exact ⟨kid ta iha _ _ (by omega) (by omega) (by omega) (by omega) e4, kid tb ihb _ _ (by omega) (by omega) (by omega) (by omega) (by omega)⟩
    · unfold hitS at h3 h4
      simp only [Bool.and_eq_true, beq_iff_eq] at h3 h4
      have k1 : r.2.1 ≠ -1 := fun e => by
        have := h3.2.1
        rw [e, plc_none, Tr3.set_zero hR] at this
        cases this
      have k2 : r'.2.1 ≠ -1 := fun e => by
        have := h4.2.1
        rw [e, plc_none, Tr3.set_zero hQ] at this
        cases this
      have k3 : (r.2.1 == -1) = false := by simpa using k1
      have k4 : (r'.2.1 == -1) = false := by simpa using k2
      unfold mtB
      rw [h3.1, h4.1, k3, k4]
      simp

end Go.Proofs.Ytppikfgfmlipmaa
