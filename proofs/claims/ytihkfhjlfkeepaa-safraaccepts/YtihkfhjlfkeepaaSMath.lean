/- The least mark that comes again and again, without the program: who goes round a loop as often as there are states is at a state at which the loop begins again and again. -/
import Derived.Test.YtihkfhjlfkeepaaFSpec
namespace Go.Proofs.Ytihkfhjlfkeepaa
set_option linter.unusedVariables false

/-- A step again and again. -/
def itN (f : Nat → Nat) : Nat → Nat → Nat
  | 0, s => s
  | k + 1, s => f (itN f k s)
theorem itN_add (f : Nat → Nat) (a b s : Nat) : itN f (a + b) s = itN f a (itN f b s) := by
  induction a with
  | zero => simp [itN]
  | succ a ih => rw [Nat.succ_add]; simp only [itN]; rw [ih]
theorem itN_first (f : Nat → Nat) (k s : Nat) : itN f k (f s) = itN f (k + 1) s := by
  have := itN_add f k 1 s
  simpa [itN] using this.symm
theorem itN_lt {f : Nat → Nat} {n : Nat} (hf : ∀ s, s < n → f s < n) {s : Nat} (hs : s < n) (k : Nat) : itN f k s < n := by
  induction k with
  | zero => exact hs
  | succ k ih => exact hf _ ih

/-- More numbers than there is room for: two are the same. -/
theorem hole : ∀ (n m : Nat) (g : Nat → Nat), n < m → (∀ i, i < m → g i < n) → ∃ i j, i < j ∧ j < m ∧ g i = g j := by
  intro n
  induction n with
  | zero => intro m g hm hg; exact absurd (hg 0 hm) (by omega)
  | succ n ih =>
    intro m g hm hg
    obtain ⟨m', rfl⟩ : ∃ m', m = m' + 1 := ⟨m - 1, by omega⟩
    by_cases hx : ∃ i, i < m' ∧ g i = g m'
    · obtain ⟨i, hi, he⟩ := hx
      exact ⟨i, m', hi, by omega, he⟩
    · have hne : ∀ i, i < m' → g i ≠ g m' := fun i hi he => hx ⟨i, hi, he⟩
      obtain ⟨i, j, h1, h2, h3⟩ := ih m' (fun i => if g i = n then g m' else g i) (by omega) (fun i hi => by
        have h1 := hg i (by omega)
        have h2 := hg m' (by omega)
        have h3 := hne i hi
        show (if g i = n then g m' else g i) < n
        split
        · next h4 => omega
        · next h4 => omega)
      have h4 := hne i (by omega)
      have h5 := hne j (by omega)
      refine ⟨i, j, h1, by omega, ?_⟩
      split at h3
      · next e1 =>
        split at h3
        · next e2 => omega
        · next e2 => omega
      · next e1 =>
        split at h3
        · next e2 => omega
        · next e2 => omega

/-- Behind n steps among n states one is in a circle. -/
theorem round_of {f : Nat → Nat} {n : Nat} (hf : ∀ s, s < n → f s < n) {s : Nat} (hs : s < n) : ∃ p, 1 ≤ p ∧ p ≤ n ∧ itN f p (itN f n s) = itN f n s := by
  obtain ⟨i, j, h1, h2, h3⟩ := hole n (n + 1) (fun i => itN f i s) (by omega) (fun i _ => itN_lt hf hs i)
  refine ⟨j - i, by omega, by omega, ?_⟩
  have e1 : itN f (j - i) (itN f n s) = itN f (n - i) (itN f j s) := by rw [← itN_add, ← itN_add]; congr 1; omega
  have e2 : itN f n s = itN f (n - i) (itN f i s) := by rw [← itN_add]; congr 1; omega
  rw [e1, e2, h3]

theorem itN_mul {f : Nat → Nat} {s p : Nat} (hp : itN f p s = s) (k : Nat) : itN f (p * k) s = s := by
  induction k with
  | zero => rfl
  | succ k ih => rw [Nat.mul_succ, Nat.add_comm, itN_add, ih, hp]
theorem itN_mod {f : Nat → Nat} {s p : Nat} (hp : itN f p s = s) (k : Nat) : itN f k s = itN f (k % p) s := by
  have h : itN f k s = itN f (k % p + p * (k / p)) s := by rw [Nat.mod_add_div]
  rw [h, itN_add, itN_mul hp]

/-- From everywhere in the circle one comes back within n steps. -/
theorem back_of {f : Nat → Nat} {s p : Nat} (h1 : 1 ≤ p) (hp : itN f p s = s) (k : Nat) : ∃ j, j ≤ p ∧ itN f j (itN f k s) = s := by
  have hlt := Nat.mod_lt k (y := p) (by omega)
  refine ⟨p - k % p, by omega, ?_⟩
  rw [itN_mod hp k, ← itN_add, show p - k % p + k % p = p by omega, hp]

/-- How many steps it is to s. -/
def dist (f : Nat → Nat) (s : Nat) : Nat → Nat → Nat
  | 0, _ => 0
  | k + 1, q => if q = s then 0 else dist f s k (f q) + 1
theorem dist_stable {f : Nat → Nat} {s : Nat} : ∀ (m j q : Nat), j ≤ m → itN f j q = s → dist f s (m + 1) q = dist f s m q := by
  intro m
  induction m with
  | zero =>
    intro j q hj h
    obtain rfl : j = 0 := by omega
    simp only [itN] at h
    simp [dist, h]
  | succ m ih =>
    intro j q hj h
    by_cases hq : q = s
    · simp [dist, hq]
    · obtain ⟨i, rfl⟩ : ∃ i, j = i + 1 := ⟨j - 1, by rcases j with _ | j; (· exact absurd h hq); omega⟩
      rw [← itN_first] at h
      have := ih i (f q) (by omega) h
      show (if q = s then 0 else dist f s (m + 1) (f q) + 1) = (if q = s then 0 else dist f s m (f q) + 1)
      rw [if_neg hq, if_neg hq, this]
theorem dist_less {f : Nat → Nat} {s n j q : Nat} (hj : j ≤ n) (h : itN f j q = s) (hq : q ≠ s) : dist f s n (f q) < dist f s n q := by
  obtain ⟨i, rfl⟩ : ∃ i, j = i + 1 := ⟨j - 1, by rcases j with _ | j; (· exact absurd h hq); omega⟩
  obtain ⟨m, rfl⟩ : ∃ m, n = m + 1 := ⟨n - 1, by omega⟩
  rw [← itN_first] at h
  rw [dist_stable m i (f q) (by omega) h]
  show _ < (if q = s then 0 else dist f s m (f q) + 1)
  rw [if_neg hq]
  omega

/-- The least of some numbers, and of one more. -/
def IsLow (top : Int) (P : Int → Prop) (y : Int) : Prop := ∀ x : Int, x ≤ y ↔ x ≤ top ∧ ∀ m, P m → x ≤ m
theorem IsLow.start {top : Int} {P : Int → Prop} (h : ∀ m, ¬ P m) : IsLow top P top := fun x => ⟨fun hx => ⟨hx, fun m hm => absurd hm (h m)⟩, fun hx => hx.1⟩
theorem IsLow.put {top y m : Int} {P Q : Int → Prop} (h : IsLow top P y) (hQ : ∀ z, Q z ↔ P z ∨ z = m) : IsLow top Q (if m < y then m else y) := by
  intro x
  have hx := h x
  constructor
  · intro hz
    have hxy : x ≤ y := by split at hz <;> omega
    have hxm : x ≤ m := by split at hz <;> omega
    refine ⟨(hx.1 hxy).1, fun z hz' => ?_⟩
    rcases (hQ z).1 hz' with h1 | rfl
    · exact (hx.1 hxy).2 z h1
    · exact hxm
  · rintro ⟨h1, h2⟩
    have hxy : x ≤ y := hx.2 ⟨h1, fun z hz => h2 z ((hQ z).2 (.inl hz))⟩
    have hxm : x ≤ m := h2 m ((hQ m).2 (.inr rfl))
    split <;> omega
/-- The least of some numbers, and the least of others: the least of both. -/
theorem IsLow.join {top y z : Int} {P Q R : Int → Prop} (h : IsLow top P y) (k : IsLow top Q z) (hR : ∀ m, R m ↔ P m ∨ Q m) : IsLow top R (if z < y then z else y) := by
  intro x
  have hx := h x
  have kx := k x
  constructor
  · intro hz
    have hxy : x ≤ y := by split at hz <;> omega
    have hxz : x ≤ z := by split at hz <;> omega
    refine ⟨(hx.1 hxy).1, fun m hm => ?_⟩
    rcases (hR m).1 hm with h1 | h1
    · exact (hx.1 hxy).2 m h1
    · exact (kx.1 hxz).2 m h1
  · rintro ⟨h1, h2⟩
    have hxy : x ≤ y := hx.2 ⟨h1, fun m hm => h2 m ((hR m).2 (.inl hm))⟩
    have hxz : x ≤ z := kx.2 ⟨h1, fun m hm => h2 m ((hR m).2 (.inr hm))⟩
    split <;> omega
theorem IsLow.congr {top y : Int} {P Q : Int → Prop} (h : IsLow top P y) (hQ : ∀ z, Q z ↔ P z) : IsLow top Q y := fun x => by
  rw [h x]
  exact ⟨fun ⟨h1, h2⟩ => ⟨h1, fun m hm => h2 m ((hQ m).1 hm)⟩, fun ⟨h1, h2⟩ => ⟨h1, fun m hm => h2 m ((hQ m).2 hm)⟩⟩
theorem IsLow.eq {top top' y y' m : Int} {P : Int → Prop} (h : IsLow top P y) (h' : IsLow top' P y') (hm : P m) (h1 : m ≤ top) (h2 : m ≤ top') : y = y' := by
  have a1 := (h y).1 (Int.le_refl _)
  have a2 := (h' y').1 (Int.le_refl _)
  have b1 := (h y').2 ⟨by have := a2.2 m hm; omega, a2.2⟩
  have b2 := (h' y).2 ⟨by have := a1.2 m hm; omega, a1.2⟩
  omega

def Dfa.mAt (d : Dfa) (q : Nat) : Int := d.M.getD q 0
/-- The marks that a word comes to by its first letters. -/
def SeenK (d : Dfa) (s : Nat) (z : List Int) (K : Nat) (m : Int) : Prop := ∃ k, k < K ∧ m = d.mAt (d.go s (z.take (k + 1)))
def Seen (d : Dfa) (s : Nat) (z : List Int) : Int → Prop := SeenK d s z z.length
/-- The marks that a word comes to when it is gone through so often, and again up to a letter. -/
def SeenR (d : Dfa) (s : Nat) (z : List Int) (K k : Nat) (m : Int) : Prop := (∃ i, i < K ∧ Seen d (itN (fun q => d.go q z) i s) z m) ∨ SeenK d (itN (fun q => d.go q z) K s) z k m
theorem seenK_succ (d : Dfa) (s : Nat) (z : List Int) (K : Nat) (m : Int) : SeenK d s z (K + 1) m ↔ SeenK d s z K m ∨ m = d.mAt (d.go s (z.take (K + 1))) := by
  constructor
  · rintro ⟨k, hk, rfl⟩
    by_cases e : k = K
    · subst e; exact .inr rfl
    · exact .inl ⟨k, by omega, rfl⟩
  · rintro (⟨k, hk, rfl⟩ | rfl)
    · exact ⟨k, by omega, rfl⟩
    · exact ⟨K, by omega, rfl⟩
theorem seenR_succ (d : Dfa) (s : Nat) (z : List Int) (K k : Nat) (m : Int) : SeenR d s z K (k + 1) m ↔ SeenR d s z K k m ∨ m = d.mAt (d.go (itN (fun q => d.go q z) K s) (z.take (k + 1))) := by
  unfold SeenR
  rw [seenK_succ, or_assoc]
theorem seenR_round (d : Dfa) (s : Nat) (z : List Int) (K : Nat) (m : Int) : SeenR d s z (K + 1) 0 m ↔ SeenR d s z K z.length m := by
  unfold SeenR
  constructor
  · rintro (⟨i, hi, h⟩ | ⟨k, hk, _⟩)
    · by_cases e : i = K
      · subst e; exact .inr h
      · exact .inl ⟨i, by omega, h⟩
    · omega
  · rintro (⟨i, hi, h⟩ | h)
    · exact .inl ⟨i, by omega, h⟩
    · exact .inl ⟨K, by omega, h⟩
theorem seenR_join (d : Dfa) (s : Nat) (z : List Int) (K : Nat) (m : Int) : SeenR d s z (K + 1) 0 m ↔ SeenR d s z K 0 m ∨ Seen d (itN (fun q => d.go q z) K s) z m := by
  rw [seenR_round]
  unfold SeenR
  constructor
  · rintro (h | h)
    · exact .inl (.inl h)
    · exact .inr h
  · rintro ((h | ⟨k, hk, _⟩) | h)
    · exact .inl h
    · omega
    · exact .inr h
theorem seenR_none (d : Dfa) (s : Nat) (z : List Int) (m : Int) : ¬ SeenR d s z 0 0 m := by
  rintro (⟨i, hi, _⟩ | ⟨k, hk, _⟩) <;> omega

/-- Who goes round as often as a circle is long has seen all. -/
theorem seenR_all {d : Dfa} {s K p : Nat} {z : List Int} (hK : 1 ≤ p) (hp : itN (fun q => d.go q z) p s = s) (hpK : p ≤ K) (m : Int) : SeenR d s z K 0 m ↔ ∃ i, Seen d (itN (fun q => d.go q z) i s) z m := by
  constructor
  · rintro (⟨i, _, h⟩ | ⟨k, hk, _⟩)
    · exact ⟨i, h⟩
    · omega
  · rintro ⟨i, h⟩
    refine .inl ⟨i % p, ?_, ?_⟩
    · have := Nat.mod_lt i (y := p) (by omega); omega
    · rw [← itN_mod hp]; exact h

/-- The least mark that comes again and again: what both of them come to is one. -/
theorem lows_eq {N : Nat} {d : Dfa} (hG : GoodN N 9 d) {s p q K : Nat} {z : List Int} (hs : s < d.R.length) (hz : ∀ x ∈ z, 0 ≤ x ∧ x < d.L) (hl : z.length ≠ 0) (hp1 : 1 ≤ p) (hp : itN (fun q => d.go q z) p s = s) (hpK : p ≤ K) (hq1 : 1 ≤ q) (hq : itN (fun q => d.go q z) q s = s) {y y' : Int}
    (h : IsLow 9 (SeenR d s z q 0) y) (h' : IsLow 10 (SeenR d s z K 0) y') : y = y' := by
  have e1 := fun m => seenR_all (d := d) (z := z) hq1 hq (Nat.le_refl _) m
  have e2 := fun m => seenR_all (d := d) (z := z) hp1 hp hpK m
  have k1 := h.congr (Q := fun m => ∃ i, Seen d (itN (fun q => d.go q z) i s) z m) (fun m => (e1 m).symm)
  have k2 := h'.congr (Q := fun m => ∃ i, Seen d (itN (fun q => d.go q z) i s) z m) (fun m => (e2 m).symm)
  have hgo : d.go s (z.take 1) < d.R.length := hG.go_lt hs _ (fun x hx => hz x (List.mem_of_mem_take hx))
  have hm := hG.m (d.go s (z.take 1)) (by rw [hG.ml]; exact hgo)
  refine k1.eq k2 (m := d.mAt (d.go s (z.take 1))) ⟨0, 0, by omega, rfl⟩ ?_ ?_
  · exact hm.2
  · have := hm.2; unfold Dfa.mAt; omega

end Go.Proofs.Ytihkfhjlfkeepaa
