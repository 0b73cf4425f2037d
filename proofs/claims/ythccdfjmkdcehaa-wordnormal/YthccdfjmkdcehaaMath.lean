/- Infinite words told by lassos: periods, the shortest lasso, when two lassos tell one word. -/
import Derived.Test.YthccdfjmkdcehaaPiece
import Derived.Test.YthccdfjmkdcehaaRepeats
namespace Go.Proofs.Ythccdfjmkdcehaa
set_option linter.unusedVariables false

/-- From the place s on f goes round by p. -/
def Round (f : Nat → Int) (s p : Nat) : Prop := ∀ m, s ≤ m → f (m + p) = f m

theorem Round.mul {f : Nat → Int} {s p : Nat} (h : Round f s p) (k : Nat) : Round f s (p * k) := by
  induction k with
  | zero => intro m hm; simp
  | succ k ih =>
    intro m hm
    rw [show m + p * (k + 1) = (m + p * k) + p by rw [Nat.mul_succ]; omega, h _ (by omega), ih m hm]

theorem Round.mod {f : Nat → Int} {s p : Nat} (h : Round f s p) (j : Nat) : f (s + j) = f (s + j % p) := by
  have := h.mul (j / p) (s + j % p) (by omega)
  rw [← this]
  congr 1
  have := Nat.mod_add_div j p
  omega

/-- Two periods from s on: their remainder is one, too. -/
theorem Round.rem {f : Nat → Int} {s p q : Nat} (hp : Round f s p) (hq : Round f s q) : Round f s (q % p) := by
  intro m hm
  have h1 := hq m hm
  have h2 := hp.mul (q / p) (m + q % p) (by omega)
  rw [← h2]
  have := Nat.mod_add_div q p
  rw [show m + q % p + p * (q / p) = m + q by omega]
  exact h1

theorem Round.gcd {f : Nat → Int} {s : Nat} : ∀ (p q : Nat), Round f s p → Round f s q → Round f s (Nat.gcd p q) := by
  intro p
  induction p using Nat.strongRecOn with
  | ind p ih =>
    intro q hp hq
    by_cases h0 : p = 0
    · subst h0; rw [Nat.gcd_zero_left]; exact hq
    · rw [Nat.gcd_rec]
      exact ih (q % p) (Nat.mod_lt _ (by omega)) p (hp.rem hq) hp

/-- A word that goes round by p from s on and by q from some place on goes round by q from s on, too. -/
theorem Round.early {f : Nat → Int} {s t p q : Nat} (h0 : 0 < p) (hp : Round f s p) (hq : Round f t q) : Round f s q := by
  intro m hm
  have h1 := hp.mul t m hm
  have h2 := hp.mul t (m + q) (by omega)
  have h3 : t ≤ p * t := Nat.le_mul_of_pos_left _ h0
  rw [← h1, ← h2, show m + q + p * t = m + p * t + q by omega]
  exact hq _ (by omega)

/-- Two words that go round from s on by p and by q and are one for p + q letters more are one for ever. -/
theorem same_of {f g : Nat → Int} {s p q : Nat} (h0 : 0 < p) (hp : Round f s p) (hq : Round g s q) (h1 : 0 < q) (h : ∀ m, m < s + p + q → f m = g m) : ∀ m, f m = g m := by
  -- both go round by both for ever
  intro m
  induction m using Nat.strongRecOn with
  | ind m ih =>
    by_cases hm : m < s + p + q
    · exact h m hm
    · -- f m = f (m - p) = g (m - p) = g (m - p - q) = f (m - p - q) = f (m - q) = g (m - q) = g m
      have a1 : f (m - p) = f m := by have := hp (m - p) (by omega); rw [show m - p + p = m by omega] at this; exact this.symm
      have a2 := ih (m - p) (by omega)
      have a3 : g (m - p - q) = g (m - p) := by have := hq (m - p - q) (by omega); rw [show m - p - q + q = m - p by omega] at this; exact this.symm
      have a4 := ih (m - p - q) (by omega)
      have a5 : f (m - p - q) = f (m - q) := by have := hp (m - p - q) (by omega); rw [show m - p - q + p = m - q by omega] at this; exact this.symm
      have a6 := ih (m - q) (by omega)
      have a7 : g (m - q) = g m := by have := hq (m - q) (by omega); rw [show m - q + q = m by omega] at this; exact this.symm
      rw [← a1, a2, ← a3, ← a4, a5, a6, a7]

theorem letF_round (h l : List Int) : Round (letF h l) h.length l.length := by
  intro m hm
  unfold letF
  rw [if_neg (by omega), if_neg (by omega)]
  congr 1
  rw [show m + l.length - h.length = (m - h.length) + l.length by omega, Nat.add_mod_right]

theorem letF_loop (h l : List Int) {j : Nat} (hj : j < l.length) : letF h l (h.length + j) = l.getD j 0 := by
  unfold letF
  rw [if_neg (by omega), show h.length + j - h.length = j by omega, Nat.mod_eq_of_lt hj]

theorem letF_head (h l : List Int) {j : Nat} (hj : j < h.length) : letF h l j = h.getD j 0 := by
  unfold letF; rw [if_pos hj]

/-- hasP, with a divisor of the length: the word goes round by p from the head's end on. -/
theorem round_of_hasP {h l : List Int} {p : Nat} (hp : 1 ≤ p) (hd : l.length % p = 0) (h0 : 0 < l.length) (hh : hasP l p = true) : Round (letF h l) h.length p := by
  have hall : ∀ k, k + p < l.length → l.getD k 0 = l.getD (k + p) 0 := by
    intro k hk
    have := List.all_eq_true.1 hh k (List.mem_range.2 (by omega))
    simpa using this
  have hle : p ≤ l.length := Nat.le_of_dvd h0 (Nat.dvd_of_mod_eq_zero hd)
  -- each letter of the loop is the letter at its remainder
  have key : ∀ j, j < l.length → l.getD j 0 = l.getD (j % p) 0 := by
    intro j
    induction j using Nat.strongRecOn with
    | ind j ih =>
      intro hj
      by_cases hjp : j < p
      · rw [Nat.mod_eq_of_lt hjp]
      · have h1 := hall (j - p) (by omega)
        rw [show j - p + p = j by omega] at h1
        rw [← h1, ih (j - p) (by omega) (by omega)]
        congr 1
        rw [Nat.mod_eq_sub_mod (by omega : p ≤ j)]
  have full : ∀ i, letF h l (h.length + i) = l.getD (i % p) 0 := by
    intro i
    have e1 : letF h l (h.length + i) = l.getD (i % l.length) 0 := by
      unfold letF; rw [if_neg (by omega), show h.length + i - h.length = i by omega]
    rw [e1, key _ (Nat.mod_lt _ h0), Nat.mod_mod_of_dvd _ (Nat.dvd_of_mod_eq_zero hd)]
  intro m hm
  obtain ⟨i, rfl⟩ : ∃ i, m = h.length + i := ⟨m - h.length, by omega⟩
  rw [show h.length + i + p = h.length + (i + p) by omega, full, full, Nat.add_mod_right]

theorem hasP_of_round {h l : List Int} {p : Nat} (hr : Round (letF h l) h.length p) : hasP l p = true := by
  refine hasP_yes fun k hk => ?_
  have := hr (h.length + k) (by omega)
  rw [letF_loop h l (by omega : k < l.length), show h.length + k + p = h.length + (k + p) by omega, letF_loop h l hk] at this
  exact this.symm

/-- What is wanted of the shortest lasso: the word goes round by p from n on; no place ahead of n does for any period; and no less period does from any place on. -/
structure Shortest (f : Nat → Int) (n p : Nat) : Prop where
  pos : 1 ≤ p
  round : Round f n p
  least : ∀ s q, 1 ≤ q → Round f s q → n ≤ s ∧ p ≤ q

theorem Shortest.unique {f : Nat → Int} {n p n' p' : Nat} (h : Shortest f n p) (h' : Shortest f n' p') : n = n' ∧ p = p' := by
  have a := h.least n' p' h'.pos h'.round
  have b := h'.least n p h.pos h.round
  omega

theorem shortest_of {h l : List Int} {p n : Nat} (h0 : 0 < l.length) (hp : Per l p) (hr : Rep h l p n) : Shortest (letF h l) n p := by
  have r1 : Round (letF h l) h.length p := round_of_hasP hp.pos hp.dvd h0 hp.per
  have r2 : Round (letF h l) n p := by
    intro m hm
    by_cases hml : m < h.length
    · exact (hr.rep m hm hml).symm
    · exact r1 m (by omega)
  refine ⟨hp.pos, r2, fun s q hq hs => ⟨?_, ?_⟩⟩
  · rcases hr.first with h1 | h1
    · omega
    · refine Nat.le_of_not_lt fun hlt => h1 ?_
      have r3 : Round (letF h l) s p := Round.early (by omega) hs r2
      exact (r3 (n - 1) (by omega)).symm
  · have r3 : Round (letF h l) h.length q := Round.early (by have := hp.pos; omega) r1 hs
    have r4 := Round.gcd q l.length r3 (letF_round h l)
    have hd : 0 < Nat.gcd q l.length := Nat.gcd_pos_of_pos_right _ h0
    have hle : Nat.gcd q l.length ≤ q := Nat.gcd_le_left _ (by omega)
    refine Nat.le_trans (Nat.le_of_not_lt fun hlt => ?_) hle
    exact hp.least _ hd hlt ⟨Nat.mod_eq_zero_of_dvd (Nat.gcd_dvd_right _ _), hasP_of_round r4⟩

theorem Round.from {f : Nat → Int} {s t p : Nat} (h : Round f s p) (hst : s ≤ t) : Round f t p := fun m hm => h m (by omega)

/-- Do two lassos tell one word? (As far as the heads and the loops go together.) -/
def sameF (h l h' l' : List Int) : Bool := (List.range (h.length + h'.length + l.length + l'.length)).all fun m => decide (letF h l m = letF h' l' m)

theorem sameF_iff {h l h' l' : List Int} (h0 : 0 < l.length) (h0' : 0 < l'.length) : sameF h l h' l' = true ↔ ∀ m, letF h l m = letF h' l' m := by
  constructor
  · intro hs
    have hs' : ∀ m, m < h.length + h'.length + l.length + l'.length → letF h l m = letF h' l' m := fun m hm => by
      have := List.all_eq_true.1 hs m (List.mem_range.2 hm)
      simpa using this
    exact same_of h0 ((letF_round h l).from (by omega : h.length ≤ h.length + h'.length)) ((letF_round h' l').from (by omega : h'.length ≤ h.length + h'.length)) h0' hs'
  · intro ha
    refine List.all_eq_true.2 fun m _ => ?_
    simp [ha m]

theorem pieceF_ext {h l h' l' : List Int} {f n f' n' : Nat} (e : pieceF h l f n = pieceF h' l' f' n') : n = n' ∧ ∀ i, i < n → letF h l (f + i) = letF h' l' (f' + i) := by
  have hn : n = n' := by have := congrArg List.length e; simpa [length_pieceF] using this
  subst hn
  refine ⟨rfl, fun i hi => ?_⟩
  rw [← getD_pieceF h l f n i hi, ← getD_pieceF h' l' f' n i hi, e]

theorem pieceF_congr {h l h' l' : List Int} {f n f' n' : Nat} (hn : n = n') (e : ∀ i, i < n → letF h l (f + i) = letF h' l' (f' + i)) : pieceF h l f n = pieceF h' l' f' n' := by
  subst hn
  refine List.map_congr_left fun i hi => e i (List.mem_range.1 hi)

theorem pieces_iff {h l h' l' : List Int} {p n p' n' : Nat} (s : Shortest (letF h l) n p) (s' : Shortest (letF h' l') n' p') :
    (pieceF h l 0 n = pieceF h' l' 0 n' ∧ pieceF h l n p = pieceF h' l' n' p') ↔ ∀ m, letF h l m = letF h' l' m := by
  constructor
  · rintro ⟨e1, e2⟩
    obtain ⟨rfl, a1⟩ := pieceF_ext e1
    obtain ⟨rfl, a2⟩ := pieceF_ext e2
    intro m
    by_cases hm : m < n
    · have := a1 m hm; simpa using this
    · obtain ⟨j, rfl⟩ : ∃ j, m = n + j := ⟨m - n, by omega⟩
      rw [s.round.mod, s'.round.mod]
      exact a2 _ (Nat.mod_lt _ s.pos)
  · intro ha
    have hf : letF h l = letF h' l' := funext ha
    rw [hf] at s
    obtain ⟨rfl, rfl⟩ := s.unique s'
    exact ⟨pieceF_congr rfl fun i _ => by rw [hf], pieceF_congr rfl fun i _ => by rw [hf]⟩

end Go.Proofs.Ythccdfjmkdcehaa
