/- Automata that know their way, with other limits: how many states there may be, up to which number the marks go. -/
import Derived.Test.YtjinibofbpgfjaaDoorDSpec
namespace Go.Proofs.YtjinibofbpgfjaaDoor
set_option linter.unusedVariables false

/-- It may be one. -/
structure GoodN (N K : Nat) (d : Dfa) : Prop where
  l1 : 1 ≤ d.L
  l4 : d.L ≤ 4
  n1 : 1 ≤ d.R.length
  n3 : d.R.length ≤ N
  ml : d.M.length = d.R.length
  rl : ∀ i, i < d.R.length → ((d.R.getD i []).length : Int) = d.L
  r : ∀ i, i < d.R.length → ∀ k, k < (d.R.getD i []).length → 0 ≤ (d.R.getD i []).getD k 0 ∧ (d.R.getD i []).getD k 0 < d.R.length
  s : 0 ≤ d.S ∧ d.S < d.R.length
  m : ∀ i, i < d.M.length → 0 ≤ d.M.getD i 0 ∧ d.M.getD i 0 ≤ K

def goodNB (N K : Nat) (d : Dfa) : Bool :=
  decide (1 ≤ d.L) && decide (d.L ≤ 4) && decide (1 ≤ d.R.length) && decide (d.R.length ≤ N) && shapeB d &&
  ((List.range d.R.length).all fun i => (List.range (d.R.getD i []).length).all fun k => decide (0 ≤ (d.R.getD i []).getD k 0) && decide ((d.R.getD i []).getD k 0 < d.R.length)) &&
  decide (0 ≤ d.S) && decide (d.S < d.R.length) && (List.range d.M.length).all fun i => decide (0 ≤ d.M.getD i 0) && decide (d.M.getD i 0 ≤ K)
theorem goodNB_iff (N K : Nat) (d : Dfa) : goodNB N K d = true ↔ GoodN N K d := by
  have hs := shapeB_iff d
  simp only [goodNB, Bool.and_eq_true, decide_eq_true_eq, List.all_eq_true, List.mem_range, hs]
  constructor
  · rintro ⟨⟨⟨⟨⟨⟨⟨⟨h1, h2⟩, h3⟩, h4⟩, h5, h6⟩, h7⟩, h8⟩, h9⟩, h10⟩
    exact ⟨h1, h2, h3, h4, h5, h6, h7, ⟨h8, h9⟩, h10⟩
  · rintro ⟨h1, h2, h3, h4, h5, h6, h7, ⟨h8, h9⟩, h10⟩
    exact ⟨⟨⟨⟨⟨⟨⟨⟨h1, h2⟩, h3⟩, h4⟩, h5, h6⟩, h7⟩, h8⟩, h9⟩, h10⟩

/-- What is wrong with one. -/
def checkN (N K : Nat) (d : Dfa) : Int :=
  if d.L < 1 ∨ 4 < d.L then 2
  else if d.R.length < 1 ∨ N < d.R.length then 1
  else if shapeB d = false then 3
  else if goodNB N K d = true then 0 else 2

theorem checkN_good {N K : Nat} {d : Dfa} (h : GoodN N K d) : checkN N K d = 0 := by
  have h1 := h.l1; have h2 := h.l4; have h3 := h.n1; have h4 := h.n3
  unfold checkN
  rw [if_neg (by omega), if_neg (by omega), if_neg (by rw [(shapeB_iff d).2 ⟨h.ml, h.rl⟩]; simp), if_pos ((goodNB_iff N K d).2 h)]

theorem goodN_of_check {N K : Nat} {d : Dfa} (h : checkN N K d = 0) : GoodN N K d := by
  unfold checkN at h
  split at h
  · cases h
  · split at h
    · cases h
    · split at h
      · cases h
      · split at h
        · next h1 => exact (goodNB_iff N K d).1 h1
        · cases h

theorem checkN_range {N K : Nat} {d : Dfa} (h : d.L < 1 ∨ 4 < d.L) : checkN N K d = 2 := by unfold checkN; rw [if_pos h]
theorem checkN_size {N K : Nat} {d : Dfa} (h : ¬ (d.L < 1 ∨ 4 < d.L)) (h2 : d.R.length < 1 ∨ N < d.R.length) : checkN N K d = 1 := by unfold checkN; rw [if_neg h, if_pos h2]
theorem checkN_shape {N K : Nat} {d : Dfa} (h : ¬ (d.L < 1 ∨ 4 < d.L)) (h2 : ¬ (d.R.length < 1 ∨ N < d.R.length)) (h3 : ¬ (d.M.length = d.R.length ∧ ∀ i, i < d.R.length → ((d.R.getD i []).length : Int) = d.L)) : checkN N K d = 3 := by
  unfold checkN
  rw [if_neg h, if_neg h2, if_pos]
  cases hb : shapeB d with
  | false => rfl
  | true => exact absurd ((shapeB_iff d).1 hb) h3
theorem checkN_in {N K : Nat} {d : Dfa} (h : ¬ (d.L < 1 ∨ 4 < d.L)) (h2 : ¬ (d.R.length < 1 ∨ N < d.R.length)) (h3 : d.M.length = d.R.length ∧ ∀ i, i < d.R.length → ((d.R.getD i []).length : Int) = d.L) (h4 : ¬ GoodN N K d) : checkN N K d = 2 := by
  unfold checkN
  rw [if_neg h, if_neg h2, if_neg (by rw [(shapeB_iff d).2 h3]; simp), if_neg (fun hb => h4 ((goodNB_iff N K d).1 hb))]

theorem GoodN.row {N K : Nat} {d : Dfa} (h : GoodN N K d) {s : Nat} (hs : s < d.R.length) : (d.R.getD s []).length = d.L.toNat := by have := h.rl s hs; have := h.l1; omega
theorem GoodN.nx_lt {N K : Nat} {d : Dfa} (h : GoodN N K d) {s a : Nat} (hs : s < d.R.length) (ha : a < d.L.toNat) : d.nx s a < d.R.length := by
  have := h.r s hs a (by rw [h.row hs]; exact ha); unfold Dfa.nx; omega
theorem GoodN.nx_eq {N K : Nat} {d : Dfa} (h : GoodN N K d) {s a : Nat} (hs : s < d.R.length) (ha : a < d.L.toNat) : (d.R.getD s []).getD a 0 = (d.nx s a : Int) := by
  have := h.r s hs a (by rw [h.row hs]; exact ha); unfold Dfa.nx; omega
theorem GoodN.go_lt {N K : Nat} {d : Dfa} (h : GoodN N K d) {s : Nat} (hs : s < d.R.length) (z : List Int) (hz : ∀ x ∈ z, 0 ≤ x ∧ x < d.L) : d.go s z < d.R.length := by
  unfold Dfa.go
  induction z generalizing s with
  | nil => exact hs
  | cons x z ih =>
    have hx := hz x (by simp)
    exact ih (h.nx_lt hs (by omega)) (fun y hy => hz y (by simp [hy]))


end Go.Proofs.YtjinibofbpgfjaaDoor
