/- Places of an automaton along a lasso: that one with a final state is come to, and to itself again, just if the lasso is accepted. (Nothing of the program.) -/
import Derived.Test.YtfjpdeoldcfhdaaUNdfs
import Derived.Test.YtfjpdeoldcfhdaaUSome
namespace Go.Proofs.Ytfjpdeoldcfhdaa
set_option linter.unusedVariables false

def nextAt (len turn at_ : Nat) : Nat := if at_ + 1 = len then turn else at_ + 1
def posN (len turn : Nat) : Nat → Nat → Nat
  | 0, a => a
  | k + 1, a => posN len turn k (nextAt len turn a)
def lettN (w : List Nat) (turn : Nat) : Nat → Nat → List Nat
  | 0, _ => []
  | k + 1, a => w.getD a 0 :: lettN w turn k (nextAt w.length turn a)
section
variable {len turn : Nat} {w : List Nat}
theorem posN_add (j k a : Nat) : posN len turn (j + k) a = posN len turn k (posN len turn j a) := by
  induction j generalizing a with
  | zero => rw [Nat.zero_add]; rfl
  | succ j ih => rw [Nat.succ_add]; exact ih _
theorem lettN_add (j k a : Nat) : lettN w turn (j + k) a = lettN w turn j a ++ lettN w turn k (posN w.length turn j a) := by
  induction j generalizing a with
  | zero => rw [Nat.zero_add]; rfl
  | succ j ih => rw [Nat.succ_add]; show _ :: _ = _; rw [ih]; rfl
theorem lettN_len (k a : Nat) : (lettN w turn k a).length = k := by
  induction k generalizing a with
  | zero => rfl
  | succ k ih => show (_ :: _).length = _; rw [List.length_cons, ih]
theorem posN_small {k a : Nat} (h : a + k < len) : posN len turn k a = a + k := by
  induction k generalizing a with
  | zero => rfl
  | succ k ih =>
    show posN len turn k (nextAt len turn a) = _
    unfold nextAt
    rw [if_neg (by omega), ih (by omega)]
    omega
theorem posN_round {a : Nat} (h : a < len) : posN len turn (len - a) a = turn := by
  obtain ⟨r, hr⟩ : ∃ r, len - a = r + 1 := ⟨len - a - 1, by omega⟩
  rw [hr, posN_add, posN_small (k := r) (a := a) (by omega)]
  show nextAt len turn (a + r) = turn
  unfold nextAt
  rw [if_pos (by omega)]
theorem posN_lt (ht : turn < len) {k a : Nat} (h : a < len) : posN len turn k a < len := by
  induction k generalizing a with
  | zero => exact h
  | succ k ih =>
    refine ih ?_
    unfold nextAt
    split <;> omega
theorem lettN_take {k a : Nat} (h : a + k ≤ w.length) : lettN w turn k a = (w.drop a).take k := by
  induction k generalizing a with
  | zero => simp [lettN]
  | succ k ih =>
    have ha : a < w.length := by omega
    rw [List.drop_eq_getElem_cons ha, List.take_succ_cons]
    show w.getD a 0 :: lettN w turn k (nextAt w.length turn a) = _
    rw [List.getD, List.getElem?_eq_getElem ha, Option.getD_some]
    congr 1
    unfold nextAt
    by_cases e : a + 1 = w.length
    · have : k = 0 := by omega
      subst this; simp [lettN]
    · rw [if_neg e, ih (by omega)]
end
section
variable {h lp : List Nat}
theorem loop_pos (hl : 1 ≤ lp.length) (i : Nat) : posN (h ++ lp).length h.length (i * lp.length) h.length = h.length := by
  induction i with
  | zero => rw [Nat.zero_mul]; rfl
  | succ i ih =>
    rw [Nat.succ_mul, posN_add, ih]
    have := posN_round (len := (h ++ lp).length) (turn := h.length) (a := h.length) (by rw [List.length_append]; omega)
    rwa [List.length_append, Nat.add_sub_cancel_left, ← List.length_append] at this
theorem loop_lett (hl : 1 ≤ lp.length) (i : Nat) : lettN (h ++ lp) h.length (i * lp.length) h.length = pw lp i := by
  induction i with
  | zero => rw [Nat.zero_mul]; rfl
  | succ i ih =>
    rw [Nat.succ_mul, lettN_add, ih, loop_pos hl, lettN_take (by rw [List.length_append]; omega)]
    show _ = pw lp i ++ lp
    rw [List.drop_left, List.take_length]
theorem loop_div (hl : 1 ≤ lp.length) {c : Nat} (hc : posN (h ++ lp).length h.length c h.length = h.length) : ∃ i, c = i * lp.length := by
  refine ⟨c / lp.length, ?_⟩
  have e : c = c / lp.length * lp.length + c % lp.length := by rw [Nat.mul_comm]; exact (Nat.div_add_mod _ _).symm
  have hm := Nat.mod_lt c (show 0 < lp.length by omega)
  rw [e, posN_add, loop_pos hl, posN_small (by rw [List.length_append]; omega)] at hc
  omega
theorem head_pos (hl : 1 ≤ lp.length) (x : Nat) : posN (h ++ lp).length h.length (h.length + x) 0 = posN (h ++ lp).length h.length x h.length := by
  rw [posN_add, posN_small (k := h.length) (a := 0) (by rw [List.length_append]; omega), Nat.zero_add]
theorem head_lett (hl : 1 ≤ lp.length) (x : Nat) : lettN (h ++ lp) h.length (h.length + x) 0 = h ++ lettN (h ++ lp) h.length x h.length := by
  rw [lettN_add, posN_small (by rw [List.length_append]; omega), Nat.zero_add, lettN_take (by rw [List.length_append]; omega), List.drop_zero, List.take_left]
end
theorem good_split {T : List StepI} {fs : Nat} {z : List Nat} {p q : Nat} (h : goodP T fs z p q) : ∃ u v f, z = u ++ v ∧ v ≠ [] ∧ fs.testBit f = true ∧ plainP T u p f ∧ plainP T v f q := by
  induction z generalizing p with
  | nil => exact h.elim
  | cons a z ih =>
    obtain ⟨r, h1, h2 | h2⟩ := h
    · exact ⟨[], a :: z, p, rfl, by simp, h2.1, rfl, r, h1, h2.2⟩
    · obtain ⟨u, v, f, e, h3, h4, h5, h6⟩ := ih h2
      exact ⟨a :: u, v, f, by rw [e]; rfl, h3, h4, ⟨r, h1, h5⟩, h6⟩
theorem good_begin {T : List StepI} {fs : Nat} {z : List Nat} {p q : Nat} (hz : z ≠ []) (hf : fs.testBit p = true) (h : plainP T z p q) : goodP T fs z p q := by
  match z, hz, h with
  | a :: z, _, ⟨r, h1, h2⟩ => exact ⟨r, h1, .inl ⟨hf, h2⟩⟩

/-- The places that follow a place. -/
def nxP (T : List StepI) (w : List Nat) (n turn : Nat) (v : Nat) : List Nat := (T.filter fun t => decide (t.1.toNat = v % n) && decide (t.2.1.toNat = w.getD (v / n) 0)).map fun t => nextAt w.length turn (v / n) * n + t.2.2.toNat
section
variable {T : List StepI} {n turn : Nat} {w : List Nat}
theorem nxP_mem {a p x : Nat} (hp : p < n) : x ∈ nxP T w n turn (a * n + p) ↔ ∃ q, stepR T p (w.getD a 0) q ∧ x = nextAt w.length turn a * n + q := by
  have e1 : (a * n + p) % n = p := by rw [Nat.mul_comm, Nat.mul_add_mod, Nat.mod_eq_of_lt hp]
  have e2 : (a * n + p) / n = a := by rw [Nat.mul_comm, Nat.mul_add_div (by omega), Nat.div_eq_of_lt hp, Nat.add_zero]
  unfold nxP stepR
  rw [e1, e2]
  constructor
  · intro hx
    obtain ⟨t, h1, h2⟩ := List.mem_map.1 hx
    obtain ⟨h3, h4⟩ := List.mem_filter.1 h1
    simp only [Bool.and_eq_true, decide_eq_true_eq] at h4
    exact ⟨_, ⟨t, h3, h4.1, h4.2, rfl⟩, h2.symm⟩
  · rintro ⟨q, ⟨t, h1, h2, h3, h4⟩, h5⟩
    exact List.mem_map.2 ⟨t, List.mem_filter.2 ⟨h1, by simp [h2, h3]⟩, by rw [h5, h4]⟩
theorem go_place (hT : ∀ p a q, stepR T p a q → q < n) {k a p x : Nat} (hp : p < n) : goN (nxP T w n turn) k (a * n + p) x ↔ ∃ q, q < n ∧ plainP T (lettN w turn k a) p q ∧ x = posN w.length turn k a * n + q := by
  induction k generalizing a p with
  | zero =>
    constructor
    · intro h; exact ⟨p, hp, rfl, h.symm⟩
    · rintro ⟨q, _, h1, h2⟩
      have e : p = q := h1
      subst e; exact h2.symm
  | succ k ih =>
    constructor
    · rintro ⟨r, h1, h2⟩
      obtain ⟨q, h3, rfl⟩ := (nxP_mem hp).1 h1
      obtain ⟨q2, h4, h5, h6⟩ := (ih (hT _ _ _ h3)).1 h2
      exact ⟨q2, h4, ⟨q, h3, h5⟩, h6⟩
    · rintro ⟨q, h1, ⟨r, h2, h3⟩, h4⟩
      exact ⟨_, (nxP_mem hp).2 ⟨r, h2, rfl⟩, (ih (hT _ _ _ h2)).2 ⟨q, h1, h3, h4⟩⟩
end

/-- A lasso is accepted just if some place with a final state is come to, and from itself again. -/
theorem place_acc {T : List StepI} {n ss fs : Nat} {h lp : List Nat} (hT : ∀ p a q, stepR T p a q → q < n) (hS : ∀ q, ss.testBit q = true → q < n) (hl : 1 ≤ lp.length) :
    AccL T ss fs h lp ↔ ∃ q0 v k j, ss.testBit q0 = true ∧ goN (nxP T (h ++ lp) n h.length) k q0 v ∧ fs.testBit (v % n) = true ∧ goN (nxP T (h ++ lp) n h.length) (j + 1) v v := by
  have hlen : (h ++ lp).length = h.length + lp.length := List.length_append
  have mod_ : ∀ {a f : Nat}, f < n → (a * n + f) % n = f := fun hf => by rw [Nat.mul_comm, Nat.mul_add_mod, Nat.mod_eq_of_lt hf]
  constructor
  · intro hA
    obtain ⟨q, ⟨i, q0, h0, hp⟩, j, hg⟩ := acc_iff.1 hA
    obtain ⟨u, v, f, e, hv, hf, hu, hw⟩ := good_split hg
    have e1 := loop_lett (h := h) hl j
    have el : j * lp.length = u.length + v.length := by
      have := congrArg List.length (e1.trans e)
      rwa [lettN_len, List.length_append] at this
    rw [el, lettN_add, e] at e1
    obtain ⟨e2, e3⟩ := List.append_inj e1 (by rw [lettN_len])
    have hk0 := head_lett (h := h) hl (i * lp.length + u.length)
    rw [lettN_add (i * lp.length) u.length h.length, loop_lett hl, loop_pos hl, e2] at hk0
    have hp0 := head_pos (h := h) hl (i * lp.length + u.length)
    rw [posN_add (i * lp.length) u.length h.length, loop_pos hl] at hp0
    have hpf : plainP T (lettN (h ++ lp) h.length (h.length + (i * lp.length + u.length)) 0) q0 f := by
      rw [hk0, ← List.append_assoc]
      exact plainP_append.2 ⟨q, hp, hu⟩
    have hfn : f < n := by
      have hvp : 0 < v.length := List.length_pos_iff.2 hv
      have hz : ∀ (z : List Nat) (p : Nat), p < n → plainP T z p f → f < n := by
        intro z
        induction z with
        | nil => intro p h1 h2; have e : p = f := h2; omega
        | cons a z ih => intro p h1 h2; obtain ⟨r, h3, h4⟩ := h2; exact ih r (hT _ _ _ h3) h4
      exact hz _ q0 (hS q0 h0) hpf
    have back : posN (h ++ lp).length h.length v.length (posN (h ++ lp).length h.length u.length h.length) = h.length := by
      rw [← posN_add, ← el]; exact loop_pos hl j
    obtain ⟨b, hb⟩ : ∃ b, v.length + u.length = b + 1 := ⟨v.length + u.length - 1, by have := List.length_pos_iff.2 hv; omega⟩
    refine ⟨q0, posN (h ++ lp).length h.length u.length h.length * n + f, h.length + (i * lp.length + u.length), b, h0, ?_, by rw [mod_ hfn]; exact hf, ?_⟩
    · have := (go_place (T := T) (w := h ++ lp) (turn := h.length) hT (k := h.length + (i * lp.length + u.length)) (a := 0) (x := posN (h ++ lp).length h.length u.length h.length * n + f) (hS q0 h0)).2 ⟨f, hfn, hpf, by rw [hp0]⟩
      rwa [Nat.zero_mul, Nat.zero_add] at this
    · rw [← hb]
      refine (go_place hT hfn).2 ⟨f, hfn, ?_, ?_⟩
      · rw [lettN_add, back, e3, e2]
        exact plainP_append.2 ⟨q, hw, hu⟩
      · rw [posN_add, back]
  · rintro ⟨q0, v, k, j, h0, hk, hf, hj⟩
    have hk' : goN (nxP T (h ++ lp) n h.length) k (0 * n + q0) v := by rwa [Nat.zero_mul, Nat.zero_add]
    obtain ⟨f, hfn, hpf, rfl⟩ := (go_place hT (hS q0 h0)).1 hk'
    rw [mod_ hfn] at hf
    obtain ⟨at_, hat⟩ : ∃ at_, posN (h ++ lp).length h.length k 0 = at_ := ⟨_, rfl⟩
    have hal : at_ < (h ++ lp).length := by rw [← hat]; exact posN_lt (by omega) (by omega)
    rw [hat] at hj
    obtain ⟨f2, hf2, hpc, hx⟩ := (go_place hT hfn).1 hj
    have hdiv : (at_ * n + f) / n = (posN (h ++ lp).length h.length (j + 1) at_ * n + f2) / n := by rw [← hx]
    have hmod : (at_ * n + f) % n = (posN (h ++ lp).length h.length (j + 1) at_ * n + f2) % n := by rw [← hx]
    have dv : ∀ {a g : Nat}, g < n → (a * n + g) / n = a := fun hg => by rw [Nat.mul_comm, Nat.mul_add_div (by omega), Nat.div_eq_of_lt hg, Nat.add_zero]
    rw [dv hfn, dv hf2] at hdiv
    rw [mod_ hfn, mod_ hf2] at hmod
    subst hmod
    obtain ⟨c, hc⟩ : ∃ c, j + 1 = c := ⟨_, rfl⟩
    rw [hc] at hpc hdiv
    obtain ⟨r, hr⟩ : ∃ r, (h ++ lp).length - at_ = r := ⟨_, rfl⟩
    have hround : posN (h ++ lp).length h.length r at_ = h.length := by rw [← hr]; exact posN_round hal
    have hrc : r ≤ c := by
      rcases Nat.lt_or_ge c r with h1 | h1
      · rw [posN_small (by omega)] at hdiv; omega
      · exact h1
    have e1 : c = r + (c - r) := by omega
    have e2 : c = (c - r) + r := by omega
    have hback : posN (h ++ lp).length h.length (c - r) h.length = at_ := by
      have h1 := posN_add (len := (h ++ lp).length) (turn := h.length) r (c - r) at_
      rw [← e1, hround] at h1
      exact h1.symm.trans hdiv.symm
    have hturn : posN (h ++ lp).length h.length c h.length = h.length := by
      rw [e2, posN_add, hback, hround]
    obtain ⟨i, hi⟩ := loop_div hl hturn
    have hword : lettN (h ++ lp) h.length (c - r) h.length ++ lettN (h ++ lp) h.length r at_ = pw lp i := by
      have := lettN_add (w := h ++ lp) (turn := h.length) (c - r) r h.length
      rw [← e2, hback] at this
      have e5 : lettN (h ++ lp) h.length c h.length = pw lp i := by rw [hi]; exact loop_lett hl i
      exact this.symm.trans e5
    rw [e1, lettN_add, hround] at hpc
    obtain ⟨q, hq1, hq2⟩ := plainP_append.1 hpc
    have hkr : posN (h ++ lp).length h.length (k + r) 0 = h.length := by rw [posN_add, hat, hround]
    have hge : h.length ≤ k + r := by
      rcases Nat.lt_or_ge (k + r) h.length with h1 | h1
      · rw [posN_small (by omega)] at hkr; omega
      · exact h1
    obtain ⟨x, hxx⟩ : ∃ x, k + r = h.length + x := ⟨k + r - h.length, by omega⟩
    rw [hxx, head_pos hl] at hkr
    obtain ⟨i', hi'⟩ := loop_div hl hkr
    refine acc_iff.2 ⟨q, ⟨i', q0, h0, ?_⟩, i, ?_⟩
    · have := head_lett (h := h) hl x
      rw [← hxx, lettN_add, hat, hi', loop_lett hl] at this
      rw [← this]
      exact plainP_append.2 ⟨_, hpf, hq1⟩
    · rw [← hword]
      refine goodP_append.2 ⟨_, .inr ⟨hq2, good_begin ?_ hf hq1⟩⟩
      intro e
      have := congrArg List.length e
      rw [lettN_len] at this
      simp only [List.length_nil] at this
      omega

end Go.Proofs.Ytfjpdeoldcfhdaa
