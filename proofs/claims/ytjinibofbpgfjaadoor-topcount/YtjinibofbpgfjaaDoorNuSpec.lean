/- Whole numbers of any length, by figures of base 10000, the lowest first. Without the program. -/
import Derived.Test.YtjinibofbpgfjaaDoorGrow
namespace Go.Proofs.YtjinibofbpgfjaaDoor
set_option linter.unusedVariables false

def valN : List Int → Int
  | [] => 0
  | d :: l => d + 10000 * valN l
def WfN (l : List Int) : Prop := ∀ d, d ∈ l → 0 ≤ d ∧ d < 10000
def pwN (k : Nat) : Int := (10000 : Int) ^ k
theorem pwN_succ (k : Nat) : pwN (k + 1) = 10000 * pwN k := by unfold pwN; rw [Int.pow_succ, Int.mul_comm]
theorem pwN_pos (k : Nat) : 0 < pwN k := by
  induction k with
  | zero => show (0 : Int) < 1; omega
  | succ k ih => rw [pwN_succ]; omega
theorem pwN_add (i j : Nat) : pwN (i + j) = pwN i * pwN j := by unfold pwN; exact Int.pow_add _ _ _
theorem pwN_mono {i j : Nat} (h : i ≤ j) : pwN i ≤ pwN j := by
  induction j with
  | zero => have : i = 0 := by omega
            subst this; exact Int.le_refl _
  | succ j ih =>
    by_cases e : i = j + 1
    · subst e; exact Int.le_refl _
    · have := ih (by omega)
      have := pwN_pos j
      rw [pwN_succ]
      omega
theorem valN_app (l m : List Int) : valN (l ++ m) = valN l + pwN l.length * valN m := by
  induction l with
  | nil => show valN m = 0 + 1 * valN m; omega
  | cons d l ih =>
    show d + 10000 * valN (l ++ m) = d + 10000 * valN l + pwN (l.length + 1) * valN m
    rw [ih, pwN_succ, Int.mul_add, Int.mul_assoc]
    omega
theorem WfN.cons {d : Int} {l : List Int} (h : WfN (d :: l)) : (0 ≤ d ∧ d < 10000) ∧ WfN l := ⟨h d (List.mem_cons_self), fun x hx => h x (List.mem_cons_of_mem _ hx)⟩
theorem WfN.app {l m : List Int} (h : WfN l) (k : WfN m) : WfN (l ++ m) := fun d hd => by
  rcases List.mem_append.1 hd with e | e
  · exact h d e
  · exact k d e
theorem WfN.take {l : List Int} (h : WfN l) (n : Nat) : WfN (l.take n) := fun d hd => h d (List.mem_of_mem_take hd)
theorem WfN.drop {l : List Int} (h : WfN l) (n : Nat) : WfN (l.drop n) := fun d hd => h d (List.mem_of_mem_drop hd)
theorem WfN.at {l : List Int} (h : WfN l) (i : Nat) : 0 ≤ l.getD i 0 ∧ l.getD i 0 < 10000 := by
  by_cases hi : i < l.length
  · have e : l.getD i 0 = l[i] := by simp [List.getD, hi]
    rw [e]; exact h _ (List.getElem_mem hi)
  · have e : l.getD i 0 = 0 := by simp [List.getD, hi]
    rw [e]; omega
theorem valN_range {l : List Int} (h : WfN l) : 0 ≤ valN l ∧ valN l < pwN l.length := by
  induction l with
  | nil => show (0 : Int) ≤ 0 ∧ (0 : Int) < 1; omega
  | cons d l ih =>
    obtain ⟨hd, hl⟩ := h.cons
    have := ih hl
    show 0 ≤ d + 10000 * valN l ∧ d + 10000 * valN l < pwN (l.length + 1)
    rw [pwN_succ]
    omega
theorem takeN_snoc (l : List Int) (i : Nat) : valN (l.take (i + 1)) = valN (l.take i) + pwN i * l.getD i 0 := by
  by_cases hi : i < l.length
  · have e : l.getD i 0 = l[i] := by simp [List.getD, hi]
    rw [List.take_add_one, List.getElem?_eq_getElem hi, Option.toList_some, valN_app, e]
    have : (l.take i).length = i := by rw [List.length_take]; omega
    rw [this]
    show _ + pwN i * (l[i] + 10000 * 0) = _
    rw [Int.mul_zero, Int.add_zero]
  · have e : l.getD i 0 = 0 := by simp [List.getD, hi]
    rw [e, List.take_of_length_le (by omega), List.take_of_length_le (by omega), Int.mul_zero, Int.add_zero]
/-- Zeros at the end tell nothing. -/
theorem valN_cut {l : List Int} {n : Nat} (h : ∀ j, n ≤ j → j < l.length → l.getD j 0 = 0) : valN (l.take n) = valN l := by
  have key : ∀ k, valN (l.take (n + k)) = valN (l.take n) := fun k => by
    induction k with
    | zero => rfl
    | succ k ih =>
      rw [← Nat.add_assoc, takeN_snoc, ih]
      have : l.getD (n + k) 0 = 0 := by
        by_cases hk : n + k < l.length
        · exact h _ (by omega) hk
        · simp [List.getD, hk]
      rw [this, Int.mul_zero, Int.add_zero]
  have h1 := key l.length
  rw [List.take_of_length_le (by omega)] at h1
  exact h1.symm
structure Nm (b : Bool) (l : List Int) : Prop where
  wf : WfN l
  top : l ≠ [] → l.getD (l.length - 1) 0 ≠ 0
  sgn : b = true → l ≠ []
def wvN (b : Bool) (l : List Int) : Int := if b then - valN l else valN l
theorem Nm.low {b : Bool} {l : List Int} (h : Nm b l) (hn : l ≠ []) : pwN (l.length - 1) ≤ valN l := by
  have h0 : 0 < l.length := List.length_pos_iff.2 hn
  have h1 := takeN_snoc l (l.length - 1)
  rw [show l.length - 1 + 1 = l.length by omega, List.take_length] at h1
  have h2 := (valN_range (h.wf.take (l.length - 1))).1
  have h3 := h.top hn
  have h4 := (h.wf.at (l.length - 1)).1
  have h5 : 1 ≤ l.getD (l.length - 1) 0 := by omega
  have h6 := pwN_pos (l.length - 1)
  have h7 : pwN (l.length - 1) * 1 ≤ pwN (l.length - 1) * l.getD (l.length - 1) 0 := Int.mul_le_mul_of_nonneg_left h5 (by omega)
  omega
theorem Nm.len {b : Bool} {l : List Int} (h : Nm b l) {k : Nat} (hk : valN l < pwN k) : l.length ≤ k := by
  by_cases hn : l = []
  · subst hn; exact Nat.zero_le _
  · have h1 := h.low hn
    rcases Nat.lt_or_ge k l.length with h2 | h2
    · have := pwN_mono (show k ≤ l.length - 1 by omega)
      omega
    · exact h2
theorem Nm.zero {b : Bool} {l : List Int} (h : Nm b l) : valN l = 0 ↔ l = [] := by
  constructor
  · intro e
    by_cases hn : l = []
    · exact hn
    · have h1 := h.low hn
      have := pwN_pos (l.length - 1)
      omega
  · intro e; subst e; rfl
/-- What is left when zeros at the end are taken away. -/
theorem nm_cut {b : Bool} {l : List Int} {n : Nat} (hl : WfN l) (hn : n ≤ l.length) (h : ∀ j, n ≤ j → j < l.length → l.getD j 0 = 0) (ht : n = 0 ∨ l.getD (n - 1) 0 ≠ 0) : Nm (b && decide (0 < n)) (l.take n) ∧ wvN (b && decide (0 < n)) (l.take n) = wvN b l := by
  have hlen : (l.take n).length = n := by rw [List.length_take]; omega
  refine ⟨⟨hl.take n, fun hne => ?_, fun e he => ?_⟩, ?_⟩
  · rw [hlen]
    have h0 : 0 < n := by
      rcases Nat.eq_zero_or_pos n with e | e
      · subst e; exact absurd (by simp) hne
      · exact e
    rcases ht with e | e
    · omega
    · have : (l.take n).getD (n - 1) 0 = l.getD (n - 1) 0 := by
        simp only [List.getD]
        rw [List.getElem?_take_of_lt (by omega)]
      rw [this]; exact e
  · simp only [Bool.and_eq_true, decide_eq_true_eq] at e
    have := congrArg List.length he
    rw [hlen] at this
    simp at this
    omega
  · have hv := valN_cut h
    unfold wvN
    rw [hv]
    by_cases h0 : 0 < n
    · simp [h0]
    · have e0 : n = 0 := by omega
      subst e0
      have : valN l = 0 := by rw [← hv]; rfl
      rw [this]
      cases b <;> simp
/-- The highest figure that differs tells which is smaller. -/
theorem cmp_at {a b : List Int} (ha : WfN a) (hb : WfN b) (hl : a.length = b.length) {i : Nat} (hi : i < a.length) (he : ∀ j, i < j → j < a.length → a.getD j 0 = b.getD j 0) (h : a.getD i 0 < b.getD i 0) : valN a < valN b := by
  have key : ∀ k, i + 1 + k ≤ a.length → valN (a.take (i + 1 + k)) - valN (b.take (i + 1 + k)) = valN (a.take (i + 1)) - valN (b.take (i + 1)) := fun k => by
    induction k with
    | zero => intro _; rfl
    | succ k ih =>
      intro hk
      have h1 := ih (by omega)
      rw [← Nat.add_assoc, takeN_snoc a, takeN_snoc b, he (i + 1 + k) (by omega) (by omega)]
      omega
  have h1 := key (a.length - (i + 1)) (by omega)
  rw [show i + 1 + (a.length - (i + 1)) = a.length by omega, List.take_length] at h1
  rw [hl, List.take_length, takeN_snoc a, takeN_snoc b] at h1
  have h2 := valN_range (ha.take i)
  have h3 := valN_range (hb.take i)
  have l2 : (a.take i).length = i := by rw [List.length_take]; omega
  rw [l2] at h2
  have h4 : pwN i * (a.getD i 0 + 1) ≤ pwN i * b.getD i 0 := Int.mul_le_mul_of_nonneg_left (by omega) (by have := pwN_pos i; omega)
  rw [Int.mul_add, Int.mul_one] at h4
  omega
theorem all_eq {a b : List Int} (hl : a.length = b.length) (he : ∀ j, j < a.length → a.getD j 0 = b.getD j 0) : a = b := by
  refine List.ext_getElem hl fun i h1 h2 => ?_
  have := he i h1
  simpa [List.getD, h1, h2] using this
theorem Nm.shorter {p q : Bool} {a b : List Int} (ha : Nm p a) (hb : Nm q b) (h : a.length < b.length) : valN a < valN b := by
  have h1 := valN_range ha.wf
  have h2 := hb.low (by intro e; subst e; simp at h)
  have h3 := pwN_mono (show a.length ≤ b.length - 1 by omega)
  omega
/-- Minus one, nought, one. -/
def sgN (z : Int) : Int := if z < 0 then -1 else if z = 0 then 0 else 1

end Go.Proofs.YtjinibofbpgfjaaDoor
