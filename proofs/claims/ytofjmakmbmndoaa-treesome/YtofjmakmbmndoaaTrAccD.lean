/- Which trees are accepted: steps of both programs, outside their walks. -/
import Derived.Test.YtofjmakmbmndoaaTrTreeD
namespace Go.Proofs.Ytofjmakmbmndoaa
open Go.RowKit
set_option linter.unusedVariables false

theorem hitB_let {S : Nat → Nat → Bool} {n : NodeI} {a b c d : Int} (h : a ≠ n.1) : hitB S n (a, b, c, d) = false := by
  unfold hitB
  have : (a == n.1) = false := by simpa using h
  simp [this]
theorem hitB_kid {S : Nat → Nat → Bool} {n : NodeI} {a b c d : Int} (h : (b == -1) ≠ (n.2.1 == -1)) : hitB S n (a, b, c, d) = false := by
  unfold hitB
  cases h1 : (b == -1) <;> cases h2 : (n.2.1 == -1) <;> simp_all
theorem hitB_leaf {S : Nat → Nat → Bool} {n : NodeI} {a b c d : Int} (h : a = n.1) (h1 : (b == -1) = true) (h2 : (n.2.1 == -1) = true) : hitB S n (a, b, c, d) = true := by
  unfold hitB
  simp [h, h1, h2]
theorem hitB_both {S : Nat → Nat → Bool} {y : Int} {ca cb : Nat} {a d : Int} {p q : Nat} (h : a = y) : hitB S (y, (ca : Int), (cb : Int)) (a, (p : Int), (q : Int), d) = (S ca p && S cb q) := by
  unfold hitB
  have e1 : ((ca : Int) == -1) = false := by rw [beq_eq_false_iff_ne]; omega
  have e2 : ((p : Int) == -1) = false := by rw [beq_eq_false_iff_ne]; omega
  simp [h, e1, e2]
section
variable {W : World} {g n k : Nat} {S : Nat → Nat → Bool} {nd : NodeI} {R : List RuleI}
/-- A rule that does not fit leaves the row as it is. -/
theorem own_skip (h : BRow W g n (ownB S nd R k)) (hk : k < R.length) (hh : hitB S nd (R.getD k ru0) = false) : BRow W g n (ownB S nd R (k + 1)) :=
  h.congr fun i hi => by rw [ownB_succ hk, hh]; simp
/-- One that fits writes its state. -/
theorem own_put (h : BRow W g n (ownB S nd R k)) (hk : k < R.length) (hh : hitB S nd (R.getD k ru0) = true) {t : Nat} (ht : (R.getD k ru0).2.2.2 = (t : Int)) (htn : t < n) : BRow (W.setCell ⟨g, t, none⟩ (.bool true)) g n (ownB S nd R (k + 1)) :=
  (h.set htn true).congr fun i hi => by
    rw [ownB_succ hk, hh, ht]
    by_cases e : i = t
    · subst e; simp
    · rw [if_neg e]
      have : ((t : Int) == (i : Int)) = false := by simp; omega
      simp [this]
theorem own_zero (h : BRow W g n (fun _ => false)) : BRow W g n (ownB S nd R 0) := h.congr fun i hi => by rw [ownB_zero]
end
/-- With room ahead for none. -/
def shB (f : Nat → Bool) : Nat → Bool := fun j => if j = 0 then false else f (j - 1)
theorem shB_succ (f : Nat → Bool) (j : Nat) : shB f (j + 1) = f j := by simp [shB]
theorem shB_zero (f : Nat → Bool) : shB f 0 = false := rfl
section
variable {W : World} {g n k : Nat} {S : Nat → Nat → Bool} {nd : NodeI} {R : List RuleI}
theorem own_skip1 (h : BRow W g n (shB (ownB S nd R k))) (hk : k < R.length) (hh : hitB S nd (R.getD k ru0) = false) : BRow W g n (shB (ownB S nd R (k + 1))) :=
  h.congr fun i hi => by
    cases i with
    | zero => rfl
    | succ i => rw [shB_succ, shB_succ, ownB_succ hk, hh]; simp
theorem own_put1 (h : BRow W g n (shB (ownB S nd R k))) (hk : k < R.length) (hh : hitB S nd (R.getD k ru0) = true) {t : Nat} (ht : (R.getD k ru0).2.2.2 = (t : Int)) (htn : t + 1 < n) : BRow (W.setCell ⟨g, t + 1, none⟩ (.bool true)) g n (shB (ownB S nd R (k + 1))) :=
  (h.set htn true).congr fun i hi => by
    cases i with
    | zero => rw [if_neg (by omega)]; rfl
    | succ i =>
      rw [shB_succ, shB_succ, ownB_succ hk, hh, ht]
      by_cases e : i = t
      · subst e; simp
      · rw [if_neg (by omega)]
        have : ((t : Int) == (i : Int)) = false := by simp; omega
        simp [this]
theorem own_zero1 (h : BRow W g n (fun _ => false)) : BRow W g n (shB (ownB S nd R 0)) := h.congr fun i hi => by
  cases i with
  | zero => rfl
  | succ i => rw [shB_succ, ownB_zero]
end

end Go.Proofs.Ytofjmakmbmndoaa
