/- Whether a word may be. -/
import Derived.Test.YtkmcbdjcolbknaaGrow
namespace Go.Proofs.Ytkmcbdjcolbknaa
open Go.RowKit
set_option linter.unusedVariables false

/-- What a function on words answers of one: 0, 1 (too long), 2 (a letter, or how many there are). -/
def mayF (n : Int) (zs : List Int) : Int :=
  if n < 1 ∨ 4 < n then 2 else if 60 < zs.length then 1 else if zs.all (fun x => decide (0 ≤ x) && decide (x < n)) then 0 else 2

theorem mayF_bad {n : Int} {zs : List Int} {k : Nat} (h1 : 1 ≤ n) (h2 : n ≤ 4) (h3 : zs.length ≤ 60) (hk : k < zs.length) (h : zs.getD k 0 < 0 ∨ n ≤ zs.getD k 0) : mayF n zs = 2 := by
  unfold mayF
  rw [if_neg (by omega), if_neg (by omega), if_neg]
  intro ha
  have := List.all_eq_true.1 ha (zs.getD k 0) (by rw [getD_lt hk]; exact List.getElem_mem hk)
  simp at this
  simp at h
  omega

theorem mayF_good {n : Int} {zs : List Int} (h1 : 1 ≤ n) (h2 : n ≤ 4) (h3 : zs.length ≤ 60) (h : ∀ k, k < zs.length → 0 ≤ zs.getD k 0 ∧ zs.getD k 0 < n) : mayF n zs = 0 := by
  unfold mayF
  rw [if_neg (by omega), if_neg (by omega), if_pos]
  refine List.all_eq_true.2 fun x hx => ?_
  obtain ⟨k, hk, rfl⟩ := List.getElem_of_mem hx
  have := h k hk
  rw [getD_lt hk] at this
  simp [this]

end Go.Proofs.Ytkmcbdjcolbknaa
