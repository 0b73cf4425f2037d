/- Heaps and their steps, without the program: what may be, and what a step makes of a state. -/
import Derived.Test.YtbkfcfhkjnfbmaaGrow
namespace Go.Proofs.Ytbkfcfhkjnfbmaa
set_option linter.unusedVariables false

/-- Heaps: how many, what each step takes and gives. -/
structure Hp where
  P : Int
  T : List (List Int)
  G : List (List Int)
def ShapedH (R : List (List Int)) (P : Int) : Prop := ∀ i, i < R.length → ((R.getD i []).length : Int) = P
def OneW (z : List Int) (m : Int) : Prop := ∀ j, j < z.length → 0 ≤ z.getD j 0 ∧ z.getD j 0 ≤ m
def WithinH (R : List (List Int)) (m : Int) : Prop := ∀ i, i < R.length → OneW (R.getD i []) m
open Classical in
noncomputable def rowF (z : List Int) (P m : Int) : Int := if (z.length : Int) ≠ P then 3 else if OneW z m then 0 else 2
open Classical in
noncomputable def checkH (x : Hp) : Int :=
  if x.P < 1 ∨ 4 < x.P ∨ 8 < x.T.length then 1
  else if x.G.length ≠ x.T.length ∨ ¬ ShapedH x.T x.P ∨ ¬ ShapedH x.G x.P then 3
  else if ¬ WithinH x.T 2 ∨ ¬ WithinH x.G 2 then 2
  else 0
noncomputable def stateF (x : Hp) (s : List Int) : Int := if checkH x = 0 then rowF s x.P 10 else checkH x
theorem rowF_shape {z : List Int} {P m : Int} (h : (z.length : Int) ≠ P) : rowF z P m = 3 := by unfold rowF; rw [if_pos h]
theorem rowF_ok {z : List Int} {P m : Int} (h : (z.length : Int) = P) (h1 : OneW z m) : rowF z P m = 0 := by unfold rowF; rw [if_neg (by omega), if_pos h1]
theorem rowF_bad {z : List Int} {P m : Int} (h : (z.length : Int) = P) (h1 : ¬ OneW z m) : rowF z P m = 2 := by unfold rowF; rw [if_neg (by omega), if_neg h1]
theorem of_rowF {z : List Int} {P m : Int} (h : rowF z P m = 0) : (z.length : Int) = P ∧ OneW z m := by
  unfold rowF at h
  split at h
  · cases h
  · split at h
    · rename_i h1 h2; exact ⟨by omega, h2⟩
    · cases h
theorem rowF_two {z : List Int} {P m : Int} (h : rowF z P m ≠ 3) : (z.length : Int) = P := by
  by_cases e : (z.length : Int) = P
  · exact e
  · exact absurd (rowF_shape e) h
theorem rowF_three {z : List Int} {P m : Int} : rowF z P m = 3 ↔ (z.length : Int) ≠ P := by
  unfold rowF
  split
  · rename_i h; exact ⟨fun _ => h, fun _ => rfl⟩
  · rename_i h
    split
    · exact ⟨(by intro e; cases e), fun e => absurd e h⟩
    · exact ⟨(by intro e; cases e), fun e => absurd e h⟩
theorem checkH_size {x : Hp} (h : x.P < 1 ∨ 4 < x.P ∨ 8 < x.T.length) : checkH x = 1 := by unfold checkH; rw [if_pos h]
theorem checkH_shape {x : Hp} (h : ¬ (x.P < 1 ∨ 4 < x.P ∨ 8 < x.T.length)) (h1 : x.G.length ≠ x.T.length ∨ ¬ ShapedH x.T x.P ∨ ¬ ShapedH x.G x.P) : checkH x = 3 := by unfold checkH; rw [if_neg h, if_pos h1]
theorem checkH_range {x : Hp} (h : ¬ (x.P < 1 ∨ 4 < x.P ∨ 8 < x.T.length)) (h1 : ¬ (x.G.length ≠ x.T.length ∨ ¬ ShapedH x.T x.P ∨ ¬ ShapedH x.G x.P)) (h2 : ¬ WithinH x.T 2 ∨ ¬ WithinH x.G 2) : checkH x = 2 := by unfold checkH; rw [if_neg h, if_neg h1, if_pos h2]
theorem checkH_ok {x : Hp} (h : ¬ (x.P < 1 ∨ 4 < x.P ∨ 8 < x.T.length)) (h1 : ¬ (x.G.length ≠ x.T.length ∨ ¬ ShapedH x.T x.P ∨ ¬ ShapedH x.G x.P)) (h2 : ¬ (¬ WithinH x.T 2 ∨ ¬ WithinH x.G 2)) : checkH x = 0 := by unfold checkH; rw [if_neg h, if_neg h1, if_neg h2]
structure GoodH (x : Hp) : Prop where
  p1 : 1 ≤ x.P
  p4 : x.P ≤ 4
  t8 : x.T.length ≤ 8
  g : x.G.length = x.T.length
  ts : ShapedH x.T x.P
  gs : ShapedH x.G x.P
  tw : WithinH x.T 2
  gw : WithinH x.G 2
theorem good_of_checkH {x : Hp} (h : checkH x = 0) : GoodH x := by
  by_cases h1 : x.P < 1 ∨ 4 < x.P ∨ 8 < x.T.length
  · rw [checkH_size h1] at h; cases h
  · by_cases h2 : x.G.length ≠ x.T.length ∨ ¬ ShapedH x.T x.P ∨ ¬ ShapedH x.G x.P
    · rw [checkH_shape h1 h2] at h; cases h
    · by_cases h3 : ¬ WithinH x.T 2 ∨ ¬ WithinH x.G 2
      · rw [checkH_range h1 h2 h3] at h; cases h
      · simp only [not_or, Decidable.not_not] at h2 h3
        have a1 : ShapedH x.T x.P := Classical.not_not.1 h2.2.1
        have a2 : ShapedH x.G x.P := Classical.not_not.1 h2.2.2
        have a3 : WithinH x.T 2 := Classical.not_not.1 h3.1
        have a4 : WithinH x.G 2 := Classical.not_not.1 h3.2
        exact ⟨by omega, by omega, by omega, h2.1, a1, a2, a3, a4⟩

/-- What a step makes of a state. -/
def CanH (s t : List Int) : Prop := ∀ i, i < s.length → t.getD i 0 ≤ s.getD i 0
def doneH (s t g : List Int) : List Int := (List.range s.length).map fun i => s.getD i 0 + g.getD i 0 - t.getD i 0
theorem doneH_len (s t g : List Int) : (doneH s t g).length = s.length := by simp [doneH]
theorem doneH_get (s t g : List Int) {i : Nat} (h : i < s.length) : (doneH s t g).getD i 0 = s.getD i 0 + g.getD i 0 - t.getD i 0 := by simp [doneH, List.getD, h]

end Go.Proofs.Ytbkfcfhkjnfbmaa
