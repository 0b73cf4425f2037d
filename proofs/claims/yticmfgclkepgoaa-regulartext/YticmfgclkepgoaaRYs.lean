/- Sayings, as the program puts them together. No program is in it. -/
/- States taken away one by one, in the middle of a round; how long what is said may be. No program. -/
import Derived.Test.YticmfgclkepgoaaGrow
namespace Go.Proofs.Yticmfgclkepgoaa
set_option linter.unusedVariables false

/-- One byte as a text. -/
def oneT (c : Nat) : ByteArray := ⟨#[UInt8.ofNat c]⟩
/-- The text, in brackets where it is too loose. -/
def withinT (T : ByteArray) (k l : Nat) : ByteArray := if k ≤ l then T else oneT 40 ++ T ++ oneT 41
/-- A saying: its text, and how loose it is. -/
abbrev Sy := ByteArray × Nat
def noneY : Sy := (oneT 48, 0)
def emptyY : Sy := (oneT 49, 0)
def orY (x y : Sy) : Sy := if x = noneY ∨ x = y then y else if y = noneY then x else (withinT x.1 x.2 3 ++ oneT 43 ++ withinT y.1 y.2 3, 3)
def thenY (x y : Sy) : Sy := if x = noneY ∨ y = emptyY then x else if y = noneY ∨ x = emptyY then y else (withinT x.1 x.2 2 ++ withinT y.1 y.2 2, 2)
def againY (x : Sy) : Sy := if x = noneY ∨ x = emptyY then emptyY else (withinT x.1 x.2 0 ++ oneT 42, 1)
/-- What leads from s to t by the letters below l. -/
def leadY (nx : Nat → Nat → Nat) (s t : Nat) : Nat → Sy
  | 0 => noneY
  | l + 1 => if nx s l = t then orY (leadY nx s t l) (oneT (97 + l), 0) else leadY nx s t l
def endY (mk : Nat → Bool) (s : Nat) : Sy := if mk s = true then emptyY else noneY
/-- What leads to the state s, and back to it any number of times, as it is said. -/
def toY (ld : Nat → Nat → Sy) (s t : Nat) : Sy := thenY (ld t s) (againY (ld s s))
def ldY (ld : Nat → Nat → Sy) (s : Nat) : Nat → Nat → Sy := fun t u => if t < s ∧ u < s then orY (ld t u) (thenY (toY ld s t) (ld s u)) else ld t u
def enY (ld : Nat → Nat → Sy) (en : Nat → Sy) (s : Nat) : Nat → Sy := fun t => if t < s then orY (en t) (thenY (toY ld s t) (en s)) else en t
/-- States are taken away until the first alone is left. -/
def writY : Nat → (Nat → Nat → Sy) → (Nat → Sy) → Sy
  | 0, ld, en => thenY (againY (ld 0 0)) (en 0)
  | n + 1, ld, en => writY n (ldY ld (n + 1)) (enY ld en (n + 1))
/-- The text that is written. -/
def writtenY (nx : Nat → Nat → Nat) (mk : Nat → Bool) (l n : Nat) : Sy := writY (n - 1) (fun s t => leadY nx s t l) (endY mk)

end Go.Proofs.Yticmfgclkepgoaa

namespace Go.Proofs.Yticmfgclkepgoaa
set_option linter.unusedVariables false

/-- In the round of s, at t and u: what leads from state to state. -/
def midL (ld : Nat → Nat → Sy) (s t u : Nat) : Nat → Nat → Sy := fun i j => if (i < t ∨ (i = t ∧ j < u)) ∧ i < s ∧ j < s then orY (ld i j) (thenY (toY ld s i) (ld s j)) else ld i j
/-- In the round of s, at t: what is said of the ends. -/
def midE (ld : Nat → Nat → Sy) (en : Nat → Sy) (s t : Nat) : Nat → Sy := fun i => if i < t ∧ i < s then orY (en i) (thenY (toY ld s i) (en s)) else en i
section
variable (ld : Nat → Nat → Sy) (en : Nat → Sy) (s t u : Nat)
theorem midL_start (i j : Nat) : midL ld s 0 0 i j = ld i j := by unfold midL; rw [if_neg (by omega)]
theorem midL_here : midL ld s t u t u = ld t u := by unfold midL; rw [if_neg (by omega)]
theorem midL_gone (j : Nat) : midL ld s t u s j = ld s j := by unfold midL; rw [if_neg (by omega)]
theorem midL_to : midL ld s t u t s = ld t s := by unfold midL; rw [if_neg (by omega)]
theorem midL_step (ht : t < s) (hu : u < s) (i j : Nat) : (if i = t ∧ j = u then orY (ld t u) (thenY (toY ld s t) (ld s u)) else midL ld s t u i j) = midL ld s t (u + 1) i j := by
  unfold midL
  by_cases h : i = t ∧ j = u
  · obtain ⟨rfl, rfl⟩ := h
    rw [if_pos ⟨rfl, rfl⟩, if_pos (by omega)]
  · rw [if_neg h]
    by_cases h2 : (i < t ∨ (i = t ∧ j < u)) ∧ i < s ∧ j < s
    · rw [if_pos h2, if_pos (by omega)]
    · rw [if_neg h2, if_neg (by omega)]
theorem midL_next (i j : Nat) : midL ld s t s i j = midL ld s (t + 1) 0 i j := by
  unfold midL
  by_cases h2 : (i < t ∨ (i = t ∧ j < s)) ∧ i < s ∧ j < s
  · rw [if_pos h2, if_pos (by omega)]
  · rw [if_neg h2, if_neg (by omega)]
theorem midL_end (i j : Nat) : midL ld s s 0 i j = ldY ld s i j := by
  unfold midL ldY
  by_cases h2 : i < s ∧ j < s
  · rw [if_pos h2, if_pos (by omega)]
  · rw [if_neg h2, if_neg (by omega)]
theorem midE_start (i : Nat) : midE ld en s 0 i = en i := by unfold midE; rw [if_neg (by omega)]
theorem midE_here : midE ld en s t t = en t := by unfold midE; rw [if_neg (by omega)]
theorem midE_gone : midE ld en s t s = en s := by unfold midE; rw [if_neg (by omega)]
theorem midE_step (ht : t < s) (i : Nat) : (if i = t then orY (en t) (thenY (toY ld s t) (en s)) else midE ld en s t i) = midE ld en s (t + 1) i := by
  unfold midE
  by_cases h : i = t
  · subst h
    rw [if_pos rfl, if_pos (by omega)]
  · rw [if_neg h]
    by_cases h2 : i < t ∧ i < s
    · rw [if_pos h2, if_pos (by omega)]
    · rw [if_neg h2, if_neg (by omega)]
theorem midE_end (i : Nat) : midE ld en s s i = enY ld en s i := by
  unfold midE enY
  by_cases h2 : i < s
  · rw [if_pos h2, if_pos (by omega)]
  · rw [if_neg h2, if_neg (by omega)]
end

theorem one_size (m : Nat) : (oneT m).size = 1 := rfl
theorem within_sz (T : ByteArray) (k l : Nat) : (withinT T k l).size ≤ T.size + 2 := by
  unfold withinT
  split
  · omega
  · simp only [ByteArray.size_append, one_size]; omega
theorem or_sz (x y : Sy) : (orY x y).1.size ≤ x.1.size + y.1.size + 5 := by
  unfold orY
  have h1 := within_sz x.1 x.2 3
  have h2 := within_sz y.1 y.2 3
  split
  · omega
  · split
    · omega
    · simp only [ByteArray.size_append, one_size]; omega
theorem then_sz (x y : Sy) : (thenY x y).1.size ≤ x.1.size + y.1.size + 4 := by
  unfold thenY
  have h1 := within_sz x.1 x.2 2
  have h2 := within_sz y.1 y.2 2
  split
  · omega
  · split
    · omega
    · simp only [ByteArray.size_append]; omega
theorem again_sz (x : Sy) : (againY x).1.size ≤ x.1.size + 3 := by
  unfold againY
  have h1 := within_sz x.1 x.2 0
  split
  · show 1 ≤ _; omega
  · simp only [ByteArray.size_append, one_size]; omega
/-- All that is said of n states is at most A bytes long. -/
def SzY (n A : Nat) (ld : Nat → Nat → Sy) (en : Nat → Sy) : Prop := (∀ i j, i < n → j < n → (ld i j).1.size ≤ A) ∧ ∀ i, i < n → (en i).1.size ≤ A
theorem SzY.to {n A : Nat} {ld : Nat → Nat → Sy} {en : Nat → Sy} (h : SzY n A ld en) {s t : Nat} (hs : s < n) (ht : t < n) : (againY (ld s s)).1.size ≤ A + 3 ∧ (toY ld s t).1.size ≤ 2 * A + 7 := by
  have h1 := h.1 t s ht hs
  have h2 := h.1 s s hs hs
  have h3 := again_sz (ld s s)
  have h4 := then_sz (ld t s) (againY (ld s s))
  refine ⟨by omega, ?_⟩
  unfold toY
  omega
theorem SzY.then {n A : Nat} {ld : Nat → Nat → Sy} {en : Nat → Sy} (h : SzY n A ld en) {s t u : Nat} (hs : s < n) (ht : t < n) (hu : u < n) : (thenY (toY ld s t) (ld s u)).1.size ≤ 3 * A + 11 ∧ (thenY (toY ld s t) (en s)).1.size ≤ 3 * A + 11 := by
  have h1 := (h.to hs ht).2
  have h2 := h.1 s u hs hu
  have h3 := h.2 s hs
  have h4 := then_sz (toY ld s t) (ld s u)
  have h5 := then_sz (toY ld s t) (en s)
  omega
theorem SzY.round {n A : Nat} {ld : Nat → Nat → Sy} {en : Nat → Sy} (h : SzY n A ld en) {s : Nat} (hs : s < n) : SzY n (4 * A + 16) (ldY ld s) (enY ld en s) := by
  refine ⟨fun i j hi hj => ?_, fun i hi => ?_⟩
  · have h0 := h.1 i j hi hj
    unfold ldY
    split
    · have h1 := (h.then (s := s) (t := i) (u := j) hs hi hj).1
      have h2 := or_sz (ld i j) (thenY (toY ld s i) (ld s j))
      omega
    · omega
  · have h0 := h.2 i hi
    unfold enY
    split
    · have h1 := (h.then (s := s) (t := i) (u := i) hs hi hi).2
      have h2 := or_sz (en i) (thenY (toY ld s i) (en s))
      omega
    · omega
end Go.Proofs.Yticmfgclkepgoaa
