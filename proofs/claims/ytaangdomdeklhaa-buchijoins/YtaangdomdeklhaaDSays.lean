/- What calls answer, in a word; a box of four. -/
import Derived.Test.YtaangdomdeklhaaDTells
import Derived.Test.YtaangdomdeklhaaSay
namespace Go.Proofs.Ytaangdomdeklhaa
open Go.RowKit
set_option linter.unusedVariables false

/-- An automaton as a value. -/
abbrev detV (L S : Int) (a : Option Addr) (n c : Nat) (a' : Option Addr) (n' c' : Nat) : Value := .agg #[.int .i64 L, .int .i64 S, .slice a n c, .slice a' n' c']
theorem says_of_tells {P : Prop} {w w' : World} {e : Ending} (h : TellsB P w e w') (hP : P) : Says (.bool true) w e w' := by
  obtain ⟨b, h1, h2, h3⟩ := h
  have : b = true := h2.2 hP
  subst this
  exact ⟨h1, h3⟩
theorem says_not {P : Prop} {w w' : World} {e : Ending} (h : TellsB P w e w') (hP : ¬ P) : Says (.bool false) w e w' := by
  obtain ⟨b, h1, h2, h3⟩ := h
  cases b with
  | false => exact ⟨h1, h3⟩
  | true => exact absurd (h2.1 rfl) hP

/-- A box of four. -/
theorem box_new (w : World) (v0 v1 v2 v3 : Value) (t : TypeId) : ∃ W, W = w.alloc (.cells #[v0, v1, v2, v3] t) ∧ w.grownBy W none ∧ W.heap.size = w.heap.size + 1 ∧ ∀ W', W.grownBy W' none → W'.cell? ⟨w.heap.size, 0, none⟩ = some v0 ∧ W'.cell? ⟨w.heap.size, 1, none⟩ = some v1 ∧ W'.cell? ⟨w.heap.size, 2, none⟩ = some v2 ∧ W'.cell? ⟨w.heap.size, 3, none⟩ = some v3 :=
  ⟨_, rfl, grown_alloc _ _, by simp, fun W' h => box4 h⟩

def TellsAny (w : World) (e : Ending) (w' : World) : Prop := ∃ b, e = .returned (.bool b) ∧ w.grownBy w' none

end Go.Proofs.Ytaangdomdeklhaa
