/- A truth that is told. -/
/- What calls answer, in a word. -/
/- A truth that is told. -/
/- What calls answer, in a word; a box of four. -/
import Derived.Test.YtcgkflddipflbaaDBs
import Derived.Test.YtcgkflddipflbaaGrow
namespace Go.Proofs.Ytcgkflddipflbaa
open Go.RowKit
set_option linter.unusedVariables false

/-- A truth is told, and nothing old has turned. -/
def TellsB (P : Prop) (w : World) (e : Ending) (w' : World) : Prop := ∃ b, e = .returned (.bool b) ∧ (b = true ↔ P) ∧ w.grownBy w' none
theorem tellsB {P : Prop} {w w' : World} {e : Ending} (b : Bool) (he : e = .returned (.bool b)) (hb : b = true ↔ P) (hg : w.grownBy w' none) : TellsB P w e w' := ⟨b, he, hb, hg⟩

end Go.Proofs.Ytcgkflddipflbaa

namespace Go.Proofs.Ytcgkflddipflbaa
set_option linter.unusedVariables false

/-- A call that answers a known value and writes nothing that was there. -/
def Says (v : Value) (w : World) (e : Ending) (w' : World) : Prop := e = .returned v ∧ w.grownBy w' none

end Go.Proofs.Ytcgkflddipflbaa

namespace Go.Proofs.Ytcgkflddipflbaa
open Go.RowKit
set_option linter.unusedVariables false

def Shaped (L : Int) (R : List (List Int)) (M : List Int) : Prop := M.length = R.length ∧ ∀ i, i < R.length → ((R.getD i []).length : Int) = L

theorem box4 {w wr : World} {v0 v1 v2 v3 : Value} {t : TypeId} (h : (w.alloc (.cells #[v0, v1, v2, v3] t)).grownBy wr none) :
    wr.cell? ⟨w.heap.size, 0, none⟩ = some v0 ∧ wr.cell? ⟨w.heap.size, 1, none⟩ = some v1 ∧ wr.cell? ⟨w.heap.size, 2, none⟩ = some v2 ∧ wr.cell? ⟨w.heap.size, 3, none⟩ = some v3 := by
  have hb := heap_alloc_new w (.cells #[v0, v1, v2, v3] t)
  have hc : ∀ k v, #[v0, v1, v2, v3][k]? = some v → wr.cell? ⟨w.heap.size, k, none⟩ = some v := fun k v hv => h.cell (by rw [cell_of_row _ _ k _ _ (0, 0) hb]; exact hv) (by simp)
  exact ⟨hc 0 _ rfl, hc 1 _ rfl, hc 2 _ rfl, hc 3 _ rfl⟩

end Go.Proofs.Ytcgkflddipflbaa

namespace Go.Proofs.Ytcgkflddipflbaa
open Go.RowKit
set_option linter.unusedVariables false

/-- An automaton as a value. -/
abbrev detV (L S : Int) (a : Option Addr) (n c : Nat) (a' : Option Addr) (n' c' : Nat) : Value := .agg #[.int .i64 L, .int .i64 S, .slice a n c, .slice a' n' c']
theorem says_of_tells {P : Prop} {w w' : World} {e : Ending} (h : TellsB P w e w') (hP : P) : Says (.bool true) w e w' := by
  obtain ⟨b, h1, h2, h3⟩ := h
  have : b = true := h2.2 hP
  subst this
  exact ⟨h1, h3⟩
theorem says_not {P : Prop} {w w' : World} {e : Ending} (h : TellsB P w e w') (hP : ¬ P) : Says (.bool false) w e w' := by
  obtain ⟨b, h1, h2, h3⟩ := h
  cases b with
  | false => exact ⟨h1, h3⟩
  | true => exact absurd (h2.1 rfl) hP

/-- A box of four. -/
theorem box_new (w : World) (v0 v1 v2 v3 : Value) (t : TypeId) : ∃ W, W = w.alloc (.cells #[v0, v1, v2, v3] t) ∧ w.grownBy W none ∧ W.heap.size = w.heap.size + 1 ∧ ∀ W', W.grownBy W' none → W'.cell? ⟨w.heap.size, 0, none⟩ = some v0 ∧ W'.cell? ⟨w.heap.size, 1, none⟩ = some v1 ∧ W'.cell? ⟨w.heap.size, 2, none⟩ = some v2 ∧ W'.cell? ⟨w.heap.size, 3, none⟩ = some v3 :=
  ⟨_, rfl, grown_alloc _ _, by simp, fun W' h => box4 h⟩

def TellsAny (w : World) (e : Ending) (w' : World) : Prop := ∃ b, e = .returned (.bool b) ∧ w.grownBy w' none

end Go.Proofs.Ytcgkflddipflbaa
