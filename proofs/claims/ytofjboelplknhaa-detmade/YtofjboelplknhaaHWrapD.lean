/- What is answered of a least automaton, with an error beside it; two boxes. -/
import Derived.Test.YtofjboelplknhaaHLeastD
import Derived.Test.YtofjboelplknhaaJoin
namespace Go.Proofs.Ytofjboelplknhaa
open Go.RowKit
set_option linter.unusedVariables false

theorem LeastPost.base {δ : Nat → Nat → Nat} {m : Nat → Bool} {n l S : Nat} {w W w' : World} {E : Ending} (h : LeastPost δ m n l S W E w') (hg : w.grownBy W none) : LeastPost δ m n l S w E w' := by
  obtain ⟨aR, cR, aM, cM, rs, M, h1, h2, h3, h4, h5, h6, h7⟩ := h
  exact ⟨aR, cR, aM, cM, rs, M, h1, h2, h3, h4, h5, h6.base hg.size, grown_trans hg h7⟩

def LeastGPost (δ : Nat → Nat → Nat) (m : Nat → Bool) (n l S : Nat) (w : World) (E : Ending) (w' : World) : Prop :=
  ∃ v, E = .returned (.tuple #[v, .int .i64 0]) ∧ LeastPost δ m n l S w (.returned v) w'
def LeastBPost (y : Int) (w : World) (E : Ending) (w' : World) : Prop :=
  E = .returned (.tuple #[.agg #[.int .i64 0, .int .i64 0, .slice none 0 0, .slice none 0 0], .int .i64 y]) ∧ w.grownBy w' none

/-- The box of what came in, and that of what goes out. -/
theorem two_boxes (w : World) (o : Obj) (o' : Array Value) (t : TypeId) : ∃ W1, W1 = (w.alloc o).alloc (.cells o' t) ∧ W1.heap.size = w.heap.size + 2 ∧ w.grownBy W1 none ∧ W1.heap[w.heap.size + 1]? = some (.cells o' t (0, 0)) :=
  ⟨_, rfl, by simp, grown_trans (grown_alloc _ _) (grown_alloc _ _), by have := heap_alloc_new (w.alloc o) (.cells o' t); simpa using this⟩

end Go.Proofs.Ytofjboelplknhaa
