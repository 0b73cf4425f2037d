/- Where a state stands in a list with room ahead for none. -/
import Derived.Test.YtofjmakmbmndoaaTrBase
namespace Go.Proofs.Ytofjmakmbmndoaa
open Go.RowKit
set_option linter.unusedVariables false

theorem place_any (s : Int) (p : Nat) (hp : s + 1 = p) (hs : p ≤ 1000000) (w : World) : Calls Try.prog 28 #[.int .i64 s] w fun e w' => e = .returned (.int .i64 (p : Int)) ∧ w' = w := by
  have hw : IntKind.i64.wrap (s - -1) = (p : Int) := by rw [IntKind.wrap_i64]; omega
  have hw2 : IntKind.i64.wrap (s + 1) = (p : Int) := by rw [IntKind.wrap_i64]; omega
  clear hp
  go_enter Try.func28, Try.ntmps28
  go_wp2_with fail
  go_ret
  exact ⟨rfl, rfl⟩

end Go.Proofs.Ytofjmakmbmndoaa
