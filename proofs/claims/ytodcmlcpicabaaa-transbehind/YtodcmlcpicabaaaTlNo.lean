/- One that is nothing: the law's noTrans of it. -/
import Derived.Test.YtodcmlcpicabaaaTlWithin
namespace Go.Proofs.Ytodcmlcpicabaaa
open Go.RowKit
set_option linter.unusedVariables false
set_option linter.unusedSimpArgs false

set_option maxHeartbeats 1600000 in
set_option maxRecDepth 100000 in
theorem noTrans_zero (w : World) : Calls Try.prog 11 #[tnZ] w (Says (.bool true) w) := by
  obtain ⟨W1, hW1, g1, s1, bx⟩ := box7_new w 0 0 0 none 0 0 none 0 0 none 0 0 none 0 0
  have HW1 : Hid (W1 = _) := hW1
  have G1 : Hid (w.grownBy W1 none) := g1
  have x0 := bx.b0
  have x1 := bx.b1
  have x2 := bx.b2
  have x3 := bx.b3
  have x4 := bx.b4
  have x5 := bx.b5
  have x6 := bx.b6
  rw [hW1] at x0 x1 x2 x3 x4 x5 x6
  clear hW1 g1 s1 bx
  go_enter Try.func11, Try.ntmps11
  go_wp2_with fail
  rw [← HW1.out]
  go_ret
  exact ⟨rfl, G1.out⟩

end Go.Proofs.Ytodcmlcpicabaaa
