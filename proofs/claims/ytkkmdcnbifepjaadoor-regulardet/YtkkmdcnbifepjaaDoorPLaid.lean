/- The library's table, as its initialiser lays it. -/
import Derived.Test.YtkkmdcnbifepjaaDoorPTab
import Derived.Test.YtkkmdcnbifepjaaDoorRows
import Derived.Lib.LaidTab
import Derived.LaidMore
import Derived.Stop.Joined
namespace Go.Proofs.YtkkmdcnbifepjaaDoor
open Go.ChangeShapes Go.WideShapes Go.ChangeAt Go.RowKit Go.Joins
set_option linter.unusedVariables false

theorem own32 : ownKnob Tryd.prog.godebug = none := by kernel_rfl
theorem gTab32 : Tryd.prog.globalNamed "math/bits.deBruijn32tab" = some 0 := by kernel_rfl
theorem gTab32Type : (Tryd.prog.globals[0]?).map (·.type) = some 127 := by kernel_rfl
theorem Tryd.cells5 : Tryd.prog.cellsOf 5 = 1 := by kernel_rfl
theorem Tryd.cellsTab32 : Tryd.prog.cellsOf 127 = 32 := by kernel_rfl
abbrev laid32 : List (String × DataW Unit) := [("math/bits.deBruijn32tab", Rows.laid_math_bits_deBruijn32tab)]
theorem door32 (os : Os) (args : Array Value) : laidMetH Tryd.prog laid32 ((World.doorLaid Tryd.prog 400 os).forCall (fun _ _ => 0) ⟨#[], args, []⟩).memory :=
  laidMetH_of_parts3 (fuel := 8) (laidMet_of_run' 8 (by kernel_rfl) (by kernel_rfl)) (by kernel_rfl) (by kernel_rfl)
theorem tab32_of_laid {W : World} (h : laidMetH Tryd.prog laid32 W) : Tab32 W := by
  rw [MakeChecks.laidMetH_plain _ _ _ (by kernel_rfl)] at h
  have hT := Lib.tabIs_of_head (zs := Lib.deBruijn32tab.map Int.ofNat) (k := .u8) (rest := []) gTab32 gTab32Type Tryd.underlying127 Tryd.underlying5 Tryd.cells5 Tryd.cellsTab32 h
  intro j hj
  have := hT.cell gTab32 j (by simpa using hj)
  rw [this]
  simp [List.getD, hj]

end Go.Proofs.YtkkmdcnbifepjaaDoor
