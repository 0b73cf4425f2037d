/-
  DERIVED. GIVEN WITH THE SEED: THE CARDS: each row of YtjinibofbpgfjaaDoorRows.lean that lists a variable, with what it lists TIED to the program's text (the seventh form; the later family's looks); each row that meets fmt, with fmt's text TOLD by the authors' own Lean function (tested against real Go, not proved from fmt's source: count such statements apart). THE CARD IS WHAT COUNTS. Prove the row's statement (the work); the ties are given (YtjinibofbpgfjaaDoorTie.lean); close each card by the builder's one call (the guide's Derived/Test/ToyasCard.lean, 'card_holds'). Laid BY PROGRAM, IN A SANDBOX (cutbox-door.mjs). By AI agents, Wed Nov 11 2026. No macro, syntax, notation, axiom, sorry.
-/
import Derived.Test.YtjinibofbpgfjaaDoorRows
import GoSem.ClaimSeven
namespace Go.Proofs.YtjinibofbpgfjaaDoor
namespace Rows

/-- THE TIED CARD OF 'evermorelaw.WeighValues'. -/
def weighValuesCard : Claim7 := { stood := { row := weighValuesRow, standIns := [], harness := (true, "e78f5012406bfda079adf2a961ec1d045167803435a6feb979a9b0f312808b62"), looks := false }, kinds := [], alts := [], laidByText := true, laidKinds := [.data, .data, .data, .data, .pinned], laidTests := true, laidLooks := .later }
def WeighValuesCardSaid : Prop := Claim7.holds Tryd.pinned (.plain (OpenSpec.ofChange weighValuesSpec)) weighValuesCard

/-- THE TIED CARD OF 'evermoretop.TopCount'. -/
def topCountCard : Claim7 := { stood := { row := topCountRow, standIns := [], harness := (true, "e78f5012406bfda079adf2a961ec1d045167803435a6feb979a9b0f312808b62"), looks := false }, kinds := [], alts := [], laidByText := true, laidKinds := [.data, .data, .data, .data, .pinned], laidTests := true, laidLooks := .later }
def TopCountCardSaid : Prop := Claim7.holds Tryd.pinned (.plain (OpenSpec.ofChange topCountSpec)) topCountCard

/-- THE SECOND FORM's CARD OF 'evermorelaw.WeighValues'. -/
def weighValuesUptoCard : Claim7 := { stood := { row := weighValuesUptoRow, standIns := [], harness := (true, "e78f5012406bfda079adf2a961ec1d045167803435a6feb979a9b0f312808b62"), looks := false }, kinds := [], alts := [], laidByText := true, laidKinds := [.data, .data, .data, .data, .pinned], laidTests := true, laidLooks := .later }
def WeighValuesUptoCardSaid : Prop := Claim7.holds Tryd.pinned (.plain (OpenSpec.upto weighValuesSpec)) weighValuesUptoCard

/-- THE SECOND FORM's CARD OF 'evermoretop.TopCount'. -/
def topCountUptoCard : Claim7 := { stood := { row := topCountUptoRow, standIns := [], harness := (true, "e78f5012406bfda079adf2a961ec1d045167803435a6feb979a9b0f312808b62"), looks := false }, kinds := [], alts := [], laidByText := true, laidKinds := [.data, .data, .data, .data, .pinned], laidTests := true, laidLooks := .later }
def TopCountUptoCardSaid : Prop := Claim7.holds Tryd.pinned (.plain (OpenSpec.upto topCountSpec)) topCountUptoCard
end Rows
end Go.Proofs.YtjinibofbpgfjaaDoor
