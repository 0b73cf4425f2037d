/-
  DERIVED. GIVEN WITH THE SEED: THE CARDS: each row of YtepldeogcoigkaaDoorRows.lean that lists a variable, with what it lists TIED to the program's text (the seventh form; the later family's looks); each row that meets fmt, with fmt's text TOLD by the authors' own Lean function (tested against real Go, not proved from fmt's source: count such statements apart). THE CARD IS WHAT COUNTS. Prove the row's statement (the work); the ties are given (YtepldeogcoigkaaDoorTie.lean); close each card by the builder's one call (the guide's Derived/Test/ToyasCard.lean, 'card_holds'). Laid BY PROGRAM, IN A SANDBOX (cutbox-door.mjs). By AI agents, Wed Nov 11 2026. No macro, syntax, notation, axiom, sorry.
-/
import Derived.Test.YtepldeogcoigkaaDoorRows
import GoSem.ClaimSeven
namespace Go.Proofs.YtepldeogcoigkaaDoor
namespace Rows

/-- THE TIED CARD OF 'evermorelaw.RegularHas'. -/
def regularHasCard : Claim7 := { stood := { row := regularHasRow, standIns := [], harness := (true, "ca453c82cf08c9185189e11608affa41b95be3cc4eeaabc90d6b181fa1d3815e"), looks := true }, kinds := [], alts := [], laidByText := true, laidKinds := [.data], laidTests := true, laidLooks := .later }
def RegularHasCardSaid : Prop := Claim7.holds Tryd.pinned (.plain (OpenSpec.ofChange regularHasSpec)) regularHasCard

/-- THE SECOND FORM's CARD OF 'evermorelaw.RegularHas'. -/
def regularHasUptoCard : Claim7 := { stood := { row := regularHasUptoRow, standIns := [], harness := (true, "ca453c82cf08c9185189e11608affa41b95be3cc4eeaabc90d6b181fa1d3815e"), looks := true }, kinds := [], alts := [], laidByText := true, laidKinds := [.data], laidTests := true, laidLooks := .later }
def RegularHasUptoCardSaid : Prop := Claim7.holds Tryd.pinned (.plain (OpenSpec.upto regularHasSpec)) regularHasUptoCard
end Rows
end Go.Proofs.YtepldeogcoigkaaDoor
