/-
  DERIVED. GIVEN WITH THE SEED: THE CARDS: each row of YtkfhdbapfpongaaDoorRows.lean that lists a variable, with what it lists TIED to the program's text (the seventh form; the later family's looks); each row that meets fmt, with fmt's text TOLD by the authors' own Lean function (tested against real Go, not proved from fmt's source: count such statements apart). THE CARD IS WHAT COUNTS. Prove the row's statement (the work); the ties are given (YtkfhdbapfpongaaDoorTie.lean); close each card by the builder's one call (the guide's Derived/Test/ToyasCard.lean, 'card_holds'). Laid BY PROGRAM, IN A SANDBOX (cutbox-door.mjs). By AI agents, Wed Nov 11 2026. No macro, syntax, notation, axiom, sorry.
-/
import Derived.Test.YtkfhdbapfpongaaDoorRows
import GoSem.ClaimSeven
namespace Go.Proofs.YtkfhdbapfpongaaDoor
namespace Rows

/-- THE TIED CARD OF 'evermorelaw.DetAccepts'. -/
def detAcceptsCard : Claim7 := { stood := { row := detAcceptsRow, standIns := [], harness := (true, "10921eff73c6db6b92510bc2fc1b97ec319041ccf3fda605f8a3cf0f2ef066ea"), looks := false }, kinds := [], alts := [], laidByText := true, laidKinds := [.data, .data, .data], laidTests := true, laidLooks := .later }
def DetAcceptsCardSaid : Prop := Claim7.holds Tryd.pinned (.plain (OpenSpec.ofChange detAcceptsSpec)) detAcceptsCard

/-- THE SECOND FORM's CARD OF 'evermorelaw.DetAccepts'. -/
def detAcceptsUptoCard : Claim7 := { stood := { row := detAcceptsUptoRow, standIns := [], harness := (true, "10921eff73c6db6b92510bc2fc1b97ec319041ccf3fda605f8a3cf0f2ef066ea"), looks := false }, kinds := [], alts := [], laidByText := true, laidKinds := [.data, .data, .data], laidTests := true, laidLooks := .later }
def DetAcceptsUptoCardSaid : Prop := Claim7.holds Tryd.pinned (.plain (OpenSpec.upto detAcceptsSpec)) detAcceptsUptoCard
end Rows
end Go.Proofs.YtkfhdbapfpongaaDoor
