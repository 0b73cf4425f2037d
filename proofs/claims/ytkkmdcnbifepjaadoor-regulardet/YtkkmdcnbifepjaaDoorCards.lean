/-
  DERIVED. GIVEN WITH THE SEED: THE CARDS: each row of YtkkmdcnbifepjaaDoorRows.lean that lists a variable, with what it lists TIED to the program's text (the seventh form; the later family's looks); each row that meets fmt, with fmt's text TOLD by the authors' own Lean function (tested against real Go, not proved from fmt's source: count such statements apart). THE CARD IS WHAT COUNTS. Prove the row's statement (the work); the ties are given (YtkkmdcnbifepjaaDoorTie.lean); close each card by the builder's one call (the guide's Derived/Test/ToyasCard.lean, 'card_holds'). Laid BY PROGRAM, IN A SANDBOX (cutbox-door.mjs). By AI agents, Wed Nov 11 2026. No macro, syntax, notation, axiom, sorry.
-/
import Derived.Test.YtkkmdcnbifepjaaDoorRows
import GoSem.ClaimSeven
namespace Go.Proofs.YtkkmdcnbifepjaaDoor
namespace Rows

/-- THE TIED CARD OF 'evermorelaw.RegularDet'. -/
def regularDetCard : Claim7 := { stood := { row := regularDetRow, standIns := [], harness := (true, "36cdf6bba356856429cfaddd6c86e6abbaaa4e9cb054db7d744994ad9126ddc1"), looks := true }, kinds := [], alts := [], laidByText := true, laidKinds := [.data], laidTests := true, laidLooks := .later }
def RegularDetCardSaid : Prop := Claim7.holds Tryd.pinned (.plain (OpenSpec.ofChange regularDetSpec)) regularDetCard

/-- THE TIED CARD OF 'evermorekeep.RegularSums'. -/
def regularSumsCard : Claim7 := { stood := { row := regularSumsRow, standIns := [], harness := (true, "36cdf6bba356856429cfaddd6c86e6abbaaa4e9cb054db7d744994ad9126ddc1"), looks := true }, kinds := [], alts := [], laidByText := true, laidKinds := [.data], laidTests := true, laidLooks := .later }
def RegularSumsCardSaid : Prop := Claim7.holds Tryd.pinned (.plain (OpenSpec.ofChange regularSumsSpec)) regularSumsCard

/-- THE SECOND FORM's CARD OF 'evermorelaw.RegularDet'. -/
def regularDetUptoCard : Claim7 := { stood := { row := regularDetUptoRow, standIns := [], harness := (true, "36cdf6bba356856429cfaddd6c86e6abbaaa4e9cb054db7d744994ad9126ddc1"), looks := true }, kinds := [], alts := [], laidByText := true, laidKinds := [.data], laidTests := true, laidLooks := .later }
def RegularDetUptoCardSaid : Prop := Claim7.holds Tryd.pinned (.plain (OpenSpec.upto regularDetSpec)) regularDetUptoCard

/-- THE SECOND FORM's CARD OF 'evermorekeep.RegularSums'. -/
def regularSumsUptoCard : Claim7 := { stood := { row := regularSumsUptoRow, standIns := [], harness := (true, "36cdf6bba356856429cfaddd6c86e6abbaaa4e9cb054db7d744994ad9126ddc1"), looks := true }, kinds := [], alts := [], laidByText := true, laidKinds := [.data], laidTests := true, laidLooks := .later }
def RegularSumsUptoCardSaid : Prop := Claim7.holds Tryd.pinned (.plain (OpenSpec.upto regularSumsSpec)) regularSumsUptoCard
end Rows
end Go.Proofs.YtkkmdcnbifepjaaDoor
