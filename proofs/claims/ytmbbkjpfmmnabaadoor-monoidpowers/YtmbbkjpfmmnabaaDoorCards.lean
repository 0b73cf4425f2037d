/-
  DERIVED. GIVEN WITH THE SEED: THE CARDS: each row of YtmbbkjpfmmnabaaDoorRows.lean that lists a variable, with what it lists TIED to the program's text (the seventh form; the later family's looks); each row that meets fmt, with fmt's text TOLD by the authors' own Lean function (tested against real Go, not proved from fmt's source: count such statements apart). THE CARD IS WHAT COUNTS. Prove the row's statement (the work); the ties are given (YtmbbkjpfmmnabaaDoorTie.lean); close each card by the builder's one call (the guide's Derived/Test/ToyasCard.lean, 'card_holds'). Laid BY PROGRAM, IN A SANDBOX (cutbox-door.mjs). By AI agents, Wed Nov 11 2026. No macro, syntax, notation, axiom, sorry.
-/
import Derived.Test.YtmbbkjpfmmnabaaDoorRows
import GoSem.ClaimSeven
namespace Go.Proofs.YtmbbkjpfmmnabaaDoor
namespace Rows

/-- THE TIED CARD OF 'evermorelaw.RegularDet'. -/
def regularDetCard : Claim7 := { stood := { row := regularDetRow, standIns := [], harness := (true, "5eba064b708e6ac19099b0b7f568f8fe782bec24c32f4f15318a81a74aeabe4c"), looks := true }, kinds := [], alts := [], laidByText := true, laidKinds := [.data], laidTests := true, laidLooks := .later }
def RegularDetCardSaid : Prop := Claim7.holds Tryd.pinned (.plain (OpenSpec.ofChange regularDetSpec)) regularDetCard

/-- THE TIED CARD OF 'evermorekeep.DetLaws'. -/
def detLawsCard : Claim7 := { stood := { row := detLawsRow, standIns := [], harness := (true, "5eba064b708e6ac19099b0b7f568f8fe782bec24c32f4f15318a81a74aeabe4c"), looks := true }, kinds := [], alts := [], laidByText := true, laidKinds := [.data], laidTests := true, laidLooks := .later }
def DetLawsCardSaid : Prop := Claim7.holds Tryd.pinned (.plain (OpenSpec.ofChange detLawsSpec)) detLawsCard

/-- THE TIED CARD OF 'evermorekeep.MonoidPowers'. -/
def monoidPowersCard : Claim7 := { stood := { row := monoidPowersRow, standIns := [], harness := (true, "5eba064b708e6ac19099b0b7f568f8fe782bec24c32f4f15318a81a74aeabe4c"), looks := true }, kinds := [], alts := [], laidByText := true, laidKinds := [.data], laidTests := true, laidLooks := .later }
def MonoidPowersCardSaid : Prop := Claim7.holds Tryd.pinned (.plain (OpenSpec.ofChange monoidPowersSpec)) monoidPowersCard

/-- THE SECOND FORM's CARD OF 'evermorelaw.RegularDet'. -/
def regularDetUptoCard : Claim7 := { stood := { row := regularDetUptoRow, standIns := [], harness := (true, "5eba064b708e6ac19099b0b7f568f8fe782bec24c32f4f15318a81a74aeabe4c"), looks := true }, kinds := [], alts := [], laidByText := true, laidKinds := [.data], laidTests := true, laidLooks := .later }
def RegularDetUptoCardSaid : Prop := Claim7.holds Tryd.pinned (.plain (OpenSpec.upto regularDetSpec)) regularDetUptoCard

/-- THE SECOND FORM's CARD OF 'evermorekeep.DetLaws'. -/
def detLawsUptoCard : Claim7 := { stood := { row := detLawsUptoRow, standIns := [], harness := (true, "5eba064b708e6ac19099b0b7f568f8fe782bec24c32f4f15318a81a74aeabe4c"), looks := true }, kinds := [], alts := [], laidByText := true, laidKinds := [.data], laidTests := true, laidLooks := .later }
def DetLawsUptoCardSaid : Prop := Claim7.holds Tryd.pinned (.plain (OpenSpec.upto detLawsSpec)) detLawsUptoCard

/-- THE SECOND FORM's CARD OF 'evermorekeep.MonoidPowers'. -/
def monoidPowersUptoCard : Claim7 := { stood := { row := monoidPowersUptoRow, standIns := [], harness := (true, "5eba064b708e6ac19099b0b7f568f8fe782bec24c32f4f15318a81a74aeabe4c"), looks := true }, kinds := [], alts := [], laidByText := true, laidKinds := [.data], laidTests := true, laidLooks := .later }
def MonoidPowersUptoCardSaid : Prop := Claim7.holds Tryd.pinned (.plain (OpenSpec.upto monoidPowersSpec)) monoidPowersUptoCard
end Rows
end Go.Proofs.YtmbbkjpfmmnabaaDoor
