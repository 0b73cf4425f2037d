/-
  DERIVED. GIVEN WITH THE SEED: THE CARDS: each row of YthicninnchbieaaDoorRows.lean that lists a variable, with what it lists TIED to the program's text (the seventh form; the later family's looks); each row that meets fmt, with fmt's text TOLD by the authors' own Lean function (tested against real Go, not proved from fmt's source: count such statements apart). THE CARD IS WHAT COUNTS. Prove the row's statement (the work); the ties are given (YthicninnchbieaaDoorTie.lean); close each card by the builder's one call (the guide's Derived/Test/ToyasCard.lean, 'card_holds'). Laid BY PROGRAM, IN A SANDBOX (cutbox-door.mjs). By AI agents, Wed Nov 11 2026. No macro, syntax, notation, axiom, sorry.
-/
import Derived.Test.YthicninnchbieaaDoorRows
import GoSem.ClaimSeven
namespace Go.Proofs.YthicninnchbieaaDoor
namespace Rows

/-- THE TIED CARD OF 'evermorelaw.RegularDet'. -/
def regularDetCard : Claim7 := { stood := { row := regularDetRow, standIns := [], harness := (true, "abfee4dfac495cab9bf8c61a36b8cb8eeab1e0124c1f0d2522be9c726da01147"), looks := true }, kinds := [], alts := [], laidByText := true, laidKinds := [.data], laidTests := true, laidLooks := .later }
def RegularDetCardSaid : Prop := Claim7.holds Tryd.pinned (.plain (OpenSpec.ofChange regularDetSpec)) regularDetCard

/-- THE TIED CARD OF 'evermorekeep.RegularSums'. -/
def regularSumsCard : Claim7 := { stood := { row := regularSumsRow, standIns := [], harness := (true, "abfee4dfac495cab9bf8c61a36b8cb8eeab1e0124c1f0d2522be9c726da01147"), looks := true }, kinds := [], alts := [], laidByText := true, laidKinds := [.data], laidTests := true, laidLooks := .later }
def RegularSumsCardSaid : Prop := Claim7.holds Tryd.pinned (.plain (OpenSpec.ofChange regularSumsSpec)) regularSumsCard

/-- THE TIED CARD OF 'evermorelaw.DetAccepts'. -/
def detAcceptsCard : Claim7 := { stood := { row := detAcceptsRow, standIns := [], harness := (true, "abfee4dfac495cab9bf8c61a36b8cb8eeab1e0124c1f0d2522be9c726da01147"), looks := true }, kinds := [], alts := [], laidByText := true, laidKinds := [.data, .data, .data], laidTests := true, laidLooks := .later }
def DetAcceptsCardSaid : Prop := Claim7.holds Tryd.pinned (.plain (OpenSpec.ofChange detAcceptsSpec)) detAcceptsCard

/-- THE SECOND FORM's CARD OF 'evermorelaw.RegularDet'. -/
def regularDetUptoCard : Claim7 := { stood := { row := regularDetUptoRow, standIns := [], harness := (true, "abfee4dfac495cab9bf8c61a36b8cb8eeab1e0124c1f0d2522be9c726da01147"), looks := true }, kinds := [], alts := [], laidByText := true, laidKinds := [.data], laidTests := true, laidLooks := .later }
def RegularDetUptoCardSaid : Prop := Claim7.holds Tryd.pinned (.plain (OpenSpec.upto regularDetSpec)) regularDetUptoCard

/-- THE SECOND FORM's CARD OF 'evermorekeep.RegularSums'. -/
def regularSumsUptoCard : Claim7 := { stood := { row := regularSumsUptoRow, standIns := [], harness := (true, "abfee4dfac495cab9bf8c61a36b8cb8eeab1e0124c1f0d2522be9c726da01147"), looks := true }, kinds := [], alts := [], laidByText := true, laidKinds := [.data], laidTests := true, laidLooks := .later }
def RegularSumsUptoCardSaid : Prop := Claim7.holds Tryd.pinned (.plain (OpenSpec.upto regularSumsSpec)) regularSumsUptoCard

/-- THE SECOND FORM's CARD OF 'evermorelaw.DetAccepts'. -/
def detAcceptsUptoCard : Claim7 := { stood := { row := detAcceptsUptoRow, standIns := [], harness := (true, "abfee4dfac495cab9bf8c61a36b8cb8eeab1e0124c1f0d2522be9c726da01147"), looks := true }, kinds := [], alts := [], laidByText := true, laidKinds := [.data, .data, .data], laidTests := true, laidLooks := .later }
def DetAcceptsUptoCardSaid : Prop := Claim7.holds Tryd.pinned (.plain (OpenSpec.upto detAcceptsSpec)) detAcceptsUptoCard
end Rows
end Go.Proofs.YthicninnchbieaaDoor
