/-
  No cell of these rows narrows 'for every input' (looked for: loops, veiled, ifaces, maps, wideKeys, modest, calm, conditions, laid).
  DERIVED. THE GIVEN ROWS OF THIS SEAT. 2 by the template 'for every input the law returns true; each argument reads behind the call as it read before'; 0 by the template 'total and deterministic' (their statements: YtaommgnlnfhbfaaTotals.lean).
  GIVEN WITH THE SEED: the statements are not yours to turn. If you find one false, say at which input.
  Laid BY PROGRAM, IN A SANDBOX (cutbox-rows.mjs): the forced cells as the released guide's own fill.sh prints them over the translation 94c06b1dd8f2bbaf… (all of the seat's roots in one cut). By AI agents, Wed Nov 11 2026. No macro, syntax, notation, axiom, sorry.
-/
import Derived.Test.YtaommgnlnfhbfaaChecked
import GoSem.Claim
import GoSem.ClaimJoined
import GoSem.ClaimMapViews
import Derived.JoinedTies
import Derived.KernelRfl
namespace Go.Proofs.Ytaommgnlnfhbfaa
/- THE CELL 'sum', in the pinned program and in every row, IS THE sha256 OF THE DUMP (.gsa) THAT YtaommgnlnfhbfaaProg.lean LOADS. Nothing in Lean hashes anything: it is a label: what it is worth is what the hold of that sum in a sandbox is worth. -/
noncomputable def Try.pinned : Pinned := { name := "ytaommgnlnfhbfaa", sum := "94c06b1dd8f2bbaf990e75c850bf834fc85ac013cbe77dd2ef59d98bd45b9445", checked := Try.checked }
namespace Rows
def none {H : Type} : Left H := { results := [], args := [] }

/-- 'evermorelaw.LogicReads': WHATEVER THE INPUT: true; the input reads as it did. -/
def logicReadsSpec : ChangeSpec := { name := "logicReads", fn := fun _ => fun
  | [d] => { results := [.lit (.bool true)], args := [d] }
  | _ => none }
def logicReadsRow : OpenClaim := { program := "ytaommgnlnfhbfaa", sum := "94c06b1dd8f2bbaf990e75c850bf834fc85ac013cbe77dd2ef59d98bd45b9445", func := "evermore/evermorelaw.LogicReads", spec := "logicReads", recurses := true, apart := false }
def LogicReadsSaid : Prop := logicReadsRow.holds Try.pinned (OpenSpec.ofChange logicReadsSpec)

/-- ITS FALSE NEIGHBOUR: 'it returns false'. Refute it at one input. -/
def logicReadsWrong : ChangeSpec := { name := "logicReads", fn := fun _ => fun
  | [d] => { results := [.lit (.bool false)], args := [d] }
  | _ => none }
def LogicReadsWrongFalsely : Prop := logicReadsRow.holds Try.pinned (OpenSpec.ofChange logicReadsWrong)

/-- 'evermorelaw.LogicHolds': WHATEVER THE INPUT: true; the input reads as it did. -/
def logicHoldsSpec : ChangeSpec := { name := "logicHolds", fn := fun _ => fun
  | [d1, d2] => { results := [.lit (.bool true)], args := [d1, d2] }
  | _ => none }
def logicHoldsRow : OpenClaim := { program := "ytaommgnlnfhbfaa", sum := "94c06b1dd8f2bbaf990e75c850bf834fc85ac013cbe77dd2ef59d98bd45b9445", func := "evermore/evermorelaw.LogicHolds", spec := "logicHolds", recurses := true, apart := false }
def LogicHoldsSaid : Prop := logicHoldsRow.holds Try.pinned (OpenSpec.ofChange logicHoldsSpec)

/-- ITS FALSE NEIGHBOUR: 'it returns false'. Refute it at one input. -/
def logicHoldsWrong : ChangeSpec := { name := "logicHolds", fn := fun _ => fun
  | [d1, d2] => { results := [.lit (.bool false)], args := [d1, d2] }
  | _ => none }
def LogicHoldsWrongFalsely : Prop := logicHoldsRow.holds Try.pinned (OpenSpec.ofChange logicHoldsWrong)

/- THE SECOND FORM. 'bulk': how many values and letters a reading holds, each counted each time it is reached (what is shared counts as often as it is met; a slice's spare places count too). A statement '..UptoSaid' is the law's where the arguments, and the package variables that the reading takes, are together of bulk at most 1048576: NARROWER than '..Said'. Prove '..Said' where nothing that the law and all that it calls make is longer than what came in: it says more and counts as full. Else prove '..UptoSaid'. A law counts once. -/
mutual
def uptoBulk {H : Type} : DataW H → Nat
  | .lit (.string bytes) => bytes.length + 1
  | .lit _ => 1
  | .nil => 1
  | .ptr d => uptoBulk d + 1
  | .slice elems spare => uptoBulkAll elems + uptoBulkAll spare + 1
  | .agg parts => uptoBulkAll parts + 1
  | .iface _ d => uptoBulk d + 1
  | .map entries => uptoBulkEntries entries + 1
  | .held _ => 1
def uptoBulkAll {H : Type} : List (DataW H) → Nat
  | [] => 0
  | d :: r => uptoBulk d + uptoBulkAll r
def uptoBulkEntries {H : Type} : List (Lit × DataW H) → Nat
  | [] => 0
  | x :: r => uptoBulkEntry x + uptoBulkEntries r
def uptoBulkEntry {H : Type} : Lit × DataW H → Nat
  | (.string bytes, d) => bytes.length + uptoBulk d + 1
  | (_, d) => uptoBulk d + 1
 end
def uptoSmall : (H : Type) → List (DataW H) → Bool := fun _ ds => decide (uptoBulkAll ds ≤ 1048576)
def OpenSpec.upto (s : _root_.Go.ChangeSpec) : _root_.Go.OpenSpec := { _root_.Go.OpenSpec.ofChange s with cond := some uptoSmall }

/-- 'evermorelaw.LogicReads', WHERE WHAT IT READS IS OF BULK AT MOST 1048576: true; the input reads as it did. -/
def logicReadsUptoRow : OpenClaim := { program := "ytaommgnlnfhbfaa", sum := "94c06b1dd8f2bbaf990e75c850bf834fc85ac013cbe77dd2ef59d98bd45b9445", func := "evermore/evermorelaw.LogicReads", spec := "logicReads", recurses := true, apart := false, narrowed := true }
def LogicReadsUptoSaid : Prop := logicReadsUptoRow.holds Try.pinned (OpenSpec.upto logicReadsSpec)

/-- 'evermorelaw.LogicHolds', WHERE WHAT IT READS IS OF BULK AT MOST 1048576: true; the input reads as it did. -/
def logicHoldsUptoRow : OpenClaim := { program := "ytaommgnlnfhbfaa", sum := "94c06b1dd8f2bbaf990e75c850bf834fc85ac013cbe77dd2ef59d98bd45b9445", func := "evermore/evermorelaw.LogicHolds", spec := "logicHolds", recurses := true, apart := false, narrowed := true }
def LogicHoldsUptoSaid : Prop := logicHoldsUptoRow.holds Try.pinned (OpenSpec.upto logicHoldsSpec)

end Rows
end Go.Proofs.Ytaommgnlnfhbfaa
