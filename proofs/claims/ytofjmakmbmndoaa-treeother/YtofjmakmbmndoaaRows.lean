/-
  No cell of these rows narrows 'for every input' (looked for: loops, veiled, ifaces, maps, wideKeys, modest, calm, conditions, laid).
  DERIVED. THE GIVEN ROWS OF THIS SEAT. 3 by the template 'for every input the law returns true; each argument reads behind the call as it read before'; 0 by the template 'total and deterministic' (their statements: YtofjmakmbmndoaaTotals.lean).
  GIVEN WITH THE SEED: the statements are not yours to turn. If you find one false, say at which input.
  Laid BY PROGRAM, IN A SANDBOX (cutbox-rows.mjs): the forced cells as the released guide's own fill.sh prints them over the translation de3d18347941a8db… (all of the seat's roots in one cut). By AI agents, Wed Nov 11 2026. No macro, syntax, notation, axiom, sorry.
-/
import Derived.Test.YtofjmakmbmndoaaChecked
import GoSem.Claim
import GoSem.ClaimJoined
import GoSem.ClaimMapViews
import Derived.JoinedTies
import Derived.KernelRfl
namespace Go.Proofs.Ytofjmakmbmndoaa
/- THE CELL 'sum', in the pinned program and in every row, IS THE sha256 OF THE DUMP (.gsa) THAT YtofjmakmbmndoaaProg.lean LOADS. Nothing in Lean hashes anything: it is a label: what it is worth is what the hold of that sum in a sandbox is worth. -/
noncomputable def Try.pinned : Pinned := { name := "ytofjmakmbmndoaa", sum := "de3d18347941a8dbe4bba1a04e229ed4ee84327dd982df42b69f20eefdb0d2df", checked := Try.checked }
namespace Rows
def none {H : Type} : Left H := { results := [], args := [] }

/-- 'evermorelaw.TreeAccepts': WHATEVER THE INPUT: true; the input reads as it did. -/
def treeAcceptsSpec : ChangeSpec := { name := "treeAccepts", fn := fun _ => fun
  | [d1, d2, d3] => { results := [.lit (.bool true)], args := [d1, d2, d3] }
  | _ => none }
def treeAcceptsRow : OpenClaim := { program := "ytofjmakmbmndoaa", sum := "de3d18347941a8dbe4bba1a04e229ed4ee84327dd982df42b69f20eefdb0d2df", func := "evermore/evermorelaw.TreeAccepts", spec := "treeAccepts", unfollowed := true, recurses := true, apart := false }
def TreeAcceptsSaid : Prop := treeAcceptsRow.holds Try.pinned (OpenSpec.ofChange treeAcceptsSpec)

/-- ITS FALSE NEIGHBOUR: 'it returns false'. Refute it at one input. -/
def treeAcceptsWrong : ChangeSpec := { name := "treeAccepts", fn := fun _ => fun
  | [d1, d2, d3] => { results := [.lit (.bool false)], args := [d1, d2, d3] }
  | _ => none }
def TreeAcceptsWrongFalsely : Prop := treeAcceptsRow.holds Try.pinned (OpenSpec.ofChange treeAcceptsWrong)

/-- 'evermorelaw.TreeSome': WHATEVER THE INPUT: true; the input reads as it did. -/
def treeSomeSpec : ChangeSpec := { name := "treeSome", fn := fun _ => fun
  | [d] => { results := [.lit (.bool true)], args := [d] }
  | _ => none }
def treeSomeRow : OpenClaim := { program := "ytofjmakmbmndoaa", sum := "de3d18347941a8dbe4bba1a04e229ed4ee84327dd982df42b69f20eefdb0d2df", func := "evermore/evermorelaw.TreeSome", spec := "treeSome", recurses := true, apart := false }
def TreeSomeSaid : Prop := treeSomeRow.holds Try.pinned (OpenSpec.ofChange treeSomeSpec)

/-- ITS FALSE NEIGHBOUR: 'it returns false'. Refute it at one input. -/
def treeSomeWrong : ChangeSpec := { name := "treeSome", fn := fun _ => fun
  | [d] => { results := [.lit (.bool false)], args := [d] }
  | _ => none }
def TreeSomeWrongFalsely : Prop := treeSomeRow.holds Try.pinned (OpenSpec.ofChange treeSomeWrong)

/-- 'evermorelaw.TreeOther': WHATEVER THE INPUT: true; the input reads as it did. -/
def treeOtherSpec : ChangeSpec := { name := "treeOther", fn := fun _ => fun
  | [d1, d2] => { results := [.lit (.bool true)], args := [d1, d2] }
  | _ => none }
def treeOtherRow : OpenClaim := { program := "ytofjmakmbmndoaa", sum := "de3d18347941a8dbe4bba1a04e229ed4ee84327dd982df42b69f20eefdb0d2df", func := "evermore/evermorelaw.TreeOther", spec := "treeOther", unfollowed := true, recurses := true, apart := false }
def TreeOtherSaid : Prop := treeOtherRow.holds Try.pinned (OpenSpec.ofChange treeOtherSpec)

/-- ITS FALSE NEIGHBOUR: 'it returns false'. Refute it at one input. -/
def treeOtherWrong : ChangeSpec := { name := "treeOther", fn := fun _ => fun
  | [d1, d2] => { results := [.lit (.bool false)], args := [d1, d2] }
  | _ => none }
def TreeOtherWrongFalsely : Prop := treeOtherRow.holds Try.pinned (OpenSpec.ofChange treeOtherWrong)

/- THE SECOND FORM. 'bulk': how many values and letters a reading holds, each counted each time it is reached (what is shared counts as often as it is met; a slice's spare places count too). A statement '..UptoSaid' is the law's where the arguments, and the package variables that the reading takes, are together of bulk at most 1048576: NARROWER than '..Said'. Prove '..Said' where nothing that the law and all that it calls make is longer than what came in: it says more and counts as full. Else prove '..UptoSaid'. A law counts once. -/
mutual
def uptoBulk {H : Type} : DataW H → Nat
  | .lit (.string bytes) => bytes.length + 1
  | .lit _ => 1
  | .nil => 1
  | .ptr d => uptoBulk d + 1
  | .slice elems spare => uptoBulkAll elems + uptoBulkAll spare + 1
  | .agg parts => uptoBulkAll parts + 1
  | .iface _ d => uptoBulk d + 1
  | .map entries => uptoBulkEntries entries + 1
  | .held _ => 1
def uptoBulkAll {H : Type} : List (DataW H) → Nat
  | [] => 0
  | d :: r => uptoBulk d + uptoBulkAll r
def uptoBulkEntries {H : Type} : List (Lit × DataW H) → Nat
  | [] => 0
  | x :: r => uptoBulkEntry x + uptoBulkEntries r
def uptoBulkEntry {H : Type} : Lit × DataW H → Nat
  | (.string bytes, d) => bytes.length + uptoBulk d + 1
  | (_, d) => uptoBulk d + 1
 end
def uptoSmall : (H : Type) → List (DataW H) → Bool := fun _ ds => decide (uptoBulkAll ds ≤ 1048576)
def OpenSpec.upto (s : _root_.Go.ChangeSpec) : _root_.Go.OpenSpec := { _root_.Go.OpenSpec.ofChange s with cond := some uptoSmall }

/-- 'evermorelaw.TreeAccepts', WHERE WHAT IT READS IS OF BULK AT MOST 1048576: true; the input reads as it did. -/
def treeAcceptsUptoRow : OpenClaim := { program := "ytofjmakmbmndoaa", sum := "de3d18347941a8dbe4bba1a04e229ed4ee84327dd982df42b69f20eefdb0d2df", func := "evermore/evermorelaw.TreeAccepts", spec := "treeAccepts", unfollowed := true, recurses := true, apart := false, narrowed := true }
def TreeAcceptsUptoSaid : Prop := treeAcceptsUptoRow.holds Try.pinned (OpenSpec.upto treeAcceptsSpec)

/-- 'evermorelaw.TreeSome', WHERE WHAT IT READS IS OF BULK AT MOST 1048576: true; the input reads as it did. -/
def treeSomeUptoRow : OpenClaim := { program := "ytofjmakmbmndoaa", sum := "de3d18347941a8dbe4bba1a04e229ed4ee84327dd982df42b69f20eefdb0d2df", func := "evermore/evermorelaw.TreeSome", spec := "treeSome", recurses := true, apart := false, narrowed := true }
def TreeSomeUptoSaid : Prop := treeSomeUptoRow.holds Try.pinned (OpenSpec.upto treeSomeSpec)

/-- 'evermorelaw.TreeOther', WHERE WHAT IT READS IS OF BULK AT MOST 1048576: true; the input reads as it did. -/
def treeOtherUptoRow : OpenClaim := { program := "ytofjmakmbmndoaa", sum := "de3d18347941a8dbe4bba1a04e229ed4ee84327dd982df42b69f20eefdb0d2df", func := "evermore/evermorelaw.TreeOther", spec := "treeOther", unfollowed := true, recurses := true, apart := false, narrowed := true }
def TreeOtherUptoSaid : Prop := treeOtherUptoRow.holds Try.pinned (OpenSpec.upto treeOtherSpec)

end Rows
end Go.Proofs.Ytofjmakmbmndoaa
