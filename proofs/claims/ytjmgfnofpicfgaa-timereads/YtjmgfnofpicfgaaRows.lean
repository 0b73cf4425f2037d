/-
  No cell of these rows narrows 'for every input' (looked for: loops, veiled, ifaces, maps, wideKeys, modest, calm, conditions, laid).
  DERIVED. THE GIVEN ROWS OF THIS SEAT. 4 by the template 'for every input the law returns true; each argument reads behind the call as it read before'; 0 by the template 'total and deterministic' (their statements: YtjmgfnofpicfgaaTotals.lean).
  GIVEN WITH THE SEED: the statements are not yours to turn. If you find one false, say at which input.
  Laid BY PROGRAM, IN A SANDBOX (cutbox-rows.mjs): the forced cells as the released guide's own fill.sh prints them over the translation d9a39ac7b2fb5386… (all of the seat's roots in one cut). By AI agents, Wed Nov 11 2026. No macro, syntax, notation, axiom, sorry.
-/
import Derived.Test.YtjmgfnofpicfgaaChecked
import GoSem.Claim
import GoSem.ClaimJoined
import GoSem.ClaimMapViews
import Derived.JoinedTies
import Derived.KernelRfl
namespace Go.Proofs.Ytjmgfnofpicfgaa
/- THE CELL 'sum', in the pinned program and in every row, IS THE sha256 OF THE DUMP (.gsa) THAT YtjmgfnofpicfgaaProg.lean LOADS. Nothing in Lean hashes anything: it is a label: what it is worth is what the hold of that sum in a sandbox is worth. -/
noncomputable def Try.pinned : Pinned := { name := "ytjmgfnofpicfgaa", sum := "d9a39ac7b2fb53865759be625e37f3022123e315e0c60a1a1e68234b7a975a54", checked := Try.checked }
namespace Rows
def none {H : Type} : Left H := { results := [], args := [] }

/-- 'evermorelaw.TimeReads': WHATEVER THE INPUT: true; the input reads as it did. -/
def timeReadsSpec : ChangeSpec := { name := "timeReads", fn := fun _ => fun
  | [d] => { results := [.lit (.bool true)], args := [d] }
  | _ => none }
def timeReadsRow : OpenClaim := { program := "ytjmgfnofpicfgaa", sum := "d9a39ac7b2fb53865759be625e37f3022123e315e0c60a1a1e68234b7a975a54", func := "evermore/evermorelaw.TimeReads", spec := "timeReads", unfollowed := true, recurses := true, apart := false }
def TimeReadsSaid : Prop := timeReadsRow.holds Try.pinned (OpenSpec.ofChange timeReadsSpec)

/-- ITS FALSE NEIGHBOUR: 'it returns false'. Refute it at one input. -/
def timeReadsWrong : ChangeSpec := { name := "timeReads", fn := fun _ => fun
  | [d] => { results := [.lit (.bool false)], args := [d] }
  | _ => none }
def TimeReadsWrongFalsely : Prop := timeReadsRow.holds Try.pinned (OpenSpec.ofChange timeReadsWrong)

/-- 'evermorelaw.TimeHolds': WHATEVER THE INPUT: true; the input reads as it did. -/
def timeHoldsSpec : ChangeSpec := { name := "timeHolds", fn := fun _ => fun
  | [d1, d2] => { results := [.lit (.bool true)], args := [d1, d2] }
  | _ => none }
def timeHoldsRow : OpenClaim := { program := "ytjmgfnofpicfgaa", sum := "d9a39ac7b2fb53865759be625e37f3022123e315e0c60a1a1e68234b7a975a54", func := "evermore/evermorelaw.TimeHolds", spec := "timeHolds", unfollowed := true, recurses := true, apart := false }
def TimeHoldsSaid : Prop := timeHoldsRow.holds Try.pinned (OpenSpec.ofChange timeHoldsSpec)

/-- ITS FALSE NEIGHBOUR: 'it returns false'. Refute it at one input. -/
def timeHoldsWrong : ChangeSpec := { name := "timeHolds", fn := fun _ => fun
  | [d1, d2] => { results := [.lit (.bool false)], args := [d1, d2] }
  | _ => none }
def TimeHoldsWrongFalsely : Prop := timeHoldsRow.holds Try.pinned (OpenSpec.ofChange timeHoldsWrong)

/-- 'evermorelaw.TimeAuto': WHATEVER THE INPUT: true; the input reads as it did. -/
def timeAutoSpec : ChangeSpec := { name := "timeAuto", fn := fun _ => fun
  | [d1, d2] => { results := [.lit (.bool true)], args := [d1, d2] }
  | _ => none }
def timeAutoRow : OpenClaim := { program := "ytjmgfnofpicfgaa", sum := "d9a39ac7b2fb53865759be625e37f3022123e315e0c60a1a1e68234b7a975a54", func := "evermore/evermorelaw.TimeAuto", spec := "timeAuto", unfollowed := true, recurses := true, apart := false }
def TimeAutoSaid : Prop := timeAutoRow.holds Try.pinned (OpenSpec.ofChange timeAutoSpec)

/-- ITS FALSE NEIGHBOUR: 'it returns false'. Refute it at one input. -/
def timeAutoWrong : ChangeSpec := { name := "timeAuto", fn := fun _ => fun
  | [d1, d2] => { results := [.lit (.bool false)], args := [d1, d2] }
  | _ => none }
def TimeAutoWrongFalsely : Prop := timeAutoRow.holds Try.pinned (OpenSpec.ofChange timeAutoWrong)

/-- 'evermorekeep.TimeLaws': WHATEVER THE INPUT: true; the input reads as it did. -/
def timeLawsSpec : ChangeSpec := { name := "timeLaws", fn := fun _ => fun
  | [d1, d2, d3] => { results := [.lit (.bool true)], args := [d1, d2, d3] }
  | _ => none }
def timeLawsRow : OpenClaim := { program := "ytjmgfnofpicfgaa", sum := "d9a39ac7b2fb53865759be625e37f3022123e315e0c60a1a1e68234b7a975a54", func := "evermore/evermorekeep.TimeLaws", spec := "timeLaws", unfollowed := true, recurses := true, apart := false }
def TimeLawsSaid : Prop := timeLawsRow.holds Try.pinned (OpenSpec.ofChange timeLawsSpec)

/-- ITS FALSE NEIGHBOUR: 'it returns false'. Refute it at one input. -/
def timeLawsWrong : ChangeSpec := { name := "timeLaws", fn := fun _ => fun
  | [d1, d2, d3] => { results := [.lit (.bool false)], args := [d1, d2, d3] }
  | _ => none }
def TimeLawsWrongFalsely : Prop := timeLawsRow.holds Try.pinned (OpenSpec.ofChange timeLawsWrong)

/- THE SECOND FORM. 'bulk': how many values and letters a reading holds, each counted each time it is reached (what is shared counts as often as it is met; a slice's spare places count too). A statement '..UptoSaid' is the law's where the arguments, and the package variables that the reading takes, are together of bulk at most 1048576: NARROWER than '..Said'. Prove '..Said' where nothing that the law and all that it calls make is longer than what came in: it says more and counts as full. Else prove '..UptoSaid'. A law counts once. -/
mutual
def uptoBulk {H : Type} : DataW H → Nat
  | .lit (.string bytes) => bytes.length + 1
  | .lit _ => 1
  | .nil => 1
  | .ptr d => uptoBulk d + 1
  | .slice elems spare => uptoBulkAll elems + uptoBulkAll spare + 1
  | .agg parts => uptoBulkAll parts + 1
  | .iface _ d => uptoBulk d + 1
  | .map entries => uptoBulkEntries entries + 1
  | .held _ => 1
def uptoBulkAll {H : Type} : List (DataW H) → Nat
  | [] => 0
  | d :: r => uptoBulk d + uptoBulkAll r
def uptoBulkEntries {H : Type} : List (Lit × DataW H) → Nat
  | [] => 0
  | x :: r => uptoBulkEntry x + uptoBulkEntries r
def uptoBulkEntry {H : Type} : Lit × DataW H → Nat
  | (.string bytes, d) => bytes.length + uptoBulk d + 1
  | (_, d) => uptoBulk d + 1
 end
def uptoSmall : (H : Type) → List (DataW H) → Bool := fun _ ds => decide (uptoBulkAll ds ≤ 1048576)
def OpenSpec.upto (s : _root_.Go.ChangeSpec) : _root_.Go.OpenSpec := { _root_.Go.OpenSpec.ofChange s with cond := some uptoSmall }

/-- 'evermorelaw.TimeReads', WHERE WHAT IT READS IS OF BULK AT MOST 1048576: true; the input reads as it did. -/
def timeReadsUptoRow : OpenClaim := { program := "ytjmgfnofpicfgaa", sum := "d9a39ac7b2fb53865759be625e37f3022123e315e0c60a1a1e68234b7a975a54", func := "evermore/evermorelaw.TimeReads", spec := "timeReads", unfollowed := true, recurses := true, apart := false, narrowed := true }
def TimeReadsUptoSaid : Prop := timeReadsUptoRow.holds Try.pinned (OpenSpec.upto timeReadsSpec)

/-- 'evermorelaw.TimeHolds', WHERE WHAT IT READS IS OF BULK AT MOST 1048576: true; the input reads as it did. -/
def timeHoldsUptoRow : OpenClaim := { program := "ytjmgfnofpicfgaa", sum := "d9a39ac7b2fb53865759be625e37f3022123e315e0c60a1a1e68234b7a975a54", func := "evermore/evermorelaw.TimeHolds", spec := "timeHolds", unfollowed := true, recurses := true, apart := false, narrowed := true }
def TimeHoldsUptoSaid : Prop := timeHoldsUptoRow.holds Try.pinned (OpenSpec.upto timeHoldsSpec)

/-- 'evermorelaw.TimeAuto', WHERE WHAT IT READS IS OF BULK AT MOST 1048576: true; the input reads as it did. -/
def timeAutoUptoRow : OpenClaim := { program := "ytjmgfnofpicfgaa", sum := "d9a39ac7b2fb53865759be625e37f3022123e315e0c60a1a1e68234b7a975a54", func := "evermore/evermorelaw.TimeAuto", spec := "timeAuto", unfollowed := true, recurses := true, apart := false, narrowed := true }
def TimeAutoUptoSaid : Prop := timeAutoUptoRow.holds Try.pinned (OpenSpec.upto timeAutoSpec)

/-- 'evermorekeep.TimeLaws', WHERE WHAT IT READS IS OF BULK AT MOST 1048576: true; the input reads as it did. -/
def timeLawsUptoRow : OpenClaim := { program := "ytjmgfnofpicfgaa", sum := "d9a39ac7b2fb53865759be625e37f3022123e315e0c60a1a1e68234b7a975a54", func := "evermore/evermorekeep.TimeLaws", spec := "timeLaws", unfollowed := true, recurses := true, apart := false, narrowed := true }
def TimeLawsUptoSaid : Prop := timeLawsUptoRow.holds Try.pinned (OpenSpec.upto timeLawsSpec)

end Rows
end Go.Proofs.Ytjmgfnofpicfgaa
