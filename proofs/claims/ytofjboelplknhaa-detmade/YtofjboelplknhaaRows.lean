/-
  No cell of these rows narrows 'for every input' (looked for: loops, veiled, ifaces, maps, wideKeys, modest, calm, conditions, laid).
  DERIVED. THE GIVEN ROWS OF THIS SEAT. 6 by the template 'for every input the law returns true; each argument reads behind the call as it read before'; 0 by the template 'total and deterministic' (their statements: YtofjboelplknhaaTotals.lean).
  GIVEN WITH THE SEED: the statements are not yours to turn. If you find one false, say at which input.
  Laid BY PROGRAM, IN A SANDBOX (cutbox-rows.mjs): the forced cells as the released guide's own fill.sh prints them over the translation 97a5a92ddfcb5171… (all of the seat's roots in one cut). By AI agents, Wed Nov 11 2026. No macro, syntax, notation, axiom, sorry.
-/
import Derived.Test.YtofjboelplknhaaChecked
import GoSem.Claim
import GoSem.ClaimJoined
import GoSem.ClaimMapViews
import Derived.JoinedTies
import Derived.KernelRfl
namespace Go.Proofs.Ytofjboelplknhaa
/- THE CELL 'sum', in the pinned program and in every row, IS THE sha256 OF THE DUMP (.gsa) THAT YtofjboelplknhaaProg.lean LOADS. Nothing in Lean hashes anything: it is a label: what it is worth is what the hold of that sum in a sandbox is worth. -/
noncomputable def Try.pinned : Pinned := { name := "ytofjboelplknhaa", sum := "97a5a92ddfcb51710b84b2a4eaaf0681b403afa8271e845dd9557b8de5287057", checked := Try.checked }
namespace Rows
def none {H : Type} : Left H := { results := [], args := [] }

/-- 'evermorelaw.DetLeast': WHATEVER THE INPUT: true; the input reads as it did. -/
def detLeastSpec : ChangeSpec := { name := "detLeast", fn := fun _ => fun
  | [d1, d2, d3] => { results := [.lit (.bool true)], args := [d1, d2, d3] }
  | _ => none }
def detLeastRow : OpenClaim := { program := "ytofjboelplknhaa", sum := "97a5a92ddfcb51710b84b2a4eaaf0681b403afa8271e845dd9557b8de5287057", func := "evermore/evermorelaw.DetLeast", spec := "detLeast", unfollowed := true, recurses := true, plainKeys := false, apart := false }
def DetLeastSaid : Prop := detLeastRow.holds Try.pinned (OpenSpec.ofChange detLeastSpec)

/-- ITS FALSE NEIGHBOUR: 'it returns false'. Refute it at one input. -/
def detLeastWrong : ChangeSpec := { name := "detLeast", fn := fun _ => fun
  | [d1, d2, d3] => { results := [.lit (.bool false)], args := [d1, d2, d3] }
  | _ => none }
def DetLeastWrongFalsely : Prop := detLeastRow.holds Try.pinned (OpenSpec.ofChange detLeastWrong)

/-- 'evermorelaw.DetMixed': WHATEVER THE INPUT: true; the input reads as it did. -/
def detMixedSpec : ChangeSpec := { name := "detMixed", fn := fun _ => fun
  | [d1, d2, d3] => { results := [.lit (.bool true)], args := [d1, d2, d3] }
  | _ => none }
def detMixedRow : OpenClaim := { program := "ytofjboelplknhaa", sum := "97a5a92ddfcb51710b84b2a4eaaf0681b403afa8271e845dd9557b8de5287057", func := "evermore/evermorelaw.DetMixed", spec := "detMixed", unfollowed := true, recurses := true, plainKeys := false, apart := false }
def DetMixedSaid : Prop := detMixedRow.holds Try.pinned (OpenSpec.ofChange detMixedSpec)

/-- ITS FALSE NEIGHBOUR: 'it returns false'. Refute it at one input. -/
def detMixedWrong : ChangeSpec := { name := "detMixed", fn := fun _ => fun
  | [d1, d2, d3] => { results := [.lit (.bool false)], args := [d1, d2, d3] }
  | _ => none }
def DetMixedWrongFalsely : Prop := detMixedRow.holds Try.pinned (OpenSpec.ofChange detMixedWrong)

/-- 'evermorelaw.MonoidElements': WHATEVER THE INPUT: true; the input reads as it did. -/
def monoidElementsSpec : ChangeSpec := { name := "monoidElements", fn := fun _ => fun
  | [d] => { results := [.lit (.bool true)], args := [d] }
  | _ => none }
def monoidElementsRow : OpenClaim := { program := "ytofjboelplknhaa", sum := "97a5a92ddfcb51710b84b2a4eaaf0681b403afa8271e845dd9557b8de5287057", func := "evermore/evermorelaw.MonoidElements", spec := "monoidElements", unfollowed := true, recurses := true, plainKeys := false, apart := false }
def MonoidElementsSaid : Prop := monoidElementsRow.holds Try.pinned (OpenSpec.ofChange monoidElementsSpec)

/-- ITS FALSE NEIGHBOUR: 'it returns false'. Refute it at one input. -/
def monoidElementsWrong : ChangeSpec := { name := "monoidElements", fn := fun _ => fun
  | [d] => { results := [.lit (.bool false)], args := [d] }
  | _ => none }
def MonoidElementsWrongFalsely : Prop := monoidElementsRow.holds Try.pinned (OpenSpec.ofChange monoidElementsWrong)

/-- 'evermorelaw.MonoidAlike': WHATEVER THE INPUT: true; the input reads as it did. -/
def monoidAlikeSpec : ChangeSpec := { name := "monoidAlike", fn := fun _ => fun
  | [d1, d2, d3] => { results := [.lit (.bool true)], args := [d1, d2, d3] }
  | _ => none }
def monoidAlikeRow : OpenClaim := { program := "ytofjboelplknhaa", sum := "97a5a92ddfcb51710b84b2a4eaaf0681b403afa8271e845dd9557b8de5287057", func := "evermore/evermorelaw.MonoidAlike", spec := "monoidAlike", unfollowed := true, recurses := true, plainKeys := false, apart := false }
def MonoidAlikeSaid : Prop := monoidAlikeRow.holds Try.pinned (OpenSpec.ofChange monoidAlikeSpec)

/-- ITS FALSE NEIGHBOUR: 'it returns false'. Refute it at one input. -/
def monoidAlikeWrong : ChangeSpec := { name := "monoidAlike", fn := fun _ => fun
  | [d1, d2, d3] => { results := [.lit (.bool false)], args := [d1, d2, d3] }
  | _ => none }
def MonoidAlikeWrongFalsely : Prop := monoidAlikeRow.holds Try.pinned (OpenSpec.ofChange monoidAlikeWrong)

/-- 'evermorelaw.MonoidCounts': WHATEVER THE INPUT: true; the input reads as it did. -/
def monoidCountsSpec : ChangeSpec := { name := "monoidCounts", fn := fun _ => fun
  | [d] => { results := [.lit (.bool true)], args := [d] }
  | _ => none }
def monoidCountsRow : OpenClaim := { program := "ytofjboelplknhaa", sum := "97a5a92ddfcb51710b84b2a4eaaf0681b403afa8271e845dd9557b8de5287057", func := "evermore/evermorelaw.MonoidCounts", spec := "monoidCounts", unfollowed := true, recurses := true, plainKeys := false, apart := false }
def MonoidCountsSaid : Prop := monoidCountsRow.holds Try.pinned (OpenSpec.ofChange monoidCountsSpec)

/-- ITS FALSE NEIGHBOUR: 'it returns false'. Refute it at one input. -/
def monoidCountsWrong : ChangeSpec := { name := "monoidCounts", fn := fun _ => fun
  | [d] => { results := [.lit (.bool false)], args := [d] }
  | _ => none }
def MonoidCountsWrongFalsely : Prop := monoidCountsRow.holds Try.pinned (OpenSpec.ofChange monoidCountsWrong)

/-- 'evermorelaw.DetMade': WHATEVER THE INPUT: true; the input reads as it did. -/
def detMadeSpec : ChangeSpec := { name := "detMade", fn := fun _ => fun
  | [d1, d2] => { results := [.lit (.bool true)], args := [d1, d2] }
  | _ => none }
def detMadeRow : OpenClaim := { program := "ytofjboelplknhaa", sum := "97a5a92ddfcb51710b84b2a4eaaf0681b403afa8271e845dd9557b8de5287057", func := "evermore/evermorelaw.DetMade", spec := "detMade", unfollowed := true, recurses := true, plainKeys := false, apart := false }
def DetMadeSaid : Prop := detMadeRow.holds Try.pinned (OpenSpec.ofChange detMadeSpec)

/-- ITS FALSE NEIGHBOUR: 'it returns false'. Refute it at one input. -/
def detMadeWrong : ChangeSpec := { name := "detMade", fn := fun _ => fun
  | [d1, d2] => { results := [.lit (.bool false)], args := [d1, d2] }
  | _ => none }
def DetMadeWrongFalsely : Prop := detMadeRow.holds Try.pinned (OpenSpec.ofChange detMadeWrong)

/- THE SECOND FORM. 'bulk': how many values and letters a reading holds, each counted each time it is reached (what is shared counts as often as it is met; a slice's spare places count too). A statement '..UptoSaid' is the law's where the arguments, and the package variables that the reading takes, are together of bulk at most 1048576: NARROWER than '..Said'. Prove '..Said' where nothing that the law and all that it calls make is longer than what came in: it says more and counts as full. Else prove '..UptoSaid'. A law counts once. -/
mutual
def uptoBulk {H : Type} : DataW H → Nat
  | .lit (.string bytes) => bytes.length + 1
  | .lit _ => 1
  | .nil => 1
  | .ptr d => uptoBulk d + 1
  | .slice elems spare => uptoBulkAll elems + uptoBulkAll spare + 1
  | .agg parts => uptoBulkAll parts + 1
  | .iface _ d => uptoBulk d + 1
  | .map entries => uptoBulkEntries entries + 1
  | .held _ => 1
def uptoBulkAll {H : Type} : List (DataW H) → Nat
  | [] => 0
  | d :: r => uptoBulk d + uptoBulkAll r
def uptoBulkEntries {H : Type} : List (Lit × DataW H) → Nat
  | [] => 0
  | x :: r => uptoBulkEntry x + uptoBulkEntries r
def uptoBulkEntry {H : Type} : Lit × DataW H → Nat
  | (.string bytes, d) => bytes.length + uptoBulk d + 1
  | (_, d) => uptoBulk d + 1
 end
def uptoSmall : (H : Type) → List (DataW H) → Bool := fun _ ds => decide (uptoBulkAll ds ≤ 1048576)
def OpenSpec.upto (s : _root_.Go.ChangeSpec) : _root_.Go.OpenSpec := { _root_.Go.OpenSpec.ofChange s with cond := some uptoSmall }

/-- 'evermorelaw.DetLeast', WHERE WHAT IT READS IS OF BULK AT MOST 1048576: true; the input reads as it did. -/
def detLeastUptoRow : OpenClaim := { program := "ytofjboelplknhaa", sum := "97a5a92ddfcb51710b84b2a4eaaf0681b403afa8271e845dd9557b8de5287057", func := "evermore/evermorelaw.DetLeast", spec := "detLeast", unfollowed := true, recurses := true, plainKeys := false, apart := false, narrowed := true }
def DetLeastUptoSaid : Prop := detLeastUptoRow.holds Try.pinned (OpenSpec.upto detLeastSpec)

/-- 'evermorelaw.DetMixed', WHERE WHAT IT READS IS OF BULK AT MOST 1048576: true; the input reads as it did. -/
def detMixedUptoRow : OpenClaim := { program := "ytofjboelplknhaa", sum := "97a5a92ddfcb51710b84b2a4eaaf0681b403afa8271e845dd9557b8de5287057", func := "evermore/evermorelaw.DetMixed", spec := "detMixed", unfollowed := true, recurses := true, plainKeys := false, apart := false, narrowed := true }
def DetMixedUptoSaid : Prop := detMixedUptoRow.holds Try.pinned (OpenSpec.upto detMixedSpec)

/-- 'evermorelaw.MonoidElements', WHERE WHAT IT READS IS OF BULK AT MOST 1048576: true; the input reads as it did. -/
def monoidElementsUptoRow : OpenClaim := { program := "ytofjboelplknhaa", sum := "97a5a92ddfcb51710b84b2a4eaaf0681b403afa8271e845dd9557b8de5287057", func := "evermore/evermorelaw.MonoidElements", spec := "monoidElements", unfollowed := true, recurses := true, plainKeys := false, apart := false, narrowed := true }
def MonoidElementsUptoSaid : Prop := monoidElementsUptoRow.holds Try.pinned (OpenSpec.upto monoidElementsSpec)

/-- 'evermorelaw.MonoidAlike', WHERE WHAT IT READS IS OF BULK AT MOST 1048576: true; the input reads as it did. -/
def monoidAlikeUptoRow : OpenClaim := { program := "ytofjboelplknhaa", sum := "97a5a92ddfcb51710b84b2a4eaaf0681b403afa8271e845dd9557b8de5287057", func := "evermore/evermorelaw.MonoidAlike", spec := "monoidAlike", unfollowed := true, recurses := true, plainKeys := false, apart := false, narrowed := true }
def MonoidAlikeUptoSaid : Prop := monoidAlikeUptoRow.holds Try.pinned (OpenSpec.upto monoidAlikeSpec)

/-- 'evermorelaw.MonoidCounts', WHERE WHAT IT READS IS OF BULK AT MOST 1048576: true; the input reads as it did. -/
def monoidCountsUptoRow : OpenClaim := { program := "ytofjboelplknhaa", sum := "97a5a92ddfcb51710b84b2a4eaaf0681b403afa8271e845dd9557b8de5287057", func := "evermore/evermorelaw.MonoidCounts", spec := "monoidCounts", unfollowed := true, recurses := true, plainKeys := false, apart := false, narrowed := true }
def MonoidCountsUptoSaid : Prop := monoidCountsUptoRow.holds Try.pinned (OpenSpec.upto monoidCountsSpec)

/-- 'evermorelaw.DetMade', WHERE WHAT IT READS IS OF BULK AT MOST 1048576: true; the input reads as it did. -/
def detMadeUptoRow : OpenClaim := { program := "ytofjboelplknhaa", sum := "97a5a92ddfcb51710b84b2a4eaaf0681b403afa8271e845dd9557b8de5287057", func := "evermore/evermorelaw.DetMade", spec := "detMade", unfollowed := true, recurses := true, plainKeys := false, apart := false, narrowed := true }
def DetMadeUptoSaid : Prop := detMadeUptoRow.holds Try.pinned (OpenSpec.upto detMadeSpec)

end Rows
end Go.Proofs.Ytofjboelplknhaa
