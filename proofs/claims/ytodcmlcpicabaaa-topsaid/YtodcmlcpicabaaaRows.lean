/-
  No cell of these rows narrows 'for every input' (looked for: loops, veiled, ifaces, maps, wideKeys, modest, calm, conditions, laid).
  DERIVED. THE GIVEN ROWS OF THIS SEAT. 3 by the template 'for every input the law returns true; each argument reads behind the call as it read before'; 0 by the template 'total and deterministic' (their statements: YtodcmlcpicabaaaTotals.lean).
  GIVEN WITH THE SEED: the statements are not yours to turn. If you find one false, say at which input.
  Laid BY PROGRAM, IN A SANDBOX (cutbox-rows.mjs): the forced cells as the released guide's own fill.sh prints them over the translation 483a5082e8784e1e… (all of the seat's roots in one cut). By AI agents, Wed Nov 11 2026. No macro, syntax, notation, axiom, sorry.
-/
import Derived.Test.YtodcmlcpicabaaaChecked
import GoSem.Claim
import GoSem.ClaimJoined
import GoSem.ClaimMapViews
import Derived.JoinedTies
import Derived.KernelRfl
namespace Go.Proofs.Ytodcmlcpicabaaa
/- THE CELL 'sum', in the pinned program and in every row, IS THE sha256 OF THE DUMP (.gsa) THAT YtodcmlcpicabaaaProg.lean LOADS. Nothing in Lean hashes anything: it is a label: what it is worth is what the hold of that sum in a sandbox is worth. -/
noncomputable def Try.pinned : Pinned := { name := "ytodcmlcpicabaaa", sum := "483a5082e8784e1e48e8132605371b3e5f38c9146905b854f0aad8a70ce4276c", checked := Try.checked }
namespace Rows
def none {H : Type} : Left H := { results := [], args := [] }

/-- 'evermorelaw.TransBehind': WHATEVER THE INPUT: true; the input reads as it did. -/
def transBehindSpec : ChangeSpec := { name := "transBehind", fn := fun _ => fun
  | [d1, d2, d3] => { results := [.lit (.bool true)], args := [d1, d2, d3] }
  | _ => none }
def transBehindRow : OpenClaim := { program := "ytodcmlcpicabaaa", sum := "483a5082e8784e1e48e8132605371b3e5f38c9146905b854f0aad8a70ce4276c", func := "evermore/evermorelaw.TransBehind", spec := "transBehind", unfollowed := true, recurses := true, plainKeys := false, apart := false }
def TransBehindSaid : Prop := transBehindRow.holds Try.pinned (OpenSpec.ofChange transBehindSpec)

/-- ITS FALSE NEIGHBOUR: 'it returns false'. Refute it at one input. -/
def transBehindWrong : ChangeSpec := { name := "transBehind", fn := fun _ => fun
  | [d1, d2, d3] => { results := [.lit (.bool false)], args := [d1, d2, d3] }
  | _ => none }
def TransBehindWrongFalsely : Prop := transBehindRow.holds Try.pinned (OpenSpec.ofChange transBehindWrong)

/-- 'evermorekeep.TransRow': WHATEVER THE INPUT: true; the input reads as it did. -/
def transRowSpec : ChangeSpec := { name := "transRow", fn := fun _ => fun
  | [d1, d2, d3] => { results := [.lit (.bool true)], args := [d1, d2, d3] }
  | _ => none }
def transRowRow : OpenClaim := { program := "ytodcmlcpicabaaa", sum := "483a5082e8784e1e48e8132605371b3e5f38c9146905b854f0aad8a70ce4276c", func := "evermore/evermorekeep.TransRow", spec := "transRow", unfollowed := true, recurses := true, plainKeys := false, apart := false }
def TransRowSaid : Prop := transRowRow.holds Try.pinned (OpenSpec.ofChange transRowSpec)

/-- ITS FALSE NEIGHBOUR: 'it returns false'. Refute it at one input. -/
def transRowWrong : ChangeSpec := { name := "transRow", fn := fun _ => fun
  | [d1, d2, d3] => { results := [.lit (.bool false)], args := [d1, d2, d3] }
  | _ => none }
def TransRowWrongFalsely : Prop := transRowRow.holds Try.pinned (OpenSpec.ofChange transRowWrong)

/-- 'evermoretop.TopSaid': WHATEVER THE INPUT: true; the input reads as it did. -/
def topSaidSpec : ChangeSpec := { name := "topSaid", fn := fun _ => fun
  | [d] => { results := [.lit (.bool true)], args := [d] }
  | _ => none }
def topSaidRow : OpenClaim := { program := "ytodcmlcpicabaaa", sum := "483a5082e8784e1e48e8132605371b3e5f38c9146905b854f0aad8a70ce4276c", func := "evermore/evermoretop.TopSaid", spec := "topSaid", unfollowed := true, recurses := true, plainKeys := false, apart := false }
def TopSaidSaid : Prop := topSaidRow.holds Try.pinned (OpenSpec.ofChange topSaidSpec)

/-- ITS FALSE NEIGHBOUR: 'it returns false'. Refute it at one input. -/
def topSaidWrong : ChangeSpec := { name := "topSaid", fn := fun _ => fun
  | [d] => { results := [.lit (.bool false)], args := [d] }
  | _ => none }
def TopSaidWrongFalsely : Prop := topSaidRow.holds Try.pinned (OpenSpec.ofChange topSaidWrong)

/- THE SECOND FORM. 'bulk': how many values and letters a reading holds, each counted each time it is reached (what is shared counts as often as it is met; a slice's spare places count too). A statement '..UptoSaid' is the law's where the arguments, and the package variables that the reading takes, are together of bulk at most 1048576: NARROWER than '..Said'. Prove '..Said' where nothing that the law and all that it calls make is longer than what came in: it says more and counts as full. Else prove '..UptoSaid'. A law counts once. -/
mutual
def uptoBulk {H : Type} : DataW H → Nat
  | .lit (.string bytes) => bytes.length + 1
  | .lit _ => 1
  | .nil => 1
  | .ptr d => uptoBulk d + 1
  | .slice elems spare => uptoBulkAll elems + uptoBulkAll spare + 1
  | .agg parts => uptoBulkAll parts + 1
  | .iface _ d => uptoBulk d + 1
  | .map entries => uptoBulkEntries entries + 1
  | .held _ => 1
def uptoBulkAll {H : Type} : List (DataW H) → Nat
  | [] => 0
  | d :: r => uptoBulk d + uptoBulkAll r
def uptoBulkEntries {H : Type} : List (Lit × DataW H) → Nat
  | [] => 0
  | x :: r => uptoBulkEntry x + uptoBulkEntries r
def uptoBulkEntry {H : Type} : Lit × DataW H → Nat
  | (.string bytes, d) => bytes.length + uptoBulk d + 1
  | (_, d) => uptoBulk d + 1
 end
def uptoSmall : (H : Type) → List (DataW H) → Bool := fun _ ds => decide (uptoBulkAll ds ≤ 1048576)
def OpenSpec.upto (s : _root_.Go.ChangeSpec) : _root_.Go.OpenSpec := { _root_.Go.OpenSpec.ofChange s with cond := some uptoSmall }

/-- 'evermorelaw.TransBehind', WHERE WHAT IT READS IS OF BULK AT MOST 1048576: true; the input reads as it did. -/
def transBehindUptoRow : OpenClaim := { program := "ytodcmlcpicabaaa", sum := "483a5082e8784e1e48e8132605371b3e5f38c9146905b854f0aad8a70ce4276c", func := "evermore/evermorelaw.TransBehind", spec := "transBehind", unfollowed := true, recurses := true, plainKeys := false, apart := false, narrowed := true }
def TransBehindUptoSaid : Prop := transBehindUptoRow.holds Try.pinned (OpenSpec.upto transBehindSpec)

/-- 'evermorekeep.TransRow', WHERE WHAT IT READS IS OF BULK AT MOST 1048576: true; the input reads as it did. -/
def transRowUptoRow : OpenClaim := { program := "ytodcmlcpicabaaa", sum := "483a5082e8784e1e48e8132605371b3e5f38c9146905b854f0aad8a70ce4276c", func := "evermore/evermorekeep.TransRow", spec := "transRow", unfollowed := true, recurses := true, plainKeys := false, apart := false, narrowed := true }
def TransRowUptoSaid : Prop := transRowUptoRow.holds Try.pinned (OpenSpec.upto transRowSpec)

/-- 'evermoretop.TopSaid', WHERE WHAT IT READS IS OF BULK AT MOST 1048576: true; the input reads as it did. -/
def topSaidUptoRow : OpenClaim := { program := "ytodcmlcpicabaaa", sum := "483a5082e8784e1e48e8132605371b3e5f38c9146905b854f0aad8a70ce4276c", func := "evermore/evermoretop.TopSaid", spec := "topSaid", unfollowed := true, recurses := true, plainKeys := false, apart := false, narrowed := true }
def TopSaidUptoSaid : Prop := topSaidUptoRow.holds Try.pinned (OpenSpec.upto topSaidSpec)

end Rows
end Go.Proofs.Ytodcmlcpicabaaa
