/- What the first word that tells two states apart is, as it is answered. -/
import Derived.Test.YtbdpcjcipemiaaaAWord
namespace Go.Proofs.Ytbdpcjcipemiaaa
open Go.RowKit
set_option linter.unusedVariables false

/-- The word tells two states apart. -/
def tellT (δ : Nat → Nat → Nat) (m : Nat → Bool) (p q : Nat) (z : List Nat) : Bool := m (z.foldl δ p) != m (z.foldl δ q)
def ApartPost (T : List Nat → Bool) (l : Nat) (w : World) (E : Ending) (w' : World) : Prop :=
  ∃ (zs : List Nat) (is : Bool) (a : Option Addr) (c : Nat), E = .returned (.tuple #[.slice a zs.length c, .bool is]) ∧ FirstOf T l zs is ∧ zs.length ≤ 100000000 ∧ Owns w.heap.size w' [(3, .slice a zs.length c, vals (natInts zs))] ∧ w.grownBy w' none
def ApartNPost (y : Int) (w : World) (E : Ending) (w' : World) : Prop :=
  E = .returned (.tuple #[.slice none 0 0, .bool false, .int .i64 y]) ∧ w.grownBy w' none
def ApartGPost (T : List Nat → Bool) (l : Nat) (w : World) (E : Ending) (w' : World) : Prop :=
  ∃ (zs : List Nat) (is : Bool) (a : Option Addr) (c : Nat), E = .returned (.tuple #[.slice a zs.length c, .bool is, .int .i64 0]) ∧ FirstOf T l zs is ∧ zs.length ≤ 100000000 ∧ Owns w.heap.size w' [(3, .slice a zs.length c, vals (natInts zs))] ∧ w.grownBy w' none

end Go.Proofs.Ytbdpcjcipemiaaa
