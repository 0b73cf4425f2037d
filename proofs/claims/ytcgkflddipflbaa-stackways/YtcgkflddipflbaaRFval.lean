/- Rows of numbers that a function tells. (Parted from RClsD.) -/
import Derived.Test.YtcgkflddipflbaaLOwn
import Derived.Test.YtcgkflddipflbaaLOfs
namespace Go.Proofs.Ytcgkflddipflbaa
open Go.RowKit
set_option linter.unusedVariables false

abbrev fvals (n : Nat) (f : Nat → Nat) : List Value := vals (natInts ((List.range n).map f))
theorem fvals_get {n s : Nat} {f : Nat → Nat} (h : s < n) : (fvals n f)[s]? = some (.int .i64 ((f s : Nat) : Int)) := by simp [fvals, vals, h]
theorem fvals_len (n : Nat) (f : Nat → Nat) : (fvals n f).length = n := by simp [fvals, vals]
theorem fvals_set {n q : Nat} {f : Nat → Nat} {k : Nat} (hq : q < n) (hk : k = f q) : (fvals n fun s => if s < q then f s else 0).set q (.int .i64 (k : Int)) = fvals n fun s => if s < q + 1 then f s else 0 := by
  subst hk
  apply List.ext_getElem (by simp [fvals])
  intro i h1 h2
  rw [List.getElem_set]
  simp only [fvals, vals, natInts, List.getElem_map, List.getElem_range]
  by_cases e : q = i
  · subst e; simp
  · rw [if_neg e]
    by_cases h3 : i < q
    · rw [if_pos h3, if_pos (by omega)]
    · rw [if_neg h3, if_neg (by omega)]
theorem natInts_snoc (fs : List Nat) (q : Nat) : vals (natInts fs) ++ [.int .i64 (q : Int)] = vals (natInts (fs ++ [q])) := by simp [vals, natInts]
theorem own_2 {B : Nat} {w : World} {x y : Item} {r : List Item} (h : Owns B w (x :: y :: r)) : Owns B w (y :: x :: r) := h.perm (List.Perm.swap _ _ _)
theorem own_3 {B : Nat} {w : World} {x y z : Item} {r : List Item} (h : Owns B w (x :: y :: z :: r)) : Owns B w (z :: x :: y :: r) := h.perm ((List.Perm.cons _ (List.Perm.swap _ _ _)).trans (List.Perm.swap _ _ _))

theorem own_one {B : Nat} {w : World} {x : Item} {r : List Item} (h : Owns B w (x :: r)) : Owns B w [x] := ⟨fun it hm => h.1 it (by simp at hm; subst hm; simp), List.pairwise_singleton _ _⟩

end Go.Proofs.Ytcgkflddipflbaa
