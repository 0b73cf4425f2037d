/- Rows of numbers that a function tells. (Parted from RClsD.) -/
/- Numbers of classes, as they are come to. (Parted from RLeast.) -/
import Derived.Test.YtodcmlcpicabaaaBas
import Derived.Test.YtodcmlcpicabaaaLBf
namespace Go.Proofs.Ytodcmlcpicabaaa
open Go.RowKit
set_option linter.unusedVariables false

abbrev fvals (n : Nat) (f : Nat → Nat) : List Value := vals (natInts ((List.range n).map f))
theorem fvals_get {n s : Nat} {f : Nat → Nat} (h : s < n) : (fvals n f)[s]? = some (.int .i64 ((f s : Nat) : Int)) := by simp [fvals, vals, h]
theorem fvals_len (n : Nat) (f : Nat → Nat) : (fvals n f).length = n := by simp [fvals, vals]
theorem fvals_set {n q : Nat} {f : Nat → Nat} {k : Nat} (hq : q < n) (hk : k = f q) : (fvals n fun s => if s < q then f s else 0).set q (.int .i64 (k : Int)) = fvals n fun s => if s < q + 1 then f s else 0 := by
  subst hk
  apply List.ext_getElem (by simp [fvals])
  intro i h1 h2
  rw [List.getElem_set]
  simp only [fvals, vals, natInts, List.getElem_map, List.getElem_range]
  by_cases e : q = i
  · subst e; simp
  · rw [if_neg e]
    by_cases h3 : i < q
    · rw [if_pos h3, if_pos (by omega)]
    · rw [if_neg h3, if_neg (by omega)]
theorem natInts_snoc (fs : List Nat) (q : Nat) : vals (natInts fs) ++ [.int .i64 (q : Int)] = vals (natInts (fs ++ [q])) := by simp [vals, natInts]
theorem own_2 {B : Nat} {w : World} {x y : Item} {r : List Item} (h : Owns B w (x :: y :: r)) : Owns B w (y :: x :: r) := h.perm (List.Perm.swap _ _ _)
theorem own_3 {B : Nat} {w : World} {x y z : Item} {r : List Item} (h : Owns B w (x :: y :: z :: r)) : Owns B w (z :: x :: y :: r) := h.perm ((List.Perm.cons _ (List.Perm.swap _ _ _)).trans (List.Perm.swap _ _ _))

theorem own_one {B : Nat} {w : World} {x : Item} {r : List Item} (h : Owns B w (x :: r)) : Owns B w [x] := ⟨fun it hm => h.1 it (by simp at hm; subst hm; simp), List.pairwise_singleton _ _⟩

end Go.Proofs.Ytodcmlcpicabaaa

namespace Go.Proofs.Ytodcmlcpicabaaa
open Go.RowKit
set_option linter.unusedVariables false

/-- The numbers of all. -/
abbrev ivals (n : Nat) (f : Nat → Int) : List Value := vals ((List.range n).map f)
theorem ivals_get {n s : Nat} {f : Nat → Int} (h : s < n) : (ivals n f)[s]? = some (.int .i64 (f s)) := by simp [ivals, vals, h]
theorem ivals_len (n : Nat) (f : Nat → Int) : (ivals n f).length = n := by simp [ivals, vals]
theorem ivals_set {n i : Nat} {f g : Nat → Int} {x : Int} (hi : i < n) (h1 : g i = x) (h2 : ∀ j, j < n → j ≠ i → g j = f j) : (ivals n f).set i (.int .i64 x) = ivals n g := by
  apply List.ext_getElem (by simp [ivals])
  intro j h3 h4
  have hj : j < n := by simpa [ivals] using h4
  rw [List.getElem_set]
  simp only [ivals, vals, List.getElem_map, List.getElem_range]
  by_cases e : i = j
  · subst e; rw [if_pos rfl, h1]
  · rw [if_neg e, h2 j hj (Ne.symm e)]
theorem ivals_congr {n : Nat} {f g : Nat → Int} (h : ∀ i, i < n → f i = g i) : ivals n f = ivals n g := by
  simp only [ivals]
  rw [List.map_congr_left (fun i hi => h i (List.mem_range.1 hi))]

/-- Which number a class has: -1 if none. -/
def numC (g : Nat → Nat) (xs : List Nat) (c : Nat) : Int := match xs.findIdx? (fun x => g x == c) with | some i => (i : Int) | none => -1
theorem numC_none {g : Nat → Nat} {xs : List Nat} {q : Nat} (h : ¬ hasK g xs q) : numC g xs (g q) = -1 := by
  unfold numC
  rw [List.findIdx?_eq_none_iff.2 (fun x hx => by simp; exact fun e => h ⟨x, hx, e⟩)]
theorem numC_has {g : Nat → Nat} {xs : List Nat} {q : Nat} (h : hasK g xs q) : numC g xs (g q) = (ix g xs q : Nat) := by
  induction xs with
  | nil => obtain ⟨r, hr, _⟩ := h; simp at hr
  | cons x xs ih =>
    unfold numC
    simp only [List.findIdx?_cons, ix]
    by_cases e : g x = g q
    · simp [e]
    · have h2 : hasK g xs q := by
        obtain ⟨r, hr, e2⟩ := h
        rcases List.mem_cons.1 hr with rfl | hr
        · exact absurd e2 e
        · exact ⟨r, hr, e2⟩
      have h3 := ih h2
      unfold numC at h3
      rw [if_neg e]
      simp only [beq_iff_eq, e, if_false]
      cases hf : List.findIdx? (fun x => g x == g q) xs with
      | none => rw [hf] at h3; simp at h3
      | some i => rw [hf] at h3; simp at h3 ⊢; omega
theorem numC_snoc {g : Nat → Nat} {xs : List Nat} {q c : Nat} (h : ¬ hasK g xs q) : numC g (xs ++ [q]) c = if c = g q then (xs.length : Int) else numC g xs c := by
  unfold numC
  rw [List.findIdx?_append]
  by_cases e : c = g q
  · subst e
    rw [if_pos rfl, List.findIdx?_eq_none_iff.2 (fun x hx => by simp; exact fun e => h ⟨x, hx, e⟩)]
    simp [List.findIdx?_cons]
  · rw [if_neg e]
    have : List.findIdx? (fun x => g x == c) [q] = none := by simp [List.findIdx?_cons, Ne.symm e]
    rw [this]
    cases List.findIdx? (fun x => g x == c) xs <;> simp

end Go.Proofs.Ytodcmlcpicabaaa
