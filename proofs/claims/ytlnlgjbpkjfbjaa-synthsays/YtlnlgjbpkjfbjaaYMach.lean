/- Machines that answer for ever, in memory; what both Checks of a machine come to, and what a machine says. -/
import Derived.Test.YtlnlgjbpkjfbjaaDRows
import Derived.Test.YtlnlgjbpkjfbjaaTell
import Derived.Test.YtlnlgjbpkjfbjaaSay
import Derived.Test.YtlnlgjbpkjfbjaaLRow
import Derived.Deep.Slices
namespace Go.Proofs.Ytlnlgjbpkjfbjaa
open Go.ChangeShapes Go.WideShapes Go.ChangeAt Go.RowKit Go.Joins
set_option linter.unusedVariables false

/-- Pairs of numbers lie at an address, two cells each. -/
def PairsAt (w : World) (a : Option Addr) (T : List (Int × Int)) : Prop :=
  T = [] ∨ ∃ b off, a = some ⟨b, off, none⟩ ∧ ∀ i, i < T.length → w.cell? ⟨b, off + i * 2, none⟩ = some (.int .i64 (T.getD i (0, 0)).1) ∧ w.cell? ⟨b, off + i * 2 + 1, none⟩ = some (.int .i64 (T.getD i (0, 0)).2)
theorem PairsAt.grown {w w' : World} {a : Option Addr} {T : List (Int × Int)} (h : PairsAt w a T) (hg : w.grownBy w' none) : PairsAt w' a T := by
  rcases h with h | ⟨b, off, ha, hc⟩
  · exact .inl h
  · refine .inr ⟨b, off, ha, fun i hi => ?_⟩
    obtain ⟨h1, h2⟩ := hc i hi
    exact ⟨hg.cell h1 (by simp), hg.cell h2 (by simp)⟩
theorem PairsAt.at {w : World} {a : Option Addr} {T : List (Int × Int)} (h : PairsAt w a T) {k : Nat} (hk : k < T.length) :
    ∃ b off, a = some ⟨b, off, none⟩ ∧ ∀ i, i < T.length → w.cell? ⟨b, off + i * 2, none⟩ = some (.int .i64 (T.getD i (0, 0)).1) ∧ w.cell? ⟨b, off + i * 2 + 1, none⟩ = some (.int .i64 (T.getD i (0, 0)).2) := by
  rcases h with rfl | h
  · simp at hk
  · exact h

structure Mch where
  F : Bool
  S : Int
  A : List (Int × Int)
  N : List (Int × Int)
structure MchAt (w : World) (m : Mch) (a b : Option Addr) : Prop where
  says : PairsAt w a m.A
  next : PairsAt w b m.N
  ma : m.A.length ≤ maxLen
  mb : m.N.length ≤ maxLen
theorem MchAt.grown {w w' : World} {m : Mch} {a b : Option Addr} (h : MchAt w m a b) (hg : w.grownBy w' none) : MchAt w' m a b := ⟨h.says.grown hg, h.next.grown hg, h.ma, h.mb⟩
abbrev mchV (F : Bool) (S : Int) (a : Option Addr) (n c : Nat) (b : Option Addr) (k d : Nat) : Value := .agg #[.bool F, .int .i64 S, .slice a n c, .slice b k d]

def pr2 (q : Int × Int) (x : Nat) : Int := if x = 0 then q.1 else q.2
theorem pr2_0 (q : Int × Int) : pr2 q 0 = q.1 := rfl
theorem pr2_1 (q : Int × Int) : pr2 q 1 = q.2 := rfl

/-- What a state says and where it goes may be. -/
def okY (n : Nat) (m : Mch) (i x : Nat) : Prop := 0 ≤ pr2 (m.N.getD i (0, 0)) x ∧ pr2 (m.N.getD i (0, 0)) x < n ∧ (pr2 (m.A.getD i (0, 0)) x = 0 ∨ pr2 (m.A.getD i (0, 0)) x = 1)
instance (n : Nat) (m : Mch) (i x : Nat) : Decidable (okY n m i x) := by unfold okY; exact inferInstance
theorem okY_iff {n : Nat} {m : Mch} {i x : Nat} {u v : Int} (hu : pr2 (m.A.getD i (0, 0)) x = u) (hv : pr2 (m.N.getD i (0, 0)) x = v) : okY n m i x ↔ 0 ≤ v ∧ v < n ∧ (u = 0 ∨ u = 1) := by subst hu hv; exact Iff.rfl
def checkY (m : Mch) : Int :=
  if m.A.length < 1 ∨ 20000 < m.A.length ∨ m.N.length ≠ m.A.length then 1
  else if m.S < 0 ∨ (m.A.length : Int) ≤ m.S then 2
  else if ∀ i, i < m.A.length → okY m.A.length m i 0 ∧ okY m.A.length m i 1 then
    if m.F = true ∧ ¬ ∀ i, i < m.A.length → (m.A.getD i (0, 0)).1 = (m.A.getD i (0, 0)).2 then 3 else 0
  else 2
structure Shp (m : Mch) (n : Nat) : Prop where
  la : m.A.length = n
  lb : m.N.length = n
  n1 : 1 ≤ n
  n2 : n ≤ 20000
structure Rng (m : Mch) (n : Nat) : Prop extends Shp m n where
  s0 : 0 ≤ m.S
  s1 : m.S < n
theorem checkY_size {m : Mch} (h : m.A.length < 1 ∨ 20000 < m.A.length ∨ m.N.length ≠ m.A.length) : checkY m = 1 := by unfold checkY; rw [if_pos h]
theorem checkY_start {m : Mch} {n : Nat} (h : Shp m n) (hs : m.S < 0 ∨ (n : Int) ≤ m.S) : checkY m = 2 := by
  have h1 := h.la; have h2 := h.lb; have h3 := h.n1; have h4 := h.n2
  unfold checkY; rw [if_neg (by omega), if_pos (by rw [h1]; exact hs)]
theorem checkY_out {m : Mch} {n i x : Nat} (h : Rng m n) (hi : i < n) (hx : x < 2) (ho : ¬ okY n m i x) : checkY m = 2 := by
  have h1 := h.la; have h2 := h.lb; have h3 := h.n1; have h4 := h.n2; have h5 := h.s0; have h6 := h.s1
  unfold checkY
  rw [if_neg (by omega), if_neg (by omega), if_neg]
  intro hh
  rw [h1] at hh
  obtain ⟨e0, e1⟩ := hh i hi
  rcases (by omega : x = 0 ∨ x = 1) with rfl | rfl
  · exact ho e0
  · exact ho e1
theorem checkY_shape {m : Mch} {n i : Nat} (h : Rng m n) (hk : ∀ i, i < n → okY n m i 0 ∧ okY n m i 1) (hF : m.F = true) (hi : i < n) (hne : (m.A.getD i (0, 0)).1 ≠ (m.A.getD i (0, 0)).2) : checkY m = 3 := by
  have h1 := h.la; have h2 := h.lb; have h3 := h.n1; have h4 := h.n2; have h5 := h.s0; have h6 := h.s1
  unfold checkY
  rw [if_neg (by omega), if_neg (by omega), if_pos (by rw [h1]; exact hk), if_pos ⟨hF, fun hh => hne (hh i (by omega))⟩]
theorem checkY_ok {m : Mch} {n : Nat} (h : Rng m n) (hk : ∀ i, i < n → okY n m i 0 ∧ okY n m i 1) (hs : m.F = true → ∀ i, i < n → (m.A.getD i (0, 0)).1 = (m.A.getD i (0, 0)).2) : checkY m = 0 := by
  have h1 := h.la; have h2 := h.lb; have h3 := h.n1; have h4 := h.n2; have h5 := h.s0; have h6 := h.s1
  unfold checkY
  rw [if_neg (by omega), if_neg (by omega), if_pos (by rw [h1]; exact hk), if_neg]
  rintro ⟨e1, e2⟩
  exact e2 (by rw [h1]; exact hs e1)
/-- A machine that may be. -/
structure GoodY (m : Mch) (n : Nat) : Prop extends Rng m n where
  ok : ∀ i x, i < n → x < 2 → okY n m i x
theorem goodY_of_check {m : Mch} (h : checkY m = 0) : GoodY m m.A.length := by
  unfold checkY at h
  split at h
  · omega
  · next h1 =>
    split at h
    · omega
    · next h2 =>
      split at h
      · next h3 =>
        refine ⟨⟨⟨rfl, by omega, by omega, by omega⟩, by omega, by omega⟩, fun i x hi hx => ?_⟩
        rcases (by omega : x = 0 ∨ x = 1) with rfl | rfl
        · exact (h3 i hi).1
        · exact (h3 i hi).2
      · omega

/-- Where a machine stands behind so many things that it heard. -/
def stY (m : Mch) (hs : List Int) : Nat → Nat
  | 0 => m.S.toNat
  | k + 1 => (pr2 (m.N.getD (stY m hs k) (0, 0)) (hs.getD k 0).toNat).toNat
def sayY (m : Mch) (hs : List Int) (k : Nat) : Int := pr2 (m.A.getD (stY m hs k) (0, 0)) (hs.getD k 0).toNat
def outY (m : Mch) (hs : List Int) (k : Nat) : List Int := (List.range k).map (sayY m hs)
theorem outY_succ (m : Mch) (hs : List Int) (k : Nat) : outY m hs (k + 1) = outY m hs k ++ [sayY m hs k] := by unfold outY; rw [List.range_succ, List.map_append]; rfl
theorem outY_len (m : Mch) (hs : List Int) (k : Nat) : (outY m hs k).length = k := by simp [outY]
theorem stY_lt {m : Mch} {n : Nat} (h : GoodY m n) {hs : List Int} (hh : ∀ k, k < hs.length → hs.getD k 0 = 0 ∨ hs.getD k 0 = 1) : ∀ k, k ≤ hs.length → stY m hs k < n
  | 0, _ => by have := h.s0; have := h.s1; show m.S.toNat < n; omega
  | k + 1, hk => by
    have ih := stY_lt h hh k (by omega)
    have hx : (hs.getD k 0).toNat < 2 := by have := hh k (by omega); omega
    have := h.ok _ _ ih hx
    unfold okY at this
    show (pr2 _ _).toNat < n
    omega
/-- What is heard may be. -/
def heardY (hs : List Int) : Int := if 60 < hs.length then 1 else if ∀ k, k < hs.length → hs.getD k 0 = 0 ∨ hs.getD k 0 = 1 then 0 else 2

end Go.Proofs.Ytlnlgjbpkjfbjaa
