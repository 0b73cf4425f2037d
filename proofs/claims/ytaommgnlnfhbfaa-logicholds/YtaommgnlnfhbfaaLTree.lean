/- When the program's tree of a formula is true of a word. -/
import Derived.Test.YtaommgnlnfhbfaaLSem
import Derived.Test.YtaommgnlnfhbfaaKBase
namespace Go.Proofs.Ytaommgnlnfhbfaa
open Go.RowKit
set_option linter.unusedVariables false
set_option linter.unusedSimpArgs false

def holdT (w : List Nat) : TrL → List Nat → Bool
  | .nil, _ => false
  | .node k l r se x y, vs =>
    if k = 0 then holdT w l vs || holdT w r vs
    else if k = 1 then holdT w l vs && holdT w r vs
    else if k = 2 then !holdT w l vs
    else if k = 3 then (List.range (manyL se w.length)).any fun v => holdT w l (vs ++ [v])
    else if k = 4 then w.getD (vs.getD x.toNat 0) 0 == 0
    else if k = 5 then w.getD (vs.getD x.toNat 0) 0 == 1
    else if k = 6 then decide (vs.getD x.toNat 0 < vs.getD y.toNat 0)
    else if k = 7 then vs.getD x.toNat 0 == vs.getD y.toNat 0
    else if k = 8 then vs.getD x.toNat 0 + 1 == vs.getD y.toNat 0
    else vs.getD y.toNat 0 / 2 ^ vs.getD x.toNat 0 % 2 == 1
/-- A tree that is right in its variables. -/
def WellT : TrL → List Bool → Prop
  | .nil, _ => False
  | .node k l r se x y, ts =>
    ((k = 0 ∨ k = 1) ∧ WellT l ts ∧ WellT r ts) ∨ (k = 2 ∧ WellT l ts) ∨ (k = 3 ∧ ts.length ≤ 2 ∧ WellT l (ts ++ [se])) ∨
    ((k = 4 ∨ k = 5) ∧ ∃ a : Nat, x = a ∧ ts[a]? = some false) ∨
    ((k = 6 ∨ k = 7 ∨ k = 8) ∧ ∃ a b : Nat, x = a ∧ y = b ∧ ts[a]? = some false ∧ ts[b]? = some false) ∨
    (k = 9 ∧ ∃ a b : Nat, x = a ∧ y = b ∧ ts[a]? = some false ∧ ts[b]? = some true)
theorem wellT_trL : ∀ (f : Lf) (ts : List Bool), WellL f ts → WellT (trL f) ts := by
  intro f
  induction f with
  | letter c x => intro ts h; exact .inr (.inr (.inr (.inl ⟨by have := h.1; omega, x, rfl, h.2⟩)))
  | lt x y => intro ts h; exact .inr (.inr (.inr (.inr (.inl ⟨.inl rfl, x, y, rfl, rfl, h⟩))))
  | eq x y => intro ts h; exact .inr (.inr (.inr (.inr (.inl ⟨.inr (.inl rfl), x, y, rfl, rfl, h⟩))))
  | nx x y => intro ts h; exact .inr (.inr (.inr (.inr (.inl ⟨.inr (.inr rfl), x, y, rfl, rfl, h⟩))))
  | inn x y => intro ts h; exact .inr (.inr (.inr (.inr (.inr ⟨rfl, x, y, rfl, rfl, h⟩))))
  | not a ih => intro ts h; exact .inr (.inl ⟨rfl, ih ts h⟩)
  | and a b iha ihb => intro ts h; exact .inl ⟨.inr rfl, iha ts h.1, ihb ts h.2⟩
  | or a b iha ihb => intro ts h; exact .inl ⟨.inl rfl, iha ts h.1, ihb ts h.2⟩
  | some se a ih => intro ts h; exact .inr (.inr (.inl ⟨rfl, h.1, ih _ h.2⟩))
  | every se a ih => intro ts h; exact .inr (.inl ⟨rfl, .inr (.inr (.inl ⟨rfl, h.1, .inr (.inl ⟨rfl, ih _ h.2⟩)⟩))⟩)
theorem holdT_trL (w : List Nat) : ∀ (f : Lf) (ts : List Bool) (vs : List Nat), WellL f ts → holdT w (trL f) vs = holdL w f vs := by
  intro f
  induction f with
  | letter c x =>
    intro ts vs h
    have hc : c = 0 ∨ c = 1 := by have := h.1; omega
    rcases hc with rfl | rfl <;> simp [trL, holdT, holdL]
  | lt x y => intro ts vs h; simp [trL, holdT, holdL]
  | eq x y => intro ts vs h; simp [trL, holdT, holdL]
  | nx x y => intro ts vs h; simp [trL, holdT, holdL]
  | inn x y => intro ts vs h; simp [trL, holdT, holdL]
  | not a ih => intro ts vs h; simp [trL, holdT, holdL, ih ts vs h]
  | and a b iha ihb => intro ts vs h; simp [trL, holdT, holdL, iha ts vs h.1, ihb ts vs h.2]
  | or a b iha ihb => intro ts vs h; simp [trL, holdT, holdL, iha ts vs h.1, ihb ts vs h.2]
  | some se a ih =>
    intro ts vs h
    have h1 : ∀ v, holdT w (trL a) (vs ++ [v]) = holdL w a (vs ++ [v]) := fun v => ih _ _ h.2
    simp [trL, holdT, holdL, h1]
  | every se a ih =>
    intro ts vs h
    have h1 : ∀ v, holdT w (trL a) (vs ++ [v]) = holdL w a (vs ++ [v]) := fun v => ih _ _ h.2
    simp [trL, holdT, holdL, h1]
    rw [List.not_all_eq_any_not]

end Go.Proofs.Ytaommgnlnfhbfaa
