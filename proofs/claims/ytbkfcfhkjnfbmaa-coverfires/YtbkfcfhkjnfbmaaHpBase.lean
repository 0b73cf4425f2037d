/- Heaps in memory. -/
import Derived.Test.YtbkfcfhkjnfbmaaHpSpec
import Derived.Test.YtbkfcfhkjnfbmaaTell
import Derived.Test.YtbkfcfhkjnfbmaaSay
import Derived.Deep.RegionWith
import Derived.Deep.RegionHeld3
namespace Go.Proofs.Ytbkfcfhkjnfbmaa
open Go.RowKit
set_option linter.unusedVariables false

abbrev hpV (P : Int) (a : Option Addr) (nT c : Nat) (b : Option Addr) (nG d : Nat) : Value := .agg #[.int .i64 P, .slice a nT c, .slice b nG d]
structure HpAt (w : World) (x : Hp) (a b : Option Addr) : Prop where
  t : RowsAt w a x.T
  g : RowsAt w b x.G
  mt : x.T.length ≤ maxLen
  mg : x.G.length ≤ maxLen
theorem HpAt.grown {w w' : World} {x : Hp} {a b : Option Addr} (h : HpAt w x a b) (hg : w.grownBy w' none) : HpAt w' x a b := ⟨h.t.grown hg, h.g.grown hg, h.mt, h.mg⟩
theorem box3 {w : World} {v0 v1 v2 : Value} {t : TypeId} {W' : World} (h : (w.alloc (.cells #[v0, v1, v2] t)).grownBy W' none) : W'.cell? ⟨w.heap.size, 0, none⟩ = some v0 ∧ W'.cell? ⟨w.heap.size, 1, none⟩ = some v1 ∧ W'.cell? ⟨w.heap.size, 2, none⟩ = some v2 := by
  have hb := heap_alloc_new w (.cells #[v0, v1, v2] t)
  exact ⟨h.cell (by rw [cell_of_row _ _ 0 _ _ (0, 0) hb]; rfl) (by simp), h.cell (by rw [cell_of_row _ _ 1 _ _ (0, 0) hb]; rfl) (by simp), h.cell (by rw [cell_of_row _ _ 2 _ _ (0, 0) hb]; rfl) (by simp)⟩
/-- The box of heaps. -/
def BoxH (b0 : Nat) (P : Int) (a : Option Addr) (nT c : Nat) (b : Option Addr) (nG d : Nat) (W : World) : Prop :=
  W.cell? ⟨b0, 0, none⟩ = some (.int .i64 P) ∧ W.cell? ⟨b0, 1, none⟩ = some (.slice a nT c) ∧ W.cell? ⟨b0, 2, none⟩ = some (.slice b nG d)
theorem BoxH.kept {b0 : Nat} {P : Int} {a : Option Addr} {nT c : Nat} {b : Option Addr} {nG d : Nat} {W W' : World} (h : BoxH b0 P a nT c b nG d W) (hg : W.grownBy W' none) : BoxH b0 P a nT c b nG d W' :=
  ⟨hg.cell h.1 (by simp), hg.cell h.2.1 (by simp), hg.cell h.2.2 (by simp)⟩
theorem boxH_new (w : World) (P : Int) (a : Option Addr) (nT c : Nat) (b : Option Addr) (nG d : Nat) : ∃ W, W = w.alloc (.cells #[.int .i64 P, .slice a nT c, .slice b nG d] 24) ∧ w.grownBy W none ∧ W.heap.size = w.heap.size + 1 ∧ BoxH w.heap.size P a nT c b nG d W :=
  ⟨_, rfl, grown_alloc _ _, by simp, box3 (grown_refl _ _)⟩

/-- The box and two cells besides stay. -/
abbrev KeepH (P0 W : World) (b0 : Nat) (P : Int) (vT vG : Value) (p q : Addr) (u v : Value) : Prop :=
  P0.grownBy W none ∧ W.cell? ⟨b0, 0, none⟩ = some (.int .i64 P) ∧ W.cell? ⟨b0, 1, none⟩ = some vT ∧ W.cell? ⟨b0, 2, none⟩ = some vG ∧ W.cell? p = some u ∧ W.cell? q = some v
section
variable {P0 W W' : World} {b0 : Nat} {P : Int} {vT vG : Value} {p q : Addr} {u v : Value}
theorem KeepH.call (h : KeepH P0 W b0 P vT vG p q u v) (hg : W.grownBy W' none) : KeepH P0 W' b0 P vT vG p q u v := by
  obtain ⟨h0, h1, h2, h3, h4, h5⟩ := h
  exact ⟨grown_trans h0 hg, hg.cell h1 (by simp), hg.cell h2 (by simp), hg.cell h3 (by simp), hg.cell h4 (by simp), hg.cell h5 (by simp)⟩
theorem KeepH.drew (h : KeepH P0 W b0 P vT vG p q u v) : KeepH P0 W.drew b0 P vT vG p q u v := h.call (grown_drew (grown_refl _ _))
end

end Go.Proofs.Ytbkfcfhkjnfbmaa
