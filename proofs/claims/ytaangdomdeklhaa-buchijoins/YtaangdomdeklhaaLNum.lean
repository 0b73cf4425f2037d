/- A map that numbers states: each of a list by its place. -/
import Derived.Test.YtaangdomdeklhaaLOwn
import Derived.Test.YtaangdomdeklhaaLBf
import Derived.Maps.Own
import Derived.Maps.OwnOps
import Derived.Maps.OwnSet
import Derived.Maps.Views
namespace Go.Proofs.Ytaangdomdeklhaa
open Go.RowKit Go.Maps
set_option linter.unusedVariables false

theorem Try.keyed3 : Keyed Try.prog 3 := int_keyed Try.underlying3
theorem zero3 (w : World) : (zeroValue 3).run Try.prog w = .ok (.int .i64 0) w := by kernel_rfl

/-- The map in block b numbers the states xs. -/
def NumAt (w : World) (b : Nat) (xs : List Nat) : Prop :=
  ∃ D : DataW Unit, w.ownsMap Try.prog 3 (plainElem Try.prog 3) b xs.length D ∧ (∀ y : Nat, y < 4611686018427387904 → (Maps.has D (.int .i64 y) = true ↔ y ∈ xs)) ∧ ∀ i, i < xs.length → ∀ z, D.atKey (.int .i64 ((xs.getD i 0 : Nat) : Int)) z = .lit (.int .i64 i)

theorem wf64 {y : Nat} (h : y < 4611686018427387904) : (Lit.int .i64 (y : Int)).wf = true := WalkArith.wf_i64 (by omega)

theorem NumAt.kept {w w' : World} {b : Nat} {xs : List Nat} {row : Option Nat} (h : NumAt w b xs) (hg : w.grownBy w' row) (hne : row ≠ some b) : NumAt w' b xs := by
  obtain ⟨D, h1, h2⟩ := h
  exact ⟨D, h1.kept hg (Ne.symm hne), h2⟩
theorem NumAt.block {w : World} {b : Nat} {xs : List Nat} (h : NumAt w b xs) : b < w.heap.size ∧ ∃ o, w.heap[b]? = some o ∧ ∀ c t f, o ≠ .cells c t f := by
  obtain ⟨D, ⟨es, clock, hb, _⟩, _⟩ := h
  exact ⟨(Array.getElem?_eq_some_iff.1 hb).1, _, hb, fun _ _ _ e => by cases e⟩

theorem keyLit {y : Int} : WideAt.IsKeyLit (.int .i64 y) := by simp [WideAt.IsKeyLit]
/-- A state is looked up. -/
theorem NumAt.look {w : World} {b : Nat} {xs : List Nat} (h : NumAt w b xs) {y : Nat} (hy : y < 4611686018427387904) (hxs : ∀ x, x ∈ xs → x < 4611686018427387904) :
    (y ∈ xs → (Instr.lookup 97 (.map (some b)) (.int .i64 y) true).run Try.prog w = .ok (.tuple #[.int .i64 ((ix id xs y : Nat) : Int), .bool true]) w) ∧
    (y ∉ xs → ∃ c, (Instr.lookup 97 (.map (some b)) (.int .i64 y) true).run Try.prog w = .ok (.tuple #[.int .i64 c, .bool false]) w) := by
  obtain ⟨D, h1, h2, h3⟩ := h
  obtain ⟨v, ps, hrun, hv⟩ := h1.look_ok Try.keyed3 Try.underlying97 (zero3 w) (plainElem_int Try.underlying3 (by decide)) (keyOf_int_mk Try.underlying3 (wf64 hy))
  obtain ⟨c, rfl, hc, hwc⟩ := plainElem_int_inv Try.underlying3 hv
  simp only [Prod.mk.injEq] at hc
  refine ⟨fun hm => ?_, fun hm => ⟨c, ?_⟩⟩
  · have hk : hasK id xs y := ⟨y, hm, rfl⟩
    have e1 := h3 (ix id xs y) (ix_lt hk) (.lit (.int .i64 0))
    have e2 : xs.getD (ix id xs y) 0 = y := ix_key hk
    rw [e2] at e1
    rw [e1] at hc
    have e3 : c = (ix id xs y : Nat) := by have := hc.1; simp at this; exact this.symm
    rw [hrun, (h2 y hy).2 hm, e3]
  · have : Maps.has D (.int .i64 (y : Int)) = false := by
      cases hb : Maps.has D (.int .i64 (y : Int)) with
      | false => rfl
      | true => exact absurd ((h2 y hy).1 hb) hm
    rw [hrun, this]
/-- A new state is numbered. -/
theorem NumAt.put {w : World} {b : Nat} {xs : List Nat} (h : NumAt w b xs) {y : Nat} (hy : y < 4611686018427387904) (hxs : ∀ x, x ∈ xs → x < 4611686018427387904) (hm : y ∉ xs) (hl : xs.length < 4611686018427387904) :
    ∃ w', (Instr.mapUpdate 97 (.map (some b)) (.int .i64 y) (.int .i64 xs.length)).run Try.prog w = .ok () w' ∧ NumAt w' b (xs ++ [y]) ∧ w.grownBy w' (some b) := by
  obtain ⟨D, h1, h2, h3⟩ := h
  obtain ⟨w', hrun, h4, h5⟩ := h1.update Try.keyed3 Try.underlying97 (by unfold maxLen; omega) (keyOf_int_mk Try.underlying3 (wf64 hy)) (plainElem_int Try.underlying3 (wf64 hl))
  refine ⟨w', hrun, ⟨_, by simpa using h4, fun z hz => ?_, fun i hi z => ?_⟩, h5⟩
  · by_cases hzy : z = y
    · subst hzy
      rw [has_put_same h1.isMap keyLit]
      simp
    · rw [has_put_other (by simp; omega), h2 z hz]
      simp [hzy]
  · simp at hi
    by_cases hil : i < xs.length
    · have hmem := getD_mem hil
      rw [getD_app _ hil, atKey_put_other (fun e => hm (by have e3 := e; simp only [Lit.int.injEq, true_and] at e3; have e2 : xs.getD i 0 = y := Int.ofNat.inj e3; rw [← e2]; exact hmem))]
      exact h3 i hil z
    · have : i = xs.length := by omega
      subst this
      have e : (xs ++ [y]).getD xs.length 0 = y := by simp [List.getD]
      rw [e, atKey_put_same h1.isMap keyLit]

end Go.Proofs.Ytaangdomdeklhaa
