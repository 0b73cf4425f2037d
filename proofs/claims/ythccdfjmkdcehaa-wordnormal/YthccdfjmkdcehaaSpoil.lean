/- What was answered is written over: only its own block turns. -/
import Derived.Test.YthccdfjmkdcehaaCopies
namespace Go.Proofs.Ythccdfjmkdcehaa
open Go.RowKit
set_option linter.unusedVariables false

/-- A row of k numbers in the block g that may be written. -/
def Row (g k : Nat) (w : World) : Prop := ∃ cur, w.heap[g]? = some (.cells cur 3 (0, 0)) ∧ cur.size = k

/-- Only the block g has turned, and what was such a row still is one. -/
structure Spoiled (g : Nat) (w w' : World) : Prop where
  os : w'.os = w.os
  tape : w'.tape = w.tape
  output : w'.output = w.output
  size : w'.heap.size = w.heap.size
  block : ∀ j, j ≠ g → w'.heap[j]? = w.heap[j]?
  rows : ∀ g' k', Row g' k' w → Row g' k' w'

theorem Own.row {base : Nat} {w : World} {g n c : Nat} {zs : List Int} (h : Own base w (.slice (some ⟨g, 0, none⟩) n c) zs) : Row g c w := by
  rcases h.2 with ⟨h', _⟩ | ⟨g', cap', cur, h', _, hg, _, _, hs, _⟩
  · simp at h'
  · simp only [Value.slice.injEq, Option.some.injEq, Addr.mk.injEq] at h'
    obtain ⟨⟨rfl, _⟩, _, rfl⟩ := h'
    exact ⟨cur, hg, by simpa using hs⟩

theorem Row.later {g k : Nat} {w w' : World} (h : Row g k w) (hb : Below w.heap.size w w') : Row g k w' := by
  obtain ⟨cur, hg, hs⟩ := h
  exact ⟨cur, (hb.block g (Array.getElem?_eq_some_iff.1 hg).1).trans hg, hs⟩

theorem Spoiled.below {g B : Nat} {w w' w0 : World} (h : Spoiled g w w') (hb : Below B w0 w) (hB : B ≤ g) : Below B w0 w' :=
  hb.trans ⟨h.os, h.tape, h.output, by rw [h.size]; exact Nat.le_refl _, fun j hj => h.block j (by omega)⟩

theorem Spoiled.refl (g : Nat) (w : World) : Spoiled g w w := ⟨rfl, rfl, rfl, rfl, fun _ _ => rfl, fun _ _ h => h⟩

theorem Spoiled.set {g k i : Nat} {w w' : World} (h : Spoiled g w w') (hr : Row g k w') (u : Value) : Spoiled g w (w'.setCell ⟨g, i, none⟩ u) := by
  obtain ⟨cur, hg, hs⟩ := hr
  refine ⟨h.os, h.tape, h.output, by rw [← h.size]; simp [World.setCell], fun j hj => (heap_setCell_other w' ⟨g, i, none⟩ j u hj).trans (h.block j hj), fun g' k' hr' => ?_⟩
  obtain ⟨cur', hg', hs'⟩ := h.rows g' k' hr'
  by_cases e : g' = g
  · subst e
    exact ⟨_, heap_setCell_same w' g' i cur' 3 u hg', by simpa using hs'⟩
  · exact ⟨cur', (heap_setCell_other w' ⟨g, i, none⟩ g' u e).trans hg', hs'⟩

theorem Spoiled.cell {g : Nat} {w w' : World} (h : Spoiled g w w') {a : Addr} (ha : a.block ≠ g) : w'.cell? a = w.cell? a := World.cell?_of_block (h.block _ ha)

theorem Spoiled.ints {g b : Nat} {w w' : World} {zs : List Int} (h : Spoiled g w w') (hb : b ≠ g) (hi : Ints w (some ⟨b, 0, none⟩) zs) : Ints w' (some ⟨b, 0, none⟩) zs := by
  rcases hi with h0 | ⟨b', off, hab, hc⟩
  · exact .inl h0
  · simp only [Option.some.injEq, Addr.mk.injEq] at hab
    obtain ⟨rfl, rfl, _⟩ := hab
    exact .inr ⟨b, 0, rfl, fun i hh => (h.cell (a := ⟨b, 0 + i, none⟩) hb).trans (hc i hh)⟩

set_option maxHeartbeats 1000000 in
theorem spoil_any (g k : Nat) (w : World) (hr : Row g k w) (hk : k ≤ 60) :
    Calls Try.prog 23 #[.slice (some ⟨g, 0, none⟩) k k] w fun e w' => e = .returned (.tuple #[]) ∧ Spoiled g w w' := by
  have HR : Hid (Row g k w) := hr
  clear hr
  go_enter Try.func23, Try.ntmps23
  go_wp2
  go_loopw [2] (fun i wr => ∃ j : Nat, j ≤ k ∧ i = .int .i64 j ∧ Spoiled g w wr) (fun i _ => k - (intOf i).toNat)
  case atStart => exact ⟨0, by omega, rfl, Spoiled.refl _ _⟩
  case round =>
    obtain ⟨j, hj, rfl, hsp⟩ := hrel
    have HS : Hid (Spoiled g w wr) := hsp
    clear hsp
    by_cases hlt : j < k
    · obtain ⟨cur, hg, hs⟩ := HS.out.rows g k HR.out
      obtain ⟨v, hv⟩ : ∃ v, cur[j]? = some v := ⟨cur[j], by simp [hs, hlt]⟩
      have d0 : wr.cell? ⟨g, j, none⟩ = some v := (cell_of_row wr g j cur 3 (0, 0) hg).trans hv
      have d1 : wr.frozen? ⟨g, j, none⟩ = false := frozen_of_row wr g j cur 3 hg
      clear hg hs hv
      go_wp2
      go_roundw
      case rel => exact ⟨j + 1, by omega, by go_num, HS.out.set (HS.out.rows g k HR.out) _⟩
      case measure => simp [intOf]; omega
    · go_wp2
      go_end0
      exact ⟨rfl, HS.out⟩

end Go.Proofs.Ythccdfjmkdcehaa
