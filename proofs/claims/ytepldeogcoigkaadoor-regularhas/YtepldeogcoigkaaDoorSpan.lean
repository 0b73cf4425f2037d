/- Sets of places as bits of a number: the lowest one and the others; a span's block; the table of the library's that finds the lowest bit. -/
import Derived.Test.YtepldeogcoigkaaDoorRParse
import Derived.Lib.TrailingZeros
import Derived.Laws.Bits64b
namespace Go.Proofs.YtepldeogcoigkaaDoor
open Go.RowKit
set_option linter.unusedVariables false

theorem low_facts (x : Nat) (h0 : x ≠ 0) (h : x < 2 ^ 64) : x.testBit (Lib.ctz 64 x) = true ∧ (∀ k, (x &&& (x - 1)).testBit k = (x.testBit k && decide (k ≠ Lib.ctz 64 x))) ∧ x &&& (x - 1) < x := by
  obtain ⟨m, hm, hk⟩ := Lib.ctzFrom_spec 64 x (by omega) h
  have e : Lib.ctz 64 x = Lib.ctzFrom 64 x := by simp [Lib.ctz, h0]
  rw [e]
  generalize Lib.ctzFrom 64 x = c at *
  have hp : 0 < 2 ^ c := Nat.two_pow_pos c
  have e1 : x = 2 ^ c * (2 * m + 1) + 0 := by omega
  have e2 : x - 1 = 2 ^ c * (2 * m) + (2 ^ c - 1) := by
    rw [hm, Nat.mul_add]; omega
  have b1 : ∀ k, x.testBit k = if k < c then false else (2 * m + 1).testBit (k - c) := by
    intro k
    rw [e1, Nat.testBit_two_pow_mul_add _ hp]
    simp
  have b2 : ∀ k, (x - 1).testBit k = if k < c then (2 ^ c - 1).testBit k else (2 * m).testBit (k - c) := by
    intro k
    rw [e2, Nat.testBit_two_pow_mul_add _ (by omega)]
  have hb : ∀ k, (x &&& (x - 1)).testBit k = (x.testBit k && decide (k ≠ c)) := by
    intro k
    rw [Nat.testBit_and, b2, b1]
    by_cases hlt : k < c
    · simp [hlt]
    · simp only [hlt, if_false]
      by_cases hkc : k = c
      · subst hkc
        simp
      · obtain ⟨q, hq⟩ : ∃ q, k - c = q + 1 := ⟨k - c - 1, by omega⟩
        rw [hq, Nat.testBit_succ, Nat.testBit_succ]
        have d1 : (2 * m + 1) / 2 = m := by omega
        have d2 : 2 * m / 2 = m := by omega
        rw [d1, d2]
        simp [hkc]
  have hset : x.testBit c = true := by rw [b1]; simp
  refine ⟨hset, hb, ?_⟩
  have hle : x &&& (x - 1) ≤ x - 1 := Nat.and_le_right
  omega

/-- A span lies in block b: 61 numbers. -/
def SpanAt (w : World) (b : Nat) (f : Nat → Nat) : Prop := w.heap[b]? = some (.cells ((List.range 61).map fun i => Value.int .u64 (f i)).toArray 65 (0, 0))

section
variable {w w' : World} {b : Nat} {f : Nat → Nat}
theorem SpanAt.lt (h : SpanAt w b f) : b < w.heap.size := (Array.getElem?_eq_some_iff.1 h).1
theorem SpanAt.cell (h : SpanAt w b f) {i : Nat} (hi : i < 61) : w.cell? ⟨b, i, none⟩ = some (.int .u64 (f i)) := by
  rw [cell_of_row w b i _ _ (0, 0) h]; simp [hi]
theorem SpanAt.fz (h : SpanAt w b f) (i : Nat) : w.frozen? ⟨b, i, none⟩ = false := frozen_of_row w b i _ _ h
theorem SpanAt.kept {row : Option Nat} (h : SpanAt w b f) (hg : w.grownBy w' row) (hne : row ≠ some b) : SpanAt w' b f := (hg.block b h.lt (Ne.symm hne)).trans h
theorem SpanAt.set (h : SpanAt w b f) (i : Nat) {x : Int} {y : Nat} (hx : x = y) : SpanAt (w.setCell ⟨b, i, none⟩ (.int .u64 x)) b (fun k => if k = i then y else f k) := by
  subst hx
  unfold SpanAt at h ⊢
  rw [heap_setCell_same w b i _ _ _ h]
  congr 2
  apply Array.ext'
  apply List.ext_getElem?
  intro k
  simp only [Array.toList_setIfInBounds, List.getElem?_set, List.getElem?_map, List.length_map, List.length_range]
  by_cases hk : k < 61
  · by_cases hik : i = k
    · subst hik; simp [hk]
    · have : ¬ k = i := fun e => hik e.symm
      simp [hk, hik, this]
  · by_cases hik : i = k
    · subst hik; simp [hk]
    · simp [hk, hik]
theorem SpanAt.new (w : World) : SpanAt (w.alloc (.cells (Array.replicate 61 (.int .u64 0)) 65)) w.heap.size (fun _ => 0) := heap_alloc_new w _
end

/-- The library's table lies in its variable. -/
def TabAt (w : World) : Prop := ∀ j, j < Lib.deBruijn64tab.length → w.cell? ⟨0, j, none⟩ = some (.int .u8 (Lib.deBruijn64tab.getD j 0))
theorem TabAt.kept {w w' : World} {row : Option Nat} (h : TabAt w) (hg : w.grownBy w' row) (hr : row ≠ some 0) : TabAt w' := fun j hj => hg.cell (h j hj) (Ne.symm hr)

theorem tz64_key (x a : Nat) (hx : x < 18446744073709551616) (hx0 : x ≠ 0) (hlow : x &&& (18446744073709551616 - x) = a) :
    IntKind.u64.wrap (bits BinOp.and IntKind.u64 (x : Int) (IntKind.u64.wrap (-(x : Int))) * 285870213051353865) / 288230376151711744 = ((a * 285870213051353865 % 18446744073709551616 / 288230376151711744 : Nat) : Int) := by
  have e1 : IntKind.u64.wrap (-(x : Int)) = ((18446744073709551616 - x : Nat) : Int) := by rw [IntKind.wrap_u64]; omega
  rw [e1, bits_and_u64_nat x _ hx (by omega), hlow, IntKind.wrap_u64]
  omega

theorem tz_core (x k idx : Nat) (w : World) (hx0 : ((x : Int) == 0) = false)
    (key : IntKind.u64.wrap (bits BinOp.and IntKind.u64 (x : Int) (IntKind.u64.wrap (-(x : Int))) * 285870213051353865) / 288230376151711744 = (idx : Int))
    (hi : idx < 64) (hk : k < 64) (hcell : w.cell? ⟨0, idx, none⟩ = some (.int .u8 k)) :
    Calls Tryd.prog 31 #[.int .u64 x] w fun e w' => e = .returned (.int .i64 k) ∧ w' = w := by
  go_enter Tryd.func31, Tryd.ntmps31
  go_wp2_with (simp only [key])
  go_ret
  exact ⟨rfl, rfl⟩

theorem tz_any (x : Nat) (hx0 : x ≠ 0) (hx : x < 18446744073709551616) (w : World) (hT : TabAt w) :
    Calls Tryd.prog 31 #[.int .u64 x] w fun e w' => e = .returned (.int .i64 (Lib.ctz 64 x)) ∧ w' = w := by
  obtain ⟨hlow, hk⟩ := Lib.lowest_bit 64 x hx0 hx
  obtain ⟨hi, htab⟩ := Lib.deBruijn64_at _ hk
  have hcell := hT _ (by simpa [Lib.deBruijn64tab] using hi)
  rw [htab] at hcell
  exact tz_core x _ _ w (by simp; omega) (tz64_key x _ hx hx0 hlow) hi hk hcell

end Go.Proofs.YtepldeogcoigkaaDoor
