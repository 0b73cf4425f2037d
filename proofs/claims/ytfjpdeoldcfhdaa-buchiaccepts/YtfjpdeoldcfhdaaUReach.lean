/- The reference's Reach: which states a word leads to. -/
import Derived.Test.YtfjpdeoldcfhdaaUSets
import Derived.Test.YtfjpdeoldcfhdaaUCheck2
import Derived.Test.YtfjpdeoldcfhdaaHMem
namespace Go.Proofs.Ytfjpdeoldcfhdaa
open Go.RowKit
set_option linter.unusedVariables false

theorem Try.infoB : (Try.prog.info? 4).map (fun i => (i.zero, i.size, i.bytes)) = some (some (.bool false), 1, 1) := by kernel_rfl
theorem madeFalse (n : Nat) : madeCells (Value.cells (.bool false)) n = Array.replicate n (Value.bool false) := by
  apply Array.ext'
  simpa [Value.cells] using toList_madeCells_one (.bool false) n
theorem make_bools (w : World) (N : Nat) (hN : N ≤ 1000000) : (Instr.makeSlice 62 (.int .i64 (N : Int)) (.int .i64 (N : Int))).run Try.prog w = .ok (.slice (some ⟨w.heap.size, 0, none⟩) N N) (w.alloc (.cells (Array.replicate N (Value.bool false)) 4)) := by
  obtain ⟨i0, hi, hz0, hz1, hz2⟩ := info_parts Try.infoB
  have hmk := run_make (P := Try.prog) w 62 4 i0 (.bool false) Try.underlying62 hi hz0 .i64 .i64 (N : Int) (N : Int) (by omega) (by omega) (by rw [hz2]; omega) (by omega)
  rw [hz1, Nat.mul_one, Int.toNat_natCast, madeFalse] at hmk
  exact hmk

/-- A set as a row of truths. -/
def bset (s n : Nat) : List Value := (List.range n).map fun i => .bool (s.testBit i)
theorem bset_len (s n : Nat) : (bset s n).length = n := by simp [bset]
theorem bset_get {s n i : Nat} (h : i < n) : (bset s n)[i]? = some (.bool (s.testBit i)) := by simp [bset, h]
theorem bset_set {s n i : Nat} (h : i < n) : (bset s n).set i (.bool true) = bset (s ||| 2 ^ i) n := by
  refine List.ext_getElem? fun k => ?_
  rw [List.getElem?_set]
  by_cases hk : i = k
  · subst hk; simp [bset, h]
  · rw [if_neg hk]
    by_cases hn : k < n
    · rw [bset_get hn, bset_get hn, Nat.testBit_or, Nat.testBit_two_pow]
      simp [hk]
    · rw [List.getElem?_eq_none (by rw [bset_len]; omega), List.getElem?_eq_none (by rw [bset_len]; omega)]
theorem bset_zero (n : Nat) : (Array.replicate n (Value.bool false)).toList = bset 0 n := by
  rw [Array.toList_replicate]
  unfold bset
  refine Eq.symm (List.eq_replicate_iff.2 ⟨by simp, fun b hb => ?_⟩)
  obtain ⟨i, _, rfl⟩ := List.mem_map.1 hb
  simp

theorem mset_iff {F : List Int} {s : Nat} : mset F s = true ↔ ∃ f, f ∈ F ∧ s.testBit f.toNat = true := by
  unfold mset
  rw [decide_eq_true_eq]
  constructor
  · intro h
    obtain ⟨i, hi⟩ := Nat.exists_testBit_of_ne_zero h
    rw [Nat.testBit_and, Bool.and_eq_true] at hi
    obtain ⟨f, hf, rfl⟩ := setOf_bit.1 hi.2
    exact ⟨f, hf, hi.1⟩
  · rintro ⟨f, hf, hb⟩ h0
    have : (s &&& setOf F).testBit f.toNat = true := by rw [Nat.testBit_and, hb, setOf_bit.2 ⟨f, hf, rfl⟩]; rfl
    rw [h0] at this
    simp at this

/-- A set as a row of one's own. -/
structure BsetAt (B : Nat) (w : World) (g n s : Nat) (its : List Item) : Prop where
  own : Owns B w ((4, .slice (some ⟨g, 0, none⟩) n n, bset s n) :: its)
theorem BsetAt.kept {B : Nat} {w w' : World} {g n s : Nat} {its : List Item} (h : BsetAt B w g n s its) (hg : w.grownBy w' none) : BsetAt B w' g n s its := ⟨h.own.kept hg⟩
theorem BsetAt.cell {B : Nat} {w : World} {g n s : Nat} {its : List Item} (h : BsetAt B w g n s its) {i : Nat} (hi : i < n) : w.cell? ⟨g, i, none⟩ = some (.bool (s.testBit i)) := h.own.cell (bset_get hi)
theorem BsetAt.fz {B : Nat} {w : World} {g n s : Nat} {its : List Item} (h : BsetAt B w g n s its) (i : Nat) : w.frozen? ⟨g, i, none⟩ = false := h.own.fz i
theorem BsetAt.put {B : Nat} {w : World} {g n s : Nat} {its : List Item} (h : BsetAt B w g n s its) {i : Nat} (hi : i < n) : BsetAt B (w.setCell ⟨g, i, none⟩ (.bool true)) g n (s ||| 2 ^ i) its := by
  have h1 := h.own.set hi (.bool true)
  rw [bset_set hi] at h1
  exact ⟨h1⟩
theorem BsetAt.new {B : Nat} {w : World} {its : List Item} (h : Owns B w its) (hB : B ≤ w.heap.size) {n : Nat} (hn : n ≤ 1000000) : BsetAt B (w.alloc (.cells (Array.replicate n (Value.bool false)) 4)) w.heap.size n 0 its := by
  have h1 := h.made (arr := Array.replicate n (Value.bool false)) (n := n) hB 4 (by simp) (by unfold maxLen; omega)
  rw [bset_zero] at h1
  exact ⟨h1⟩

theorem goS_snoc {T : List StepI} {s : Nat} {z : List Nat} {k : Nat} (hk : k < z.length) : goS T s (z.take (k + 1)) = dset T (goS T s (z.take k)) (z.getD k 0) := by
  unfold goS
  rw [List.take_add_one, List.foldl_append]
  simp [hk, List.getD]

end Go.Proofs.Ytfjpdeoldcfhdaa
