/- An append under a name; numbers in a row. (Parted from YConcat.) -/
/- A word behind a row of one's own; what lies there. (Parted from SkCat.) -/
import Derived.Test.YtcgkflddipflbaaTls
import Derived.Lib.AppendZeros
import Derived.Laws.OwnMore
import Derived.LoopN
namespace Go.Proofs.Ytcgkflddipflbaa
open Go.RowKit
set_option linter.unusedVariables false
set_option linter.unusedSimpArgs false

/-- An append, under a name that the walk does not open. -/
def AppY (ts : Array TypeId) (ty : TypeId) (args : Array Value) : Sem Value := Builtin.append_ ts ty args
theorem appY_fold (ts : Array TypeId) (ty : TypeId) (args : Array Value) : Builtin.append_ ts ty args = AppY ts ty args := rfl
theorem info_partsY {P : Program} {t : TypeId} {z : Option Value} {a b : Nat} (h : (P.info? t).map (fun i => (i.zero, i.size, i.bytes)) = some (z, a, b)) : ∃ i, P.info? t = some i ∧ i.zero = z ∧ i.size = a ∧ i.bytes = b := by
  cases hi : P.info? t with
  | none => rw [hi] at h; cases h
  | some i => rw [hi] at h; simp only [Option.map_some, Option.some.injEq, Prod.mk.injEq] at h; exact ⟨i, rfl, h.1, h.2.1, h.2.2⟩
theorem Try.infoI64Y : (Try.prog.info? 3).map (fun i => (i.zero, i.size, i.bytes)) = some (some (.int .i64 0), 1, 8) := by kernel_rfl
def numsI (zs : List Int) : List Value := zs.map fun x => Value.int .i64 x

end Go.Proofs.Ytcgkflddipflbaa

namespace Go.Proofs.Ytcgkflddipflbaa
open Go.RowKit
set_option linter.unusedVariables false
set_option linter.unusedSimpArgs false

theorem app_anyY {w : World} {B : Nat} {a0 a : Option Addr} {c0 c : Nat} {xs us : List Int} (ho : w.ownsRow B 3 1 (.slice a0 xs.length c0) xs.length (numsI xs)) (hB : B ≤ w.heap.size) (hu : Ints w a us) (hl : xs.length + us.length ≤ 1000) :
    ∃ a1 c1 w', (AppY #[23, 23] 23 #[.slice a0 xs.length c0, .slice a us.length c]).run Try.prog w = .ok (.slice a1 (xs.length + us.length) c1) w' ∧ w'.ownsRow B 3 1 (.slice a1 (xs ++ us).length c1) (xs ++ us).length (numsI (xs ++ us)) ∧ w.grownBy w' (Value.slice a0 xs.length c0).ownBlock := by
  obtain ⟨i0, hi0, hz0, hz1, hz2⟩ := info_partsY Try.infoI64Y
  by_cases he : us = []
  · subst he
    refine ⟨a0, c0, w, ?_, by simpa using ho, grown_refl _ _⟩
    have hc := ho.2
    rcases hc with ⟨h1, _⟩ | ⟨g', cap', cur, h1, _, _, h4, _⟩
    · simp only [Value.slice.injEq] at h1
      obtain ⟨rfl, h2, rfl⟩ := h1
      rw [h2]
      cases a with
      | none => simp [AppY, Builtin.append_, run_underlying Try.underlying23, sizeOf, typeInfo, zeroValue, hi0, hz0, Builtin.lenOf, run_firstCells_none, storeCells]
      | some b =>
        have hf := run_firstCells_some (P := Try.prog) w i0.size 0 b 0 c [] (by simp) (by simp)
        simp [AppY, Builtin.append_, run_underlying Try.underlying23, sizeOf, typeInfo, zeroValue, hi0, hz0, Builtin.lenOf, hf, storeCells]
    · simp only [Value.slice.injEq] at h1
      obtain ⟨rfl, _, rfl⟩ := h1
      have h5 : ¬ c0 < xs.length := by omega
      cases a with
      | none => simp [AppY, Builtin.append_, run_underlying Try.underlying23, sizeOf, typeInfo, zeroValue, hi0, hz0, Builtin.lenOf, run_firstCells_none, storeCells, h5, h4]
      | some b =>
        have hf := run_firstCells_some (P := Try.prog) w i0.size 0 b 0 c [] (by simp) (by simp)
        simp [AppY, Builtin.append_, run_underlying Try.underlying23, sizeOf, typeInfo, zeroValue, hi0, hz0, Builtin.lenOf, hf, storeCells, h5, h4]
  · have hlen : 0 < us.length := List.length_pos_iff.2 he
    obtain ⟨b, off, rfl, hc⟩ := hu.at hlen
    obtain ⟨g1, c1, w1, hr, h2, h3, _, _⟩ := run_append_lies (P := Try.prog) w 23 23 B 3 i0 (.int .i64 0) 1 8 Try.underlying23 hi0 hz0 hz1 hz2 rfl (by decide) (.slice a0 xs.length c0) xs.length (numsI xs) ho ⟨b, off, none⟩ us.length c (numsI us) (by simp [numsI]) (fun j u hu => by
        have hj : j < us.length := by have := (List.getElem?_eq_some_iff.1 hu).1; simpa [numsI] using this
        have e : (⟨b, off, none⟩ : Addr).add j = ⟨b, off + j, none⟩ := by by_cases hj0 : j = 0 <;> simp [Addr.add, hj0]
        rw [e, hc j hj, ← hu]
        simp [numsI, hj, List.getD]) (by intro u hu; simp [numsI] at hu; obtain ⟨x, _, rfl⟩ := hu; rfl) hlen (by unfold maxLen; omega) (by omega) hB _ rfl
    refine ⟨some ⟨g1, 0, none⟩, c1, w1, hr, ?_, h3⟩
    have e : numsI xs ++ numsI us = numsI (xs ++ us) := by simp [numsI]
    rw [List.length_append, ← e]
    exact h2
theorem Ints.far {W W' : World} {B : Nat} {a : Option Addr} {zs : List Int} (hN : Ints W a zs) (h : ∀ y, a = some y → y.block ≠ B) (g : W.grownBy W' (some B)) : Ints W' a zs := by
  rcases hN with h1 | ⟨b, off, rfl, hc⟩
  · exact .inl h1
  · exact .inr ⟨b, off, rfl, fun i hi => g.cell (hc i hi) (by have := h _ rfl; simpa using this)⟩
theorem ints_of_row {w : World} {B n c : Nat} {a : Option Addr} {zs : List Int} (h : w.ownsRow B 3 1 (.slice a n c) zs.length (numsI zs)) : Ints w a zs := by
  by_cases h0 : zs.length = 0
  · left; exact List.length_eq_zero_iff.1 h0
  · right
    have h2 := h.2
    rcases h2 with ⟨h1, h3⟩ | ⟨g, cap, cur, h1, _⟩
    · exact absurd h3 h0
    · simp only [Value.slice.injEq] at h1
      obtain ⟨rfl, rfl, rfl⟩ := h1
      refine ⟨g, 0, rfl, fun i hi => ?_⟩
      rw [Nat.zero_add, h.cellAt i (by omega)]
      simp only [numsI, List.getElem?_map, List.getElem?_eq_getElem hi, Option.map_some, List.getD, Option.getD_some]

theorem new_of_row {w : World} {B n c : Nat} {a : Option Addr} {zs : List Int} (h : w.ownsRow B 3 1 (.slice a n c) zs.length (numsI zs)) : ∀ y, a = some y → B ≤ y.block := by
  intro y hy
  have h2 := h.2
  rcases h2 with ⟨h1, h3⟩ | ⟨g, cap, cur, h1, h4, _⟩
  · simp only [Value.slice.injEq] at h1
    rw [h1.1] at hy; cases hy
  · simp only [Value.slice.injEq] at h1
    rw [h1.1] at hy; cases hy
    exact h4

end Go.Proofs.Ytcgkflddipflbaa
