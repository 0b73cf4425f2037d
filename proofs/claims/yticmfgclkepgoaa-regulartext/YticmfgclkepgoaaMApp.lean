/- A word is put behind a row of one's own, be it empty or nothing. -/
import Derived.Test.YticmfgclkepgoaaLOfs
import Derived.Test.YticmfgclkepgoaaHMem
import Derived.Lib.AppendZeros
import Derived.Laws.OwnMore
namespace Go.Proofs.Yticmfgclkepgoaa
open Go.RowKit
set_option linter.unusedVariables false
set_option linter.unusedSimpArgs false

def AppM (ts : Array TypeId) (ty : TypeId) (args : Array Value) : Sem Value := Builtin.append_ ts ty args
theorem appM_fold (ts : Array TypeId) (ty : TypeId) (args : Array Value) : Builtin.append_ ts ty args = AppM ts ty args := rfl
theorem appM_any {w : World} {B : Nat} {a0 a : Option Addr} {c0 c : Nat} {xs us : List Int} (ho : w.ownsRow B 3 1 (.slice a0 xs.length c0) xs.length (vals xs)) (hB : B ≤ w.heap.size) (hu : Ints w a us) (hl : xs.length + us.length ≤ 1000000) :
    ∃ a1 c1 w', (AppM #[23, 23] 23 #[.slice a0 xs.length c0, .slice a us.length c]).run Try.prog w = .ok (.slice a1 (xs.length + us.length) c1) w' ∧ w'.ownsRow B 3 1 (.slice a1 (xs ++ us).length c1) (xs ++ us).length (vals (xs ++ us)) ∧ w.grownBy w' (Value.slice a0 xs.length c0).ownBlock := by
  obtain ⟨i0, hi0, hz0, hz1, hz2⟩ := info_parts Try.info3i
  by_cases he : us = []
  · subst he
    refine ⟨a0, c0, w, ?_, by simpa using ho, grown_refl _ _⟩
    have hc := ho.2
    rcases hc with ⟨h1, _⟩ | ⟨g', cap', cur, h1, _, _, h4, _⟩
    · simp only [Value.slice.injEq] at h1
      obtain ⟨rfl, h2, rfl⟩ := h1
      rw [h2]
      cases a with
      | none => simp [AppM, Builtin.append_, run_underlying Try.underlying23, sizeOf, typeInfo, zeroValue, hi0, hz0, Builtin.lenOf, run_firstCells_none, storeCells]
      | some b =>
        have hf := run_firstCells_some (P := Try.prog) w i0.size 0 b 0 c [] (by simp) (by simp)
        simp [AppM, Builtin.append_, run_underlying Try.underlying23, sizeOf, typeInfo, zeroValue, hi0, hz0, Builtin.lenOf, hf, storeCells]
    · simp only [Value.slice.injEq] at h1
      obtain ⟨rfl, _, rfl⟩ := h1
      have h5 : ¬ c0 < xs.length := by omega
      cases a with
      | none => simp [AppM, Builtin.append_, run_underlying Try.underlying23, sizeOf, typeInfo, zeroValue, hi0, hz0, Builtin.lenOf, run_firstCells_none, storeCells, h5, h4]
      | some b =>
        have hf := run_firstCells_some (P := Try.prog) w i0.size 0 b 0 c [] (by simp) (by simp)
        simp [AppM, Builtin.append_, run_underlying Try.underlying23, sizeOf, typeInfo, zeroValue, hi0, hz0, Builtin.lenOf, hf, storeCells, h5, h4]
  · have hlen : 0 < us.length := List.length_pos_iff.2 he
    obtain ⟨b, off, rfl, hc⟩ := hu.at hlen
    obtain ⟨g1, c1, w1, hr, h2, h3, _, _⟩ := run_append_lies (P := Try.prog) w 23 23 B 3 i0 (.int .i64 0) 1 8 Try.underlying23 hi0 hz0 hz1 hz2 rfl (by decide) (.slice a0 xs.length c0) xs.length (vals xs) ho ⟨b, off, none⟩ us.length c (vals us) (by simp [vals]) (fun j u hu => by
        have hj : j < us.length := by have := (List.getElem?_eq_some_iff.1 hu).1; simpa [vals] using this
        have e : (⟨b, off, none⟩ : Addr).add j = ⟨b, off + j, none⟩ := by by_cases hj0 : j = 0 <;> simp [Addr.add, hj0]
        rw [e, hc j hj, ← hu]
        simp [vals, hj, List.getD]) (by intro u hu; simp [vals] at hu; obtain ⟨x, _, rfl⟩ := hu; rfl) hlen (by unfold maxLen; omega) (by omega) hB _ rfl
    refine ⟨some ⟨g1, 0, none⟩, c1, w1, hr, ?_, h3⟩
    have e : vals xs ++ vals us = vals (xs ++ us) := by simp [vals]
    rw [List.length_append, ← e]
    exact h2

end Go.Proofs.Yticmfgclkepgoaa
