/- A text that is read, by the reference; a least automaton that is made. (Parted from RDProof.) -/
import Derived.Test.YticmfgclkepgoaaEHs
import Derived.Test.YticmfgclkepgoaaHWr
import Derived.Test.YticmfgclkepgoaaTls
import Derived.Test.YticmfgclkepgoaaMLl
import Derived.Test.YticmfgclkepgoaaRfs
namespace Go.Proofs.Yticmfgclkepgoaa
open Go.RowKit
set_option linter.unusedVariables false

/-- What a least automaton that is made leaves behind. -/
theorem leastD_at {δ : Nat → Nat → Nat} {mk : Nat → Bool} {n l S : Nat} {W : World} {E : Ending} {w' : World} (hn : n ≤ 3000) (hl4 : l ≤ 4) (h : LeastGPost δ mk n l S W E w') :
    ∃ R M p c q d, LeastOf δ mk n l S R M ∧ E = .returned (.tuple #[detV l 0 p R.length c q M.length d, .int .i64 0]) ∧ W.grownBy w' none ∧ DetAt w' ⟨l, 0, R, M⟩ p q := by
  obtain ⟨v, rfl, aR, cR, aM, cM, rs, M, he, hlo, hn7, hm7, hr7, ho7, hg7⟩ := h
  simp only [Ending.returned.injEq] at he
  subst he
  exact ⟨rs.map (·.2), M, aR, cR, aM, cM, hlo, by rw [List.length_map], hg7, det_of_owns (L := l) (S := 0) (its := []) (by rw [List.append_nil]; exact ho7) (fun x hx => by rw [hr7 x hx]; unfold maxLen; omega) (by unfold maxLen; omega) (by unfold maxLen; omega)⟩

/-- The reference's list of parts of a text lies at V. -/
def ReadAt (m : Rx) (W : World) (V : Value) : Prop := ∃ ps k, PL W V ps ∧ k + 1 = ps.length ∧ Means ps 0 k m ∧ ps.length ≤ 13000
theorem ReadAt.kept {m : Rx} {W W' : World} {V : Value} (h : ReadAt m W V) (hg : W.grownBy W' none) : ReadAt m W' V := by
  obtain ⟨ps, k, h1, h2⟩ := h
  exact ⟨ps, k, h1.kept hg, h2⟩
theorem read_good {s : ByteArray} {m : Rx} {j : Nat} (hp : parseR s = .good m j) (hs : s.size ≤ maxLen) (W : World) :
    Calls Try.prog 8 #[.string s] W fun E W' => ∃ V, E = .returned (.tuple #[V, .agg #[.int .i64 0, .int .i64 0]]) ∧ (∀ W'', W'.grownBy W'' none → ReadAt m W'' V) ∧ W.grownBy W' none := by
  refine (rparse_any s W hs).mono fun E W' h => ?_
  rw [hp] at h
  obtain ⟨hb, L, ps, b, k, rfl, hle, hP, hk, hM, hps⟩ := h
  exact ⟨L, rfl, fun W'' hg => ⟨ps, k, hP.pl.kept hg, hk, hM, hps⟩, grown_of_below hb⟩
theorem nat_ints {z : List Int} (h : ∀ k, k < z.length → 0 ≤ z.getD k 0) : natInts (z.map Int.toNat) = z := by
  apply List.ext_getElem
  · simp [natInts]
  · intro i h1 h2
    have := h i h2
    rw [getD_lt h2] at this
    simp [natInts]; omega

end Go.Proofs.Yticmfgclkepgoaa
