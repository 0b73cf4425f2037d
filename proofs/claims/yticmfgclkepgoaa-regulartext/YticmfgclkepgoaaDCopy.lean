/- A copy of an automaton. (Parted from DLeastW.) -/
import Derived.Test.YticmfgclkepgoaaRLs
import Derived.Test.YticmfgclkepgoaaHLeastD
import Derived.Test.YticmfgclkepgoaaTls
namespace Go.Proofs.Yticmfgclkepgoaa
open Go.RowKit
set_option linter.unusedVariables false

/-- A copy of an automaton. -/
def CopyPost (L S : Int) (R : List (List Int)) (M : List Int) (w : World) (e : Ending) (w' : World) : Prop :=
  ∃ (aR : Option Addr) (cR : Nat) (aM : Option Addr) (cM : Nat), e = .returned (detV L S aR R.length cR aM M.length cM) ∧ DetAt w' ⟨L, S, R, M⟩ aR aM ∧ w.grownBy w' none
theorem copy_of_detOf {L S : Int} {R : List (List Int)} {M : List Int} {w w' : World} {e : Ending} (h : DetOfPost L S R M w e w') (hn : R.length ≤ maxLen) (hm : ∀ i, i < R.length → (R.getD i []).length ≤ maxLen) (hM : M.length ≤ maxLen) : CopyPost L S R M w e w' := by
  obtain ⟨vR, vM, rs, he, hrs, ho, hg⟩ := h
  obtain ⟨_, aM, cM, hvM⟩ := ho.head
  obtain ⟨_, aR, cR, hvR⟩ := ho.tail.head
  simp only [vals_len] at hvM
  simp only [List.length_map] at hvR
  have hrl : rs.length = R.length := by rw [← hrs, List.length_map]
  rw [hvR, hvM] at ho
  refine ⟨aR, cR, aM, cM, by rw [he, hvR, hvM, hrl], ?_, hg⟩
  have h2 := det_of_owns (L := L) (S := S) (its := []) (by rw [List.append_nil]; exact at_2 ho) (fun x hx => by
    obtain ⟨i, hi, rfl⟩ := List.getElem_of_mem hx
    have h3 := hm i (by omega)
    have e1 : R.getD i [] = rs[i].2 := by rw [← hrs]; simp [List.getD, hi]
    rw [e1] at h3
    exact h3) (by omega) hM
  rw [hrs] at h2
  exact h2

end Go.Proofs.Yticmfgclkepgoaa
