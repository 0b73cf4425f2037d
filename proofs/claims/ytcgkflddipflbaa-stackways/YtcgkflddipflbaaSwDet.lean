/- What the law asks of one of Before's automata. -/
import Derived.Test.YtcgkflddipflbaaSbA
import Derived.Test.YtcgkflddipflbaaSwMath
import Derived.Test.YtcgkflddipflbaaMLl
import Derived.Test.YtcgkflddipflbaaRLs
import Derived.Test.YtcgkflddipflbaaFSp
namespace Go.Proofs.Ytcgkflddipflbaa
open Go.RowKit
set_option linter.unusedVariables false

section
variable {E : Edg} {c en : Nat} {R : List (List Int)} {M : List Int}
theorem sw_lt (hc : c < 3) (he : en < 6) : (∀ s a, s < 256 → a < 3 → dset (tE E 108) s a < 256) ∧ setOf [(c : Int)] < 256 :=
  ⟨fun s a _ _ => dset_lt (good_autE E hc he).t (show (6 : Int) ≤ 8 by omega) s a, setOf_lt (good_autE E hc he).s (show (6 : Int) ≤ 8 by omega)⟩
theorem sw_good (hc : c < 3) (he : en < 6) (h : LeastOf (dset (tE E 108)) (mset [(en : Int)]) 256 3 (setOf [(c : Int)]) R M) : Good ⟨3, 0, R, M⟩ :=
  h.good (sw_lt (E := E) hc he).1 (sw_lt (E := E) hc he).2 (by omega) (by omega) (by omega)
theorem sw_same (hc : c < 3) (he : en < 6) (h : LeastOf (dset (tE E 108)) (mset [(en : Int)]) 256 3 (setOf [(c : Int)]) R M) {R' : List (List Int)} {M' : List Int} (h' : LeastOf (Dfa.nx ⟨3, 0, R, M⟩) (Dfa.mk1 ⟨3, 0, R, M⟩) R.length 3 0 R' M') : R = R' ∧ M = M' := by
  have hG := sw_good hc he h
  have hs := hG.s
  refine least_lang h h' (sw_lt (E := E) hc he).1 (fun s a hs ha => hG.nx_lt hs (by show a < (3 : Int).toNat; omega)) (sw_lt (E := E) hc he).2 (by have h1 : (0 : Int) < R.length := hs.2; omega) fun z hz => ?_
  exact (h.lang (sw_lt (E := E) hc he).1 (sw_lt (E := E) hc he).2 hz).symm
theorem sw_acc (hE : Top E) (hc : c < 3) (he : en < 6) (h : LeastOf (dset (tE E 108)) (mset [(en : Int)]) 256 3 (setOf [(c : Int)]) R M) {zs : List Int} (hz : OnesSk zs) : accB ⟨3, 0, R, M⟩ zs = true ↔ readC E c zs en < 2002 := by
  have hz2 : ∀ z, z ∈ zs → 0 ≤ z ∧ z < 3 := fun z hm => by
    obtain ⟨i, hi, rfl⟩ := List.getElem_of_mem hm
    have h1 := (oneSk_iff _).1 (hz i hi)
    rw [List.getD, List.getElem?_eq_getElem hi] at h1
    exact h1
  have e1 : (zs.map Int.toNat).map (fun z : Nat => (z : Int)) = zs := by
    rw [List.map_map]
    conv => rhs; rw [← List.map_id zs]
    apply List.map_congr_left
    intro z hm
    have := hz2 z hm
    simp only [Function.comp, id]
    omega
  have hl : ∀ b, b ∈ zs.map Int.toNat → b < 3 := fun b hb => by
    obtain ⟨z, hm, rfl⟩ := List.mem_map.1 hb
    have := hz2 z hm
    omega
  have h1 : Dfa.mk1 ⟨3, 0, R, M⟩ ((zs.map Int.toNat).foldl (Dfa.nx ⟨3, 0, R, M⟩) 0) = mset [(en : Int)] ((zs.map Int.toNat).foldl (dset (tE E 108)) (setOf [(c : Int)])) := h.lang (sw_lt (E := E) hc he).1 (sw_lt (E := E) hc he).2 hl
  have h2 := lang_tE hE (c := c) (en := en) (by omega) he hl
  rw [e1] at h2
  rw [← h2]
  have e3 : accB ⟨3, 0, R, M⟩ zs = Dfa.mk1 ⟨3, 0, R, M⟩ ((zs.map Int.toNat).foldl (Dfa.nx ⟨3, 0, R, M⟩) 0) := by
    unfold accB Dfa.go
    rw [List.foldl_map]
    rfl
  rw [e3, h1]
  rfl
end

end Go.Proofs.Ytcgkflddipflbaa
