/- MonoidElements holds: whatever automaton comes in, in whatever memory, shared or not, the program lists all that words do to the states of its least one, if that has at most five, as the reference does, and refuses it as the document says otherwise; it writes nothing that was there; there are no conditions. -/
import Derived.Test.YtofjboelplknhaaMElemW
import Derived.Test.YtofjboelplknhaaMLeast
import Derived.SizedLaws
namespace Go.Proofs.Ytofjboelplknhaa
open Go.ChangeShapes Go.WideShapes Go.ChangeAt Go.RowKit Go.Joins
set_option linter.unusedVariables false

theorem melem_walk (L S : Int) (R : List (List Int)) (M : List Int) (a a' : Option Addr) (c c' : Nat) (w : World) (hD : DetAt w ⟨L, S, R, M⟩ a a') :
    Calls Try.prog 5 #[detV L S a R.length c a' M.length c'] w (Says (.bool true) w) := by
  have HCk : ∀ W, w.grownBy W none → Calls Try.prog 13 #[detV L S a R.length c a' M.length c'] W (Says (.int .i64 (checkF ⟨L, S, R, M⟩)) W) := fun W hW => checkR_any L S R M a a' c c' W (hD.grown hW)
  by_cases hc : checkF ⟨L, S, R, M⟩ = 0
  · have hG := good_of_check hc
    rw [hc] at HCk
    have hL1 : 1 ≤ L := hG.l1
    have hL4 : L ≤ 4 := hG.l4
    have hn3 : R.length ≤ 3000 := hG.n3
    have hs1 : 0 ≤ S ∧ S < (R.length : Int) := hG.s
    obtain ⟨l, rfl⟩ : ∃ l : Nat, L = l := ⟨L.toNat, by omega⟩
    obtain ⟨κ, hκ⟩ := ner_key (Dfa.nx ⟨l, S, R, M⟩) (Dfa.mk1 ⟨l, S, R, M⟩) R.length l
    obtain ⟨RL, ML, hlo⟩ := least_exists l S R M a a' c c' w hD hG
    simp only [Int.toNat_natCast] at hlo
    have hU : ∀ R' M', LeastOf (Dfa.nx ⟨l, S, R, M⟩) (Dfa.mk1 ⟨l, S, R, M⟩) R.length l S.toNat R' M' → R' = RL ∧ M' = ML := fun R' M' h => h.eq hlo hκ
    have hGL : Good ⟨l, 0, RL, ML⟩ := hlo.good (fun s b hs hb => hG.nx_lt hs (by simp; exact hb)) (by omega) (by omega) (by omega) hn3
    have HL : Hid (∀ W, w.grownBy W none → Calls Try.prog 10 #[detV l S a R.length c a' M.length c'] W (LeastGPost (Dfa.nx ⟨l, S, R, M⟩) (Dfa.mk1 ⟨l, S, R, M⟩) R.length l S.toNat W)) := fun W hW => leastE_good l S R M a a' c c' W (hD.grown hW) hG
    have HLr : Hid (∀ W, w.grownBy W none → Calls Try.prog 15 #[detV l S a R.length c a' M.length c'] W (LeastPost (Dfa.nx ⟨l, S, R, M⟩) (Dfa.mk1 ⟨l, S, R, M⟩) R.length l S.toNat W)) := fun W hW => leastR_any l S R M a a' c c' W (hD.grown hW) hG
    by_cases h5 : RL.length ≤ 5
    · refine melem_B l S l a a' R.length M.length c c' w (Dfa.nx ⟨l, S, R, M⟩) (Dfa.mk1 ⟨l, S, R, M⟩) R.length S.toNat RL ML hGL h5 hU (fun W hW => ?_) (fun W hW => ?_)
      · exact elem_ok l S l a a' R.length M.length c c' W _ _ _ _ RL ML hGL h5 hU (fun W' hW' => small_ok l S l a a' R.length M.length c c' W' _ _ _ _ RL.length (fun R' M' h => by rw [(hU R' M' h).1]) h5 (fun W2 hW2 => HL.out W2 (grown_trans hW (grown_trans hW' hW2))))
      · exact lsmall_ok l S l a a' R.length M.length c c' W _ _ _ _ RL.length (fun R' M' h => by rw [(hU R' M' h).1]) h5 (fun W2 hW2 => HCk W2 (grown_trans hW hW2)) (fun W2 hW2 => HLr.out W2 (grown_trans hW hW2))
    · refine melem_A l S 1 a a' R.length M.length c c' w (by omega) (fun W hW => ?_) (fun W hW => ?_)
      · exact elem_bad l S 1 a a' R.length M.length c c' W (by omega) (fun W' hW' => small_big l S l a a' R.length M.length c c' W' _ _ _ _ RL.length (fun R' M' h => by rw [(hU R' M' h).1]) (by omega) hn3 (fun W2 hW2 => HL.out W2 (grown_trans hW (grown_trans hW' hW2))))
      · exact lsmall_big l S l a a' R.length M.length c c' W _ _ _ _ RL.length (fun R' M' h => by rw [(hU R' M' h).1]) (by omega) hn3 (fun W2 hW2 => HCk W2 (grown_trans hW hW2)) (fun W2 hW2 => HLr.out W2 (grown_trans hW hW2))
  · refine melem_A L S (checkF ⟨L, S, R, M⟩) a a' R.length M.length c c' w hc (fun W hW => ?_) (fun W hW => ?_)
    · exact elem_bad L S _ a a' R.length M.length c c' W hc (fun W' hW' => small_bad L S _ a a' R.length M.length c c' W' hc (fun W2 hW2 => leastE_bad L S R M a a' c c' W2 (hD.grown (grown_trans hW (grown_trans hW' hW2))) hc))
    · exact lsmall_bad L S _ a a' R.length M.length c c' W hc (fun W2 hW2 => HCk W2 (grown_trans hW hW2))

theorem melem_own : ownKnob Try.prog.godebug = none := by kernel_rfl

set_option maxRecDepth 100000 in
theorem melem_lifted (os : Os) (started : os.Started) (H : Type) (enc : TypeId × Value → H) :
    ReturnsInHanded {} Try.checked os 5 .any (Rows.monoidElementsSpec.pre6 enc Try.prog Try.f5 Rows.monoidElementsRow.domain false) (Rows.monoidElementsSpec.post enc Try.prog Try.f5 false true false false) := by
  refine returnsInHanded_of_change_sized (C := Try.checked) melem_own started (by kernel_rfl) Try.func5
    (ChangeSpec.witness6 (enc := enc) (C := Try.checked) false ⟨#[], #[.agg #[.int .i64 0, .int .i64 0, .slice none 0 0, .slice none 0 0]], []⟩ 8 (by kernel_rfl) (by kernel_rfl) (by kernel_rfl) (by kernel_rfl)) ?_
  intro W base args ds gs before hval0 hW hcnd hsz0 _
  have hval : ∀ (j : Nat) t v, Try.f5.params[j]? = some t → args[j]? = some v → Value.okWide Try.prog W .any base t v := hval0
  have hW' := hW
  obtain ⟨p, q, hA0, hV, rfl, hfz, hnd⟩ := hW
  have hA : DataW.TrodAll enc Try.prog W 0 (fun _ => true) true Try.f5.params.toList args.toList ds p := hA0
  rw [Try.params5] at hA hval
  obtain ⟨v0, vs0, d0, ds0, p0, q0, hargs, rfl, rfl, h0, r0⟩ := trodAll_cons hA
  obtain ⟨rfl, rfl, rfl⟩ := trodAll_nil r0
  obtain rfl : args = #[v0] := by cases args; simp_all
  obtain ⟨rfl, rfl⟩ := trodVars_none hV
  have lt0 : ∀ x ∈ p0, x.block < W.heap.size := by obtain ⟨m, hm⟩ := h0; exact DataW.trod_lt m _ _ _ hm
  obtain ⟨L, S, a, c, R, a', c', M, rfl, hD, _, _⟩ := det_of_trod (hval 0 25 v0 rfl rfl) h0
  clear hA0 hval0 hsz0
  refine (melem_walk L S R M a a' c c' W hD).mono fun E W' ⟨he, hg⟩ => ?_
  subst he
  have bel : Below W.heap.size W W' := below_of_grown hg
  exact ⟨_, rfl, _, _, _, [], _, [], hW', trodAll_mk1 (shut_bool Try.underlying4 _), (trodAll_cons_mk (Below.trod Try.laidOut (by kernel_rfl) (of_decide_eq_true (by kernel_rfl)) h0 bel lt0) trodAll_mk0), rfl, bel.frame _, fun h => by cases h⟩

theorem monoidElements_holds : Rows.MonoidElementsSaid :=
  OpenClaim.holds_of_wide 5 Try.f5 rfl rfl rfl rfl rfl rfl rfl ⟨rfl, rfl, rfl, rfl, rfl⟩ rfl rfl rfl rfl rfl (by kernel_rfl) Try.func5 (by kernel_rfl)
    (of_decide_eq_true (by kernel_rfl)) (by unfold Func.isWrapper; first | (rw [if_pos (by decide +kernel)]; kernel_rfl) | (rw [if_neg (by decide +kernel)]; exact ⟨rfl, rfl⟩))
    (fun os started H enc _ => melem_lifted os started H enc)
#print axioms monoidElements_holds
end Go.Proofs.Ytofjboelplknhaa
