/- WordTells holds: whatever numbers, word and lassos come in, in whatever memory, shared or not, it returns true and writes nothing that was there; there are no conditions. -/
import Derived.Test.YthccdfjmkdcehaaTellsW
import Derived.Test.YthccdfjmkdcehaaOpen
namespace Go.Proofs.Ythccdfjmkdcehaa
open Go.ChangeShapes Go.WideShapes Go.ChangeAt Go.RowKit Go.Joins
set_option linter.unusedVariables false

theorem tells_walk (nl m : Int) (aw a a' b b' : Option Addr) (cw c c' d d' : Nat) (zs h l h' l' : List Int) (w : World) (hz : Ints w aw zs) (hh : Ints w a h) (hl : Ints w a' l) (gh : Ints w b h') (gl : Ints w b' l')
    (mz : zs.length ≤ maxLen) (hm : h.length ≤ maxLen) (hm' : l.length ≤ maxLen) (gm : h'.length ≤ maxLen) (gm' : l'.length ≤ maxLen) (hn : m ≤ 9223372036854775807) :
    Calls Try.prog 4 #[.int .i64 nl, .slice aw zs.length cw, .agg #[.slice a h.length c, .slice a' l.length c'], .agg #[.slice b h'.length d, .slice b' l'.length d'], .int .i64 m] w fun e w' => e = .returned (.bool true) ∧ Below w.heap.size w w' := by
  have H9 := fun (W : World) (hK : Keep2 w.heap.size w W (.slice a h.length c) (.slice a' l.length c') (.slice b h'.length d) (.slice b' l'.length d')) => (may_any nl aw cw zs W (hz.later hK.1) mz).mono (R' := fun e w' => e = .returned (.int .i64 (mayF nl zs)) ∧ Below W.heap.size W w') (fun e w' hw => ⟨hw.1, hw.2 ▸ Below.refl _ _⟩)
  have H10 := fun (W : World) (hK : Keep2 w.heap.size w W (.slice a h.length c) (.slice a' l.length c') (.slice b h'.length d) (.slice b' l'.length d')) => (mayR_any nl aw cw zs W (hz.later hK.1) mz).mono (R' := fun e w' => e = .returned (.int .i64 (mayF nl zs)) ∧ Below W.heap.size W w') (fun e w' hw => ⟨hw.1, hw.2 ▸ Below.refl _ _⟩)
  have H11 := fun (W : World) (hK : Keep2 w.heap.size w W (.slice a h.length c) (.slice a' l.length c') (.slice b h'.length d) (.slice b' l'.length d')) => lasso_any nl a a' c c' h l W (hh.later hK.1) (hl.later hK.1) hm hm'
  have H12 := fun (W : World) (hK : Keep2 w.heap.size w W (.slice a h.length c) (.slice a' l.length c') (.slice b h'.length d) (.slice b' l'.length d')) => lassoR_any nl a a' c c' h l W (hh.later hK.1) (hl.later hK.1) hm hm'
  have H12a := fun (W : World) (hK : Keep2 w.heap.size w W (.slice a h.length c) (.slice a' l.length c') (.slice b h'.length d) (.slice b' l'.length d')) => lassoR_any 4 a a' c c' h l W (hh.later hK.1) (hl.later hK.1) hm hm'
  have H12b := fun (W : World) (hK : Keep2 w.heap.size w W (.slice a h.length c) (.slice a' l.length c') (.slice b h'.length d) (.slice b' l'.length d')) => lassoR_any 4 b b' d d' h' l' W (gh.later hK.1) (gl.later hK.1) gm gm'
  have H13 := fun (W : World) (hK : Keep2 w.heap.size w W (.slice a h.length c) (.slice a' l.length c') (.slice b h'.length d) (.slice b' l'.length d')) => atW_any m a a' c c' h l W (hh.later hK.1) (hl.later hK.1) hm hm' hn
  have H15 := fun (W : World) (hK : Keep2 w.heap.size w W (.slice a h.length c) (.slice a' l.length c') (.slice b h'.length d) (.slice b' l'.length d')) => sameW_any a a' b b' c c' d d' h l h' l' W (hh.later hK.1) (hl.later hK.1) (gh.later hK.1) (gl.later hK.1) hm hm' gm gm'
  by_cases h1 : lassoF 4 h l = 0
  · obtain ⟨g1, g2, g3⟩ := lassoF_ok h1
    rw [h1] at H12a
    have he : sameE h l h' l' = lassoF 4 h' l' := by unfold sameE; rw [if_pos h1]
    rw [he] at H15
    by_cases h2 : m < 0
    · have hp : placedF m h l = 2 := by unfold placedF; rw [if_pos h1, if_pos h2]
      rw [hp, if_neg (by omega)] at H13
      by_cases h3 : lassoF 4 h' l' = 0
      · obtain ⟨g4, g5, g6⟩ := lassoF_ok h3
        have H16 := fun (W : World) (hK : Keep2 w.heap.size w W (.slice a h.length c) (.slice a' l.length c') (.slice b h'.length d) (.slice b' l'.length d')) => sameR_any a a' b b' c c' d d' h l h' l' W (hh.later hK.1) (hl.later hK.1) (gh.later hK.1) (gl.later hK.1) g1 g2 g4 g5 g3 g6
        rw [h3, if_pos rfl] at H15
        rw [h3] at H12b
        exact tells_C nl m aw a a' b b' cw c c' d d' zs h l h' l' w _ _ _ h2 H9 H10 H11 H12 H12a H12b H13 H15 H16
      · rw [if_neg h3] at H15
        exact tells_B nl m aw a a' b b' cw c c' d d' zs h l h' l' w _ _ _ h2 h3 H9 H10 H11 H12 H12a H12b H13 H15
    · have hp : placedF m h l = 0 := by unfold placedF; rw [if_pos h1, if_neg h2]
      rw [hp, if_pos rfl] at H13
      have H14 := fun (W : World) (hK : Keep2 w.heap.size w W (.slice a h.length c) (.slice a' l.length c') (.slice b h'.length d) (.slice b' l'.length d')) => at_any m.toNat a a' c c' h l W (hh.later hK.1) (hl.later hK.1) g1 g2 (by omega) g3
      rw [Int.toNat_of_nonneg (by omega)] at H14
      by_cases h3 : lassoF 4 h' l' = 0
      · obtain ⟨g4, g5, g6⟩ := lassoF_ok h3
        have H16 := fun (W : World) (hK : Keep2 w.heap.size w W (.slice a h.length c) (.slice a' l.length c') (.slice b h'.length d) (.slice b' l'.length d')) => sameR_any a a' b b' c c' d d' h l h' l' W (hh.later hK.1) (hl.later hK.1) (gh.later hK.1) (gl.later hK.1) g1 g2 g4 g5 g3 g6
        rw [h3, if_pos rfl] at H15
        rw [h3] at H12b
        exact tells_E nl m aw a a' b b' cw c c' d d' zs h l h' l' w _ _ _ _ (by omega) H9 H10 H11 H12 H12a H12b H13 H14 H15 H16
      · rw [if_neg h3] at H15
        exact tells_D nl m aw a a' b b' cw c c' d d' zs h l h' l' w _ _ _ _ (by omega) h3 H9 H10 H11 H12 H12a H12b H13 H14 H15
  · have hp : placedF m h l = lassoF 4 h l := by unfold placedF; rw [if_neg h1]
    rw [hp, if_neg h1] at H13
    have he : sameE h l h' l' = lassoF 4 h l := by unfold sameE; rw [if_neg h1]
    rw [he, if_neg h1] at H15
    exact tells_A nl m aw a a' b b' cw c c' d d' zs h l h' l' w _ _ _ _ h1 H9 H10 H11 H12 H12a H12b H13 H15

theorem tells_own : ownKnob Try.prog.godebug = none := by kernel_rfl

set_option maxRecDepth 100000 in
theorem tells_lifted (os : Os) (started : os.Started) (H : Type) (enc : TypeId × Value → H) :
    ReturnsInHanded {} Try.checked os 4 .any (Rows.wordTellsSpec.pre6 enc Try.prog Try.f4 Rows.wordTellsRow.domain false) (Rows.wordTellsSpec.post enc Try.prog Try.f4 false true false false) := by
  refine returnsInHanded_of_change (C := Try.checked) tells_own started (by kernel_rfl) Try.func4
    (ChangeSpec.witness6 (enc := enc) (C := Try.checked) false ⟨#[], #[.int .i64 0, .slice none 0 0, .agg #[.slice none 0 0, .slice none 0 0], .agg #[.slice none 0 0, .slice none 0 0], .int .i64 0], []⟩ 8 (by kernel_rfl) (by kernel_rfl) (by kernel_rfl) (by kernel_rfl)) ?_
  intro W base args ds gs before hval0 hW hcnd _
  have hval : ∀ (j : Nat) t v, Try.f4.params[j]? = some t → args[j]? = some v → Value.okWide Try.prog W .any base t v := hval0
  have hW' := hW
  obtain ⟨p, q, hA0, hV, rfl, hfz, hnd⟩ := hW
  have hA : DataW.TrodAll enc Try.prog W 0 (fun _ => true) true Try.f4.params.toList args.toList ds p := hA0
  rw [Try.params4] at hA hval
  obtain ⟨v0, vs0, d0, ds0, p0, q0, hargs, rfl, rfl, h0, r0⟩ := trodAll_cons hA
  obtain ⟨v1, vs1, d1, ds1, p1, q1, rfl, rfl, rfl, h1, r1⟩ := trodAll_cons r0
  obtain ⟨v2, vs2, d2, ds2, p2, q2, rfl, rfl, rfl, h2, r2⟩ := trodAll_cons r1
  obtain ⟨v3, vs3, d3, ds3, p3, q3, rfl, rfl, rfl, h3, r3⟩ := trodAll_cons r2
  obtain ⟨v4, vs4, d4, ds4, p4, q4, rfl, rfl, rfl, h4, r4⟩ := trodAll_cons r3
  obtain ⟨rfl, rfl, rfl⟩ := trodAll_nil r4
  obtain rfl : args = #[v0, v1, v2, v3, v4] := by cases args; simp_all
  obtain ⟨rfl, rfl⟩ := trodVars_none hV
  have lt1 : ∀ x ∈ p1, x.block < W.heap.size := by obtain ⟨m, hm⟩ := h1; exact DataW.trod_lt m _ _ _ hm
  have lt2 : ∀ x ∈ p2, x.block < W.heap.size := by obtain ⟨m, hm⟩ := h2; exact DataW.trod_lt m _ _ _ hm
  have lt3 : ∀ x ∈ p3, x.block < W.heap.size := by obtain ⟨m, hm⟩ := h3; exact DataW.trod_lt m _ _ _ hm
  obtain ⟨n0, rfl, rfl, rfl, wn0⟩ := open_int Try.underlying3 (hval 0 3 v0 rfl rfl) h0
  obtain ⟨n4, rfl, rfl, rfl, wn4⟩ := open_int Try.underlying3 (hval 4 3 v4 rfl rfl) h4
  obtain ⟨aw, cw, zs, rfl, iz, mz⟩ := slice_of_trod (hval 1 26 v1 rfl rfl) h1
  obtain ⟨a, c, hs, a', c', ls, rfl, i0, i1, m0, m1⟩ := lasso_of_trod (hval 2 30 v2 rfl rfl) h2
  obtain ⟨b, d, hs', b', d', ls', rfl, j0, j1, k0, k1⟩ := lasso_of_trod (hval 3 30 v3 rfl rfl) h3
  have hn4 : n4 ≤ 9223372036854775807 := (bounds_i64 wn4).2
  clear hA0 hval0
  refine (tells_walk n0 n4 aw a a' b b' cw c c' d d' zs hs ls hs' ls' W iz i0 i1 j0 j1 mz m0 m1 k0 k1 hn4).mono fun e W' ⟨he, bel⟩ => ?_
  subst he
  exact ⟨_, rfl, _, _, _, [], _, [], hW', trodAll_mk1 (shut_bool Try.underlying4 _), (trodAll_cons_mk (shut_int Try.underlying3 wn0) (trodAll_cons_mk (Below.trod Try.laidOut (by kernel_rfl) (of_decide_eq_true (by kernel_rfl)) h1 bel lt1) (trodAll_cons_mk (Below.trod Try.laidOut (by kernel_rfl) (of_decide_eq_true (by kernel_rfl)) h2 bel lt2) (trodAll_cons_mk (Below.trod Try.laidOut (by kernel_rfl) (of_decide_eq_true (by kernel_rfl)) h3 bel lt3) (trodAll_cons_mk (shut_int Try.underlying3 wn4) trodAll_mk0))))), rfl, bel.frame _, fun h => by cases h⟩

theorem wordTells_holds : Rows.WordTellsSaid :=
  OpenClaim.holds_of_wide 4 Try.f4 rfl rfl rfl rfl rfl rfl rfl ⟨rfl, rfl, rfl, rfl, rfl⟩ rfl rfl rfl rfl rfl (by kernel_rfl) Try.func4 (by kernel_rfl)
    (of_decide_eq_true (by kernel_rfl)) (by unfold Func.isWrapper; first | (rw [if_pos (by decide +kernel)]; kernel_rfl) | (rw [if_neg (by decide +kernel)]; exact ⟨rfl, rfl⟩))
    (fun os started H enc _ => tells_lifted os started H enc)
#print axioms wordTells_holds
end Go.Proofs.Ythccdfjmkdcehaa
