/- TransRow holds: whatever three transducers come in, in whatever memory, shared or not: of three, one behind the other, whichever two are put together first, comes one and the same least transducer, if neither answer is an error; and two have one least form just if they differ nowhere. -/
import Derived.Test.YtodcmlcpicabaaaTpRowW
import Derived.Test.YtodcmlcpicabaaaTlCaps
import Derived.SizedLaws
namespace Go.Proofs.Ytodcmlcpicabaaa
open Go.ChangeShapes Go.WideShapes Go.ChangeAt Go.RowKit Go.Joins
set_option linter.unusedVariables false

theorem trow_own : ownKnob Try.prog.godebug = none := by kernel_rfl

set_option maxRecDepth 100000 in
theorem trow_lifted (os : Os) (started : os.Started) (H : Type) (enc : TypeId × Value → H) :
    ReturnsInHanded {} Try.checked os 4 .any (Rows.transRowSpec.pre6 enc Try.prog Try.f4 Rows.transRowRow.domain false) (Rows.transRowSpec.post enc Try.prog Try.f4 false true false false) := by
  refine returnsInHanded_of_change_sized (C := Try.checked) trow_own started (by kernel_rfl) Try.func4
    (ChangeSpec.witness6 (enc := enc) (C := Try.checked) false ⟨#[], #[.agg #[.int .i64 0, .int .i64 0, .int .i64 0, .slice none 0 0, .slice none 0 0, .slice none 0 0, .slice none 0 0], .agg #[.int .i64 0, .int .i64 0, .int .i64 0, .slice none 0 0, .slice none 0 0, .slice none 0 0, .slice none 0 0], .agg #[.int .i64 0, .int .i64 0, .int .i64 0, .slice none 0 0, .slice none 0 0, .slice none 0 0, .slice none 0 0]], []⟩ 8 (by kernel_rfl) (by kernel_rfl) (by kernel_rfl) (by kernel_rfl)) ?_
  intro W base args ds gs before hval0 hW hcnd hsz0 _
  have hval : ∀ (j : Nat) t v, Try.f4.params[j]? = some t → args[j]? = some v → Value.okWide Try.prog W .any base t v := hval0
  have hW' := hW
  obtain ⟨p, q, hA0, hV, rfl, hfz, hnd⟩ := hW
  have hA : DataW.TrodAll enc Try.prog W 0 (fun _ => true) true Try.f4.params.toList args.toList ds p := hA0
  rw [Try.params4] at hA hval
  obtain ⟨v0, vs0, d0, ds0, p0, q0, hargs, rfl, rfl, h0, r0⟩ := trodAll_cons hA
  obtain ⟨v1, vs1, d1, ds1, p1, q1, rfl, rfl, rfl, h1, r1⟩ := trodAll_cons r0
  obtain ⟨v2, vs2, d2, ds2, p2, q2, rfl, rfl, rfl, h2, r2⟩ := trodAll_cons r1
  obtain ⟨rfl, rfl, rfl⟩ := trodAll_nil r2
  obtain rfl : args = #[v0, v1, v2] := by cases args; simp_all
  obtain ⟨rfl, rfl⟩ := trodVars_none hV
  have lt0 : ∀ x ∈ p0, x.block < W.heap.size := by obtain ⟨m, hm⟩ := h0; exact DataW.trod_lt m _ _ _ hm
  have lt1 : ∀ x ∈ p1, x.block < W.heap.size := by obtain ⟨m, hm⟩ := h1; exact DataW.trod_lt m _ _ _ hm
  have lt2 : ∀ x ∈ p2, x.block < W.heap.size := by obtain ⟨m, hm⟩ := h2; exact DataW.trod_lt m _ _ _ hm
  obtain ⟨x, a3, a4, a5, a6, c3, c4, c5, c6, rfl, hX, _, _, _, hkx⟩ := tnC_of_trod (hval 0 26 v0 rfl rfl) h0
  obtain ⟨y, e3, e4, e5, e6, d3, d4, d5, d6, rfl, hY, _, _, _, hky⟩ := tnC_of_trod (hval 1 26 v1 rfl rfl) h1
  obtain ⟨v, f3, f4, f5, f6, g3, g4, g5, g6, rfl, hV2, _, _, _, _⟩ := tnC_of_trod (hval 2 26 v2 rfl rfl) h2
  obtain ⟨x', a3', a4', a5', a6', c3', c4', c5', c6', ex, _, _, _, _, hcx⟩ := tn_of_trod (hval 0 26 _ rfl rfl) h0
  obtain ⟨y', e3', e4', e5', e6', d3', d4', d5', d6', ey, _, _, _, _, hcy⟩ := tn_of_trod (hval 1 26 _ rfl rfl) h1
  have hcx2 : x.F.length ≤ c3 := by
    simp [tnV] at ex
    omega
  have hcy2 : y.F.length ≤ d3 := by
    simp [tnV] at ey
    omega
  clear hA0 hval0 hsz0
  refine (trow_walk x y v a3 a4 a5 a6 c3 c4 c5 c6 e3 e4 e5 e6 d3 d4 d5 d6 f3 f4 f5 f6 g3 g4 g5 g6 W hX hY hV2 hcx2 hcy2 hkx hky).mono fun E W' ⟨he, hg⟩ => ?_
  subst he
  have bel : Below W.heap.size W W' := below_of_grown hg
  exact ⟨_, rfl, _, _, _, [], _, [], hW', trodAll_mk1 (shut_bool Try.underlying4 _), (trodAll_cons_mk (Below.trod Try.laidOut (by kernel_rfl) (of_decide_eq_true (by kernel_rfl)) h0 bel lt0) (trodAll_cons_mk (Below.trod Try.laidOut (by kernel_rfl) (of_decide_eq_true (by kernel_rfl)) h1 bel lt1) (trodAll_cons_mk (Below.trod Try.laidOut (by kernel_rfl) (of_decide_eq_true (by kernel_rfl)) h2 bel lt2) trodAll_mk0))), rfl, bel.frame _, fun h => by cases h⟩

theorem transRow_holds : Rows.TransRowSaid :=
  OpenClaim.holds_of_wide 4 Try.f4 rfl rfl rfl rfl rfl rfl rfl ⟨rfl, rfl, rfl, rfl, rfl⟩ rfl rfl rfl rfl rfl (by kernel_rfl) Try.func4 (by kernel_rfl)
    (of_decide_eq_true (by kernel_rfl)) (by unfold Func.isWrapper; first | (rw [if_pos (by decide +kernel)]; kernel_rfl) | (rw [if_neg (by decide +kernel)]; exact ⟨rfl, rfl⟩))
    (fun os started H enc _ => trow_lifted os started H enc)
#print axioms transRow_holds
end Go.Proofs.Ytodcmlcpicabaaa
