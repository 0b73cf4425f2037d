/- StackSteps holds: whatever rules, config and number of a rule come in, in whatever memory, shared or not: the program refuses what the reference refuses, with the same error and an empty config, and else answers the config that the reference has behind the rule. No conditions. -/
import Derived.Test.YtmoaolfenllhlaaSkLaw
import Derived.SizedLaws
namespace Go.Proofs.Ytmoaolfenllhlaa
open Go.ChangeShapes Go.WideShapes Go.ChangeAt Go.RowKit Go.Joins
set_option linter.unusedVariables false

theorem steps_walk (L : List Psh) (c : Cfg) (a b : Option Addr) (d k : Nat) (rule : Int) (w : World) (h : PushAt w a L) (hm : L.length ≤ maxLen) (hc : Ints w b c.2) (hcm : c.2.length ≤ maxLen) (hck : c.2.length ≤ k) :
    Calls Try.prog 3 #[.slice a L.length d, cfgV c.1 b c.2.length k, .int .i64 rule] w (Says (.bool true) w) := by
  by_cases hf : checkSk L = 0
  case neg => exact steps_A L c a b d k rule w h hm hc hcm hf
  by_cases hg : cfgSk c = 0
  case neg => exact steps_B L c a b d k rule w h hm hc hcm hf hg
  by_cases hn : rule < 0 ∨ (L.length : Int) ≤ rule
  case pos => exact steps_C L c a b d k rule w h hm hc hcm hf hg hn
  obtain ⟨r, rfl⟩ : ∃ r : Nat, rule = (r : Int) := ⟨rule.toNat, by omega⟩
  have hr : r < L.length := by omega
  by_cases hy : CanSk (L.getD r pu0) c
  case neg => exact steps_D L c a b d k r w h hm hc hcm hf hg hr hy
  exact steps_E L c a b d k r w h hm hc hcm hf hg hr hy hck

theorem steps_own : ownKnob Try.prog.godebug = none := by kernel_rfl

set_option maxRecDepth 100000 in
theorem steps_lifted (os : Os) (started : os.Started) (H : Type) (enc : TypeId × Value → H) :
    ReturnsInHanded {} Try.checked os 3 .any (Rows.stackStepsSpec.pre6 enc Try.prog Try.f3 Rows.stackStepsRow.domain false) (Rows.stackStepsSpec.post enc Try.prog Try.f3 false true false false) := by
  refine returnsInHanded_of_change_sized (C := Try.checked) steps_own started (by kernel_rfl) Try.func3
    (ChangeSpec.witness6 (enc := enc) (C := Try.checked) false ⟨#[], #[.slice none 0 0, .agg #[.int .i64 0, .slice none 0 0], .int .i64 0], []⟩ 8 (by kernel_rfl) (by kernel_rfl) (by kernel_rfl) (by kernel_rfl)) ?_
  intro W base args ds gs before hval0 hW hcnd hsz0 _
  have hval : ∀ (j : Nat) t v, Try.f3.params[j]? = some t → args[j]? = some v → Value.okWide Try.prog W .any base t v := hval0
  have hW' := hW
  obtain ⟨p, q, hA0, hV, rfl, hfz, hnd⟩ := hW
  have hA : DataW.TrodAll enc Try.prog W 0 (fun _ => true) true Try.f3.params.toList args.toList ds p := hA0
  rw [Try.params3] at hA hval
  obtain ⟨v0, vs0, d0, ds0, p0, q0, hargs, rfl, rfl, h0, r0⟩ := trodAll_cons hA
  obtain ⟨v1, vs1, d1, ds1, p1, q1, rfl, rfl, rfl, h1, r1⟩ := trodAll_cons r0
  obtain ⟨v2, vs2, d2, ds2, p2, q2, rfl, rfl, rfl, h2, r2⟩ := trodAll_cons r1
  obtain ⟨rfl, rfl, rfl⟩ := trodAll_nil r2
  obtain rfl : args = #[v0, v1, v2] := by cases args; simp_all
  obtain ⟨rfl, rfl⟩ := trodVars_none hV
  have lt0 : ∀ x ∈ p0, x.block < W.heap.size := by obtain ⟨m, hm⟩ := h0; exact DataW.trod_lt m _ _ _ hm
  have lt1 : ∀ x ∈ p1, x.block < W.heap.size := by obtain ⟨m, hm⟩ := h1; exact DataW.trod_lt m _ _ _ hm
  have lt2 : ∀ x ∈ p2, x.block < W.heap.size := by obtain ⟨m, hm⟩ := h2; exact DataW.trod_lt m _ _ _ hm
  obtain ⟨a, d, L, rfl, hL, hLm⟩ := pushes_of_trod (hval 0 22 v0 rfl rfl) h0
  obtain ⟨c, b, k, rfl, hc, hcm, hck⟩ := cfg_of_trod (hval 1 25 v1 rfl rfl) h1
  obtain ⟨l, rfl⟩ : ∃ l, v2 = .int .i64 l := by
    exact okWide_int Try.underlying3 (hval 2 3 v2 rfl rfl)
  clear hA0 hval0 hsz0
  refine (steps_walk L c a b d k l W hL hLm hc hcm hck).mono fun E W' ⟨he, hg⟩ => ?_
  subst he
  have bel : Below W.heap.size W W' := below_of_grown hg
  exact ⟨_, rfl, _, _, _, [], _, [], hW', trodAll_mk1 (shut_bool Try.underlying4 _), (trodAll_cons_mk (Below.trod Try.laidOut (by kernel_rfl) (of_decide_eq_true (by kernel_rfl)) h0 bel lt0) (trodAll_cons_mk (Below.trod Try.laidOut (by kernel_rfl) (of_decide_eq_true (by kernel_rfl)) h1 bel lt1) (trodAll_cons_mk (Below.trod Try.laidOut (by kernel_rfl) (of_decide_eq_true (by kernel_rfl)) h2 bel lt2) trodAll_mk0))), rfl, bel.frame _, fun h => by cases h⟩

theorem stackSteps_holds : Rows.StackStepsSaid :=
  OpenClaim.holds_of_wide 3 Try.f3 rfl rfl rfl rfl rfl rfl rfl ⟨rfl, rfl, rfl, rfl, rfl⟩ rfl rfl rfl rfl rfl (by kernel_rfl) Try.func3 (by kernel_rfl)
    (of_decide_eq_true (by kernel_rfl)) (by unfold Func.isWrapper; first | (rw [if_pos (by decide +kernel)]; kernel_rfl) | (rw [if_neg (by decide +kernel)]; exact ⟨rfl, rfl⟩))
    (fun os started H enc _ => steps_lifted os started H enc)
#print axioms stackSteps_holds
end Go.Proofs.Ytmoaolfenllhlaa
