/- StackGoes holds: whatever rules, config, number of a rule and goal come in, in whatever memory, shared or not: if the program finds a way behind the rule, and answers without an error, it finds one ahead of it. No conditions. -/
import Derived.Test.YthnbiiipfcogeaaSgLaw
import Derived.SizedLaws
namespace Go.Proofs.Ythnbiiipfcogeaa
open Go.ChangeShapes Go.WideShapes Go.ChangeAt Go.RowKit Go.Joins
set_option linter.unusedVariables false

/-- Behind the rule r, from the config c. -/
def XGo (L : List Psh) (c gl : Cfg) (rule : Int) (b' : Option Addr) (W : World) (x1 : Int) (ax : Option Addr) (nx kx : Nat) : Prop :=
  ∃ r : Nat, r < L.length ∧ CanSk (L.getD r pu0) c ∧ checkSk L = 0 ∧ cfgSk c = 0 ∧ x1 = (behSk (L.getD r pu0) c).1 ∧ nx = (behSk (L.getD r pu0) c).2.length ∧ Ints W ax (behSk (L.getD r pu0) c).2
theorem beh_good {L : List Psh} {c : Cfg} (hK : checkSk L = 0) (hc : cfgSk c = 0) {r : Nat} (hr : r < L.length) (hl : (behSk (L.getD r pu0) c).2.length ≤ 20) : cfgSk (behSk (L.getD r pu0) c) = 0 := by
  have hG := goodSk_of hK
  have hC := goodCf_of hc
  obtain ⟨n1, n2, n3, n4⟩ := hG.num r hr
  refine cfgSk_ok (by omega) n3 (fun i hi => ?_)
  simp only [behSk] at hi ⊢
  by_cases e : i < (L.getD r pu0).P.length
  · have := n4 i e
    rw [List.getD_eq_getElem?_getD, List.getElem?_append_left e, ← List.getD_eq_getElem?_getD]
    exact this
  · rw [List.length_append, List.length_drop] at hi
    have := hC.num (i - (L.getD r pu0).P.length + 1) (by omega)
    rw [List.getD_eq_getElem?_getD, List.getElem?_append_right (by omega), List.getElem?_drop, show 1 + (i - (L.getD r pu0).P.length) = i - (L.getD r pu0).P.length + 1 by omega, ← List.getD_eq_getElem?_getD]
    exact this
theorem way_ahead {L : List Psh} {c gl : Cfg} (hK : checkSk L = 0) {r : Nat} (hr : r < L.length) (hcan : CanSk (L.getD r pu0) c) {t : Nat} (h : PthR (LeastD L gl.1.toNat gl.2) (behSk (L.getD r pu0) c).1.toNat (behSk (L.getD r pu0) c).2 t) : PthR (LeastD L gl.1.toNat gl.2) c.1.toNat c.2 t := by
  have hG := goodSk_of hK
  obtain ⟨n1, n2, n3, n4⟩ := hG.num r hr
  have h3 := (oneSk_iff _).1 n3
  have := goes_back (least_clos L gl.1.toNat gl.2) hr (by omega) (zs := c.2.drop 1) h
  obtain ⟨e1, e2, e3⟩ := hcan
  have e4 : (L.getD r pu0).T :: c.2.drop 1 = c.2 := by
    obtain ⟨c0, zs⟩ := c
    cases zs with
    | nil => simp at e2
    | cons z zs => simp only [List.drop_succ_cons, List.drop_zero]; rw [← e3]; rfl
  rw [e4, ← e1] at this
  exact this

theorem goes_all (L : List Psh) (c gl : Cfg) (a b b' : Option Addr) (d k k' : Nat) (rule : Int) (w : World) (h : PushAt w a L) (hm : L.length ≤ maxLen) (hc : Ints w b c.2) (hcm : c.2.length ≤ maxLen) (hck : c.2.length ≤ k) (hg : Ints w b' gl.2) (hgm : gl.2.length ≤ maxLen) :
    Calls Try.prog 3 #[.slice a L.length d, cfgV c.1 b c.2.length k, .int .i64 rule, cfgV gl.1 b' gl.2.length k'] w (Says (.bool true) w) := by
  refine goes_walk _ c.1 gl.1 b b' c.2.length gl.2.length k k' rule w (fun W x1 ax nx kx => w.grownBy W none ∧ XGo L c gl rule b' W x1 ax nx kx) (fun W hW => ?_)
    (fun can y => y = 0 → (can = true ↔ PthR (LeastD L gl.1.toNat gl.2) c.1.toNat c.2 (behC gl.1.toNat gl.2.length)))
    (fun x1 ax nx kx can y => y = 0 → ∀ W, XGo L c gl rule b' W x1 ax nx kx → can = true → PthR (LeastD L gl.1.toNat gl.2) c.1.toNat c.2 (behC gl.1.toNat gl.2.length))
    (fun W x1 ax nx kx hW hX hn => ?_) (fun W x1 ax nx kx hW hX hn => ?_) (fun W V x1 ax nx kx hV hX => ?_) (fun W x1 ax nx kx can can' hX hn h1 h2 hc' => ?_)
  · by_cases hy : allSk L [c] = 0
    · have hK : checkSk L = 0 := by
        by_cases e : checkSk L = 0
        · exact e
        · rw [allSk_bad e] at hy; exact hy
      have hcf : cfgSk c = 0 := by
        rw [allSk_good hK] at hy
        have : cfgsSk [c] = if cfgSk c = 0 then 0 else cfgSk c := rfl
        rw [this] at hy
        split at hy
        · assumption
        · exact hy
      have hG := goodSk_of hK
      have hC := goodCf_of hcf
      by_cases hn : rule < 0 ∨ (L.length : Int) ≤ rule
      · refine (step_name L c a b d k rule W (h.grown hW) hm (hc.grown hW) hcm hy hn).mono fun e w' hE => ?_
        obtain ⟨rfl, hgr⟩ := hE
        exact ⟨0, none, 0, 0, 5, rfl, fun e => by omega, hgr⟩
      · obtain ⟨r, rfl⟩ : ∃ r : Nat, rule = (r : Int) := ⟨rule.toNat, by omega⟩
        have hr : r < L.length := by omega
        by_cases hcan : CanSk (L.getD r pu0) c
        · refine (step_good L c a b d k r W (h.grown hW) hm (hc.grown hW) hck hy hr hcan hC.len (hG.put r hr)).mono fun e w' hE => ?_
          obtain ⟨ax, kx, rfl, hI, hgr⟩ := hE
          exact ⟨_, ax, _, kx, 0, rfl, fun _ V hV => ⟨grown_trans hW (grown_trans hgr hV), r, hr, hcan, hK, hcf, rfl, rfl, hI.grown hV⟩, hgr⟩
        · refine (step_none L c a b d k r W (h.grown hW) hm (hc.grown hW) hcm hy hr hcan).mono fun e w' hE => ?_
          obtain ⟨rfl, hgr⟩ := hE
          exact ⟨0, none, 0, 0, 6, rfl, fun e => by omega, hgr⟩
    · refine (step_bad L c a b d k rule W (h.grown hW) hm (hc.grown hW) hcm hy).mono fun e w' hE => ?_
      obtain ⟨rfl, hgr⟩ := hE
      exact ⟨0, none, 0, 0, _, rfl, fun e => absurd e hy, hgr⟩
  · obtain ⟨_, r, hr, hcan, hK, hcf, _, _, _⟩ := hX
    refine (way_tells L c gl a b b' d k k' W (h.grown hW) hm (hc.grown hW) (hg.grown hW) hgm hK hcf).mono fun e w' hE => ?_
    obtain ⟨ar, m, cr, can, y, rfl, hgr, ht⟩ := hE
    exact ⟨ar, m, cr, can, y, rfl, hgr, ht⟩
  · obtain ⟨_, r, hr, hcan, hK, hcf, rfl, rfl, hI⟩ := hX
    refine (way_tells L (behSk (L.getD r pu0) c) gl a ax b' d kx k' W (h.grown hW) hm hI (hg.grown hW) hgm hK (beh_good hK hcf hr hn)).mono fun e w' hE => ?_
    obtain ⟨ar, m, cr, can, y, rfl, hgr, ht⟩ := hE
    exact ⟨ar, m, cr, can, y, rfl, hgr, fun hy _ _ hcan2 => way_ahead hK hr hcan ((ht hy).1 hcan2)⟩
  · obtain ⟨h0, r, hr, hcan, hK, hcf, e1, e2, hI⟩ := hX
    exact ⟨grown_trans h0 hV, r, hr, hcan, hK, hcf, e1, e2, hI.grown hV⟩
  · exact (h1 rfl).2 (h2 rfl W hX.2 hc')

theorem goes_own : ownKnob Try.prog.godebug = none := by kernel_rfl

set_option maxRecDepth 100000 in
theorem goes_lifted (os : Os) (started : os.Started) (H : Type) (enc : TypeId × Value → H) :
    ReturnsInHanded {} Try.checked os 3 .any (Rows.stackGoesSpec.pre6 enc Try.prog Try.f3 Rows.stackGoesRow.domain false) (Rows.stackGoesSpec.post enc Try.prog Try.f3 false true false false) := by
  refine returnsInHanded_of_change_sized (C := Try.checked) goes_own started (by kernel_rfl) Try.func3
    (ChangeSpec.witness6 (enc := enc) (C := Try.checked) false ⟨#[], #[.slice none 0 0, .agg #[.int .i64 0, .slice none 0 0], .int .i64 0, .agg #[.int .i64 0, .slice none 0 0]], []⟩ 8 (by kernel_rfl) (by kernel_rfl) (by kernel_rfl) (by kernel_rfl)) ?_
  intro W base args ds gs before hval0 hW hcnd hsz0 _
  have hval : ∀ (j : Nat) t v, Try.f3.params[j]? = some t → args[j]? = some v → Value.okWide Try.prog W .any base t v := hval0
  have hW' := hW
  obtain ⟨p, q, hA0, hV, rfl, hfz, hnd⟩ := hW
  have hA : DataW.TrodAll enc Try.prog W 0 (fun _ => true) true Try.f3.params.toList args.toList ds p := hA0
  rw [Try.params3] at hA hval
  obtain ⟨v0, vs0, d0, ds0, p0, q0, hargs, rfl, rfl, h0, r0⟩ := trodAll_cons hA
  obtain ⟨v1, vs1, d1, ds1, p1, q1, rfl, rfl, rfl, h1, r1⟩ := trodAll_cons r0
  obtain ⟨v2, vs2, d2, ds2, p2, q2, rfl, rfl, rfl, h2, r2⟩ := trodAll_cons r1
  obtain ⟨v3, vs3, d3, ds3, p3, q3, rfl, rfl, rfl, h3, r3⟩ := trodAll_cons r2
  obtain ⟨rfl, rfl, rfl⟩ := trodAll_nil r3
  obtain rfl : args = #[v0, v1, v2, v3] := by cases args; simp_all
  obtain ⟨rfl, rfl⟩ := trodVars_none hV
  have lt0 : ∀ x ∈ p0, x.block < W.heap.size := by obtain ⟨m, hm⟩ := h0; exact DataW.trod_lt m _ _ _ hm
  have lt1 : ∀ x ∈ p1, x.block < W.heap.size := by obtain ⟨m, hm⟩ := h1; exact DataW.trod_lt m _ _ _ hm
  have lt2 : ∀ x ∈ p2, x.block < W.heap.size := by obtain ⟨m, hm⟩ := h2; exact DataW.trod_lt m _ _ _ hm
  have lt3 : ∀ x ∈ p3, x.block < W.heap.size := by obtain ⟨m, hm⟩ := h3; exact DataW.trod_lt m _ _ _ hm
  obtain ⟨a, d, L, rfl, hL, hLm⟩ := pushes_of_trod (hval 0 22 v0 rfl rfl) h0
  obtain ⟨c, b, k, rfl, hc, hcm, hck⟩ := cfg_of_trod (hval 1 25 v1 rfl rfl) h1
  obtain ⟨l, rfl⟩ : ∃ l, v2 = .int .i64 l := by
    exact okWide_int Try.underlying3 (hval 2 3 v2 rfl rfl)
  obtain ⟨gl, b', k', rfl, hg, hgm, hgk⟩ := cfg_of_trod (hval 3 25 v3 rfl rfl) h3
  clear hA0 hval0 hsz0
  refine (goes_all L c gl a b b' d k k' l W hL hLm hc hcm hck hg hgm).mono fun E W' ⟨he, hg⟩ => ?_
  subst he
  have bel : Below W.heap.size W W' := below_of_grown hg
  exact ⟨_, rfl, _, _, _, [], _, [], hW', trodAll_mk1 (shut_bool Try.underlying4 _), (trodAll_cons_mk (Below.trod Try.laidOut (by kernel_rfl) (of_decide_eq_true (by kernel_rfl)) h0 bel lt0) (trodAll_cons_mk (Below.trod Try.laidOut (by kernel_rfl) (of_decide_eq_true (by kernel_rfl)) h1 bel lt1) (trodAll_cons_mk (Below.trod Try.laidOut (by kernel_rfl) (of_decide_eq_true (by kernel_rfl)) h2 bel lt2) (trodAll_cons_mk (Below.trod Try.laidOut (by kernel_rfl) (of_decide_eq_true (by kernel_rfl)) h3 bel lt3) trodAll_mk0)))), rfl, bel.frame _, fun h => by cases h⟩

theorem stackGoes_holds : Rows.StackGoesSaid :=
  OpenClaim.holds_of_wide 3 Try.f3 rfl rfl rfl rfl rfl rfl rfl ⟨rfl, rfl, rfl, rfl, rfl⟩ rfl rfl rfl rfl rfl (by kernel_rfl) Try.func3 (by kernel_rfl)
    (of_decide_eq_true (by kernel_rfl)) (by unfold Func.isWrapper; first | (rw [if_pos (by decide +kernel)]; kernel_rfl) | (rw [if_neg (by decide +kernel)]; exact ⟨rfl, rfl⟩))
    (fun os started H enc _ => goes_lifted os started H enc)
#print axioms stackGoes_holds
end Go.Proofs.Ythnbiiipfcogeaa
