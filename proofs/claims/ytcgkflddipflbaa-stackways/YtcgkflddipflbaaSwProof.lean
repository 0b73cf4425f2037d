/- StackWays holds: whatever rules, config and goal come in, in whatever memory, shared or not: what is wrong is told by both; Before's three automata may be such and are the least ones; the config's own one accepts its stack just if there is a way; and a way that is told leads from the config to the goal. No conditions. -/
import Derived.Test.YtcgkflddipflbaaSwL
import Derived.SizedLaws
namespace Go.Proofs.Ytcgkflddipflbaa
open Go.ChangeShapes Go.WideShapes Go.ChangeAt Go.RowKit Go.Joins
set_option linter.unusedVariables false

theorem flat4 {ds : List (List Value)} (hd : ds.length = 3) (h4 : ∀ c, c < 3 → (ds.getD c []).length = 4) : ∀ c i, c < 3 → i < 4 → ds.flatten[c * 4 + i]? = (ds.getD c [])[i]? := by
  intro c i hc hi
  match ds, hd with
  | [x, y, z], _ =>
    have hx : x.length = 4 := h4 0 (by omega)
    have hy : y.length = 4 := h4 1 (by omega)
    have hz : z.length = 4 := h4 2 (by omega)
    match x, hx, y, hy, z, hz with
    | [x0, x1, x2, x3], _, [y0, y1, y2, y3], _, [z0, z1, z2, z3], _ =>
      have e1 : c = 0 ∨ c = 1 ∨ c = 2 := by omega
      have e2 : i = 0 ∨ i = 1 ∨ i = 2 ∨ i = 3 := by omega
      rcases e1 with rfl | rfl | rfl <;> rcases e2 with rfl | rfl | rfl | rfl <;> rfl

theorem befq_of {L : List Psh} {gN : Nat} {gz : List Int} {no c1 : Int} {zs : List Int} {w : World} {e : Ending} {w' : World} (hG : GoodSk L) (hgN : gN < 3) (hl : gz.length ≤ 3) (hone : no = 0 → OnesSk zs) (h : BefPost L gN gz w e w') : BefQ no c1 zs (PthR (LeastD L gN gz) c1.toNat zs (behC gN gz.length)) w e w' := by
  obtain ⟨E, g, cap, ds, rfl, hg, hTop, hTw, hcl, hd, hK⟩ := h
  have hen : behC gN gz.length < 6 := by unfold behC; split <;> omega
  have h4 : ∀ c, c < 3 → (ds.getD c []).length = 4 := fun c hc => by
    obtain ⟨lo, hi, hk⟩ := hK c hc
    obtain ⟨aR, aM, cR, cM, R, M, hv, _, _⟩ := hk.at
    rw [hv]; rfl
  refine ⟨g, cap, rfl, hg, fun c hc => ?_⟩
  obtain ⟨lo, hi, hk⟩ := hK c hc
  obtain ⟨aR, aM, cR, cM, R, M, hv, hL, hD⟩ := hk.at
  have hcell : ∀ i u, i < 4 → (ds.getD c [])[i]? = some u → w'.cell? ⟨g, c * 4 + i, none⟩ = some u := fun i u hi hu => hcl _ _ ((flat4 hd h4 c i hc hi).trans hu)
  rw [hv] at hcell
  refine ⟨aR, aM, cR, cM, R, M, ⟨hcell 0 _ (by omega) rfl, hcell 1 _ (by omega) rfl, hcell 2 _ (by omega) rfl, hcell 3 _ (by omega) rfl, hD⟩, sw_good hc hen hL, fun R' M' h' => sw_same hc hen hL h', fun h0 he => ?_⟩
  have e1 : c1.toNat = c := by omega
  rw [e1]
  exact (sw_acc hTop hc hen hL (hone h0)).trans (tow_fin hTop hTw hG (by omega) zs hen)

theorem wayq_of {L : List Psh} {cN gN : Nat} {zs gz : List Int} {w : World} {e : Ending} {w' : World} (hG : GoodSk L) (hcN : cN < 3) (hgN : gN < 3) (hl : gz.length ≤ 3) (h : WayPost L cN gN zs gz w e w') : WayQ L ((cN : Int), zs) ((gN : Int), gz) (PthR (LeastD L gN gz) ((cN : Int)).toNat zs (behC gN gz.length)) (∃ rs : List Int, rs.length ≤ 6 ∧ RunsTo L rs ((cN : Int), zs) ((gN : Int), gz)) 0 w e w' := by
  obtain ⟨E, ar, n, cr, can, y, rfl, hgr, hT, hTw, f1, f2, f3⟩ := h
  have hen : behC gN gz.length < 6 := by unfold behC; split <;> omega
  have ht := readC_top E cN zs (behC gN gz.length)
  have key := tow_fin hT hTw hG (cN := cN) (by omega) zs hen
  have hnr : (∃ rs : List Int, rs.length ≤ 6 ∧ RunsTo L rs ((cN : Int), zs) ((gN : Int), gz)) → readC E cN zs (behC gN gz.length) ≤ 6 := fun ⟨rs, h6, hr⟩ => by
    have h1 := near_cost hT hTw hG hgN hl rs ((cN : Int), zs) (by omega) hr
    simp only [Int.toNat_natCast] at h1
    omega
  refine ⟨ar, n, cr, can, y, rfl, hgr, fun h0 => absurd rfl h0, fun _ => ?_⟩
  rw [show ((cN : Int)).toNat = cN from Int.toNat_natCast cN]
  by_cases e1 : readC E cN zs (behC gN gz.length) = 2002
  · obtain ⟨h1, h2, h3⟩ := f1 e1
    exact .inl ⟨h1, h2, h3, fun hp => by have := key.2 hp; omega, fun hn => by have := hnr hn; omega⟩
  · by_cases e2 : readC E cN zs (behC gN gz.length) = 2001
    · obtain ⟨h1, h2, h3⟩ := f2 e2
      exact .inr (.inl ⟨h2, h1, h3, key.1 (by omega), fun hn => by have := hnr hn; omega⟩)
    · obtain ⟨h1, h2, h3⟩ := f3 (by omega)
      exact .inr (.inr ⟨h1, h2, key.1 (by omega), h3⟩)

theorem all_two (L : List Psh) (c gl : Cfg) : allSk L [c, gl] = if checkSk L = 0 then (if cfgSk c = 0 then (if cfgSk gl = 0 then 0 else cfgSk gl) else cfgSk c) else checkSk L := rfl
theorem all_one (L : List Psh) (gl : Cfg) : allSk L [gl] = if checkSk L = 0 then (if cfgSk gl = 0 then 0 else cfgSk gl) else checkSk L := rfl
theorem nat_of {c : Cfg} (h : cfgSk c = 0) : ∃ cN : Nat, c.1 = (cN : Int) ∧ cN < 3 := by
  have h1 := (oneSk_iff _).1 (goodCf_of h).one
  exact ⟨c.1.toNat, by omega, by omega⟩

theorem ways_all (L : List Psh) (c gl : Cfg) (a b b' : Option Addr) (d k k' : Nat) (w : World) (h : PushAt w a L) (hm : L.length ≤ maxLen) (hc : Ints w b c.2) (hcm : c.2.length ≤ maxLen) (hck : c.2.length ≤ k) (hg : Ints w b' gl.2) (hgm : gl.2.length ≤ maxLen) :
    Calls Try.prog 3 #[.slice a L.length d, cfgV c.1 b c.2.length k, cfgV gl.1 b' gl.2.length k'] w (Says (.bool true) w) := by
  have H4 : Hid (∀ W, w.grownBy W none → Calls Try.prog 6 #[.slice a L.length d, cfgV c.1 b c.2.length k, cfgV gl.1 b' gl.2.length k'] W (Says (.int .i64 (askF L c gl)) W)) := fun W hW => asked_any L c gl a b b' d k k' W (h.grown hW) hm (hc.grown hW) hcm (hg.grown hW) hgm
  have H3 : Hid (∀ W, w.grownBy W none → Calls Try.prog 6 #[.slice a L.length d, cfgV gl.1 b' gl.2.length k', cfgV gl.1 b' gl.2.length k'] W (Says (.int .i64 (askF L gl gl)) W)) := fun W hW => asked_any L gl gl a b' b' d k' k' W (h.grown hW) hm (hg.grown hW) hgm (hg.grown hW) hgm
  by_cases ho : askF L gl gl = 0
  · have hK : checkSk L = 0 := by
      by_cases e : checkSk L = 0
      · exact e
      · unfold askF at ho; rw [if_neg e] at ho; exact ho
    have hgf : cfgSk gl = 0 := by
      by_cases e : cfgSk gl = 0
      · exact e
      · unfold askF at ho; rw [if_pos hK, if_neg e] at ho; exact ho
    have hl3 : gl.2.length ≤ 3 := by
      unfold askF at ho; rw [if_pos hK, if_pos hgf, if_pos hgf] at ho
      by_cases e : 3 < gl.2.length
      · rw [if_pos e] at ho; omega
      · omega
    have hno : askF L c gl = cfgSk c := by
      unfold askF; rw [if_pos hK]
      by_cases e : cfgSk c = 0
      · rw [if_pos e, if_pos hgf, if_neg (by omega), e]
      · rw [if_neg e]
    rw [hno] at H4
    rw [ho] at H3
    have hG := goodSk_of hK
    have hL := goodCf_of hgf
    obtain ⟨gN, hgN, hgN3⟩ := nat_of hgf
    obtain ⟨g1, gz⟩ := gl
    obtain ⟨c1, zs⟩ := c
    simp only at *
    subst hgN
    have hgl20 : gz.length ≤ 20 := by omega
    refine sw_main L c1 gN zs gz a b b' d k k' (cfgSk (c1, zs)) (PthR (LeastD L gN gz) c1.toNat zs (behC gN gz.length)) (∃ rs : List Int, rs.length ≤ 6 ∧ RunsTo L rs (c1, zs) ((gN : Int), gz)) w (fun e => ?_) (fun W hW => ⟨hc.grown hW, hg.grown hW, h.grown hW⟩) hG hgl20 (fun e W hW => ?_) (fun W hW => ?_) (fun W hW => ?_) H3 H4
    · have hC := goodCf_of e
      exact ⟨(oneSk_iff _).1 hC.one, hC.len, fun i hi => (oneSk_iff _).1 (hC.num i hi), hck⟩
    · exact near_any L (c1, zs) ((gN : Int), gz) a b b' d k k' W (h.grown hW) hG (hc.grown hW) hck (goodCf_of e).len (hg.grown hW) hgl20
    · by_cases e : cfgSk (c1, zs) = 0
      · have hC := goodCf_of e
        obtain ⟨cN, hcN, hcN3⟩ := nat_of e
        simp only at hcN
        subst hcN
        rw [e]
        have hy : allSk L [((cN : Int), zs), ((gN : Int), gz)] = 0 := by rw [all_two, if_pos hK, if_pos e, if_pos hgf]
        refine (wayE_good L cN gN zs gz a b b' d k k' W (h.grown hW) hm (hc.grown hW) (hg.grown hW) hy hG hC.len hgl20 hcN3 hgN3 hC.num hL.num).mono fun E w' hE => ?_
        rcases hE with ⟨h3, _⟩ | ⟨_, hE⟩
        · omega
        · exact wayq_of hG hcN3 hgN3 hl3 hE
      · have hy : allSk L [(c1, zs), ((gN : Int), gz)] = cfgSk (c1, zs) := by rw [all_two, if_pos hK, if_neg e]
        refine (wayE_bad L (c1, zs) ((gN : Int), gz) a b b' d k k' W (h.grown hW) hm (hc.grown hW) hcm (hg.grown hW) hgm (by rw [hy]; exact e)).mono fun E w' hE => ?_
        rw [hy] at hE
        obtain ⟨rfl, hgr⟩ := hE
        exact ⟨none, 0, 0, false, _, rfl, hgr, fun _ => ⟨rfl, rfl, rfl⟩, fun e' => absurd e' e⟩
    · have hy : allSk L [((gN : Int), gz)] = 0 := by rw [all_one, if_pos hK, if_pos hgf]
      refine (before_good L gN gz a b' d k' W (h.grown hW) hm (hg.grown hW) hy hG hgl20 hgN3 hL.num).mono fun E w' hE => ?_
      rcases hE with ⟨h3, _⟩ | ⟨_, hE⟩
      · omega
      · exact befq_of hG hgN3 hl3 (fun e => (goodCf_of e).num) hE
  · refine sw_bad _ c.1 gl.1 b b' c.2.length gl.2.length k k' (askF L c gl) (askF L gl gl) w ho (fun W hW => ?_) (fun W hW => ?_) H3 H4
    · by_cases hy : allSk L [c, gl] = 0
      · have hK : checkSk L = 0 := by
          by_cases e : checkSk L = 0
          · exact e
          · rw [all_two, if_neg e] at hy; exact hy
        have hcf : cfgSk c = 0 := by
          by_cases e : cfgSk c = 0
          · exact e
          · rw [all_two, if_pos hK, if_neg e] at hy; exact hy
        have hgf : cfgSk gl = 0 := by
          by_cases e : cfgSk gl = 0
          · exact e
          · rw [all_two, if_pos hK, if_pos hcf, if_neg e] at hy; exact hy
        have hl3 : 3 < gl.2.length := by
          by_cases e : 3 < gl.2.length
          · exact e
          · exact absurd (by unfold askF; rw [if_pos hK, if_pos hgf, if_pos hgf, if_neg e]) ho
        have hno : askF L c gl = 1 := by unfold askF; rw [if_pos hK, if_pos hcf, if_pos hgf, if_pos hl3]
        rw [hno]
        have hG := goodSk_of hK
        have hC := goodCf_of hcf
        have hL := goodCf_of hgf
        obtain ⟨gN, hgN, hgN3⟩ := nat_of hgf
        obtain ⟨cN, hcN, hcN3⟩ := nat_of hcf
        obtain ⟨g1, gz⟩ := gl
        obtain ⟨c1, zs⟩ := c
        simp only at *
        subst hgN hcN
        refine (wayE_good L cN gN zs gz a b b' d k k' W (h.grown hW) hm (hc.grown hW) (hg.grown hW) hy hG hC.len hL.len hcN3 hgN3 hC.num hL.num).mono fun E w' hE => ?_
        rcases hE with ⟨_, hE⟩ | ⟨h3, _⟩
        · exact hE
        · omega
      · have hno : allSk L [c, gl] = askF L c gl := by
          rw [all_two] at hy ⊢
          unfold askF
          by_cases hK : checkSk L = 0
          · by_cases hcf : cfgSk c = 0
            · by_cases hgf : cfgSk gl = 0
              · rw [if_pos hK, if_pos hcf, if_pos hgf] at hy; exact absurd rfl hy
              · rw [if_pos hK, if_pos hcf, if_neg hgf, if_pos hK, if_pos hcf, if_neg hgf]
            · rw [if_pos hK, if_neg hcf, if_pos hK, if_neg hcf]
          · rw [if_neg hK, if_neg hK]
        rw [← hno]
        exact wayE_bad L c gl a b b' d k k' W (h.grown hW) hm (hc.grown hW) hcm (hg.grown hW) hgm hy
    · by_cases hy : allSk L [gl] = 0
      · have hK : checkSk L = 0 := by
          by_cases e : checkSk L = 0
          · exact e
          · rw [all_one, if_neg e] at hy; exact hy
        have hgf : cfgSk gl = 0 := by
          by_cases e : cfgSk gl = 0
          · exact e
          · rw [all_one, if_pos hK, if_neg e] at hy; exact hy
        have hl3 : 3 < gl.2.length := by
          by_cases e : 3 < gl.2.length
          · exact e
          · exact absurd (by unfold askF; rw [if_pos hK, if_pos hgf, if_pos hgf, if_neg e]) ho
        have hno : askF L gl gl = 1 := by unfold askF; rw [if_pos hK, if_pos hgf, if_pos hgf, if_pos hl3]
        rw [hno]
        have hG := goodSk_of hK
        have hL := goodCf_of hgf
        obtain ⟨gN, hgN, hgN3⟩ := nat_of hgf
        obtain ⟨g1, gz⟩ := gl
        simp only at *
        subst hgN
        refine (before_good L gN gz a b' d k' W (h.grown hW) hm (hg.grown hW) hy hG hL.len hgN3 hL.num).mono fun E w' hE => ?_
        rcases hE with ⟨_, hE⟩ | ⟨h3, _⟩
        · exact hE
        · omega
      · have hno : allSk L [gl] = askF L gl gl := by
          rw [all_one] at hy ⊢
          unfold askF
          by_cases hK : checkSk L = 0
          · by_cases hgf : cfgSk gl = 0
            · rw [if_pos hK, if_pos hgf] at hy; exact absurd rfl hy
            · rw [if_pos hK, if_neg hgf, if_pos hK, if_neg hgf]
          · rw [if_neg hK, if_neg hK]
        rw [← hno]
        exact before_bad L gl a b' d k' W (h.grown hW) hm (hg.grown hW) hgm hy

theorem ways_own : ownKnob Try.prog.godebug = none := by kernel_rfl

set_option maxRecDepth 100000 in
theorem ways_lifted (os : Os) (started : os.Started) (H : Type) (enc : TypeId × Value → H) :
    ReturnsInHanded {} Try.checked os 3 .any (Rows.stackWaysSpec.pre6 enc Try.prog Try.f3 Rows.stackWaysRow.domain false) (Rows.stackWaysSpec.post enc Try.prog Try.f3 false true false false) := by
  refine returnsInHanded_of_change_sized (C := Try.checked) ways_own started (by kernel_rfl) Try.func3
    (ChangeSpec.witness6 (enc := enc) (C := Try.checked) false ⟨#[], #[.slice none 0 0, .agg #[.int .i64 0, .slice none 0 0], .agg #[.int .i64 0, .slice none 0 0]], []⟩ 8 (by kernel_rfl) (by kernel_rfl) (by kernel_rfl) (by kernel_rfl)) ?_
  intro W base args ds gs before hval0 hW hcnd hsz0 _
  have hval : ∀ (j : Nat) t v, Try.f3.params[j]? = some t → args[j]? = some v → Value.okWide Try.prog W .any base t v := hval0
  have hW' := hW
  obtain ⟨p, q, hA0, hV, rfl, hfz, hnd⟩ := hW
  have hA : DataW.TrodAll enc Try.prog W 0 (fun _ => true) true Try.f3.params.toList args.toList ds p := hA0
  rw [Try.params3] at hA hval
  obtain ⟨v0, vs0, d0, ds0, p0, q0, hargs, rfl, rfl, h0, r0⟩ := trodAll_cons hA
  obtain ⟨v1, vs1, d1, ds1, p1, q1, rfl, rfl, rfl, h1, r1⟩ := trodAll_cons r0
  obtain ⟨v2, vs2, d2, ds2, p2, q2, rfl, rfl, rfl, h2, r2⟩ := trodAll_cons r1
  obtain ⟨rfl, rfl, rfl⟩ := trodAll_nil r2
  obtain rfl : args = #[v0, v1, v2] := by cases args; simp_all
  obtain ⟨rfl, rfl⟩ := trodVars_none hV
  have lt0 : ∀ x ∈ p0, x.block < W.heap.size := by obtain ⟨m, hm⟩ := h0; exact DataW.trod_lt m _ _ _ hm
  have lt1 : ∀ x ∈ p1, x.block < W.heap.size := by obtain ⟨m, hm⟩ := h1; exact DataW.trod_lt m _ _ _ hm
  have lt2 : ∀ x ∈ p2, x.block < W.heap.size := by obtain ⟨m, hm⟩ := h2; exact DataW.trod_lt m _ _ _ hm
  obtain ⟨a, d, L, rfl, hL, hLm⟩ := pushes_of_trod (hval 0 22 v0 rfl rfl) h0
  obtain ⟨c, b, k, rfl, hc, hcm, hck⟩ := cfg_of_trod (hval 1 25 v1 rfl rfl) h1
  obtain ⟨gl, b', k', rfl, hg, hgm, hgk⟩ := cfg_of_trod (hval 2 25 v2 rfl rfl) h2
  clear hA0 hval0 hsz0
  refine (ways_all L c gl a b b' d k k' W hL hLm hc hcm hck hg hgm).mono fun E W' ⟨he, hg⟩ => ?_
  subst he
  have bel : Below W.heap.size W W' := below_of_grown hg
  exact ⟨_, rfl, _, _, _, [], _, [], hW', trodAll_mk1 (shut_bool Try.underlying4 _), (trodAll_cons_mk (Below.trod Try.laidOut (by kernel_rfl) (of_decide_eq_true (by kernel_rfl)) h0 bel lt0) (trodAll_cons_mk (Below.trod Try.laidOut (by kernel_rfl) (of_decide_eq_true (by kernel_rfl)) h1 bel lt1) (trodAll_cons_mk (Below.trod Try.laidOut (by kernel_rfl) (of_decide_eq_true (by kernel_rfl)) h2 bel lt2) trodAll_mk0))), rfl, bel.frame _, fun h => by cases h⟩

theorem stackWays_holds : Rows.StackWaysSaid :=
  OpenClaim.holds_of_wide 3 Try.f3 rfl rfl rfl rfl rfl rfl rfl ⟨rfl, rfl, rfl, rfl, rfl⟩ rfl rfl rfl rfl rfl (by kernel_rfl) Try.func3 (by kernel_rfl)
    (of_decide_eq_true (by kernel_rfl)) (by unfold Func.isWrapper; first | (rw [if_pos (by decide +kernel)]; kernel_rfl) | (rw [if_neg (by decide +kernel)]; exact ⟨rfl, rfl⟩))
    (fun os started H enc _ => ways_lifted os started H enc)
#print axioms stackWays_holds
end Go.Proofs.Ytcgkflddipflbaa
