/- TreeAccepts holds: whatever automaton of trees, whatever tree and whatever number come in, in whatever memory, shared or not: the program refuses what the reference refuses, with the same error, and else says of the tree what the reference says. -/
import Derived.Test.YtofjmakmbmndoaaTrLaw
import Derived.Test.YtofjmakmbmndoaaTrNodes
import Derived.SizedLaws
namespace Go.Proofs.Ytofjmakmbmndoaa
open Go.ChangeShapes Go.WideShapes Go.ChangeAt Go.RowKit Go.Joins
set_option linter.unusedVariables false

set_option maxHeartbeats 3200000 in
set_option maxRecDepth 100000 in
theorem tlaw_walk (x : Trs) (l : Int) (b e a : Option Addr) (d f c : Nat) (T : List NodeI) (w : World) (h : TrsAt w x b e) (hT : NodesAt w a T) (hm : T.length ≤ maxLen) :
    Calls Try.prog 3 #[trsV x.L x.N b x.R.length d x.S e x.M.length f, treeV a T.length c, .int .i64 l] w (Says (.bool true) w) := by
  have HC : Hid (∀ W, w.grownBy W none → Calls Try.prog 6 #[trsV x.L x.N b x.R.length d x.S e x.M.length f] W (Says (.int .i64 (checkT x)) W)) := fun W hW => checkT_any x b e d f W (h.grown hW)
  have HCR : Hid (∀ W, w.grownBy W none → Calls Try.prog 7 #[trsV x.L x.N b x.R.length d x.S e x.M.length f] W (Says (.int .i64 (checkT x)) W)) := fun W hW => checkTR_any x b e d f W (h.grown hW)
  have HTr : Hid (∀ W, w.grownBy W none → Calls Try.prog 8 #[.int .i64 l, treeV a T.length c] W (Says (.int .i64 (treeF l T)) W)) := fun W hW => treeP_any l T a c W (hT.grown hW) hm
  have HTR : Hid (∀ W, w.grownBy W none → Calls Try.prog 9 #[.int .i64 l, treeV a T.length c] W (Says (.int .i64 (treeF l T)) W)) := fun W hW => treeR_any l T a c W (hT.grown hW) hm
  have HTL : Hid (∀ W, w.grownBy W none → Calls Try.prog 9 #[.int .i64 x.L, treeV a T.length c] W (Says (.int .i64 (treeF x.L T)) W)) := fun W hW => treeR_any x.L T a c W (hT.grown hW) hm
  have HE : Hid (∀ W, w.grownBy W none → Calls Try.prog 10 #[trsV x.L x.N b x.R.length d x.S e x.M.length f, treeV a T.length c] W (Says (.tuple #[.bool (resA x T).1, .int .i64 (resA x T).2]) W)) := fun W hW => acceptsE_any x b e a d f c T W (h.grown hW) (hT.grown hW) hm
  have HA : Hid (checkT x = 0 → treeF x.L T = 0 → ∀ W, w.grownBy W none → Calls Try.prog 11 #[trsV x.L x.N b x.R.length d x.S e x.M.length f, treeV a T.length c] W (Says (.bool (accTB x T)) W)) := fun h1 h2 W hW => acceptsR_any x b e a d f c T W (h.grown hW) (hT.grown hW) (goodT_of_check h1) (goodNd_of_tree h2)
  have R1 : Hid (checkT x ≠ 0 → resA x T = (false, checkT x)) := fun hh => by unfold resA; rw [if_pos hh]
  have R2 : Hid (checkT x = 0 → treeF x.L T ≠ 0 → resA x T = (false, treeF x.L T)) := fun h1 hh => by unfold resA; rw [if_neg (by simp [h1]), if_pos hh]
  have R3 : Hid (checkT x = 0 → treeF x.L T = 0 → resA x T = (accTB x T, 0)) := fun h1 hh => by unfold resA; rw [if_neg (by simp [h1]), if_neg (by simp [hh])]
  generalize treeF l T = tl at *
  generalize checkT x = ce at *
  generalize treeF x.L T = te at *
  generalize accTB x T = ab at *
  generalize resA x T = re at *
  obtain ⟨L, N, R, S0, M⟩ := x
  simp only at *
  generalize R.length = nR at *
  generalize M.length = nM at *
  generalize T.length = n at *
  obtain ⟨W0, hW0, g0, s0, bx0⟩ := box5_new w (.int .i64 L) (.int .i64 N) (.slice b nR d) (.int .i64 S0) (.slice e nM f) 25
  obtain ⟨W1, hW1, g1, s1, bx1⟩ := box1_new W0 (.slice a n c) 28
  have HW1 : Hid (W1 = (w.alloc (.cells #[.int .i64 L, .int .i64 N, .slice b nR d, .int .i64 S0, .slice e nM f] 25)).alloc (.cells #[.slice a n c] 28)) := by show _ = _; rw [hW1, hW0]
  have G1 : Hid (w.grownBy W1 none) := grown_trans g0 g1
  rw [s0] at bx1
  have B0 : Hid (∀ W', W1.grownBy W' none → W'.cell? ⟨w.heap.size, 0, none⟩ = some (.int .i64 L) ∧ W'.cell? ⟨w.heap.size, 1, none⟩ = some (.int .i64 N) ∧ W'.cell? ⟨w.heap.size, 2, none⟩ = some (.slice b nR d) ∧ W'.cell? ⟨w.heap.size, 3, none⟩ = some (.int .i64 S0) ∧ W'.cell? ⟨w.heap.size, 4, none⟩ = some (.slice e nM f) ∧ W'.cell? ⟨w.heap.size + 1, 0, none⟩ = some (.slice a n c)) := fun W' hW' => by
    obtain ⟨q0, q1, q2, q3, q4⟩ := bx0 W' (grown_trans g1 hW')
    exact ⟨q0, q1, q2, q3, q4, bx1 W' hW'⟩
  obtain ⟨x0, x1, x2, x3, x4, x5⟩ := B0.out W1 (grown_refl _ _)
  rw [HW1.out] at x0 x1 x2 x3 x4 x5
  have f1 : (ce != ce) = false := by simp
  have f2 : (tl != tl) = false := by simp
  clear h hT hm hW0 hW1 g0 g1 s0 s1 bx0 bx1
  go_enter Try.func3, Try.ntmps3
  go_wp2_with fail
  rw [← HW1.out]
  clear x0 x1 x2 x3 x4 x5
  refine (HC.out _ G1.out).mono ?_
  rintro E w2 ⟨rfl, hg2⟩
  have G2 : Hid (W1.grownBy w2 none) := hg2
  clear hg2
  obtain ⟨x0, x1, x2, x3, x4, x5⟩ := B0.out w2 G2.out
  go_wp2_with fail
  clear x0 x1 x2 x3 x4 x5
  refine (HCR.out _ (grown_trans G1.out G2.out)).mono ?_
  rintro E w3 ⟨rfl, hg3⟩
  have G3 : Hid (W1.grownBy w3 none) := grown_trans G2.out hg3
  clear hg3
  obtain ⟨x0, x1, x2, x3, x4, x5⟩ := B0.out w3 G3.out
  go_wp2_with fail
  clear x0 x1 x2 x3 x4 x5
  refine (HTr.out _ (grown_trans G1.out G3.out)).mono ?_
  rintro E w4 ⟨rfl, hg4⟩
  have G4 : Hid (W1.grownBy w4 none) := grown_trans G3.out hg4
  clear hg4
  obtain ⟨x0, x1, x2, x3, x4, x5⟩ := B0.out w4 G4.out
  go_wp2_with fail
  clear x0 x1 x2 x3 x4 x5
  refine (HTR.out _ (grown_trans G1.out G4.out)).mono ?_
  rintro E w5 ⟨rfl, hg5⟩
  have G5 : Hid (W1.grownBy w5 none) := grown_trans G4.out hg5
  clear hg5
  obtain ⟨x0, x1, x2, x3, x4, x5⟩ := B0.out w5 G5.out
  go_wp2_with fail
  clear x0 x1 x2 x3 x4 x5
  refine (HE.out _ (grown_trans G1.out G5.out)).mono ?_
  rintro E w6 ⟨rfl, hg6⟩
  have G6 : Hid (W1.grownBy w6 none) := grown_trans G5.out hg6
  clear hg6 HE HTr HTR HC HCR
  by_cases e1 : ce = 0
  case neg =>
    have d1 : (ce != 0) = true := by simpa using e1
    have d3 : (ce == ce) = true := by simp
    have Hz : Hid _ := R1.out e1
    rw [Hz.out]
    clear R1 R2 R3 HA e1
    go_wp2_with fail
    go_ret
    exact ⟨rfl, grown_trans G1.out G6.out⟩
  have d1 : (ce != 0) = false := by simpa using e1
  obtain ⟨x0, x1, x2, x3, x4, x5⟩ := B0.out w6 G6.out
  have He1 : Hid (ce = 0) := e1
  clear e1
  by_cases e2 : te = 0
  case neg =>
    have d2 : (te != 0) = true := by simpa using e2
    have d3 : (te == te) = true := by simp
    have Hz : Hid _ := R2.out He1.out e2
    rw [Hz.out]
    clear R1 R2 R3 HA e2
    go_wp2_with fail
    clear x0 x1 x2 x3 x4 x5
    refine (HTL.out _ (grown_trans G1.out G6.out)).mono ?_
    rintro E w7 ⟨rfl, hg7⟩
    have G7 : Hid (W1.grownBy w7 none) := grown_trans G6.out hg7
    clear hg7
    go_wp2_with fail
    go_ret
    exact ⟨rfl, grown_trans G1.out G7.out⟩
  have d2 : (te != 0) = false := by simpa using e2
  have d3 : (ab == ab) = true := by simp
  have Hz : Hid _ := R3.out He1.out e2
  have HA2 : Hid _ := HA.out He1.out e2
  rw [Hz.out]
  clear R1 R2 R3 HA e2
  go_wp2_with fail
  clear x0 x1 x2 x3 x4 x5
  refine (HTL.out _ (grown_trans G1.out G6.out)).mono ?_
  rintro E w7 ⟨rfl, hg7⟩
  have G7 : Hid (W1.grownBy w7 none) := grown_trans G6.out hg7
  clear hg7
  obtain ⟨x0, x1, x2, x3, x4, x5⟩ := B0.out w7 G7.out
  go_wp2_with fail
  clear x0 x1 x2 x3 x4 x5
  refine (HA2.out _ (grown_trans G1.out G7.out)).mono ?_
  rintro E w8 ⟨rfl, hg8⟩
  have GF : Hid (w.grownBy w8 none) := grown_trans G1.out (grown_trans G7.out hg8)
  clear hg8
  go_wp2_with fail
  go_ret
  exact ⟨rfl, GF.out⟩

theorem trees_own : ownKnob Try.prog.godebug = none := by kernel_rfl

set_option maxRecDepth 100000 in
theorem trees_lifted (os : Os) (started : os.Started) (H : Type) (enc : TypeId × Value → H) :
    ReturnsInHanded {} Try.checked os 3 .any (Rows.treeAcceptsSpec.pre6 enc Try.prog Try.f3 Rows.treeAcceptsRow.domain false) (Rows.treeAcceptsSpec.post enc Try.prog Try.f3 false true false false) := by
  refine returnsInHanded_of_change_sized (C := Try.checked) trees_own started (by kernel_rfl) Try.func3
    (ChangeSpec.witness6 (enc := enc) (C := Try.checked) false ⟨#[], #[.agg #[.int .i64 0, .int .i64 0, .slice none 0 0, .int .i64 0, .slice none 0 0], .agg #[.slice none 0 0], .int .i64 0], []⟩ 8 (by kernel_rfl) (by kernel_rfl) (by kernel_rfl) (by kernel_rfl)) ?_
  intro W base args ds gs before hval0 hW hcnd hsz0 _
  have hval : ∀ (j : Nat) t v, Try.f3.params[j]? = some t → args[j]? = some v → Value.okWide Try.prog W .any base t v := hval0
  have hW' := hW
  obtain ⟨p, q, hA0, hV, rfl, hfz, hnd⟩ := hW
  have hA : DataW.TrodAll enc Try.prog W 0 (fun _ => true) true Try.f3.params.toList args.toList ds p := hA0
  rw [Try.params3] at hA hval
  obtain ⟨v0, vs0, d0, ds0, p0, q0, hargs, rfl, rfl, h0, r0⟩ := trodAll_cons hA
  obtain ⟨v1, vs1, d1, ds1, p1, q1, rfl, rfl, rfl, h1, r1⟩ := trodAll_cons r0
  obtain ⟨v2, vs2, d2, ds2, p2, q2, rfl, rfl, rfl, h2, r2⟩ := trodAll_cons r1
  obtain ⟨rfl, rfl, rfl⟩ := trodAll_nil r2
  obtain rfl : args = #[v0, v1, v2] := by cases args; simp_all
  obtain ⟨rfl, rfl⟩ := trodVars_none hV
  have lt0 : ∀ x ∈ p0, x.block < W.heap.size := by obtain ⟨m, hm⟩ := h0; exact DataW.trod_lt m _ _ _ hm
  have lt1 : ∀ x ∈ p1, x.block < W.heap.size := by obtain ⟨m, hm⟩ := h1; exact DataW.trod_lt m _ _ _ hm
  have lt2 : ∀ x ∈ p2, x.block < W.heap.size := by obtain ⟨m, hm⟩ := h2; exact DataW.trod_lt m _ _ _ hm
  obtain ⟨x, b, e, d, f, rfl, hD, _, _, _⟩ := trs_of_trod (hval 0 25 v0 rfl rfl) h0
  obtain ⟨T, a, c, rfl, hT, hTm⟩ := tree_of_trod (hval 1 28 v1 rfl rfl) h1
  obtain ⟨l, rfl⟩ : ∃ l, v2 = .int .i64 l := by
    exact okWide_int Try.underlying3 (hval 2 3 v2 rfl rfl)
  clear hA0 hval0 hsz0
  refine (tlaw_walk x l b e a d f c T W hD hT hTm).mono fun E W' ⟨he, hg⟩ => ?_
  subst he
  have bel : Below W.heap.size W W' := below_of_grown hg
  exact ⟨_, rfl, _, _, _, [], _, [], hW', trodAll_mk1 (shut_bool Try.underlying4 _), (trodAll_cons_mk (Below.trod Try.laidOut (by kernel_rfl) (of_decide_eq_true (by kernel_rfl)) h0 bel lt0) (trodAll_cons_mk (Below.trod Try.laidOut (by kernel_rfl) (of_decide_eq_true (by kernel_rfl)) h1 bel lt1) (trodAll_cons_mk (Below.trod Try.laidOut (by kernel_rfl) (of_decide_eq_true (by kernel_rfl)) h2 bel lt2) trodAll_mk0))), rfl, bel.frame _, fun h => by cases h⟩

theorem treeAccepts_holds : Rows.TreeAcceptsSaid :=
  OpenClaim.holds_of_wide 3 Try.f3 rfl rfl rfl rfl rfl rfl rfl ⟨rfl, rfl, rfl, rfl, rfl⟩ rfl rfl rfl rfl rfl (by kernel_rfl) Try.func3 (by kernel_rfl)
    (of_decide_eq_true (by kernel_rfl)) (by unfold Func.isWrapper; first | (rw [if_pos (by decide +kernel)]; kernel_rfl) | (rw [if_neg (by decide +kernel)]; exact ⟨rfl, rfl⟩))
    (fun os started H enc _ => trees_lifted os started H enc)
#print axioms treeAccepts_holds
end Go.Proofs.Ytofjmakmbmndoaa
