/- TreeSome holds: whatever automaton of trees comes in, in whatever memory, shared or not: the program refuses what the reference refuses, with the same error, and else finds a tree that is accepted, with as few nodes as any has, or there is none with at most sixty. -/
import Derived.Test.YtofjmakmbmndoaaTrCopy
import Derived.Test.YtofjmakmbmndoaaTrSome
import Derived.Test.YtofjmakmbmndoaaTrLeastW
import Derived.Test.YtofjmakmbmndoaaTrAccR
import Derived.Test.YtofjmakmbmndoaaTrTreeR
import Derived.Test.YtofjmakmbmndoaaTrCheckR
import Derived.Test.YtofjmakmbmndoaaTrSized
namespace Go.Proofs.Ytofjmakmbmndoaa
open Go.ChangeShapes Go.WideShapes Go.ChangeAt Go.RowKit Go.Joins
set_option linter.unusedVariables false

theorem some_same {x : Trs} {T : List NodeI} {is : Bool} {r : Nat} (h1 : SomeIs x T is) (h2 : LeastIs x.R x.M r) : (is = true ∧ r = T.length ∧ 1 ≤ r ∧ r ≤ 60 ∧ treeF x.L T = 0 ∧ accTB x T = true) ∨ (is = false ∧ r = 0 ∧ T.length = 0) := by
  rcases h1 with ⟨a1, a2, a3, a4, a5⟩ | ⟨a1, a2, a3⟩
  · rcases h2 with ⟨b1, b2⟩ | ⟨b1, b2, b3⟩
    · exact (a2.not a3 b2).elim
    · have := b3.one a2
      exact .inl ⟨a1, this, b1, b2, a4, a5⟩
  · rcases h2 with ⟨b1, b2⟩ | ⟨b1, b2, b3⟩
    · exact .inr ⟨a1, b1, by rw [a2]; rfl⟩
    · exact (b3.not b2 a3).elim

set_option maxHeartbeats 3200000 in
set_option maxRecDepth 100000 in
theorem slaw_walk (x : Trs) (b e : Option Addr) (d f : Nat) (w : World) (h : TrsAt w x b e) (hR : x.R.length * 32 ≤ 140737488355328) (hM : x.M.length ≤ 17592186044416) (hn : b = none → d = 0) :
    Calls Try.prog 4 #[trsV x.L x.N b x.R.length d x.S e x.M.length f] w (Says (.bool true) w) := by
  have HT : Hid (∀ W, w.grownBy W none → Calls Try.prog 12 #[trsV x.L x.N b x.R.length d x.S e x.M.length f] W (TreesPost x W)) := fun W hW => trees_any x b e d f W (h.grown hW) hR hM hn
  have HCR : Hid (∀ W, w.grownBy W none → Calls Try.prog 7 #[trsV x.L x.N b x.R.length d x.S e x.M.length f] W (Says (.int .i64 (checkT x)) W)) := fun W hW => checkTR_any x b e d f W (h.grown hW)
  have HBad : Hid (checkT x ≠ 0 → ∀ (b' e' : Option Addr) (d' f' : Nat) (W : World), TrsAt W x b' e' → Calls Try.prog 13 #[trsV x.L x.N b' x.R.length d' x.S e' x.M.length f'] W (Says (.tuple #[treeV none 0 0, .bool false, .int .i64 (checkT x)]) W)) := fun hx b' e' d' f' W hW => some_bad x b' e' d' f' W hW hx
  have HGood : Hid (checkT x = 0 → ∀ (b' e' : Option Addr) (d' f' : Nat) (W : World), TrsAt W x b' e' → Calls Try.prog 13 #[trsV x.L x.N b' x.R.length d' x.S e' x.M.length f'] W (SomePost x W)) := fun hx b' e' d' f' W hW => some_good x b' e' d' f' W hW hx
  have HLe : Hid (checkT x = 0 → ∀ W, w.grownBy W none → Calls Try.prog 14 #[trsV x.L x.N b x.R.length d x.S e x.M.length f] W (LeastPost x W)) := fun hx W hW => least_any x b e d f W (h.grown hW) (goodT_of_check hx)
  have HTr : Hid (∀ (T : List NodeI) (a : Option Addr) (c : Nat) (W : World), NodesAt W a T → T.length ≤ 60 → treeF x.L T = 0 → Calls Try.prog 9 #[.int .i64 x.L, treeV a T.length c] W (Says (.int .i64 0) W)) := fun T a c W hN hl ht => by
    have := treeR_any x.L T a c W hN (by unfold maxLen; omega)
    rwa [ht] at this
  have HAc : Hid (checkT x = 0 → ∀ (T : List NodeI) (a : Option Addr) (c : Nat) (W : World), w.grownBy W none → NodesAt W a T → treeF x.L T = 0 → accTB x T = true → Calls Try.prog 11 #[trsV x.L x.N b x.R.length d x.S e x.M.length f, treeV a T.length c] W (Says (.bool true) W)) := fun hx T a c W hW hN ht ha => by
    have := acceptsR_any x b e a d f c T W (h.grown hW) hN (goodT_of_check hx) (goodNd_of_tree ht)
    rwa [ha] at this
  have HSame : Hid (∀ (T : List NodeI) (is : Bool) (r : Nat), SomeIs x T is → LeastIs x.R x.M r → (is = true ∧ r = T.length ∧ 1 ≤ r ∧ r ≤ 60 ∧ treeF x.L T = 0 ∧ accTB x T = true) ∨ (is = false ∧ r = 0 ∧ T.length = 0)) := fun T is r h1 h2 => some_same h1 h2
  have HTA : Hid (∀ W b' e', TrsAt W x b' e' → ∀ W', W.grownBy W' none → TrsAt W' x b' e') := fun W b' e' h1 W' h2 => h1.grown h2
  have hmr := h.mr
  have hmm := h.mm
  unfold maxLen at hmr hmm
  obtain ⟨ce, hce⟩ : ∃ ce, checkT x = ce := ⟨_, rfl⟩
  rw [hce] at HCR HBad HGood HLe HAc
  obtain ⟨L, hL⟩ : ∃ L, x.L = L := ⟨_, rfl⟩
  obtain ⟨N, hN⟩ : ∃ N, x.N = N := ⟨_, rfl⟩
  obtain ⟨S0, hS0⟩ : ∃ S0, x.S = S0 := ⟨_, rfl⟩
  obtain ⟨nR, hnR⟩ : ∃ n, x.R.length = n := ⟨_, rfl⟩
  obtain ⟨nM, hnM⟩ : ∃ n, x.M.length = n := ⟨_, rfl⟩
  have HTP : Hid (∀ (W : World) (E : Ending) (W' : World), TreesPost x W E W' → ∃ (b' e' : Option Addr) (d' f' : Nat), E = .returned (trsV L N b' nR d' S0 e' nM f') ∧ TrsAt W' x b' e' ∧ W.grownBy W' none) := fun W E W' hp => by
    obtain ⟨b', e', d', f', h1, h2, h3⟩ := hp
    rw [hL, hN, hS0, hnR, hnM] at h1
    exact ⟨b', e', d', f', h1, h2, h3⟩
  rw [hL, hN, hS0, hnR, hnM] at HT HCR HBad HGood HLe HAc ⊢
  rw [hL] at HTr HSame
  rw [hnR] at hmr
  rw [hnM] at hmm
  obtain ⟨W1, hW1, g1, s1, bx1⟩ := box5_new w (.int .i64 L) (.int .i64 N) (.slice b nR d) (.int .i64 S0) (.slice e nM f) 25
  have HW1 : Hid (W1 = _) := hW1
  have G1 : Hid (w.grownBy W1 none) := g1
  have BX : Hid _ := bx1
  obtain ⟨x0, x1, x2, x3, x4⟩ := bx1 W1 (grown_refl _ _)
  rw [hW1] at x0 x1 x2 x3 x4
  clear h hR hM hn hW1 g1 s1 bx1 hL hN hS0 hnR hnM hce
  go_enter Try.func4, Try.ntmps4
  go_wp2_with fail
  rw [← HW1.out]
  clear x0 x1 x2 x3 x4
  refine (HT.out _ G1.out).mono ?_
  rintro E w2 hp
  obtain ⟨b', e', d', f', rfl, hA2, hg2⟩ := HTP.out _ _ _ hp
  clear hp HTP HT
  obtain ⟨W3, hW3, g3, s3, bx3⟩ := box5_new w2 (.int .i64 L) (.int .i64 N) (.slice b' nR d') (.int .i64 S0) (.slice e' nM f') 25
  have HW3 : Hid (W3 = _) := hW3
  have A3 : Hid (TrsAt W3 x b' e') := HTA.out _ _ _ hA2 _ g3
  have G3 : Hid (W1.grownBy W3 none) := grown_trans hg2 g3
  obtain ⟨z0, z1, z2, z3, z4⟩ := bx3 W3 (grown_refl _ _)
  rw [hW3] at z0 z1 z2 z3 z4
  clear hA2 hg2 g3 s3 bx3 hW3 HTA
  go_wp2_with fail
  rw [← HW3.out]
  clear z0 z1 z2 z3 z4
  by_cases hce : ce = 0
  case neg =>
    refine (HBad.out hce _ _ _ _ _ A3.out).mono ?_
    rintro E w4 ⟨rfl, hg4⟩
    obtain ⟨W5, hW5, g5, s5, bx5⟩ := box1_new w4 (.slice none 0 0) 28
    have HW5 : Hid (W5 = _) := hW5
    have G5 : Hid (W1.grownBy W5 none) := grown_trans G3.out (grown_trans hg4 g5)
    have BX5 : Hid _ := bx5
    obtain ⟨x0, x1, x2, x3, x4⟩ := BX.out W5 G5.out
    rw [hW5] at x0 x1 x2 x3 x4
    have d1 : (ce != 0) = true := by simpa using hce
    have d3 : (ce == ce) = true := by simp
    clear hg4 g5 s5 bx5 hW5 HBad HGood HLe HTr HAc HSame hce
    go_wp2_with fail
    rw [← HW5.out]
    clear x0 x1 x2 x3 x4
    refine (HCR.out _ (grown_trans G1.out G5.out)).mono ?_
    rintro E w6 ⟨rfl, hg6⟩
    have y0 := BX5.out w6 hg6
    have GF : Hid (w.grownBy w6 none) := grown_trans G1.out (grown_trans G5.out hg6)
    clear hg6
    go_wp2_with fail
    go_ret
    exact ⟨rfl, GF.out⟩
  case pos =>
    have HG2 := HGood.out hce
    have HLe2 : Hid (∀ W, w.grownBy W none → Calls Try.prog 14 #[trsV L N b nR d S0 e nM f] W (LeastPost x W)) := HLe.out hce
    have HAc2 : Hid _ := HAc.out hce
    have d1 : (ce != 0) = false := by simpa using hce
    have C3 : Hid (Calls Try.prog 13 #[trsV L N b' nR d' S0 e' nM f'] W3 (SomePost x W3)) := HG2 _ _ _ _ _ A3.out
    clear HBad HGood HLe HAc HG2 hce
    refine C3.out.mono ?_
    rintro E w4 ⟨T, a, c, is, rfl, hIs, hN4, hg4⟩
    have IS : Hid (SomeIs x T is) := hIs
    obtain ⟨W5, hW5, g5, s5, bx5⟩ := box1_new w4 (.slice a T.length c) 28
    have HW5 : Hid (W5 = _) := hW5
    have G5 : Hid (W1.grownBy W5 none) := grown_trans G3.out (grown_trans hg4 g5)
    have N5 : Hid (NodesAt W5 a T) := hN4.grown g5
    have BX5 : Hid _ := bx5
    obtain ⟨x0, x1, x2, x3, x4⟩ := BX.out W5 G5.out
    rw [hW5] at x0 x1 x2 x3 x4
    clear hIs hN4 hg4 g5 s5 bx5 hW5 C3 A3 G3
    go_wp2_with fail
    rw [← HW5.out]
    clear x0 x1 x2 x3 x4
    refine (HCR.out _ (grown_trans G1.out G5.out)).mono ?_
    rintro E w6 ⟨rfl, hg6⟩
    have G6 : Hid (W1.grownBy w6 none) := grown_trans G5.out hg6
    have G56 : Hid (W5.grownBy w6 none) := hg6
    obtain ⟨x0, x1, x2, x3, x4⟩ := BX.out w6 G6.out
    clear hg6 HCR
    go_wp2_with fail
    clear x0 x1 x2 x3 x4
    refine (HLe2.out _ (grown_trans G1.out G6.out)).mono ?_
    rintro E w7 ⟨r, rfl, hLe, hg7⟩
    have G7 : Hid (W1.grownBy w7 none) := grown_trans G6.out hg7
    have G57 : Hid (W5.grownBy w7 none) := grown_trans G56.out hg7
    have y0 := BX5.out w7 G57.out
    have key := HSame.out T is r IS.out hLe
    clear hLe hg7 HSame IS HLe2
    rcases key with ⟨rfl, hr, hr1, hr60, ht, ha⟩ | ⟨rfl, hr, hl⟩
    · have e1 : decide (0 < (r : Int)) = true := by simp; omega
      have e1' : decide (0 < r) = true := by simp; omega
      have hTl : T.length ≤ 60 := by omega
      have C8 : Hid (∀ W, W5.grownBy W none → Calls Try.prog 9 #[.int .i64 L, treeV a r c] W (Says (.int .i64 0) W)) := fun W hW => by
        have := HTr.out T a c W (N5.out.grown hW) hTl ht
        rwa [← hr] at this
      have C9 : Hid (∀ W, W5.grownBy W none → w.grownBy W none → Calls Try.prog 11 #[trsV L N b nR d S0 e nM f, treeV a r c] W (Says (.bool true) W)) := fun W hW hw => by
        have := HAc2.out T a c W hw (N5.out.grown hW) ht ha
        rwa [← hr] at this
      rw [← hr] at y0 BX5
      have e2 : ((r : Int) != (r : Int)) = false := by simp
      obtain ⟨x0, x1, x2, x3, x4⟩ := BX.out w7 G7.out
      clear ht ha HTr HAc2 N5 hTl hr
      go_wp2_with fail
      clear x0 x1 x2 x3 x4 y0
      refine (C8.out _ G57.out).mono ?_
      rintro E w8 ⟨rfl, hg8⟩
      have G8 : Hid (W1.grownBy w8 none) := grown_trans G7.out hg8
      have G58 : Hid (W5.grownBy w8 none) := grown_trans G57.out hg8
      have y0 := BX5.out w8 G58.out
      obtain ⟨x0, x1, x2, x3, x4⟩ := BX.out w8 G8.out
      clear hg8
      go_wp2_with fail
      clear x0 x1 x2 x3 x4 y0
      refine (C9.out _ G58.out (grown_trans G1.out G8.out)).mono ?_
      rintro E w9 ⟨rfl, hg9⟩
      have GF : Hid (w.grownBy w9 none) := grown_trans G1.out (grown_trans G8.out hg9)
      clear hg9
      go_wp2_with fail
      go_ret
      exact ⟨rfl, GF.out⟩
    · rw [hl] at y0
      subst hr
      have GF : Hid (w.grownBy w7 none) := grown_trans G1.out G7.out
      clear HTr HAc2 N5 hl
      go_wp2_with fail
      go_ret
      exact ⟨rfl, GF.out⟩

theorem some_own : ownKnob Try.prog.godebug = none := by kernel_rfl

set_option maxRecDepth 100000 in
theorem some_lifted (os : Os) (started : os.Started) (H : Type) (enc : TypeId × Value → H) :
    ReturnsInHanded {} Try.checked os 4 .any (Rows.treeSomeSpec.pre6 enc Try.prog Try.f4 Rows.treeSomeRow.domain false) (Rows.treeSomeSpec.post enc Try.prog Try.f4 false true false false) := by
  refine returnsInHanded_of_change_sized (C := Try.checked) some_own started (by kernel_rfl) Try.func4
    (ChangeSpec.witness6 (enc := enc) (C := Try.checked) false ⟨#[], #[.agg #[.int .i64 0, .int .i64 0, .slice none 0 0, .int .i64 0, .slice none 0 0]], []⟩ 8 (by kernel_rfl) (by kernel_rfl) (by kernel_rfl) (by kernel_rfl)) ?_
  intro W base args ds gs before hval0 hW hcnd hsz0 _
  have hval : ∀ (j : Nat) t v, Try.f4.params[j]? = some t → args[j]? = some v → Value.okWide Try.prog W .any base t v := hval0
  have hsz : (DataW.weightsEach Try.prog (Try.f4.params.toList ++ Rows.treeSomeSpec.plain.varTypes Try.prog) (ds ++ gs)).all (· ≤ reachBytes) = true := hsz0
  have hW' := hW
  obtain ⟨p, q, hA0, hV, rfl, hfz, hnd⟩ := hW
  have hA : DataW.TrodAll enc Try.prog W 0 (fun _ => true) true Try.f4.params.toList args.toList ds p := hA0
  rw [Try.params4] at hA hval hsz
  obtain ⟨v0, vs0, d0, ds0, p0, q0, hargs, rfl, rfl, h0, r0⟩ := trodAll_cons hA
  obtain ⟨rfl, rfl, rfl⟩ := trodAll_nil r0
  obtain rfl : args = #[v0] := by cases args; simp_all
  obtain ⟨rfl, rfl⟩ := trodVars_none hV
  have lt0 : ∀ x ∈ p0, x.block < W.heap.size := by obtain ⟨m, hm⟩ := h0; exact DataW.trod_lt m _ _ _ hm
  have hw0 : ∀ n ∈ d0.weights Try.prog 25, n ≤ reachBytes := fun m hm => by
    have := List.all_eq_true.1 hsz m (DataW.weights_mem_each (j := 0) rfl rfl m hm)
    simpa using this
  obtain ⟨x, b, e, d, f, rfl, hD, hR, hM, hn⟩ := trs_sized (hval 0 25 v0 rfl rfl) h0 hw0
  clear hA0 hval0 hsz0
  refine (slaw_walk x b e d f W hD hR hM hn).mono fun E W' ⟨he, hg⟩ => ?_
  subst he
  have bel : Below W.heap.size W W' := below_of_grown hg
  exact ⟨_, rfl, _, _, _, [], _, [], hW', trodAll_mk1 (shut_bool Try.underlying4 _), (trodAll_cons_mk (Below.trod Try.laidOut (by kernel_rfl) (of_decide_eq_true (by kernel_rfl)) h0 bel lt0) trodAll_mk0), rfl, bel.frame _, fun h => by cases h⟩

theorem treeSome_holds : Rows.TreeSomeSaid :=
  OpenClaim.holds_of_wide 4 Try.f4 rfl rfl rfl rfl rfl rfl rfl ⟨rfl, rfl, rfl, rfl, rfl⟩ rfl rfl rfl rfl rfl (by kernel_rfl) Try.func4 (by kernel_rfl)
    (of_decide_eq_true (by kernel_rfl)) (by unfold Func.isWrapper; first | (rw [if_pos (by decide +kernel)]; kernel_rfl) | (rw [if_neg (by decide +kernel)]; exact ⟨rfl, rfl⟩))
    (fun os started H enc _ => some_lifted os started H enc)
#print axioms treeSome_holds

end Go.Proofs.Ytofjmakmbmndoaa
