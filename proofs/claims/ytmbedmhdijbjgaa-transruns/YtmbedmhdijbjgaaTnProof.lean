/- TransRuns holds: whatever transducer and whatever word come in, in whatever memory, shared or not: the program refuses what the reference refuses, with the same error, and else says to the word what the reference says. -/
import Derived.Test.YtmbedmhdijbjgaaTnRun
import Derived.Test.YtmbedmhdijbjgaaTnRefC
import Derived.Test.YtmbedmhdijbjgaaTnRefR
import Derived.Test.YtmbedmhdijbjgaaRWord1
import Derived.Test.YtmbedmhdijbjgaaMay
import Derived.SizedLaws
namespace Go.Proofs.Ytmbedmhdijbjgaa
open Go.ChangeShapes Go.WideShapes Go.ChangeAt Go.RowKit Go.Joins
set_option linter.unusedVariables false

theorem saysT_len {x : TrI} {I : Nat} (h : ReadT x I) (us : List Nat) (hu : ∀ l ∈ us, l < I) (hl : us.length ≤ 60) : (saysT x us).length ≤ 1000 := by
  have hS := h.st
  unfold StT at hS
  have h1 := h.len us hu (q := x.S.toNat) (by omega)
  have h2 := h.e8 _ (h.go us hu (q := x.S.toNat) (by omega))
  have h3 := h.f8
  unfold saysT
  rw [List.length_append, List.length_append]
  omega

set_option maxHeartbeats 3200000 in
set_option maxRecDepth 100000 in
theorem truns_walk (x : TrI) (a3 a4 a5 a6 : Option Addr) (c3 c4 c5 c6 : Nat) (zs : List Int) (az : Option Addr) (cz : Nat) (w : World) (h : TnAt w x a3 a4 a5 a6) (hz : Ints w az zs) (hmz : zs.length ≤ maxLen) :
    Calls Try.prog 3 #[tnV x.I x.O x.S a3 x.F.length c3 a4 x.N.length c4 a5 x.Y.length c5 a6 x.E.length c6, .slice az zs.length cz] w (Says (.bool true) w) := by
  obtain ⟨W1, hW1, g1, s1, bx⟩ := box7_new w x.I x.O x.S a3 x.F.length c3 a4 x.N.length c4 a5 x.Y.length c5 a6 x.E.length c6
  have HC : Hid (∀ W, w.grownBy W none → Calls Try.prog 4 #[tnV x.I x.O x.S a3 x.F.length c3 a4 x.N.length c4 a5 x.Y.length c5 a6 x.E.length c6] W (ChkP x W)) := fun W hW => check_any _ _ _ _ _ _ _ _ _ _ (h.grown hW)
  have HCR : Hid (∀ W, w.grownBy W none → Calls Try.prog 5 #[tnV x.I x.O x.S a3 x.F.length c3 a4 x.N.length c4 a5 x.Y.length c5 a6 x.E.length c6] W (ChkP x W)) := fun W hW => checkR16_any _ _ _ _ _ _ _ _ _ _ (h.grown hW)
  have HRu : Hid (∀ W, w.grownBy W none → Calls Try.prog 6 #[tnV x.I x.O x.S a3 x.F.length c3 a4 x.N.length c4 a5 x.Y.length c5 a6 x.E.length c6, .slice az zs.length cz] W (RunP x zs W)) := fun W hW => run_any _ _ _ _ _ _ _ _ _ _ _ _ _ (h.grown hW) (hz.grown hW) hmz
  have HMy : Hid (∀ W, w.grownBy W none → Calls Try.prog 7 #[.int .i64 x.I, .slice az zs.length cz] W fun e w' => e = .returned (.int .i64 (mayF x.I zs)) ∧ w' = W) := fun W hW => mayR_any _ _ _ _ _ (hz.grown hW) hmz
  have HRR : Hid (∀ us, GoodT x → zs = nsT us → (∀ l ∈ us, l < x.I.toNat) → us.length ≤ 60 → ∀ W, w.grownBy W none → Calls Try.prog 8 #[tnV x.I x.O x.S a3 x.F.length c3 a4 x.N.length c4 a5 x.Y.length c5 a6 x.E.length c6, .slice az zs.length cz] W (RunRP x us W)) := fun us hG hu hl h60 W hW => by
    have hI := hG.many.1.2
    have hN := hG.size.2
    have hlu : zs.length = us.length := by rw [hu, nsT_len]
    rw [hlu]
    exact runR16_any x x.I.toNat a3 a4 a5 a6 c3 c4 c5 c6 W (h.grown hW) hG.read (by omega) (by omega) us hl h60 az cz (by rw [← hu]; exact hz.grown hW)
  have HW1 : Hid (W1 = _) := hW1
  have G1 : Hid (w.grownBy W1 none) := g1
  have BX : Hid (∀ W, W1.grownBy W none → Box7 W w.heap.size x.I x.O x.S a3 x.F.length c3 a4 x.N.length c4 a5 x.Y.length c5 a6 x.E.length c6) := fun W hW => bx.grown hW
  have x0 := bx.b0
  have x1 := bx.b1
  have x2 := bx.b2
  have x3 := bx.b3
  have x4 := bx.b4
  have x5 := bx.b5
  have x6 := bx.b6
  rw [hW1] at x0 x1 x2 x3 x4 x5 x6
  clear hW1 g1 s1 bx h hz hmz
  go_enter Try.func3, Try.ntmps3
  go_wp2_with fail
  rw [← HW1.out]
  clear x0 x1 x2 x3 x4 x5 x6
  refine (HC.out W1 G1.out).mono ?_
  rintro E w2 ⟨z1, rfl, hz1, hg2⟩
  have G2 : Hid (W1.grownBy w2 none) := hg2
  have Z1 : Hid (ChkIs x z1) := hz1
  have x0 := (BX.out w2 hg2).b0
  have x1 := (BX.out w2 hg2).b1
  have x2 := (BX.out w2 hg2).b2
  have x3 := (BX.out w2 hg2).b3
  have x4 := (BX.out w2 hg2).b4
  have x5 := (BX.out w2 hg2).b5
  have x6 := (BX.out w2 hg2).b6
  clear hg2 hz1
  go_wp2_with fail
  clear x0 x1 x2 x3 x4 x5 x6
  refine (HCR.out w2 (grown_trans G1.out G2.out)).mono ?_
  rintro E w3 ⟨z2, rfl, hz2, hg3⟩
  have G3 : Hid (W1.grownBy w3 none) := grown_trans G2.out hg3
  obtain rfl : z2 = z1 := (hz2.all Z1.out).1
  have x0 := (BX.out w3 G3.out).b0
  have x1 := (BX.out w3 G3.out).b1
  have x2 := (BX.out w3 G3.out).b2
  have x3 := (BX.out w3 G3.out).b3
  have x4 := (BX.out w3 G3.out).b4
  have x5 := (BX.out w3 G3.out).b5
  have x6 := (BX.out w3 G3.out).b6
  have f1 : (z2 != z2) = false := by simp
  clear hg3 hz2
  go_wp2_with fail
  clear x0 x1 x2 x3 x4 x5 x6
  refine (HRu.out w3 (grown_trans G1.out G3.out)).mono ?_
  intro E w4 hrun
  rcases hrun with ⟨z, hz, hz0, rfl, hg4⟩ | ⟨hG, hm, rfl, hg4⟩ | ⟨hG, us, hus, hm, a, c, rfl, hi, hg4⟩
  · obtain rfl : z = z2 := (hz.all Z1.out).1
    have d1 : (z == 0) = false := by simpa using hz0
    have d2 : (z != 0) = true := by simpa using hz0
    have d3 : (z == z) = true := by simp
    have GF : Hid (w.grownBy w4 none) := grown_trans G1.out (grown_trans G3.out hg4)
    clear hz hz0 hg4 HC HCR HRu HMy HRR
    go_wp2_with fail
    go_ret
    exact ⟨rfl, GF.out⟩
  · have e0 : z2 = 0 := (Z1.out.all Z1.out).2.2 hG
    subst e0
    have G4 : Hid (W1.grownBy w4 none) := grown_trans G3.out hg4
    have x0 := (BX.out w4 G4.out).b0
    have d2 : (mayF x.I zs != 0) = true := by simpa using hm
    have d3 : (mayF x.I zs == mayF x.I zs) = true := by simp
    clear hg4 hm
    go_wp2_with fail
    refine (HMy.out w4 (grown_trans G1.out G4.out)).mono ?_
    rintro E w5 ⟨rfl, rfl⟩
    have GF : Hid (w.grownBy w5 none) := grown_trans G1.out G4.out
    go_wp2_with fail
    go_ret
    exact ⟨rfl, GF.out⟩
  · have e0 : z2 = 0 := (Z1.out.all Z1.out).2.2 hG
    subst e0
    have G4 : Hid (W1.grownBy w4 none) := grown_trans G3.out hg4
    have x0 := (BX.out w4 G4.out).b0
    obtain ⟨_, _, h60, us', hus', hl'⟩ := may_ns hm
    have HI : Hid (Ints w4 a (saysT x us)) := hi
    have hl : ∀ l ∈ us, l < x.I.toNat := fun l hl => by
      have h1 : ((l : Nat) : Int) ∈ zs := by rw [hus]; exact List.mem_map.2 ⟨l, hl, rfl⟩
      rw [hus'] at h1
      obtain ⟨l', h2, h3⟩ := List.mem_map.1 h1
      have := hl' l' h2
      omega
    have h60u : us.length ≤ 60 := by rw [hus, nsT_len] at h60; exact h60
    have HL : Hid ((saysT x us).length ≤ 1000) := saysT_len hG.read us hl h60u
    have HR2 : Hid (∀ W, w.grownBy W none → Calls Try.prog 8 #[tnV x.I x.O x.S a3 x.F.length c3 a4 x.N.length c4 a5 x.Y.length c5 a6 x.E.length c6, .slice az zs.length cz] W (RunRP x us W)) := HRR.out us hG hus hl h60u
    have HM0 : Hid (∀ W, w.grownBy W none → Calls Try.prog 7 #[.int .i64 x.I, .slice az zs.length cz] W fun e w' => e = .returned (.int .i64 0) ∧ w' = W) := fun W hW => by
      have := HMy.out W hW
      rwa [hm] at this
    clear hg4 hm hi hus hus' hl' hl h60 h60u HRR HMy HC HCR HRu f1
    go_wp2_with fail
    refine (HM0.out w4 (grown_trans G1.out G4.out)).mono ?_
    rintro E w5 ⟨rfl, rfl⟩
    have x0 := (BX.out w5 G4.out).b0
    have x1 := (BX.out w5 G4.out).b1
    have x2 := (BX.out w5 G4.out).b2
    have x3 := (BX.out w5 G4.out).b3
    have x4 := (BX.out w5 G4.out).b4
    have x5 := (BX.out w5 G4.out).b5
    have x6 := (BX.out w5 G4.out).b6
    go_wp2_with fail
    clear x0 x1 x2 x3 x4 x5 x6
    refine (HR2.out w5 (grown_trans G1.out G4.out)).mono ?_
    rintro E w6 ⟨a', c', rfl, hi', hg6, _⟩
    have GF : Hid (w.grownBy w6 none) := grown_trans G1.out (grown_trans G4.out hg6)
    have HWo : Hid (Calls Try.prog 9 #[.slice a (saysT x us).length c, .slice a' (saysT x us).length c'] w6 (TellsB (SameW (saysT x us) (saysT x us)) w6)) :=
      wordsR_any a a' c c' _ _ w6 (HI.out.grown hg6) hi' (by have := HL.out; unfold maxLen; omega) (by have := HL.out; unfold maxLen; omega)
    clear hi' hg6
    go_wp2_with fail
    refine HWo.out.mono ?_
    rintro E w7 ⟨bb, rfl, hbb, hg7⟩
    obtain rfl : bb = true := hbb.2 rfl
    have GF7 : Hid (w.grownBy w7 none) := grown_trans GF.out hg7
    clear hbb hg7
    go_wp2_with fail
    go_ret
    exact ⟨rfl, GF7.out⟩

theorem truns_own : ownKnob Try.prog.godebug = none := by kernel_rfl

set_option maxRecDepth 100000 in
theorem truns_lifted (os : Os) (started : os.Started) (H : Type) (enc : TypeId × Value → H) :
    ReturnsInHanded {} Try.checked os 3 .any (Rows.transRunsSpec.pre6 enc Try.prog Try.f3 Rows.transRunsRow.domain false) (Rows.transRunsSpec.post enc Try.prog Try.f3 false true false false) := by
  refine returnsInHanded_of_change_sized (C := Try.checked) truns_own started (by kernel_rfl) Try.func3
    (ChangeSpec.witness6 (enc := enc) (C := Try.checked) false ⟨#[], #[.agg #[.int .i64 0, .int .i64 0, .int .i64 0, .slice none 0 0, .slice none 0 0, .slice none 0 0, .slice none 0 0], .slice none 0 0], []⟩ 8 (by kernel_rfl) (by kernel_rfl) (by kernel_rfl) (by kernel_rfl)) ?_
  intro W base args ds gs before hval0 hW hcnd hsz0 _
  have hval : ∀ (j : Nat) t v, Try.f3.params[j]? = some t → args[j]? = some v → Value.okWide Try.prog W .any base t v := hval0
  have hW' := hW
  obtain ⟨p, q, hA0, hV, rfl, hfz, hnd⟩ := hW
  have hA : DataW.TrodAll enc Try.prog W 0 (fun _ => true) true Try.f3.params.toList args.toList ds p := hA0
  rw [Try.params3] at hA hval
  obtain ⟨v0, vs0, d0, ds0, p0, q0, hargs, rfl, rfl, h0, r0⟩ := trodAll_cons hA
  obtain ⟨v1, vs1, d1, ds1, p1, q1, rfl, rfl, rfl, h1, r1⟩ := trodAll_cons r0
  obtain ⟨rfl, rfl, rfl⟩ := trodAll_nil r1
  obtain rfl : args = #[v0, v1] := by cases args; simp_all
  obtain ⟨rfl, rfl⟩ := trodVars_none hV
  have lt0 : ∀ x ∈ p0, x.block < W.heap.size := by obtain ⟨m, hm⟩ := h0; exact DataW.trod_lt m _ _ _ hm
  have lt1 : ∀ x ∈ p1, x.block < W.heap.size := by obtain ⟨m, hm⟩ := h1; exact DataW.trod_lt m _ _ _ hm
  obtain ⟨x, a3, a4, a5, a6, c3, c4, c5, c6, rfl, hD, _, _, _⟩ := tn_of_trod (hval 0 26 v0 rfl rfl) h0
  obtain ⟨az, cz, zs, rfl, hz, hmz⟩ := slice_of_trod (hval 1 22 v1 rfl rfl) h1
  clear hA0 hval0 hsz0
  refine (truns_walk x a3 a4 a5 a6 c3 c4 c5 c6 zs az cz W hD hz hmz).mono fun E W' ⟨he, hg⟩ => ?_
  subst he
  have bel : Below W.heap.size W W' := below_of_grown hg
  exact ⟨_, rfl, _, _, _, [], _, [], hW', trodAll_mk1 (shut_bool Try.underlying4 _), (trodAll_cons_mk (Below.trod Try.laidOut (by kernel_rfl) (of_decide_eq_true (by kernel_rfl)) h0 bel lt0) (trodAll_cons_mk (Below.trod Try.laidOut (by kernel_rfl) (of_decide_eq_true (by kernel_rfl)) h1 bel lt1) trodAll_mk0)), rfl, bel.frame _, fun h => by cases h⟩

theorem transRuns_holds : Rows.TransRunsSaid :=
  OpenClaim.holds_of_wide 3 Try.f3 rfl rfl rfl rfl rfl rfl rfl ⟨rfl, rfl, rfl, rfl, rfl⟩ rfl rfl rfl rfl rfl (by kernel_rfl) Try.func3 (by kernel_rfl)
    (of_decide_eq_true (by kernel_rfl)) (by unfold Func.isWrapper; first | (rw [if_pos (by decide +kernel)]; kernel_rfl) | (rw [if_neg (by decide +kernel)]; exact ⟨rfl, rfl⟩))
    (fun os started H enc _ => truns_lifted os started H enc)
#print axioms transRuns_holds
end Go.Proofs.Ytmbedmhdijbjgaa
