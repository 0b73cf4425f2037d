/- BuchiJoins holds: whatever two automata of infinite words and whatever lasso come in, in whatever memory, shared or not: where one of the automata may not be, their letters differ or one is too wide, Either and Both refuse with the document's error and answer nothing beside; else both answer automata that may be, with the same letters, of which the one accepts the lasso's infinite word just where one of the two does, the other just where both do; the arguments stay as they were; there are no conditions. -/
import Derived.Test.YtaangdomdeklhaaUJLaw
import Derived.Test.YtaangdomdeklhaaUAr
import Derived.Test.YtaangdomdeklhaaURCheck
import Derived.Test.YtaangdomdeklhaaULs
import Derived.Test.YtaangdomdeklhaaUSameA
import Derived.Test.YtaangdomdeklhaaUAccR
namespace Go.Proofs.Ytaangdomdeklhaa
open Go.ChangeShapes Go.WideShapes Go.ChangeAt Go.RowKit Go.Joins
set_option linter.unusedVariables false

theorem below_mem {zs : List Nat} {l : Nat} (h : ∀ x, x ∈ zs → x < l) : ∀ k, k < zs.length → zs.getD k 0 < l := fun k hk => h _ (by rw [List.getD, List.getElem?_eq_getElem hk]; exact List.getElem_mem _)

/-- The reference's Accepts, of an automaton that may be. -/
theorem accJ_any (x : Aut) (l : Nat) (hL : x.L = l) (hG : GoodA x) (a b e ah al : Option Addr) (c d f ch cl : Nat) (us vs : List Nat) (w : World) (h : AutAt w x a b e) (hh : Ints w ah (natInts us)) (hp : Ints w al (natInts vs)) (hul : us.length ≤ 1000) (hvl : vs.length ≤ 1000) (hv1 : 1 ≤ vs.length) (hus : ∀ k, k < us.length → us.getD k 0 < l) (hvs : ∀ k, k < vs.length → vs.getD k 0 < l) :
    Calls Try.prog 19 #[autV x.L x.N a x.S.length c b x.T.length d e x.F.length f, lasV ah us.length ch al vs.length cl] w (TellsB (AccL x.T (setOf x.S) (setOf x.F) us vs) w) := by
  have hn1 := hG.n1
  obtain ⟨nS, hN⟩ : ∃ nS : Nat, x.N = nS := ⟨x.N.toNat, by omega⟩
  have h1 := accR_any x l nS hL hN hG a b e ah al c d f ch cl us vs w h hh hp hul hvl hv1 hus hvs
  rw [hL, hN]
  exact h1

theorem joins_walk (x y : Aut) (a b e a' b' e' ah al : Option Addr) (c d f c' d' f' ch cl : Nat) (hs ls : List Int) (w : World) (hA : AutAt w x a b e) (hS : x.S.length ≤ 17592186044416) (hF : x.F.length ≤ 17592186044416) (hT : x.T.length * 24 ≤ 140737488355328) (hn : b = none → d = 0)
    (hB : AutAt w y a' b' e') (hS' : y.S.length ≤ 17592186044416) (hF' : y.F.length ≤ 17592186044416) (hT' : y.T.length * 24 ≤ 140737488355328) (hn' : b' = none → d' = 0) (hh : Ints w ah hs) (hl : Ints w al ls) (hhm : hs.length ≤ maxLen) (hlm : ls.length ≤ maxLen) :
    Calls Try.prog 4 #[autV x.L x.N a x.S.length c b x.T.length d e x.F.length f, autV y.L y.N a' y.S.length c' b' y.T.length d' e' y.F.length f', lasV ah hs.length ch al ls.length cl] w (Says (.bool true) w) := by
  have HAu1 : Hid (∀ W, w.grownBy W none → Calls Try.prog 5 #[autV x.L x.N a x.S.length c b x.T.length d e x.F.length f] W (AutoPost x W)) := fun W hW => auto_any x a b e c d f W (hA.grown hW) hS hF hT hn
  have HAu2 : Hid (∀ W, w.grownBy W none → Calls Try.prog 5 #[autV y.L y.N a' y.S.length c' b' y.T.length d' e' y.F.length f'] W (AutoPost y W)) := fun W hW => auto_any y a' b' e' c' d' f' W (hB.grown hW) hS' hF' hT' hn'
  have HC1 : ∀ W, w.grownBy W none → Calls Try.prog 9 #[autV x.L x.N a x.S.length c b x.T.length d e x.F.length f] W (Says (.int .i64 (checkA x)) W) := fun W hW => checkA7_any x a b e c d f W (hA.grown hW)
  have HC2 : ∀ W, w.grownBy W none → Calls Try.prog 9 #[autV y.L y.N a' y.S.length c' b' y.T.length d' e' y.F.length f'] W (Says (.int .i64 (checkA y)) W) := fun W hW => checkA7_any y a' b' e' c' d' f' W (hB.grown hW)
  by_cases hr : checkJ x y = 0
  · have hJ := goodJ_of hr
    rw [checkA_good hJ.a] at HC1
    rw [checkA_good hJ.b] at HC2
    have HLs : Hid (∀ W, w.grownBy W none → Calls Try.prog 18 #[autV x.L x.N a x.S.length c b x.T.length d e x.F.length f, lasV ah hs.length ch al ls.length cl] W (Says (.int .i64 (lassoF x.L hs ls)) W)) := fun W hW => lasso7_any x.L x.N a b e _ c _ d _ f ah al ch cl hs ls W (hh.grown hW) (hl.grown hW) hhm hlm
    have hl1 := hJ.a.l1
    obtain ⟨l, hL⟩ : ∃ l : Nat, x.L = l := ⟨x.L.toNat, by omega⟩
    have hL' : y.L = l := by rw [← hJ.l]; exact hL
    have key : ∃ P1 P2 : Prop, (lassoF x.L hs ls = 0 → ∀ W, w.grownBy W none → Calls Try.prog 19 #[autV x.L x.N a x.S.length c b x.T.length d e x.F.length f, lasV ah hs.length ch al ls.length cl] W (TellsB P1 W)) ∧
        (lassoF x.L hs ls = 0 → ∀ W, w.grownBy W none → Calls Try.prog 19 #[autV y.L y.N a' y.S.length c' b' y.T.length d' e' y.F.length f', lasV ah hs.length ch al ls.length cl] W (TellsB P2 W)) ∧
        (lassoF x.L hs ls = 0 → ∀ W a1 b1 e1 c1 d1 f1, w.grownBy W none → AutAt W (besA x y) a1 b1 e1 → Calls Try.prog 19 #[autV (besA x y).L (besA x y).N a1 (besA x y).S.length c1 b1 (besA x y).T.length d1 e1 (besA x y).F.length f1, lasV ah hs.length ch al ls.length cl] W (TellsB (P1 ∨ P2) W)) ∧
        (lassoF x.L hs ls = 0 → ∀ u W a1 b1 e1 c1 d1 f1, (∃ T : List StepI, T.Perm (kroT x y) ∧ (T.Pairwise fun p q => ¬ numS x.L (2 * x.N * y.N) q < numS x.L (2 * x.N * y.N) p) ∧ u = kroX x y T) → w.grownBy W none → AutAt W u a1 b1 e1 → Calls Try.prog 19 #[autV u.L u.N a1 u.S.length c1 b1 u.T.length d1 e1 u.F.length f1, lasV ah hs.length ch al ls.length cl] W (TellsB (P1 ∧ P2) W)) := by
      by_cases hb : lassoF x.L hs ls = 0
      · rw [hL] at hb
        obtain ⟨m1, m2, m3⟩ := lasso_word hb
        obtain ⟨us, rfl, hus, hul⟩ := may_word m1
        obtain ⟨vs, rfl, hvs, hvl⟩ := may_word m2
        have e1 : (natInts us).length = us.length := by simp [natInts]
        have e2 : (natInts vs).length = vs.length := by simp [natInts]
        rw [e2] at m3
        rw [e1, e2]
        have tell : ∀ (z : Aut), z.L = l → GoodA z → ∀ (a1 b1 e1 : Option Addr) (c1 d1 f1 : Nat) (W : World), w.grownBy W none → AutAt W z a1 b1 e1 → Calls Try.prog 19 #[autV z.L z.N a1 z.S.length c1 b1 z.T.length d1 e1 z.F.length f1, lasV ah us.length ch al vs.length cl] W (TellsB (AccL z.T (setOf z.S) (setOf z.F) us vs) W) := fun z hz hG a1 b1 e1 c1 d1 f1 W hW hZ => accJ_any z l hz hG a1 b1 e1 ah al c1 d1 f1 ch cl us vs W hZ (hh.grown hW) (hl.grown hW) (by omega) (by omega) (by omega) (below_mem hus) (below_mem hvs)
        refine ⟨AccL x.T (setOf x.S) (setOf x.F) us vs, AccL y.T (setOf y.S) (setOf y.F) us vs, fun _ W hW => tell x hL hJ.a _ _ _ _ _ _ W hW (hA.grown hW), fun _ W hW => tell y hL' hJ.b _ _ _ _ _ _ W hW (hB.grown hW), fun _ W a1 b1 e1 c1 d1 f1 hW hZ => ?_, fun _ u W a1 b1 e1 c1 d1 f1 hu hW hZ => ?_⟩
        · refine (tell (besA x y) hL (good_besA hJ) a1 b1 e1 c1 d1 f1 W hW hZ).mono ?_
          rintro E w' ⟨t, he, ht, hg⟩
          exact ⟨t, he, ht.trans (acc_besA hJ), hg⟩
        · obtain ⟨T, hp, hsT, rfl⟩ := hu
          refine (tell (kroX x y T) hL (good_kroX hJ hp hsT) a1 b1 e1 c1 d1 f1 W hW hZ).mono ?_
          rintro E w' ⟨t, he, ht, hg⟩
          exact ⟨t, he, ht.trans (acc_kroX hJ hp), hg⟩
      · exact ⟨True, True, fun h => absurd h hb, fun h => absurd h hb, fun h => absurd h hb, fun h => absurd h hb⟩
    obtain ⟨P1, P2, k1, k2, k3, k4⟩ := key
    refine bj_good x y (besA x y) (fun u => ∃ T : List StepI, T.Perm (kroT x y) ∧ (T.Pairwise fun p q => ¬ numS x.L (2 * x.N * y.N) q < numS x.L (2 * x.N * y.N) p) ∧ u = kroX x y T) P1 P2 (lassoF x.L hs ls) a b e a' b' e' ah al c d f c' d' f' hs.length ch ls.length cl w hJ.l hJ.na hJ.nb HAu1 HAu2
      (fun W a1 b1 e1 c1 d1 f1 hW h => sameAuto_any x a1 b1 e1 a b e c1 d1 f1 c d f W h (hA.grown hW)) (fun W a1 b1 e1 c1 d1 f1 hW h => sameAuto_any y a1 b1 e1 a' b' e' c1 d1 f1 c' d' f' W h (hB.grown hW)) HC1 HC2
      (fun W a1 b1 e1 c1 d1 f1 a2 b2 e2 c2 d2 f2 h h' => either_good x y a1 b1 e1 a2 b2 e2 c1 d1 f1 c2 d2 f2 W h h' hr) ?_ rfl ?_ ?_ ?_ HLs k1 k2 k3 k4
    · intro W a1 b1 e1 c1 d1 f1 a2 b2 e2 c2 d2 f2 h h'
      refine (both_good x y a1 b1 e1 a2 b2 e2 c1 d1 f1 c2 d2 f2 W h h' hr).mono ?_
      rintro E w' ⟨T, hp, hsT, h1⟩
      exact ⟨_, ⟨T, hp, hsT, rfl⟩, h1⟩
    · rintro u ⟨T, hp, hsT, rfl⟩
      rfl
    · intro W a1 b1 e1 c1 d1 f1 h
      have h1 := checkA7_any (besA x y) a1 b1 e1 c1 d1 f1 W h
      rw [checkA_good (good_besA hJ)] at h1
      exact h1
    · rintro u W a1 b1 e1 c1 d1 f1 ⟨T, hp, hsT, rfl⟩ h
      have h1 := checkA7_any (kroX x y T) a1 b1 e1 c1 d1 f1 W h
      rw [checkA_good (good_kroX hJ hp hsT)] at h1
      exact h1
  · refine bj_bad x y (checkJ x y) (checkA x) (checkA y) a b e a' b' e' ah al c d f c' d' f' hs.length ch ls.length cl w ?_ HAu1 HAu2
      (fun W a1 b1 e1 c1 d1 f1 hW h => sameAuto_any x a1 b1 e1 a b e c1 d1 f1 c d f W h (hA.grown hW)) (fun W a1 b1 e1 c1 d1 f1 hW h => sameAuto_any y a1 b1 e1 a' b' e' c1 d1 f1 c' d' f' W h (hB.grown hW)) HC1 HC2
      (fun W a1 b1 e1 c1 d1 f1 a2 b2 e2 c2 d2 f2 h h' => either_bad x y a1 b1 e1 a2 b2 e2 c1 d1 f1 c2 d2 f2 W h h' hr) (fun W a1 b1 e1 c1 d1 f1 a2 b2 e2 c2 d2 f2 h h' => both_bad x y a1 b1 e1 a2 b2 e2 c1 d1 f1 c2 d2 f2 W h h' hr) (fun W => noAuto_yes W)
    clear HAu1 HAu2 HC1 HC2
    unfold checkJ at hr ⊢
    by_cases q1 : checkA x = 0
    · by_cases q2 : checkA y = 0
      · by_cases q3 : x.L = y.L
        · by_cases q4 : 8 < x.N ∨ 8 < y.N
          · exact .inr (.inr (.inr ⟨q1, q2, q3, q4, by simp [q1, q2, q3, q4]⟩))
          · exact absurd (by simp [q1, q2, q3, q4]) hr
        · exact .inr (.inr (.inl ⟨q1, q2, q3, by simp [q1, q2, q3]⟩))
      · exact .inr (.inl ⟨q1, hr, by simp [q1, q2]⟩)
    · exact .inl ⟨hr, by simp [q1]⟩

theorem joins_own : ownKnob Try.prog.godebug = none := by kernel_rfl

set_option maxRecDepth 100000 in
theorem joins_lifted (os : Os) (started : os.Started) (H : Type) (enc : TypeId × Value → H) :
    ReturnsInHanded {} Try.checked os 4 .any (Rows.buchiJoinsSpec.pre6 enc Try.prog Try.f4 Rows.buchiJoinsRow.domain false) (Rows.buchiJoinsSpec.post enc Try.prog Try.f4 false true false false) := by
  refine returnsInHanded_of_change_sized (C := Try.checked) joins_own started (by kernel_rfl) Try.func4
    (ChangeSpec.witness6 (enc := enc) (C := Try.checked) false ⟨#[], #[.agg #[.int .i64 0, .int .i64 0, .slice none 0 0, .slice none 0 0, .slice none 0 0], .agg #[.int .i64 0, .int .i64 0, .slice none 0 0, .slice none 0 0, .slice none 0 0], .agg #[.slice none 0 0, .slice none 0 0]], []⟩ 8 (by kernel_rfl) (by kernel_rfl) (by kernel_rfl) (by kernel_rfl)) ?_
  intro W base args ds gs before hval0 hW hcnd hsz0 _
  have hval : ∀ (j : Nat) t v, Try.f4.params[j]? = some t → args[j]? = some v → Value.okWide Try.prog W .any base t v := hval0
  have hsz : (DataW.weightsEach Try.prog (Try.f4.params.toList ++ Rows.buchiJoinsSpec.plain.varTypes Try.prog) (ds ++ gs)).all (· ≤ reachBytes) = true := hsz0
  have hW' := hW
  obtain ⟨p, q, hA0, hV, rfl, hfz, hnd⟩ := hW
  have hA : DataW.TrodAll enc Try.prog W 0 (fun _ => true) true Try.f4.params.toList args.toList ds p := hA0
  rw [Try.params4] at hA hval hsz
  obtain ⟨v0, vs0, d0, ds0, p0, q0, hargs, rfl, rfl, h0, r0⟩ := trodAll_cons hA
  obtain ⟨v1, vs1, d1, ds1, p1, q1, rfl, rfl, rfl, h1, r1⟩ := trodAll_cons r0
  obtain ⟨v2, vs2, d2, ds2, p2, q2, rfl, rfl, rfl, h2, r2⟩ := trodAll_cons r1
  obtain ⟨rfl, rfl, rfl⟩ := trodAll_nil r2
  obtain rfl : args = #[v0, v1, v2] := by cases args; simp_all
  obtain ⟨rfl, rfl⟩ := trodVars_none hV
  have lt0 : ∀ x ∈ p0, x.block < W.heap.size := by obtain ⟨m, hm⟩ := h0; exact DataW.trod_lt m _ _ _ hm
  have lt1 : ∀ x ∈ p1, x.block < W.heap.size := by obtain ⟨m, hm⟩ := h1; exact DataW.trod_lt m _ _ _ hm
  have lt2 : ∀ x ∈ p2, x.block < W.heap.size := by obtain ⟨m, hm⟩ := h2; exact DataW.trod_lt m _ _ _ hm
  have hw0 : ∀ m ∈ d0.weights Try.prog 25, m ≤ reachBytes := fun m hm => by
    have := List.all_eq_true.1 hsz m (DataW.weights_mem_each (j := 0) rfl rfl m hm)
    simpa using this
  have hw1 : ∀ m ∈ d1.weights Try.prog 25, m ≤ reachBytes := fun m hm => by
    have := List.all_eq_true.1 hsz m (DataW.weights_mem_each (j := 1) rfl rfl m hm)
    simpa using this
  obtain ⟨x, a, b, e, c, d, f, rfl, hX, z1, z2, z3, z4⟩ := aut_sized (hval 0 25 v0 rfl rfl) h0 hw0
  obtain ⟨y, a', b', e', c', d', f', rfl, hY, y1, y2, y3, y4⟩ := aut_sized (hval 1 25 v1 rfl rfl) h1 hw1
  obtain ⟨ah, al, ch, cl, hs, ls, rfl, hh, hl, hhm, hlm⟩ := las_of_trod (hval 2 42 v2 rfl rfl) h2
  clear hA0 hval0 hsz0
  refine (joins_walk x y a b e a' b' e' ah al c d f c' d' f' ch cl hs ls W hX z1 z2 z3 z4 hY y1 y2 y3 y4 hh hl hhm hlm).mono fun E W' ⟨he, hg⟩ => ?_
  subst he
  have bel : Below W.heap.size W W' := below_of_grown hg
  exact ⟨_, rfl, _, _, _, [], _, [], hW', trodAll_mk1 (shut_bool Try.underlying4 _), (trodAll_cons_mk (Below.trod Try.laidOut (by kernel_rfl) (of_decide_eq_true (by kernel_rfl)) h0 bel lt0) (trodAll_cons_mk (Below.trod Try.laidOut (by kernel_rfl) (of_decide_eq_true (by kernel_rfl)) h1 bel lt1) (trodAll_cons_mk (Below.trod Try.laidOut (by kernel_rfl) (of_decide_eq_true (by kernel_rfl)) h2 bel lt2) trodAll_mk0))), rfl, bel.frame _, fun h => by cases h⟩

theorem buchiJoins_holds : Rows.BuchiJoinsSaid :=
  OpenClaim.holds_of_wide 4 Try.f4 rfl rfl rfl rfl rfl rfl rfl ⟨rfl, rfl, rfl, rfl, rfl⟩ rfl rfl rfl rfl rfl (by kernel_rfl) Try.func4 (by kernel_rfl)
    (of_decide_eq_true (by kernel_rfl)) (by unfold Func.isWrapper; first | (rw [if_pos (by decide +kernel)]; kernel_rfl) | (rw [if_neg (by decide +kernel)]; exact ⟨rfl, rfl⟩))
    (fun os started H enc _ => joins_lifted os started H enc)
#print axioms buchiJoins_holds
end Go.Proofs.Ytaangdomdeklhaa
