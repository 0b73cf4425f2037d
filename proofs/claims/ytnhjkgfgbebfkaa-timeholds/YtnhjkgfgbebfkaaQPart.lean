/- A part of a formula, rows of them, and the whole, as the reference reads them. -/
import Derived.Test.YtnhjkgfgbebfkaaQOne
namespace Go.Proofs.Ytnhjkgfgbebfkaa
open Go.RowKit
set_option linter.unusedVariables false

set_option maxHeartbeats 6400000 in
theorem partQ_does (s : ByteArray) (O P : PT) (m : Nat) (hs : s.size ≤ 4000) (hO : Fwd s O) (hP : Fwd s P) (hOd : QDoes 42 s O (m + 1)) (hPd : QDoes 37 s P m) : QDoes 37 s (partQ s O P) (m + 1) := by
  intro i n t d b w L ps hi hm hn ht hd hpn h hp
  have HO : Hid (Calls Try.prog 42 #[.pointer (some ⟨b, 0, none⟩)] w (QGives s b d n w L ps (O i n t d))) := hOd i n t d b w L ps hi hm hn ht hd hpn h hp
  clear h hp hOd
  unfold partQ
  cases hR : O i n t d with
  | bad c j =>
    have hc := (hO.bad hR hi hn ht).1
    rw [hR] at HO
    clear hR
    go_enter Try.func37, Try.ntmps37
    go_wp2_with fail
    refine HO.out.mono ?_
    rintro e w4 ⟨L4, qs, n4, hf4, hp4, hn41, hn42, hn43, k, i4, t4, rfl, hi4, ht4, hr4⟩
    have R4 : Hid (QRd w4 b s i4 n4 t4 d L4 c j) := hr4
    have P4 : Hid (NodsAt w4 b L4 (ps ++ qs)) := hp4
    have F4 : Hid (FrQ w w4 b L L4) := hf4
    clear hr4 hp4 hf4
    go_wp2_with fail
    refine (nowQ_any s b i4 n4 t4 d L4 c j _ hs (by omega) R4.out).mono ?_
    rintro e w5 ⟨rfl, hg5⟩
    have R5 : Hid (QRd w5 b s i4 n4 t4 d L4 c j) := R4.out.kept hg5
    have E : Hid (QGives s b d n w L ps (.bad c j) (.returned (.int .i64 (k : Int))) w5) := ⟨L4, qs, n4, F4.out.trans (FrQ.grown' hg5), nods_kept P4.out hg5, hn41, hn42, hn43, k, i4, t4, rfl, hi4, ht4, R5.out⟩
    have HK : Hid (Calls Try.prog 23 #[.pointer (some ⟨b, 0, none⟩)] w5 fun e w' => e = .returned (.bool false) ∧ w' = w5) := by
      have h1 := okQ_any s b i4 n4 t4 d L4 c j w5 R5.out
      have hc' : (c == 0) = false := by simp; omega
      rw [hc'] at h1
      exact h1
    clear hg5 R4 P4 F4 R5
    generalize byT s i4 = x at *
    go_wp2_with fail
    refine HK.out.mono ?_
    rintro e w6 ⟨rfl, rfl⟩
    go_wp2_with fail
    go_ret
    exact E.out
  | good f j n1 t1 =>
    rw [hR] at HO
    obtain ⟨a1, a2, a3, a4, a5⟩ := hO.good hR hi hn ht
    clear hR
    simp only
    have HN : Hid (∀ W L', QRd W b s j n1 t1 d L' 0 0 → Calls Try.prog 22 #[.pointer (some ⟨b, 0, none⟩)] W fun e w' => e = .returned (.int .u8 (byT s j)) ∧ W.grownBy w' none) := fun W L' h => nowQ_any s b j n1 t1 d L' 0 0 W hs (by omega) h
    have HCf : Hid (∀ W L' (c0 : Nat), QRd W b s j n1 t1 d L' 0 0 → fullC c0 n1 t1 = true → Calls Try.prog 24 #[.pointer (some ⟨b, 0, none⟩), .int .u8 (c0 : Int)] W fun e w' => e = .returned (.tuple #[]) ∧ W.grownBy w' (some b) ∧ QRd w' b s (j + 1) (n1 + 1) (tmC c0 t1) d L' 7 j) := fun W L' c0 h1 h2 => countQ_full s b j n1 t1 d L' c0 W (by omega) a4 a5 h2 h1
    have HCg : Hid (∀ W L' (c0 : Nat), QRd W b s j n1 t1 d L' 0 0 → ¬ fullC c0 n1 t1 = true → Calls Try.prog 24 #[.pointer (some ⟨b, 0, none⟩), .int .u8 (c0 : Int)] W fun e w' => e = .returned (.tuple #[]) ∧ W.grownBy w' (some b) ∧ QRd w' b s (j + 1) (n1 + 1) (tmC c0 t1) d L' 0 0) := fun W L' c0 h1 h2 => countQ_go s b j n1 t1 d L' c0 W (by omega) a4 a5 h2 h1
    have HQ : Hid (∀ W L' qs (c0 : Nat), j < s.size → ¬ fullC c0 n1 t1 = true → (ps ++ qs).length ≤ n1 → QRd W b s (j + 1) (n1 + 1) (tmC c0 t1) d L' 0 0 → NodsAt W b L' (ps ++ qs) → Calls Try.prog 37 #[.pointer (some ⟨b, 0, none⟩)] W (QGives s b d (n1 + 1) W L' (ps ++ qs) (P (j + 1) (n1 + 1) (tmC c0 t1) d))) := fun W L' qs c0 h1 h2 h3 h4 h5 => by
      obtain ⟨q1, q2⟩ := full_not h2
      exact hPd (j + 1) (n1 + 1) _ d b W L' (ps ++ qs) (by omega) (by omega) q1 q2 hd (by omega) h4 h5
    have HS : Hid (∀ W L' (c0 : Nat), QRd W b s (j + 1) (n1 + 1) (tmC c0 t1) d L' 7 j → Calls Try.prog 37 #[.pointer (some ⟨b, 0, none⟩)] W fun e w' => e = .returned (.int .i64 0) ∧ W.grownBy w' none) := fun W L' c0 h => partQ_stop s hs (j + 1) (n1 + 1) (tmC c0 t1) d b W L' 7 j (by omega) (by omega) h
    have HI : Hid (0 < byT s j → j < s.size) := fun h1 => byT_pos rfl h1
    clear hPd
    generalize byT s j = c at *
    by_cases hA : c = 85 ∨ c = 82
    · rw [if_pos hA]
      have HA : Hid (c = 85 ∨ c = 82) := hA
      have hjl : j < s.size := HI.out (by omega)
      by_cases hf : fullC c n1 t1 = true
      · rw [if_pos hf]
        have CF : Hid (∀ W L', QRd W b s j n1 t1 d L' 0 0 → Calls Try.prog 24 #[.pointer (some ⟨b, 0, none⟩), .int .u8 (c : Int)] W fun e w' => e = .returned (.tuple #[]) ∧ W.grownBy w' (some b) ∧ QRd w' b s (j + 1) (n1 + 1) (tmC c t1) d L' 7 j) := fun W L' h1 => HCf.out W L' c h1 hf
        have CS : Hid (∀ W L', QRd W b s (j + 1) (n1 + 1) (tmC c t1) d L' 7 j → Calls Try.prog 37 #[.pointer (some ⟨b, 0, none⟩)] W fun e w' => e = .returned (.int .i64 0) ∧ W.grownBy w' none) := fun W L' h1 => HS.out W L' c h1
        have HT6 : Hid (tmC c t1 ≤ 6) := tm_le a5
        clear HCf HCg HQ HS hf
        generalize tmC c t1 = tt at *
        rcases hA with rfl | rfl
        all_goals
          go_enter Try.func37, Try.ntmps37
          go_wp2_with fail
          refine HO.out.mono ?_
          rintro e w2 ⟨L2, qs, n2, hf2, hp2, hn21, hn22, hn23, rfl, k, rfl, hk2, hr2, hm2⟩
          have R2 : Hid (QRd w2 b s j n2 t1 d L2 0 0) := hr2
          have P2 : Hid (NodsAt w2 b L2 (ps ++ qs)) := hp2
          have F2 : Hid (FrQ w w2 b L L2) := hf2
          clear hr2 hp2 hf2 hm2
          go_wp2_with fail
          refine (HN.out _ _ R2.out).mono ?_
          rintro e w3 ⟨rfl, hg3⟩
          have R3 : Hid (QRd w3 b s j n2 t1 d L2 0 0) := R2.out.kept hg3
          have P3 : Hid (NodsAt w3 b L2 (ps ++ qs)) := nods_kept P2.out hg3
          have F3 : Hid (FrQ w w3 b L L2) := F2.out.trans (FrQ.grown' hg3)
          have HK : Hid (Calls Try.prog 23 #[.pointer (some ⟨b, 0, none⟩)] w3 fun e w' => e = .returned (.bool true) ∧ w' = w3) := okQ_any s b j n2 t1 d L2 0 0 w3 R3.out
          clear hg3 R2 P2 F2
          go_wp2_with fail
          refine HK.out.mono ?_
          rintro e w4 ⟨rfl, rfl⟩
          go_wp2_with fail
          refine (CF.out _ _ R3.out).mono ?_
          rintro e w5 ⟨rfl, hg5, hr5⟩
          have R5 : Hid (QRd w5 b s (j + 1) (n2 + 1) tt d L2 7 j) := hr5
          have P5 : Hid (NodsAt w5 b L2 (ps ++ qs)) := nods_set P3.out hg5
          have F5 : Hid (FrQ w w5 b L L2) := F3.out.trans (FrQ.grown hg5)
          clear hg5 hr5 R3 P3 F3
          go_wp2_with fail
          refine (CS.out _ _ R5.out).mono ?_
          rintro e w6 ⟨rfl, hg6⟩
          have R6 : Hid (QRd w6 b s (j + 1) (n2 + 1) tt d L2 7 j) := R5.out.kept hg6
          have P6 : Hid (NodsAt w6 b L2 (ps ++ qs)) := nods_kept P5.out hg6
          have F6 : Hid (FrQ w w6 b L L2) := F5.out.trans (FrQ.grown' hg6)
          clear hg6 R5 P5 F5
          go_wp2_with fail
          obtain ⟨K, hK⟩ : ∃ K, (ps ++ qs).length = K := ⟨_, rfl⟩
          refine (putQ_len s b (j + 1) (n2 + 1) tt d L2 7 j _ (ps ++ qs) _ k 0 K (by rw [List.length_append]; omega) hK R6.out P6.out).mono ?_
          rintro e w7 ⟨rfl, L7, hr7, hp7, hf7⟩
          rw [List.append_assoc] at hp7
          have E : Hid (QGives s b d n w L ps (.bad 7 j) (.returned (.int .i64 (K : Int))) w7) := ⟨L7, qs ++ [(_, k, 0)], n2 + 1, F6.out.trans hf7, hp7, by omega, by omega, by rw [List.length_append, List.length_singleton]; omega, K, j + 1, tt, rfl, by omega, HT6.out, hr7⟩
          clear hr7 hp7 hf7 R6 P6 F6 hK
          go_wp2_with fail
          go_ret
          exact E.out
      · rw [if_neg hf]
        obtain ⟨q1, q2⟩ := full_not hf
        have CG : Hid (∀ W L', QRd W b s j n1 t1 d L' 0 0 → Calls Try.prog 24 #[.pointer (some ⟨b, 0, none⟩), .int .u8 (c : Int)] W fun e w' => e = .returned (.tuple #[]) ∧ W.grownBy w' (some b) ∧ QRd w' b s (j + 1) (n1 + 1) (tmC c t1) d L' 0 0) := fun W L' h1 => HCg.out W L' c h1 hf
        have CQ : Hid (∀ W L' qs, (ps ++ qs).length ≤ n1 → QRd W b s (j + 1) (n1 + 1) (tmC c t1) d L' 0 0 → NodsAt W b L' (ps ++ qs) → Calls Try.prog 37 #[.pointer (some ⟨b, 0, none⟩)] W (QGives s b d (n1 + 1) W L' (ps ++ qs) (P (j + 1) (n1 + 1) (tmC c t1) d))) := fun W L' qs h1 h2 h3 => HQ.out W L' qs c hjl hf h1 h2 h3
        clear HCf HCg HQ HS hf
        cases hR : P (j + 1) (n1 + 1) (tmC c t1) d with
        | bad c2 j2 =>
          rw [hR] at CQ
          clear hR HA q2
          simp only
          generalize tmC c t1 = tt at *
          rcases hA with rfl | rfl
          all_goals
            go_enter Try.func37, Try.ntmps37
            go_wp2_with fail
            refine HO.out.mono ?_
            rintro e w2 ⟨L2, qs, n2, hf2, hp2, hn21, hn22, hn23, rfl, k, rfl, hk2, hr2, hm2⟩
            have R2 : Hid (QRd w2 b s j n2 t1 d L2 0 0) := hr2
            have P2 : Hid (NodsAt w2 b L2 (ps ++ qs)) := hp2
            have F2 : Hid (FrQ w w2 b L L2) := hf2
            clear hr2 hp2 hf2 hm2
            go_wp2_with fail
            refine (HN.out _ _ R2.out).mono ?_
            rintro e w3 ⟨rfl, hg3⟩
            have R3 : Hid (QRd w3 b s j n2 t1 d L2 0 0) := R2.out.kept hg3
            have P3 : Hid (NodsAt w3 b L2 (ps ++ qs)) := nods_kept P2.out hg3
            have F3 : Hid (FrQ w w3 b L L2) := F2.out.trans (FrQ.grown' hg3)
            have HK : Hid (Calls Try.prog 23 #[.pointer (some ⟨b, 0, none⟩)] w3 fun e w' => e = .returned (.bool true) ∧ w' = w3) := okQ_any s b j n2 t1 d L2 0 0 w3 R3.out
            clear hg3 R2 P2 F2
            go_wp2_with fail
            refine HK.out.mono ?_
            rintro e w4 ⟨rfl, rfl⟩
            go_wp2_with fail
            refine (CG.out _ _ R3.out).mono ?_
            rintro e w5 ⟨rfl, hg5, hr5⟩
            have R5 : Hid (QRd w5 b s (j + 1) (n2 + 1) tt d L2 0 0) := hr5
            have P5 : Hid (NodsAt w5 b L2 (ps ++ qs)) := nods_set P3.out hg5
            have F5 : Hid (FrQ w w5 b L L2) := F3.out.trans (FrQ.grown hg5)
            clear hg5 hr5 R3 P3 F3
            go_wp2_with fail
            refine (CQ.out _ _ qs (by rw [List.length_append]; omega) R5.out P5.out).mono ?_
            rintro e w6 ⟨L6, rs, n6, hf6, hp6, hn61, hn62, hn63, k6, i6, t6, rfl, hi6, ht6, hr6⟩
            have R6 : Hid (QRd w6 b s i6 n6 t6 d L6 c2 j2) := hr6
            have P6 : Hid (NodsAt w6 b L6 ((ps ++ qs) ++ rs)) := hp6
            have F6 : Hid (FrQ w w6 b L L6) := F5.out.trans hf6
            clear hr6 hp6 hf6 R5 P5 F5
            go_wp2_with fail
            obtain ⟨K, hK⟩ : ∃ K, ((ps ++ qs) ++ rs).length = K := ⟨_, rfl⟩
            refine (putQ_len s b i6 n6 t6 d L6 c2 j2 _ ((ps ++ qs) ++ rs) _ k k6 K (by rw [List.length_append, List.length_append]; omega) hK R6.out P6.out).mono ?_
            rintro e w7 ⟨rfl, L7, hr7, hp7, hf7⟩
            rw [List.append_assoc, List.append_assoc] at hp7
            have E : Hid (QGives s b d n w L ps (.bad c2 j2) (.returned (.int .i64 (K : Int))) w7) := ⟨L7, qs ++ (rs ++ [(_, k, k6)]), n6, F6.out.trans hf7, hp7, by omega, by omega, by rw [List.length_append, List.length_append, List.length_singleton]; omega, K, i6, t6, rfl, hi6, ht6, hr7⟩
            clear hr7 hp7 hf7 R6 P6 F6 hK
            go_wp2_with fail
            go_ret
            exact E.out
        | good g j2 n3 t3 =>
          obtain ⟨b1, b2, b3, b4, b5⟩ := hP.good hR hjl q1 q2
          rw [hR] at CQ
          clear hR q2
          simp only
          have HM : Hid (∀ (qs rs : List NodR) (k k6 : Nat), k < (ps ++ qs).length → MeanA ps (ps ++ qs) k f → k6 < ((ps ++ qs) ++ rs).length → MeanA (ps ++ qs) ((ps ++ qs) ++ rs) k6 g → MeanA ps (ps ++ (qs ++ (rs ++ [(c, k, k6)]))) ((ps ++ qs) ++ rs).length (biF c f g)) := fun qs rs k k6 hk hM hk6 hM6 => by
            have e : biF c f g = conF c f g := by unfold conF; rw [if_neg (by have := HA.out; omega), if_neg (by have := HA.out; omega)]
            rw [e]
            have e2 : ps ++ (qs ++ (rs ++ [(c, k, k6)])) = ((ps ++ qs) ++ rs) ++ [(c, k, k6)] := by simp
            rw [e2]
            have h1 : MeansN (((ps ++ qs) ++ rs) ++ [(c, k, k6)]) ((ps ++ qs) ++ rs).length (conF c f g) := by
              refine .bi _ c k k6 f g (by simp) (.inr (.inr HA.out)) (by rw [List.length_append]; omega) hk6 ?_ (hM6.1.more _)
              exact (hM.1.more rs).more _
            exact ⟨h1, fun h0 => (hM6.2 (hM.2 h0)).snoc h1⟩
          clear HA
          generalize tmC c t1 = tt at *
          generalize biF c f g = uf at *
          rcases hA with rfl | rfl
          all_goals
            go_enter Try.func37, Try.ntmps37
            go_wp2_with fail
            refine HO.out.mono ?_
            rintro e w2 ⟨L2, qs, n2, hf2, hp2, hn21, hn22, hn23, rfl, k, rfl, hk2, hr2, hm2⟩
            have R2 : Hid (QRd w2 b s j n2 t1 d L2 0 0) := hr2
            have P2 : Hid (NodsAt w2 b L2 (ps ++ qs)) := hp2
            have F2 : Hid (FrQ w w2 b L L2) := hf2
            have M2 : Hid (MeanA ps (ps ++ qs) k f) := hm2
            have K2 : Hid (k < (ps ++ qs).length) := hk2
            clear hr2 hp2 hf2 hm2 hk2
            go_wp2_with fail
            refine (HN.out _ _ R2.out).mono ?_
            rintro e w3 ⟨rfl, hg3⟩
            have R3 : Hid (QRd w3 b s j n2 t1 d L2 0 0) := R2.out.kept hg3
            have P3 : Hid (NodsAt w3 b L2 (ps ++ qs)) := nods_kept P2.out hg3
            have F3 : Hid (FrQ w w3 b L L2) := F2.out.trans (FrQ.grown' hg3)
            have HK : Hid (Calls Try.prog 23 #[.pointer (some ⟨b, 0, none⟩)] w3 fun e w' => e = .returned (.bool true) ∧ w' = w3) := okQ_any s b j n2 t1 d L2 0 0 w3 R3.out
            clear hg3 R2 P2 F2
            go_wp2_with fail
            refine HK.out.mono ?_
            rintro e w4 ⟨rfl, rfl⟩
            go_wp2_with fail
            refine (CG.out _ _ R3.out).mono ?_
            rintro e w5 ⟨rfl, hg5, hr5⟩
            have R5 : Hid (QRd w5 b s (j + 1) (n2 + 1) tt d L2 0 0) := hr5
            have P5 : Hid (NodsAt w5 b L2 (ps ++ qs)) := nods_set P3.out hg5
            have F5 : Hid (FrQ w w5 b L L2) := F3.out.trans (FrQ.grown hg5)
            clear hg5 hr5 R3 P3 F3
            go_wp2_with fail
            refine (CQ.out _ _ qs (by rw [List.length_append]; omega) R5.out P5.out).mono ?_
            rintro e w6 ⟨L6, rs, n6, hf6, hp6, hn61, hn62, hn63, rfl, k6, rfl, hk6, hr6, hm6⟩
            have R6 : Hid (QRd w6 b s j2 n6 t3 d L6 0 0) := hr6
            have P6 : Hid (NodsAt w6 b L6 ((ps ++ qs) ++ rs)) := hp6
            have F6 : Hid (FrQ w w6 b L L6) := F5.out.trans hf6
            have M6 : Hid _ := HM.out qs rs k k6 K2.out M2.out hk6 hm6
            clear hr6 hp6 hf6 R5 P5 F5 hk6 hm6 K2 M2
            go_wp2_with fail
            obtain ⟨K, hK⟩ : ∃ K, ((ps ++ qs) ++ rs).length = K := ⟨_, rfl⟩
            refine (putQ_len s b j2 n6 t3 d L6 0 0 _ ((ps ++ qs) ++ rs) _ k k6 K (by rw [List.length_append, List.length_append]; omega) hK R6.out P6.out).mono ?_
            rintro e w7 ⟨rfl, L7, hr7, hp7, hf7⟩
            rw [List.append_assoc, List.append_assoc] at hp7
            have E : Hid (QGives s b d n w L ps (.good uf j2 n6 t3) (.returned (.int .i64 (K : Int))) w7) := ⟨L7, qs ++ (rs ++ [(_, k, k6)]), n6, F6.out.trans hf7, hp7, by omega, by omega, by rw [List.length_append, List.length_append, List.length_singleton]; omega, rfl, K, rfl, by rw [← hK]; simp only [List.length_append, List.length_singleton]; omega, hr7, hK ▸ M6.out⟩
            clear hr7 hp7 hf7 R6 P6 F6 hK M6
            go_wp2_with fail
            go_ret
            exact E.out
    · rw [if_neg hA]
      have k85 : ((c : Int) == 85) = false := by simp; omega
      have k82 : ((c : Int) == 82) = false := by simp; omega
      have n85 : ((c : Int) != 85) = true := by simp; omega
      have n82 : ((c : Int) != 82) = true := by simp; omega
      clear HCf HCg HQ HS
      go_enter Try.func37, Try.ntmps37
      go_wp2_with fail
      refine HO.out.mono ?_
      rintro e w2 ⟨L2, qs, n2, hf2, hp2, hn21, hn22, hn23, rfl, k, rfl, hk2, hr2, hm2⟩
      have R2 : Hid (QRd w2 b s j n2 t1 d L2 0 0) := hr2
      have E2 : Hid (∀ W, w2.grownBy W none → QGives s b d n w L ps (.good f j n2 t1) (.returned (.int .i64 (k : Int))) W) := fun W hW => ⟨L2, qs, n2, hf2.trans (FrQ.grown' hW), nods_kept hp2 hW, hn21, hn22, hn23, rfl, k, rfl, hk2, hr2.kept hW, hm2⟩
      clear hr2 hp2 hf2 hm2 hk2
      go_wp2_with fail
      refine (HN.out _ _ R2.out).mono ?_
      rintro e w3 ⟨rfl, hg3⟩
      have E3 : Hid _ := E2.out w3 hg3
      have HK : Hid (Calls Try.prog 23 #[.pointer (some ⟨b, 0, none⟩)] w3 fun e w' => e = .returned (.bool true) ∧ w' = w3) := okQ_any s b j n2 t1 d L2 0 0 w3 (R2.out.kept hg3)
      clear hg3 R2 E2
      go_wp2_with fail
      refine HK.out.mono ?_
      rintro e w4 ⟨rfl, rfl⟩
      go_wp2_with fail
      go_ret
      exact E3.out

end Go.Proofs.Ytnhjkgfgbebfkaa
