/- Rows of parts, and the whole, as the reference reads them. -/
import Derived.Test.YtnhjkgfgbebfkaaQPart
namespace Go.Proofs.Ytnhjkgfgbebfkaa
open Go.RowKit
set_option linter.unusedVariables false

set_option maxHeartbeats 6400000 in
theorem termQ_does (s : ByteArray) (P : PT) (m : Nat) (hs : s.size ≤ 4000) (hP : Fwd s P) (hPd : QDoes 37 s P m) : QDoes 21 s (rowP s 38 .and P) m := by
  intro i n t d b w L ps hi hm hn ht hd hpn h hp
  have HO : Hid (Calls Try.prog 37 #[.pointer (some ⟨b, 0, none⟩)] w (QGives s b d n w L ps (P i n t d))) := hPd i n t d b w L ps hi hm hn ht hd hpn h hp
  have HPd : Hid (∀ q n' t' W L' qs, i < q → q < s.size → n' + 1 ≤ 30 → t' ≤ 5 → (ps ++ qs).length ≤ n' → QRd W b s (q + 1) (n' + 1) t' d L' 0 0 → NodsAt W b L' (ps ++ qs) → Calls Try.prog 37 #[.pointer (some ⟨b, 0, none⟩)] W (QGives s b d (n' + 1) W L' (ps ++ qs) (P (q + 1) (n' + 1) t' d))) := fun q n' t' W L' qs h1 h2 h3 h4 h5 h6 h7 => hPd (q + 1) (n' + 1) t' d b W L' (ps ++ qs) (by omega) (by omega) h3 h4 hd (by omega) h6 h7
  have HS : Hid (QStop 37 s) := partQ_stop s hs
  have HFw : Hid (Fwd s P) := hP
  clear h hp hPd
  obtain ⟨R0, hR0⟩ : ∃ R0, rowP s 38 .and P i n t d = R0 := ⟨_, rfl⟩
  have HR0 : Hid (rowP s 38 .and P i n t d = R0) := hR0
  rw [hR0]
  clear hR0
  -- the state of the loop
  have HI0 : Hid (∀ e w2, QGives s b d n w L ps (P i n t d) e w2 → ∃ (k : Nat) (L' : Value) (qs : List NodR) (n' : Nat), e = .returned (.int .i64 (k : Int)) ∧ FrQ w w2 b L L' ∧ NodsAt w2 b L' (ps ++ qs) ∧ n ≤ n' ∧ n' ≤ 31 ∧ qs.length + n ≤ n' ∧ ((∃ (q fu t' : Nat) (f' : Fm), i < q ∧ q ≤ s.size ∧ s.size - q < fu ∧ n' ≤ 30 ∧ t' ≤ 5 ∧ k < (ps ++ qs).length ∧ QRd w2 b s q n' t' d L' 0 0 ∧ MeanA ps (ps ++ qs) k f' ∧ rowL s 38 .and P d fu f' q n' t' = R0) ∨ (∃ (c : Int) (j i' t' : Nat), R0 = .bad c j ∧ c ≠ 0 ∧ i' + d ≤ 5000 ∧ t' ≤ 6 ∧ QRd w2 b s i' n' t' d L' c j))) := fun e w2 hg => by
    have h0 := HR0.out
    unfold rowP at h0
    cases hR : P i n t d with
    | bad c j =>
      rw [hR] at hg h0
      have hc := (hP.bad hR hi hn ht).1
      obtain ⟨L', qs, n', h1, h2, h3, h4, h5, k, i', t', h6, h7, h8, h9⟩ := hg
      exact ⟨k, L', qs, n', h6, h1, h2, h3, h4, h5, .inr ⟨c, j, i', t', h0.symm, by omega, h7, h8, h9⟩⟩
    | good f j n1 t1 =>
      rw [hR] at hg h0
      obtain ⟨a1, a2, a3, a4, a5⟩ := hP.good hR hi hn ht
      obtain ⟨L', qs, n', h1, h2, h3, h4, h5, h5b, k, h6, h7, h8, h9⟩ := hg
      subst h5b
      exact ⟨k, L', qs, n', h6, h1, h2, h3, h4, h5, .inl ⟨j, s.size + 1, t1, f, a1, a2, by omega, a4, a5, h7, h8, h9, h0⟩⟩
  clear hP HR0
  go_enter Try.func21, Try.ntmps21
  go_wp2_with fail
  refine HO.out.mono ?_
  intro e w2 hg2
  obtain ⟨k2, L2, qs2, n2, rfl, st2⟩ := HI0.out e w2 hg2
  have S2 : Hid (FrQ w w2 b L L2 ∧ NodsAt w2 b L2 (ps ++ qs2) ∧ n ≤ n2 ∧ n2 ≤ 31 ∧ qs2.length + n ≤ n2 ∧ ((∃ (q fu t' : Nat) (f' : Fm), i < q ∧ q ≤ s.size ∧ s.size - q < fu ∧ n2 ≤ 30 ∧ t' ≤ 5 ∧ k2 < (ps ++ qs2).length ∧ QRd w2 b s q n2 t' d L2 0 0 ∧ MeanA ps (ps ++ qs2) k2 f' ∧ rowL s 38 .and P d fu f' q n2 t' = R0) ∨ (∃ (c : Int) (j i' t' : Nat), R0 = .bad c j ∧ c ≠ 0 ∧ i' + d ≤ 5000 ∧ t' ≤ 6 ∧ QRd w2 b s i' n2 t' d L2 c j))) := st2
  clear st2 hg2 HI0 HO
  go_wp2_with fail
  go_loopw [3] (fun v wr => ∃ (k : Nat) (L' : Value) (qs : List NodR) (n' : Nat), v = .int .i64 (k : Int) ∧ FrQ w wr b L L' ∧ NodsAt wr b L' (ps ++ qs) ∧ n ≤ n' ∧ n' ≤ 31 ∧ qs.length + n ≤ n' ∧ ((∃ (q fu t' : Nat) (f' : Fm), i < q ∧ q ≤ s.size ∧ s.size - q < fu ∧ n' ≤ 30 ∧ t' ≤ 5 ∧ k < (ps ++ qs).length ∧ QRd wr b s q n' t' d L' 0 0 ∧ MeanA ps (ps ++ qs) k f' ∧ rowL s 38 .and P d fu f' q n' t' = R0) ∨ (∃ (c : Int) (j i' t' : Nat), R0 = .bad c j ∧ c ≠ 0 ∧ i' + d ≤ 5000 ∧ t' ≤ 6 ∧ QRd wr b s i' n' t' d L' c j))) (fun _ wr => leftR wr b s.size)
  case atStart => exact ⟨k2, L2, qs2, n2, rfl, S2.out⟩
  case round =>
    clear S2
    rename World => wr
    obtain ⟨k, L3, qs, n', rfl, hf3, hp3, hn31, hn32, hn33, hst⟩ := hrel
    have F3 : Hid (FrQ w wr b L L3) := hf3
    have P3 : Hid (NodsAt wr b L3 (ps ++ qs)) := hp3
    clear hf3 hp3
    rcases hst with ⟨q, fu, t', f', hq0, hq, hfu, hn', ht', hk, hr3, hm3, hrow⟩ | ⟨c, j, i', t', hbad, hc, hi', ht', hr3⟩
    · have R3 : Hid (QRd wr b s q n' t' d L3 0 0) := hr3
      have M3 : Hid (MeanA ps (ps ++ qs) k f') := hm3
      have K3 : Hid (k < (ps ++ qs).length) := hk
      have HST : Hid (rowL s 38 .and P d fu f' q n' t' = R0) := hrow
      have LF : Hid (leftR wr b s.size = s.size + 1 - q) := hr3.left s.size
      clear hr3 hm3 hk hrow
      obtain ⟨fu', rfl⟩ : ∃ x, fu = x + 1 := ⟨fu - 1, by omega⟩
      by_cases hop : byT s q = 38
      · have hql := byT_pos hop (by omega)
        by_cases hf : fullC 38 n' t' = true
        · have hS : rowL s 38 .and P d (fu' + 1) f' q n' t' = .bad 7 q := by rw [rowL, if_pos hop, if_pos hf]
          have HF : Hid (R0 = .bad 7 q) := HST.out.symm.trans hS
          have HT6 : Hid (tmC 38 t' ≤ 6) := tm_le ht'
          clear hS HST
          go_wp2_with fail
          refine (nowQ_any s b q n' t' d L3 0 0 _ hs (by omega) R3.out).mono ?_
          rintro e w4 ⟨rfl, hg4⟩
          rw [hop]
          have R4 : Hid (QRd w4 b s q n' t' d L3 0 0) := R3.out.kept hg4
          have P4 : Hid (NodsAt w4 b L3 (ps ++ qs)) := nods_kept P3.out hg4
          have F4 : Hid (FrQ w w4 b L L3) := F3.out.trans (FrQ.grown' hg4)
          have HK : Hid (Calls Try.prog 23 #[.pointer (some ⟨b, 0, none⟩)] w4 fun e w' => e = .returned (.bool true) ∧ w' = w4) := okQ_any s b q n' t' d L3 0 0 w4 R4.out
          clear hg4 R3 P3 F3
          go_wp2_with fail
          refine HK.out.mono ?_
          rintro e w5 ⟨rfl, rfl⟩
          clear HK
          go_wp2_with fail
          refine (countQ_full s b q n' t' d L3 38 _ (by omega) hn' ht' hf R4.out).mono ?_
          rintro e w6 ⟨rfl, hg6, hr6⟩
          have R6 : Hid (QRd w6 b s (q + 1) (n' + 1) (tmC 38 t') d L3 7 q) := hr6
          have P6 : Hid (NodsAt w6 b L3 (ps ++ qs)) := nods_set P4.out hg6
          have F6 : Hid (FrQ w w6 b L L3) := F4.out.trans (FrQ.grown hg6)
          clear hg6 hr6 R4 P4 F4 hf
          go_wp2_with fail
          refine (HS.out (q + 1) (n' + 1) _ d b _ L3 7 q (by omega) (by omega) R6.out).mono ?_
          rintro e w7 ⟨rfl, hg7⟩
          have R7 : Hid (QRd w7 b s (q + 1) (n' + 1) (tmC 38 t') d L3 7 q) := R6.out.kept hg7
          have P7 : Hid (NodsAt w7 b L3 (ps ++ qs)) := nods_kept P6.out hg7
          have F7 : Hid (FrQ w w7 b L L3) := F6.out.trans (FrQ.grown' hg7)
          clear hg7 R6 P6 F6
          go_wp2_with fail
          obtain ⟨K, hK⟩ : ∃ K, (ps ++ qs).length = K := ⟨_, rfl⟩
          refine (putQ_len s b (q + 1) (n' + 1) _ d L3 7 q _ (ps ++ qs) 38 k 0 K (by rw [List.length_append]; omega) hK R7.out P7.out).mono ?_
          rintro e w8 ⟨rfl, L8, hr8, hp8, hf8⟩
          rw [List.append_assoc] at hp8
          have R8 : Hid (QRd w8 b s (q + 1) (n' + 1) (tmC 38 t') d L8 7 q) := hr8
          have P8 : Hid (NodsAt w8 b L8 (ps ++ (qs ++ [(38, k, 0)]))) := hp8
          have F8 : Hid (FrQ w w8 b L L8) := F7.out.trans hf8
          clear hr8 hp8 hf8 R7 P7 F7 hK
          go_wp2_with fail
          go_roundw
          case rel => exact ⟨K, L8, qs ++ [(38, k, 0)], n' + 1, rfl, F8.out, P8.out, by omega, by omega, by rw [List.length_append, List.length_singleton]; omega, .inr ⟨7, q, q + 1, _, HF.out, by omega, by omega, HT6.out, R8.out⟩⟩
          case measure => rw [R8.out.left_bad (by omega), LF.out]; omega
        · obtain ⟨q1, q2⟩ := full_not hf
          have CP : Hid (∀ W L', (ps ++ qs).length ≤ n' → QRd W b s (q + 1) (n' + 1) (tmC 38 t') d L' 0 0 → NodsAt W b L' (ps ++ qs) → Calls Try.prog 37 #[.pointer (some ⟨b, 0, none⟩)] W (QGives s b d (n' + 1) W L' (ps ++ qs) (P (q + 1) (n' + 1) (tmC 38 t') d))) := fun W L' h1 h2 h3 => HPd.out q n' _ W L' qs hq0 hql q1 q2 h1 h2 h3
          cases hR : P (q + 1) (n' + 1) (tmC 38 t') d with
          | bad c2 j2 =>
            have hc2 := (HFw.out.bad hR hql q1 q2).1
            rw [hR] at CP
            have hS : rowL s 38 .and P d (fu' + 1) f' q n' t' = .bad c2 j2 := by rw [rowL, if_pos hop, if_neg hf, hR]
            have HF : Hid (R0 = .bad c2 j2) := HST.out.symm.trans hS
            clear hS HST hR
            go_wp2_with fail
            refine (nowQ_any s b q n' t' d L3 0 0 _ hs (by omega) R3.out).mono ?_
            rintro e w4 ⟨rfl, hg4⟩
            rw [hop]
            have R4 : Hid (QRd w4 b s q n' t' d L3 0 0) := R3.out.kept hg4
            have P4 : Hid (NodsAt w4 b L3 (ps ++ qs)) := nods_kept P3.out hg4
            have F4 : Hid (FrQ w w4 b L L3) := F3.out.trans (FrQ.grown' hg4)
            have HK : Hid (Calls Try.prog 23 #[.pointer (some ⟨b, 0, none⟩)] w4 fun e w' => e = .returned (.bool true) ∧ w' = w4) := okQ_any s b q n' t' d L3 0 0 w4 R4.out
            clear hg4 R3 P3 F3
            go_wp2_with fail
            refine HK.out.mono ?_
            rintro e w5 ⟨rfl, rfl⟩
            clear HK
            go_wp2_with fail
            refine (countQ_go s b q n' t' d L3 38 _ (by omega) hn' ht' hf R4.out).mono ?_
            rintro e w6 ⟨rfl, hg6, hr6⟩
            have R6 : Hid (QRd w6 b s (q + 1) (n' + 1) (tmC 38 t') d L3 0 0) := hr6
            have P6 : Hid (NodsAt w6 b L3 (ps ++ qs)) := nods_set P4.out hg6
            have F6 : Hid (FrQ w w6 b L L3) := F4.out.trans (FrQ.grown hg6)
            clear hg6 hr6 R4 P4 F4 hf
            go_wp2_with fail
            refine (CP.out _ _ (by rw [List.length_append]; omega) R6.out P6.out).mono ?_
            rintro e w7 ⟨L7, rs, n7, hf7, hp7, hn71, hn72, hn73, k7, i7, t7, rfl, hi7, ht7, hr7⟩
            have R7 : Hid (QRd w7 b s i7 n7 t7 d L7 c2 j2) := hr7
            have P7 : Hid (NodsAt w7 b L7 ((ps ++ qs) ++ rs)) := hp7
            have F7 : Hid (FrQ w w7 b L L7) := F6.out.trans hf7
            clear hr7 hp7 hf7 R6 P6 F6
            go_wp2_with fail
            obtain ⟨K, hK⟩ : ∃ K, ((ps ++ qs) ++ rs).length = K := ⟨_, rfl⟩
            refine (putQ_len s b i7 n7 t7 d L7 c2 j2 _ ((ps ++ qs) ++ rs) 38 k k7 K (by rw [List.length_append, List.length_append]; omega) hK R7.out P7.out).mono ?_
            rintro e w8 ⟨rfl, L8, hr8, hp8, hf8⟩
            rw [List.append_assoc, List.append_assoc] at hp8
            have R8 : Hid (QRd w8 b s i7 n7 t7 d L8 c2 j2) := hr8
            have P8 : Hid (NodsAt w8 b L8 (ps ++ (qs ++ (rs ++ [(38, k, k7)])))) := hp8
            have F8 : Hid (FrQ w w8 b L L8) := F7.out.trans hf8
            clear hr8 hp8 hf8 R7 P7 F7 hK
            go_wp2_with fail
            go_roundw
            case rel => exact ⟨K, L8, qs ++ (rs ++ [(38, k, k7)]), n7, rfl, F8.out, P8.out, by omega, by omega, by rw [List.length_append, List.length_append, List.length_singleton]; omega, .inr ⟨c2, j2, i7, t7, HF.out, by omega, hi7, ht7, R8.out⟩⟩
            case measure => rw [R8.out.left_bad (by omega), LF.out]; omega
          | good g j2 n7 t7 =>
            obtain ⟨b1, b2, b3, b4, b5⟩ := HFw.out.good hR hql q1 q2
            rw [hR] at CP
            have hS : rowL s 38 .and P d (fu' + 1) f' q n' t' = rowL s 38 .and P d fu' (.and f' g) j2 n7 t7 := by rw [rowL, if_pos hop, if_neg hf, hR]
            have HF : Hid (rowL s 38 .and P d fu' (.and f' g) j2 n7 t7 = R0) := hS.symm.trans HST.out
            clear hS HST hR
            go_wp2_with fail
            refine (nowQ_any s b q n' t' d L3 0 0 _ hs (by omega) R3.out).mono ?_
            rintro e w4 ⟨rfl, hg4⟩
            rw [hop]
            have R4 : Hid (QRd w4 b s q n' t' d L3 0 0) := R3.out.kept hg4
            have P4 : Hid (NodsAt w4 b L3 (ps ++ qs)) := nods_kept P3.out hg4
            have F4 : Hid (FrQ w w4 b L L3) := F3.out.trans (FrQ.grown' hg4)
            have HK : Hid (Calls Try.prog 23 #[.pointer (some ⟨b, 0, none⟩)] w4 fun e w' => e = .returned (.bool true) ∧ w' = w4) := okQ_any s b q n' t' d L3 0 0 w4 R4.out
            clear hg4 R3 P3 F3
            go_wp2_with fail
            refine HK.out.mono ?_
            rintro e w5 ⟨rfl, rfl⟩
            clear HK
            go_wp2_with fail
            refine (countQ_go s b q n' t' d L3 38 _ (by omega) hn' ht' hf R4.out).mono ?_
            rintro e w6 ⟨rfl, hg6, hr6⟩
            have R6 : Hid (QRd w6 b s (q + 1) (n' + 1) (tmC 38 t') d L3 0 0) := hr6
            have P6 : Hid (NodsAt w6 b L3 (ps ++ qs)) := nods_set P4.out hg6
            have F6 : Hid (FrQ w w6 b L L3) := F4.out.trans (FrQ.grown hg6)
            clear hg6 hr6 R4 P4 F4 hf
            go_wp2_with fail
            refine (CP.out _ _ (by rw [List.length_append]; omega) R6.out P6.out).mono ?_
            rintro e w7 ⟨L7, rs, n8, hf7, hp7, hn71, hn72, hn73, rfl, k7, rfl, hk7, hr7, hm7⟩
            have R7 : Hid (QRd w7 b s j2 n8 t7 d L7 0 0) := hr7
            have P7 : Hid (NodsAt w7 b L7 ((ps ++ qs) ++ rs)) := hp7
            have F7 : Hid (FrQ w w7 b L L7) := F6.out.trans hf7
            have M7 : Hid (MeanA ps (ps ++ (qs ++ (rs ++ [(38, k, k7)]))) ((ps ++ qs) ++ rs).length (.and f' g)) := by
              show MeanA _ _ _ _
              have e2 : ps ++ (qs ++ (rs ++ [(38, k, k7)])) = ((ps ++ qs) ++ rs) ++ [(38, k, k7)] := by simp
              rw [e2]
              have h1 : MeansN (((ps ++ qs) ++ rs) ++ [(38, k, k7)]) ((ps ++ qs) ++ rs).length (.and f' g) := .bi _ 38 k k7 f' g (by simp) (by omega) (by have := K3.out; rw [List.length_append]; omega) hk7 ((M3.out.1.more rs).more _) (hm7.1.more _)
              exact ⟨h1, fun h0 => (hm7.2 (M3.out.2 h0)).snoc h1⟩
            clear hr7 hp7 hf7 R6 P6 F6 hm7 hk7 M3 K3
            go_wp2_with fail
            obtain ⟨K, hK⟩ : ∃ K, ((ps ++ qs) ++ rs).length = K := ⟨_, rfl⟩
            refine (putQ_len s b j2 n8 t7 d L7 0 0 _ ((ps ++ qs) ++ rs) 38 k k7 K (by rw [List.length_append, List.length_append]; omega) hK R7.out P7.out).mono ?_
            rintro e w8 ⟨rfl, L8, hr8, hp8, hf8⟩
            rw [List.append_assoc, List.append_assoc] at hp8
            have R8 : Hid (QRd w8 b s j2 n8 t7 d L8 0 0) := hr8
            have P8 : Hid (NodsAt w8 b L8 (ps ++ (qs ++ (rs ++ [(38, k, k7)])))) := hp8
            have F8 : Hid (FrQ w w8 b L L8) := F7.out.trans hf8
            have M8 : Hid (MeanA ps (ps ++ (qs ++ (rs ++ [(38, k, k7)]))) K (.and f' g)) := hK ▸ M7.out
            have K8 : Hid (K < (ps ++ (qs ++ (rs ++ [(38, k, k7)]))).length) := by show _ < _; rw [← hK]; simp only [List.length_append, List.length_singleton]; omega
            clear hr8 hp8 hf8 R7 P7 F7 hK M7
            go_wp2_with fail
            go_roundw
            case rel => exact ⟨K, L8, qs ++ (rs ++ [(38, k, k7)]), n8, rfl, F8.out, P8.out, by omega, by omega, by rw [List.length_append, List.length_append, List.length_singleton]; omega, .inl ⟨j2, fu', t7, _, by omega, b2, by omega, b4, b5, K8.out, R8.out, M8.out, HF.out⟩⟩
            case measure => rw [R8.out.left, LF.out]; omega
      · have hop' : ((byT s q : Int) == 38) = false := by simp; omega
        have hop2 : ((byT s q : Int) != 38) = true := by simp; omega
        have hS : rowL s 38 .and P d (fu' + 1) f' q n' t' = .good f' q n' t' := by rw [rowL, if_neg hop]
        have HF : Hid (R0 = .good f' q n' t') := HST.out.symm.trans hS
        clear hS HST
        go_wp2_with fail
        refine (nowQ_any s b q n' t' d L3 0 0 _ hs (by omega) R3.out).mono ?_
        rintro e w4 ⟨rfl, hg4⟩
        have E : Hid (QGives s b d n w L ps (.good f' q n' t') (.returned (.int .i64 (k : Int))) w4) := ⟨L3, qs, n', F3.out.trans (FrQ.grown' hg4), nods_kept P3.out hg4, hn31, hn32, hn33, rfl, k, rfl, K3.out, R3.out.kept hg4, M3.out⟩
        have HK : Hid (Calls Try.prog 23 #[.pointer (some ⟨b, 0, none⟩)] w4 fun e w' => e = .returned (.bool true) ∧ w' = w4) := okQ_any s b q n' t' d L3 0 0 w4 (R3.out.kept hg4)
        clear hg4 R3 P3 F3 M3 K3
        go_wp2_with fail
        refine HK.out.mono ?_
        rintro e w5 ⟨rfl, rfl⟩
        go_wp2_with fail
        go_ret
        rw [HF.out]
        exact E.out
    · have R3 : Hid (QRd wr b s i' n' t' d L3 c j) := hr3
      have HF : Hid (R0 = .bad c j) := hbad
      clear hr3 hbad
      go_wp2_with fail
      refine (nowQ_any s b i' n' t' d L3 c j _ hs (by omega) R3.out).mono ?_
      rintro e w4 ⟨rfl, hg4⟩
      have E : Hid (QGives s b d n w L ps (.bad c j) (.returned (.int .i64 (k : Int))) w4) := ⟨L3, qs, n', F3.out.trans (FrQ.grown' hg4), nods_kept P3.out hg4, hn31, hn32, hn33, k, i', t', rfl, hi', ht', R3.out.kept hg4⟩
      have HK : Hid (Calls Try.prog 23 #[.pointer (some ⟨b, 0, none⟩)] w4 fun e w' => e = .returned (.bool false) ∧ w' = w4) := by
        have h1 := okQ_any s b i' n' t' d L3 c j w4 (R3.out.kept hg4)
        have hc' : (c == 0) = false := by simpa using hc
        rw [hc'] at h1
        exact h1
      clear hg4 R3 P3 F3
      generalize byT s i' = x at *
      go_wp2_with fail
      refine HK.out.mono ?_
      rintro e w5 ⟨rfl, rfl⟩
      go_wp2_with fail
      go_ret
      rw [HF.out]
      exact E.out

set_option maxHeartbeats 6400000 in
theorem formQ_does (s : ByteArray) (P : PT) (m : Nat) (hs : s.size ≤ 4000) (hP : Fwd s P) (hPd : QDoes 21 s P m) : QDoes 11 s (rowP s 124 .or P) m := by
  intro i n t d b w L ps hi hm hn ht hd hpn h hp
  have HO : Hid (Calls Try.prog 21 #[.pointer (some ⟨b, 0, none⟩)] w (QGives s b d n w L ps (P i n t d))) := hPd i n t d b w L ps hi hm hn ht hd hpn h hp
  have HPd : Hid (∀ q n' t' W L' qs, i < q → q < s.size → n' + 1 ≤ 30 → t' ≤ 5 → (ps ++ qs).length ≤ n' → QRd W b s (q + 1) (n' + 1) t' d L' 0 0 → NodsAt W b L' (ps ++ qs) → Calls Try.prog 21 #[.pointer (some ⟨b, 0, none⟩)] W (QGives s b d (n' + 1) W L' (ps ++ qs) (P (q + 1) (n' + 1) t' d))) := fun q n' t' W L' qs h1 h2 h3 h4 h5 h6 h7 => hPd (q + 1) (n' + 1) t' d b W L' (ps ++ qs) (by omega) (by omega) h3 h4 hd (by omega) h6 h7
  have HS : Hid (QStop 21 s) := termQ_stop s hs
  have HFw : Hid (Fwd s P) := hP
  clear h hp hPd
  obtain ⟨R0, hR0⟩ : ∃ R0, rowP s 124 .or P i n t d = R0 := ⟨_, rfl⟩
  have HR0 : Hid (rowP s 124 .or P i n t d = R0) := hR0
  rw [hR0]
  clear hR0
  -- the state of the loop
  have HI0 : Hid (∀ e w2, QGives s b d n w L ps (P i n t d) e w2 → ∃ (k : Nat) (L' : Value) (qs : List NodR) (n' : Nat), e = .returned (.int .i64 (k : Int)) ∧ FrQ w w2 b L L' ∧ NodsAt w2 b L' (ps ++ qs) ∧ n ≤ n' ∧ n' ≤ 31 ∧ qs.length + n ≤ n' ∧ ((∃ (q fu t' : Nat) (f' : Fm), i < q ∧ q ≤ s.size ∧ s.size - q < fu ∧ n' ≤ 30 ∧ t' ≤ 5 ∧ k < (ps ++ qs).length ∧ QRd w2 b s q n' t' d L' 0 0 ∧ MeanA ps (ps ++ qs) k f' ∧ rowL s 124 .or P d fu f' q n' t' = R0) ∨ (∃ (c : Int) (j i' t' : Nat), R0 = .bad c j ∧ c ≠ 0 ∧ i' + d ≤ 5000 ∧ t' ≤ 6 ∧ QRd w2 b s i' n' t' d L' c j))) := fun e w2 hg => by
    have h0 := HR0.out
    unfold rowP at h0
    cases hR : P i n t d with
    | bad c j =>
      rw [hR] at hg h0
      have hc := (hP.bad hR hi hn ht).1
      obtain ⟨L', qs, n', h1, h2, h3, h4, h5, k, i', t', h6, h7, h8, h9⟩ := hg
      exact ⟨k, L', qs, n', h6, h1, h2, h3, h4, h5, .inr ⟨c, j, i', t', h0.symm, by omega, h7, h8, h9⟩⟩
    | good f j n1 t1 =>
      rw [hR] at hg h0
      obtain ⟨a1, a2, a3, a4, a5⟩ := hP.good hR hi hn ht
      obtain ⟨L', qs, n', h1, h2, h3, h4, h5, h5b, k, h6, h7, h8, h9⟩ := hg
      subst h5b
      exact ⟨k, L', qs, n', h6, h1, h2, h3, h4, h5, .inl ⟨j, s.size + 1, t1, f, a1, a2, by omega, a4, a5, h7, h8, h9, h0⟩⟩
  clear hP HR0
  go_enter Try.func11, Try.ntmps11
  go_wp2_with fail
  refine HO.out.mono ?_
  intro e w2 hg2
  obtain ⟨k2, L2, qs2, n2, rfl, st2⟩ := HI0.out e w2 hg2
  have S2 : Hid (FrQ w w2 b L L2 ∧ NodsAt w2 b L2 (ps ++ qs2) ∧ n ≤ n2 ∧ n2 ≤ 31 ∧ qs2.length + n ≤ n2 ∧ ((∃ (q fu t' : Nat) (f' : Fm), i < q ∧ q ≤ s.size ∧ s.size - q < fu ∧ n2 ≤ 30 ∧ t' ≤ 5 ∧ k2 < (ps ++ qs2).length ∧ QRd w2 b s q n2 t' d L2 0 0 ∧ MeanA ps (ps ++ qs2) k2 f' ∧ rowL s 124 .or P d fu f' q n2 t' = R0) ∨ (∃ (c : Int) (j i' t' : Nat), R0 = .bad c j ∧ c ≠ 0 ∧ i' + d ≤ 5000 ∧ t' ≤ 6 ∧ QRd w2 b s i' n2 t' d L2 c j))) := st2
  clear st2 hg2 HI0 HO
  go_wp2_with fail
  go_loopw [3] (fun v wr => ∃ (k : Nat) (L' : Value) (qs : List NodR) (n' : Nat), v = .int .i64 (k : Int) ∧ FrQ w wr b L L' ∧ NodsAt wr b L' (ps ++ qs) ∧ n ≤ n' ∧ n' ≤ 31 ∧ qs.length + n ≤ n' ∧ ((∃ (q fu t' : Nat) (f' : Fm), i < q ∧ q ≤ s.size ∧ s.size - q < fu ∧ n' ≤ 30 ∧ t' ≤ 5 ∧ k < (ps ++ qs).length ∧ QRd wr b s q n' t' d L' 0 0 ∧ MeanA ps (ps ++ qs) k f' ∧ rowL s 124 .or P d fu f' q n' t' = R0) ∨ (∃ (c : Int) (j i' t' : Nat), R0 = .bad c j ∧ c ≠ 0 ∧ i' + d ≤ 5000 ∧ t' ≤ 6 ∧ QRd wr b s i' n' t' d L' c j))) (fun _ wr => leftR wr b s.size)
  case atStart => exact ⟨k2, L2, qs2, n2, rfl, S2.out⟩
  case round =>
    clear S2
    rename World => wr
    obtain ⟨k, L3, qs, n', rfl, hf3, hp3, hn31, hn32, hn33, hst⟩ := hrel
    have F3 : Hid (FrQ w wr b L L3) := hf3
    have P3 : Hid (NodsAt wr b L3 (ps ++ qs)) := hp3
    clear hf3 hp3
    rcases hst with ⟨q, fu, t', f', hq0, hq, hfu, hn', ht', hk, hr3, hm3, hrow⟩ | ⟨c, j, i', t', hbad, hc, hi', ht', hr3⟩
    · have R3 : Hid (QRd wr b s q n' t' d L3 0 0) := hr3
      have M3 : Hid (MeanA ps (ps ++ qs) k f') := hm3
      have K3 : Hid (k < (ps ++ qs).length) := hk
      have HST : Hid (rowL s 124 .or P d fu f' q n' t' = R0) := hrow
      have LF : Hid (leftR wr b s.size = s.size + 1 - q) := hr3.left s.size
      clear hr3 hm3 hk hrow
      obtain ⟨fu', rfl⟩ : ∃ x, fu = x + 1 := ⟨fu - 1, by omega⟩
      by_cases hop : byT s q = 124
      · have hql := byT_pos hop (by omega)
        by_cases hf : fullC 124 n' t' = true
        · have hS : rowL s 124 .or P d (fu' + 1) f' q n' t' = .bad 7 q := by rw [rowL, if_pos hop, if_pos hf]
          have HF : Hid (R0 = .bad 7 q) := HST.out.symm.trans hS
          have HT6 : Hid (tmC 124 t' ≤ 6) := tm_le ht'
          clear hS HST
          go_wp2_with fail
          refine (nowQ_any s b q n' t' d L3 0 0 _ hs (by omega) R3.out).mono ?_
          rintro e w4 ⟨rfl, hg4⟩
          rw [hop]
          have R4 : Hid (QRd w4 b s q n' t' d L3 0 0) := R3.out.kept hg4
          have P4 : Hid (NodsAt w4 b L3 (ps ++ qs)) := nods_kept P3.out hg4
          have F4 : Hid (FrQ w w4 b L L3) := F3.out.trans (FrQ.grown' hg4)
          have HK : Hid (Calls Try.prog 23 #[.pointer (some ⟨b, 0, none⟩)] w4 fun e w' => e = .returned (.bool true) ∧ w' = w4) := okQ_any s b q n' t' d L3 0 0 w4 R4.out
          clear hg4 R3 P3 F3
          go_wp2_with fail
          refine HK.out.mono ?_
          rintro e w5 ⟨rfl, rfl⟩
          clear HK
          go_wp2_with fail
          refine (countQ_full s b q n' t' d L3 124 _ (by omega) hn' ht' hf R4.out).mono ?_
          rintro e w6 ⟨rfl, hg6, hr6⟩
          have R6 : Hid (QRd w6 b s (q + 1) (n' + 1) (tmC 124 t') d L3 7 q) := hr6
          have P6 : Hid (NodsAt w6 b L3 (ps ++ qs)) := nods_set P4.out hg6
          have F6 : Hid (FrQ w w6 b L L3) := F4.out.trans (FrQ.grown hg6)
          clear hg6 hr6 R4 P4 F4 hf
          go_wp2_with fail
          refine (HS.out (q + 1) (n' + 1) _ d b _ L3 7 q (by omega) (by omega) R6.out).mono ?_
          rintro e w7 ⟨rfl, hg7⟩
          have R7 : Hid (QRd w7 b s (q + 1) (n' + 1) (tmC 124 t') d L3 7 q) := R6.out.kept hg7
          have P7 : Hid (NodsAt w7 b L3 (ps ++ qs)) := nods_kept P6.out hg7
          have F7 : Hid (FrQ w w7 b L L3) := F6.out.trans (FrQ.grown' hg7)
          clear hg7 R6 P6 F6
          go_wp2_with fail
          obtain ⟨K, hK⟩ : ∃ K, (ps ++ qs).length = K := ⟨_, rfl⟩
          refine (putQ_len s b (q + 1) (n' + 1) _ d L3 7 q _ (ps ++ qs) 124 k 0 K (by rw [List.length_append]; omega) hK R7.out P7.out).mono ?_
          rintro e w8 ⟨rfl, L8, hr8, hp8, hf8⟩
          rw [List.append_assoc] at hp8
          have R8 : Hid (QRd w8 b s (q + 1) (n' + 1) (tmC 124 t') d L8 7 q) := hr8
          have P8 : Hid (NodsAt w8 b L8 (ps ++ (qs ++ [(124, k, 0)]))) := hp8
          have F8 : Hid (FrQ w w8 b L L8) := F7.out.trans hf8
          clear hr8 hp8 hf8 R7 P7 F7 hK
          go_wp2_with fail
          go_roundw
          case rel => exact ⟨K, L8, qs ++ [(124, k, 0)], n' + 1, rfl, F8.out, P8.out, by omega, by omega, by rw [List.length_append, List.length_singleton]; omega, .inr ⟨7, q, q + 1, _, HF.out, by omega, by omega, HT6.out, R8.out⟩⟩
          case measure => rw [R8.out.left_bad (by omega), LF.out]; omega
        · obtain ⟨q1, q2⟩ := full_not hf
          have CP : Hid (∀ W L', (ps ++ qs).length ≤ n' → QRd W b s (q + 1) (n' + 1) (tmC 124 t') d L' 0 0 → NodsAt W b L' (ps ++ qs) → Calls Try.prog 21 #[.pointer (some ⟨b, 0, none⟩)] W (QGives s b d (n' + 1) W L' (ps ++ qs) (P (q + 1) (n' + 1) (tmC 124 t') d))) := fun W L' h1 h2 h3 => HPd.out q n' _ W L' qs hq0 hql q1 q2 h1 h2 h3
          cases hR : P (q + 1) (n' + 1) (tmC 124 t') d with
          | bad c2 j2 =>
            have hc2 := (HFw.out.bad hR hql q1 q2).1
            rw [hR] at CP
            have hS : rowL s 124 .or P d (fu' + 1) f' q n' t' = .bad c2 j2 := by rw [rowL, if_pos hop, if_neg hf, hR]
            have HF : Hid (R0 = .bad c2 j2) := HST.out.symm.trans hS
            clear hS HST hR
            go_wp2_with fail
            refine (nowQ_any s b q n' t' d L3 0 0 _ hs (by omega) R3.out).mono ?_
            rintro e w4 ⟨rfl, hg4⟩
            rw [hop]
            have R4 : Hid (QRd w4 b s q n' t' d L3 0 0) := R3.out.kept hg4
            have P4 : Hid (NodsAt w4 b L3 (ps ++ qs)) := nods_kept P3.out hg4
            have F4 : Hid (FrQ w w4 b L L3) := F3.out.trans (FrQ.grown' hg4)
            have HK : Hid (Calls Try.prog 23 #[.pointer (some ⟨b, 0, none⟩)] w4 fun e w' => e = .returned (.bool true) ∧ w' = w4) := okQ_any s b q n' t' d L3 0 0 w4 R4.out
            clear hg4 R3 P3 F3
            go_wp2_with fail
            refine HK.out.mono ?_
            rintro e w5 ⟨rfl, rfl⟩
            clear HK
            go_wp2_with fail
            refine (countQ_go s b q n' t' d L3 124 _ (by omega) hn' ht' hf R4.out).mono ?_
            rintro e w6 ⟨rfl, hg6, hr6⟩
            have R6 : Hid (QRd w6 b s (q + 1) (n' + 1) (tmC 124 t') d L3 0 0) := hr6
            have P6 : Hid (NodsAt w6 b L3 (ps ++ qs)) := nods_set P4.out hg6
            have F6 : Hid (FrQ w w6 b L L3) := F4.out.trans (FrQ.grown hg6)
            clear hg6 hr6 R4 P4 F4 hf
            go_wp2_with fail
            refine (CP.out _ _ (by rw [List.length_append]; omega) R6.out P6.out).mono ?_
            rintro e w7 ⟨L7, rs, n7, hf7, hp7, hn71, hn72, hn73, k7, i7, t7, rfl, hi7, ht7, hr7⟩
            have R7 : Hid (QRd w7 b s i7 n7 t7 d L7 c2 j2) := hr7
            have P7 : Hid (NodsAt w7 b L7 ((ps ++ qs) ++ rs)) := hp7
            have F7 : Hid (FrQ w w7 b L L7) := F6.out.trans hf7
            clear hr7 hp7 hf7 R6 P6 F6
            go_wp2_with fail
            obtain ⟨K, hK⟩ : ∃ K, ((ps ++ qs) ++ rs).length = K := ⟨_, rfl⟩
            refine (putQ_len s b i7 n7 t7 d L7 c2 j2 _ ((ps ++ qs) ++ rs) 124 k k7 K (by rw [List.length_append, List.length_append]; omega) hK R7.out P7.out).mono ?_
            rintro e w8 ⟨rfl, L8, hr8, hp8, hf8⟩
            rw [List.append_assoc, List.append_assoc] at hp8
            have R8 : Hid (QRd w8 b s i7 n7 t7 d L8 c2 j2) := hr8
            have P8 : Hid (NodsAt w8 b L8 (ps ++ (qs ++ (rs ++ [(124, k, k7)])))) := hp8
            have F8 : Hid (FrQ w w8 b L L8) := F7.out.trans hf8
            clear hr8 hp8 hf8 R7 P7 F7 hK
            go_wp2_with fail
            go_roundw
            case rel => exact ⟨K, L8, qs ++ (rs ++ [(124, k, k7)]), n7, rfl, F8.out, P8.out, by omega, by omega, by rw [List.length_append, List.length_append, List.length_singleton]; omega, .inr ⟨c2, j2, i7, t7, HF.out, by omega, hi7, ht7, R8.out⟩⟩
            case measure => rw [R8.out.left_bad (by omega), LF.out]; omega
          | good g j2 n7 t7 =>
            obtain ⟨b1, b2, b3, b4, b5⟩ := HFw.out.good hR hql q1 q2
            rw [hR] at CP
            have hS : rowL s 124 .or P d (fu' + 1) f' q n' t' = rowL s 124 .or P d fu' (.or f' g) j2 n7 t7 := by rw [rowL, if_pos hop, if_neg hf, hR]
            have HF : Hid (rowL s 124 .or P d fu' (.or f' g) j2 n7 t7 = R0) := hS.symm.trans HST.out
            clear hS HST hR
            go_wp2_with fail
            refine (nowQ_any s b q n' t' d L3 0 0 _ hs (by omega) R3.out).mono ?_
            rintro e w4 ⟨rfl, hg4⟩
            rw [hop]
            have R4 : Hid (QRd w4 b s q n' t' d L3 0 0) := R3.out.kept hg4
            have P4 : Hid (NodsAt w4 b L3 (ps ++ qs)) := nods_kept P3.out hg4
            have F4 : Hid (FrQ w w4 b L L3) := F3.out.trans (FrQ.grown' hg4)
            have HK : Hid (Calls Try.prog 23 #[.pointer (some ⟨b, 0, none⟩)] w4 fun e w' => e = .returned (.bool true) ∧ w' = w4) := okQ_any s b q n' t' d L3 0 0 w4 R4.out
            clear hg4 R3 P3 F3
            go_wp2_with fail
            refine HK.out.mono ?_
            rintro e w5 ⟨rfl, rfl⟩
            clear HK
            go_wp2_with fail
            refine (countQ_go s b q n' t' d L3 124 _ (by omega) hn' ht' hf R4.out).mono ?_
            rintro e w6 ⟨rfl, hg6, hr6⟩
            have R6 : Hid (QRd w6 b s (q + 1) (n' + 1) (tmC 124 t') d L3 0 0) := hr6
            have P6 : Hid (NodsAt w6 b L3 (ps ++ qs)) := nods_set P4.out hg6
            have F6 : Hid (FrQ w w6 b L L3) := F4.out.trans (FrQ.grown hg6)
            clear hg6 hr6 R4 P4 F4 hf
            go_wp2_with fail
            refine (CP.out _ _ (by rw [List.length_append]; omega) R6.out P6.out).mono ?_
            rintro e w7 ⟨L7, rs, n8, hf7, hp7, hn71, hn72, hn73, rfl, k7, rfl, hk7, hr7, hm7⟩
            have R7 : Hid (QRd w7 b s j2 n8 t7 d L7 0 0) := hr7
            have P7 : Hid (NodsAt w7 b L7 ((ps ++ qs) ++ rs)) := hp7
            have F7 : Hid (FrQ w w7 b L L7) := F6.out.trans hf7
            have M7 : Hid (MeanA ps (ps ++ (qs ++ (rs ++ [(124, k, k7)]))) ((ps ++ qs) ++ rs).length (.or f' g)) := by
              show MeanA _ _ _ _
              have e2 : ps ++ (qs ++ (rs ++ [(124, k, k7)])) = ((ps ++ qs) ++ rs) ++ [(124, k, k7)] := by simp
              rw [e2]
              have h1 : MeansN (((ps ++ qs) ++ rs) ++ [(124, k, k7)]) ((ps ++ qs) ++ rs).length (.or f' g) := .bi _ 124 k k7 f' g (by simp) (by omega) (by have := K3.out; rw [List.length_append]; omega) hk7 ((M3.out.1.more rs).more _) (hm7.1.more _)
              exact ⟨h1, fun h0 => (hm7.2 (M3.out.2 h0)).snoc h1⟩
            clear hr7 hp7 hf7 R6 P6 F6 hm7 hk7 M3 K3
            go_wp2_with fail
            obtain ⟨K, hK⟩ : ∃ K, ((ps ++ qs) ++ rs).length = K := ⟨_, rfl⟩
            refine (putQ_len s b j2 n8 t7 d L7 0 0 _ ((ps ++ qs) ++ rs) 124 k k7 K (by rw [List.length_append, List.length_append]; omega) hK R7.out P7.out).mono ?_
            rintro e w8 ⟨rfl, L8, hr8, hp8, hf8⟩
            rw [List.append_assoc, List.append_assoc] at hp8
            have R8 : Hid (QRd w8 b s j2 n8 t7 d L8 0 0) := hr8
            have P8 : Hid (NodsAt w8 b L8 (ps ++ (qs ++ (rs ++ [(124, k, k7)])))) := hp8
            have F8 : Hid (FrQ w w8 b L L8) := F7.out.trans hf8
            have M8 : Hid (MeanA ps (ps ++ (qs ++ (rs ++ [(124, k, k7)]))) K (.or f' g)) := hK ▸ M7.out
            have K8 : Hid (K < (ps ++ (qs ++ (rs ++ [(124, k, k7)]))).length) := by show _ < _; rw [← hK]; simp only [List.length_append, List.length_singleton]; omega
            clear hr8 hp8 hf8 R7 P7 F7 hK M7
            go_wp2_with fail
            go_roundw
            case rel => exact ⟨K, L8, qs ++ (rs ++ [(124, k, k7)]), n8, rfl, F8.out, P8.out, by omega, by omega, by rw [List.length_append, List.length_append, List.length_singleton]; omega, .inl ⟨j2, fu', t7, _, by omega, b2, by omega, b4, b5, K8.out, R8.out, M8.out, HF.out⟩⟩
            case measure => rw [R8.out.left, LF.out]; omega
      · have hop' : ((byT s q : Int) == 124) = false := by simp; omega
        have hop2 : ((byT s q : Int) != 124) = true := by simp; omega
        have hS : rowL s 124 .or P d (fu' + 1) f' q n' t' = .good f' q n' t' := by rw [rowL, if_neg hop]
        have HF : Hid (R0 = .good f' q n' t') := HST.out.symm.trans hS
        clear hS HST
        go_wp2_with fail
        refine (nowQ_any s b q n' t' d L3 0 0 _ hs (by omega) R3.out).mono ?_
        rintro e w4 ⟨rfl, hg4⟩
        have E : Hid (QGives s b d n w L ps (.good f' q n' t') (.returned (.int .i64 (k : Int))) w4) := ⟨L3, qs, n', F3.out.trans (FrQ.grown' hg4), nods_kept P3.out hg4, hn31, hn32, hn33, rfl, k, rfl, K3.out, R3.out.kept hg4, M3.out⟩
        have HK : Hid (Calls Try.prog 23 #[.pointer (some ⟨b, 0, none⟩)] w4 fun e w' => e = .returned (.bool true) ∧ w' = w4) := okQ_any s b q n' t' d L3 0 0 w4 (R3.out.kept hg4)
        clear hg4 R3 P3 F3 M3 K3
        go_wp2_with fail
        refine HK.out.mono ?_
        rintro e w5 ⟨rfl, rfl⟩
        go_wp2_with fail
        go_ret
        rw [HF.out]
        exact E.out
    · have R3 : Hid (QRd wr b s i' n' t' d L3 c j) := hr3
      have HF : Hid (R0 = .bad c j) := hbad
      clear hr3 hbad
      go_wp2_with fail
      refine (nowQ_any s b i' n' t' d L3 c j _ hs (by omega) R3.out).mono ?_
      rintro e w4 ⟨rfl, hg4⟩
      have E : Hid (QGives s b d n w L ps (.bad c j) (.returned (.int .i64 (k : Int))) w4) := ⟨L3, qs, n', F3.out.trans (FrQ.grown' hg4), nods_kept P3.out hg4, hn31, hn32, hn33, k, i', t', rfl, hi', ht', R3.out.kept hg4⟩
      have HK : Hid (Calls Try.prog 23 #[.pointer (some ⟨b, 0, none⟩)] w4 fun e w' => e = .returned (.bool false) ∧ w' = w4) := by
        have h1 := okQ_any s b i' n' t' d L3 c j w4 (R3.out.kept hg4)
        have hc' : (c == 0) = false := by simpa using hc
        rw [hc'] at h1
        exact h1
      clear hg4 R3 P3 F3
      generalize byT s i' = x at *
      go_wp2_with fail
      refine HK.out.mono ?_
      rintro e w5 ⟨rfl, rfl⟩
      go_wp2_with fail
      go_ret
      rw [HF.out]
      exact E.out

/-- All of them, at every place. -/
theorem readQ_all (s : ByteArray) (hs : s.size ≤ 4000) : ∀ k, QDoes 42 s (lvQ s k).1 k ∧ QDoes 37 s (lvQ s k).2 k := by
  intro k
  induction k with
  | zero => exact ⟨fun i n t d b w L ps hi hm => absurd hm (by omega), fun i n t d b w L ps hi hm => absurd hm (by omega)⟩
  | succ k ih =>
    have hF := lvQ_fwd (s := s) k
    have h1 : QDoes 11 s (formQ s (lvQ s k).2) k := formQ_does s _ k hs (termQ_fwd hF.2) (termQ_does s _ k hs hF.2 ih.2)
    have h2 := oneQ_does s _ _ k hs hF.1 (formQ_fwd hF.2) ih.1 h1
    exact ⟨h2, partQ_does s _ _ k hs (oneQ_fwd hF.1 (formQ_fwd hF.2)) hF.2 h2 ih.2⟩
theorem formQ_all (s : ByteArray) (hs : s.size ≤ 4000) (k : Nat) : QDoes 11 s (formQ s (lvQ s k).2) k :=
  formQ_does s _ k hs (termQ_fwd (lvQ_fwd k).2) (termQ_does s _ k hs (lvQ_fwd k).2 (readQ_all s hs k).2)

end Go.Proofs.Ytnhjkgfgbebfkaa
