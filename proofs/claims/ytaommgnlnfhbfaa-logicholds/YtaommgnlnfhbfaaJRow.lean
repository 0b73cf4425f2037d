/- Rows of parts, and the whole, as the reference reads them. -/
import Derived.Test.YtaommgnlnfhbfaaJPart
namespace Go.Proofs.Ytaommgnlnfhbfaa
open Go.RowKit
set_option linter.unusedVariables false
set_option linter.unusedSimpArgs false

theorem TopJ.two {m m' : List NdJ} {k k' : Int} {f g h : Lf} {x : NdJ} (h1 : TopJ m k f) (hm : ∃ r, m' = m ++ r) (h2 : TopJ m' k' g) (hx : ∀ i j : Nat, (m' ++ [x])[m'.length]? = some ⟨x.k, x.n, (i : Int), (j : Int), x.s⟩ → MeansJ (m' ++ [x]) f i → MeansJ (m' ++ [x]) g j → MeansJ (m' ++ [x]) h m'.length) (ha : x.a = k := by rfl) (hb : x.b = k' := by rfl) : TopJ (m' ++ [x]) (m'.length : Int) h := by
  obtain ⟨i, hi, _, hf⟩ := h1
  obtain ⟨j, hj, _, hg⟩ := h2
  obtain ⟨r, rfl⟩ := hm
  refine ⟨_, rfl, by simp; omega, hx i j ?_ ((hf.ext r).ext [x]) (hg.ext [x])⟩
  rw [get_last, ← hi, ← hj, ← ha, ← hb]
set_option maxHeartbeats 3200000 in
theorem termJ_does (s : ByteArray) (P : PL) (k : Nat) (hs : s.size ≤ 4000) (hP : FwdK s P) (hPd : JDoes 26 s P k) : JDoes 17 s (rowK s 38 .and P) k := by
  intro i n d b w L m z sc hi hk hn hd hl hz hm h hp
  obtain ⟨R0, hR0⟩ : ∃ R0, R0 = rowK s 38 .and P i n d sc := ⟨_, rfl⟩
  rw [← hR0]
  have HO : Hid (Calls Try.prog 26 #[.pointer (some ⟨b, 0, none⟩)] w (JGives s b d n z w L m (P i n d sc))) := hPd i n d b w L m z sc hi hk hn hd hl hz hm h hp
  have HQ : Hid (∀ q n' W L' m', i < q → q < s.size → n' + 1 ≤ 30 → m'.length ≤ n' → JRd W b s (q + 1) (n' + 1) d z L' 0 0 → NodJ W b L' m' → Calls Try.prog 26 #[.pointer (some ⟨b, 0, none⟩)] W (JGives s b d (n' + 1) z W L' m' (P (q + 1) (n' + 1) d sc))) := fun q n' W L' m' h1 h2 h3 h4 h5 h6 => hPd (q + 1) (n' + 1) d b W L' m' z sc (by omega) (by omega) h3 hd hl hz (by omega) h5 h6
  have HT : Hid (∀ q n' W L' c a, c ≠ 0 → q ≤ 5000 → JRd W b s q n' d z L' c a → Calls Try.prog 26 #[.pointer (some ⟨b, 0, none⟩)] W fun e w' => e = .returned (.int .i64 0) ∧ W.grownBy w' none) := fun q n' W L' c a h1 h2 h3 => partJ_stop s hs q n' d b W L' z c a h1 h2 h3
  have HG : Hid (∀ q n', q ≤ s.size → n' ≤ 30 → GoodK s q n' (P q n' d sc)) := fun q n' h1 h2 => hP q n' d sc h1 h2
  have HI0 : Hid (∀ e w2, JGives s b d n z w L m (P i n d sc) e w2 → ∃ k : Int, e = .returned (.int .i64 k) ∧ (∃ (L' : Value) (m' : List NdJ) (n' i' : Nat) (c' : Int) (a' : Nat), FrJ w w2 b L L' ∧ NodJ w2 b L' m' ∧ n ≤ n' ∧ n' ≤ 31 ∧ m'.length + n ≤ m.length + n' ∧ (∃ r, m' = m ++ r) ∧ JRd w2 b s i' n' d z L' c' a' ∧ ((∃ (fu : Nat) (f' : Lf), c' = 0 ∧ a' = 0 ∧ i < i' ∧ i' ≤ s.size ∧ s.size - i' < fu ∧ n' ≤ 30 ∧ rowKL s 38 .and P d sc fu f' i' n' = R0 ∧ TopJ m' k f') ∨ (R0 = .bad c' a' ∧ c' ≠ 0 ∧ i' + d ≤ 5000)))) := fun e w2 hg => by
    unfold rowK at hR0
    have hG := hP i n d sc hi hn
    obtain ⟨k, L', m', n', i', c', a', he, h1, h2, h3, h4, h5, h6, hE, hM⟩ := hg.out
    refine ⟨k, he, L', m', n', i', c', a', h1, h2, h3, h4, h5, hM.1, h6, ?_⟩
    cases hR : P i n d sc with
    | bad c j =>
      rw [hR] at hE hR0 hG
      obtain ⟨e1, rfl, rfl⟩ := hE
      exact .inr ⟨hR0, by have := hG.1; omega, e1⟩
    | good f j n1 =>
      rw [hR] at hE hR0 hG hM
      obtain ⟨rfl, rfl, rfl, rfl⟩ := hE
      obtain ⟨g1, g2, g3, g4⟩ := hG
      exact .inl ⟨s.size + 1, f, rfl, rfl, g1, g2, by omega, g4, hR0.symm, hM.2 _ _ _ rfl⟩
  have EP : Hid (∀ (k : Int) w' L' m' n' i' c' a', EndD d n' R0 i' c' a' → FrJ w w' b L L' → NodJ w' b L' m' → n ≤ n' → n' ≤ 31 → m'.length + n ≤ m.length + n' → JRd w' b s i' n' d z L' c' a' → MngD R0 m m' k → JGives s b d n z w L m R0 (.returned (.int .i64 k)) w') := fun k w' L' m' n' i' c' a' h1 h2 h3 h4 h5 h6 h7 h8 => h1.gives k h2 h3 h4 h5 h6 h7 h8
  generalize JGives s b d n z w L m R0 = Q at *
  clear hP hPd hR0 h hp
  go_enter Try.func17, Try.ntmps17
  go_wp2_with fail
  refine HO.out.mono ?_
  intro e w2 hg2
  obtain ⟨k2, rfl, st2⟩ := HI0.out e w2 hg2
  have S2 : Hid (∃ (L' : Value) (m' : List NdJ) (n' i' : Nat) (c' : Int) (a' : Nat), FrJ w w2 b L L' ∧ NodJ w2 b L' m' ∧ n ≤ n' ∧ n' ≤ 31 ∧ m'.length + n ≤ m.length + n' ∧ (∃ r, m' = m ++ r) ∧ JRd w2 b s i' n' d z L' c' a' ∧ ((∃ (fu : Nat) (f' : Lf), c' = 0 ∧ a' = 0 ∧ i < i' ∧ i' ≤ s.size ∧ s.size - i' < fu ∧ n' ≤ 30 ∧ rowKL s 38 .and P d sc fu f' i' n' = R0 ∧ TopJ m' k2 f') ∨ (R0 = .bad c' a' ∧ c' ≠ 0 ∧ i' + d ≤ 5000))) := st2
  clear st2 hg2 HI0 HO
  go_wp2_with fail
  go_loopw [3] (fun v wr => ∃ k : Int, v = .int .i64 k ∧ (∃ (L' : Value) (m' : List NdJ) (n' i' : Nat) (c' : Int) (a' : Nat), FrJ w wr b L L' ∧ NodJ wr b L' m' ∧ n ≤ n' ∧ n' ≤ 31 ∧ m'.length + n ≤ m.length + n' ∧ (∃ r, m' = m ++ r) ∧ JRd wr b s i' n' d z L' c' a' ∧ ((∃ (fu : Nat) (f' : Lf), c' = 0 ∧ a' = 0 ∧ i < i' ∧ i' ≤ s.size ∧ s.size - i' < fu ∧ n' ≤ 30 ∧ rowKL s 38 .and P d sc fu f' i' n' = R0 ∧ TopJ m' k f') ∨ (R0 = .bad c' a' ∧ c' ≠ 0 ∧ i' + d ≤ 5000)))) (fun _ wr => leftJ wr b s.size)
  case atStart => exact ⟨k2, rfl, S2.out⟩
  case round =>
    clear S2
    rename World => wr
    obtain ⟨k, rfl, L3, m3, n3, i3, c3, a3, hf3, hp3, hn31, hn32, hm3, hx3, hr3, hst⟩ := hrel
    have X3 : Hid (∃ r, m3 = m ++ r) := hx3
    clear hx3
    have F3 : Hid (FrJ w wr b L L3) := hf3
    have P3 : Hid (NodJ wr b L3 m3) := hp3
    clear hf3 hp3
    rcases hst with ⟨fu, f', rfl, rfl, hq0, hq, hfu, hn', hrow, htop⟩ | ⟨hbad, hc, hi'⟩
    · have T3 : Hid (TopJ m3 k f') := htop
      clear htop
      have R3 : Hid (JRd wr b s i3 n3 d z L3 0 0) := hr3
      have LF : Hid (leftJ wr b s.size = s.size + 1 - i3) := hr3.left s.size
      have HST : Hid (rowKL s 38 .and P d sc fu f' i3 n3 = R0) := hrow
      clear hr3 hrow
      obtain ⟨fu', rfl⟩ : ∃ x, fu = x + 1 := ⟨fu - 1, by omega⟩
      by_cases hop : byT s i3 = 38
      · have hql := byT_pos hop (by omega)
        have NW : Hid (Calls Try.prog 18 #[.pointer (some ⟨b, 0, none⟩)] wr fun e w' => e = .returned (.int .u8 38) ∧ wr.grownBy w' none) := by
          have h1 := nowJ_any s z b i3 n3 d L3 0 0 wr hs (by omega) R3.out
          rw [hop] at h1
          exact h1
        by_cases hf : 30 < n3 + 1
        · have hS : rowKL s 38 .and P d sc (fu' + 1) f' i3 n3 = .bad 7 i3 := by rw [rowKL, if_pos hop, if_pos hf]
          have HF : Hid (R0 = .bad 7 i3) := HST.out.symm.trans hS
          have HC7 : Hid (∀ c' a', CR n3 0 0 i3 c' a' → c' = 7 ∧ a' = i3) := fun c' a' h => by simp only [CR, hf, true_and, if_true] at h; exact h
          clear hS HST hop
          go_wp2_with fail
          refine NW.out.mono ?_
          rintro e w4 ⟨rfl, hg4⟩
          have R4 : Hid (JRd w4 b s i3 n3 d z L3 0 0) := R3.out.kept hg4
          have G4 : Hid (wr.grownBy w4 (some b)) := grown_some hg4
          have HK : Hid (Calls Try.prog 19 #[.pointer (some ⟨b, 0, none⟩)] w4 fun e w' => e = .returned (.bool true) ∧ w' = w4) := okJ_any s z b i3 n3 d L3 0 0 w4 R4.out
          have d1 := R4.out.c1
          have e1 := R4.out.f 1
          clear hg4 R3 NW
          go_wp2_with fail
          refine HK.out.mono ?_
          rintro e w5 ⟨rfl, rfl⟩
          clear HK
          go_wp2_with fail
          refine (countJ_st s z b i3 n3 d L3 0 0 i3 _ (by omega) R4.out).mono ?_
          rintro e w6 ⟨rfl, hg6, q1, q2, hr6, hq6⟩
          obtain ⟨e7, e8⟩ := HC7.out _ _ hq6
          rw [e7, e8] at hr6
          have R6 : Hid (JRd w6 b s i3 (n3 + 1) d z L3 7 i3) := hr6
          have R6' : Hid (JRd (w6.setCell ⟨b, 1, none⟩ (.int .i64 ((i3 : Int) + 1))) b s (i3 + 1) (n3 + 1) d z L3 7 i3) := R6.out.set1 (i3 + 1) (by omega)
          have G6 : Hid (wr.grownBy (w6.setCell ⟨b, 1, none⟩ (.int .i64 ((i3 : Int) + 1))) (some b)) := grown_trans (grown_trans G4.out hg6) (grown_set _ _ _)
          clear hg6 hr6 hq6 e7 e8 d1 e1 R4
          have d1 := R6.out.c1
          have e1 := R6.out.f 1
          go_wp2_with fail
          refine (HT.out _ _ _ _ _ _ (by omega) (by omega) R6'.out).mono ?_
          rintro e w7 ⟨rfl, hg7⟩
          have R7 : Hid (JRd w7 b s (i3 + 1) (n3 + 1) d z L3 7 i3) := R6'.out.kept hg7
          have G7 : Hid (wr.grownBy w7 (some b)) := grown_trans G6.out (grown_some hg7)
          clear hg7 R6 R6' G6
          go_wp2_with fail
          refine (putJ_any s z b _ (n3 + 1) d L3 _ _ _ m3 _ _ _ _ _ (by omega) R7.out (nodJ_set P3.out G7.out)).mono ?_
          rintro e w8 ⟨rfl, L8, hr8, hp8, hf8⟩
          have R8 : Hid (JRd w8 b s (i3 + 1) (n3 + 1) d z L8 7 i3) := hr8
          have P8 : Hid (NodJ w8 b L8 (m3 ++ [_])) := hp8
          have F8 : Hid (FrJ w w8 b L L8) := (F3.out.trans (FrJ.grown G7.out)).trans hf8
          clear hr8 hp8 hf8 R7 G7
          go_wp2_with fail
          go_roundw
          case rel => exact ⟨_, rfl, L8, _, n3 + 1, i3 + 1, 7, i3, F8.out, P8.out, by omega, by omega, by rw [List.length_append, List.length_singleton]; omega, by obtain ⟨r, hr⟩ := X3.out; exact ⟨r ++ [_], by rw [hr, List.append_assoc]⟩, R8.out, .inr ⟨HF.out, by omega, by omega⟩⟩
          case measure => rw [R8.out.left_bad (by omega), LF.out]; omega
        · have hS : rowKL s 38 .and P d sc (fu' + 1) f' i3 n3 = match P (i3 + 1) (n3 + 1) d sc with
            | .bad c j' => .bad c j'
            | .good g j' n' => rowKL s 38 .and P d sc fu' (.and f' g) j' n' := by rw [rowKL, if_pos hop, if_neg hf]; cases P (i3 + 1) (n3 + 1) d sc <;> rfl
          have HF : Hid (∀ n7 i7 c7 a7 m7 k7, EndD d n7 (P (i3 + 1) (n3 + 1) d sc) i7 c7 a7 → MngD (P (i3 + 1) (n3 + 1) d sc) m3 m7 k7 → (∃ f'', c7 = 0 ∧ a7 = 0 ∧ i3 < i7 ∧ i7 ≤ s.size ∧ n7 ≤ 30 ∧ rowKL s 38 .and P d sc fu' f'' i7 n7 = R0 ∧ TopJ (m7 ++ [⟨6, 0, k, k7, false⟩]) (m7.length : Int) f'') ∨ (R0 = .bad c7 a7 ∧ c7 ≠ 0 ∧ i7 + d ≤ 5000)) := fun n7 i7 c7 a7 m7 k7 hE hM => by
            have hG := HG.out (i3 + 1) (n3 + 1) (by omega) (by omega)
            have h0 := HST.out.symm.trans hS
            cases hR : P (i3 + 1) (n3 + 1) d sc with
            | bad c j =>
              rw [hR] at hE h0 hG
              obtain ⟨e1, rfl, rfl⟩ := hE
              exact .inr ⟨h0, by have := hG.1; omega, e1⟩
            | good f j n1 =>
              rw [hR] at hE h0 hG hM
              obtain ⟨rfl, rfl, rfl, rfl⟩ := hE
              obtain ⟨g1, g2, g3, g4⟩ := hG
              exact .inl ⟨_, rfl, rfl, by omega, g2, g4, h0.symm, T3.out.two hM.1 (hM.2 _ _ _ rfl) (fun i j h1 h2 h3 => ⟨i, j, h1, h2, h3⟩)⟩
          have CP : Hid (∀ W L', JRd W b s (i3 + 1) (n3 + 1) d z L' 0 0 → NodJ W b L' m3 → Calls Try.prog 26 #[.pointer (some ⟨b, 0, none⟩)] W (JGives s b d (n3 + 1) z W L' m3 (P (i3 + 1) (n3 + 1) d sc))) := fun W L' h2 h3 => HQ.out i3 n3 W L' m3 hq0 hql (by omega) (by omega) h2 h3
          generalize P (i3 + 1) (n3 + 1) d sc = R at *
          have HC7 : Hid (∀ c' a', CR n3 0 0 i3 c' a' → c' = 0 ∧ a' = 0) := fun c' a' h => by simp only [CR, hf, false_and, if_false] at h; exact h
          clear hS HST hop
          go_wp2_with fail
          refine NW.out.mono ?_
          rintro e w4 ⟨rfl, hg4⟩
          have R4 : Hid (JRd w4 b s i3 n3 d z L3 0 0) := R3.out.kept hg4
          have G4 : Hid (wr.grownBy w4 (some b)) := grown_some hg4
          have HK : Hid (Calls Try.prog 19 #[.pointer (some ⟨b, 0, none⟩)] w4 fun e w' => e = .returned (.bool true) ∧ w' = w4) := okJ_any s z b i3 n3 d L3 0 0 w4 R4.out
          have d1 := R4.out.c1
          have e1 := R4.out.f 1
          clear hg4 R3 NW
          go_wp2_with fail
          refine HK.out.mono ?_
          rintro e w5 ⟨rfl, rfl⟩
          clear HK
          go_wp2_with fail
          refine (countJ_st s z b i3 n3 d L3 0 0 i3 _ (by omega) R4.out).mono ?_
          rintro e w6 ⟨rfl, hg6, q1, q2, hr6, hq6⟩
          obtain ⟨e7, e8⟩ := HC7.out _ _ hq6
          rw [e7, e8] at hr6
          have R6 : Hid (JRd w6 b s i3 (n3 + 1) d z L3 0 0) := hr6
          have R6' : Hid (JRd (w6.setCell ⟨b, 1, none⟩ (.int .i64 ((i3 : Int) + 1))) b s (i3 + 1) (n3 + 1) d z L3 0 0) := R6.out.set1 (i3 + 1) (by omega)
          have G6 : Hid (wr.grownBy (w6.setCell ⟨b, 1, none⟩ (.int .i64 ((i3 : Int) + 1))) (some b)) := grown_trans (grown_trans G4.out hg6) (grown_set _ _ _)
          clear hg6 hr6 hq6 e7 e8 d1 e1 R4
          have d1 := R6.out.c1
          have e1 := R6.out.f 1
          go_wp2_with fail
          refine (CP.out _ _ R6'.out (nodJ_set P3.out G6.out)).mono ?_
          intro e w7 h7
          obtain ⟨k7, L7, m7, n7, i7, c7, a7, rfl, hf7, hp7, hn71, hn72, hm7, hr7, hE7, hM7⟩ := h7.out
          have R7 : Hid (JRd w7 b s i7 n7 d z L7 c7 a7) := hr7
          have P7 : Hid (NodJ w7 b L7 m7) := hp7
          have F7 : Hid (FrJ w w7 b L L7) := (F3.out.trans (FrJ.grown G6.out)).trans hf7
          have E7 : Hid ((∃ f'', c7 = 0 ∧ a7 = 0 ∧ i3 < i7 ∧ i7 ≤ s.size ∧ n7 ≤ 30 ∧ rowKL s 38 .and P d sc fu' f'' i7 n7 = R0 ∧ TopJ (m7 ++ [⟨6, 0, k, k7, false⟩]) (m7.length : Int) f'') ∨ (R0 = .bad c7 a7 ∧ c7 ≠ 0 ∧ i7 + d ≤ 5000)) := HF.out _ _ _ _ _ _ hE7 hM7
          have X7 : Hid (∃ r, m7 = m ++ r) := by obtain ⟨r, hr⟩ := X3.out; obtain ⟨r', hr'⟩ := hM7.1; exact ⟨r ++ r', by rw [hr', hr, List.append_assoc]⟩
          clear h7 hf7 hp7 hr7 hE7 hM7 R6 R6' G6 HF CP
          go_wp2_with fail
          refine (putJ_any s z b _ n7 d L7 _ _ _ m7 _ _ _ _ _ (by omega) R7.out P7.out).mono ?_
          rintro e w8 ⟨rfl, L8, hr8, hp8, hf8⟩
          have R8 : Hid (JRd w8 b s i7 n7 d z L8 c7 a7) := hr8
          have P8 : Hid (NodJ w8 b L8 (m7 ++ [⟨6, 0, k, k7, false⟩])) := hp8
          have F8 : Hid (FrJ w w8 b L L8) := F7.out.trans hf8
          clear hr8 hp8 hf8 R7 P7 F7
          go_wp2_with fail
          go_roundw
          case rel =>
            refine ⟨_, rfl, L8, _, n7, i7, c7, a7, F8.out, P8.out, by omega, by omega, by rw [List.length_append, List.length_singleton]; omega, by obtain ⟨r, hr⟩ := X7.out; exact ⟨r ++ [_], by rw [hr, List.append_assoc]⟩, R8.out, ?_⟩
            rcases E7.out with ⟨f'', x1, x2, x3, x4, x5, x6, x7⟩ | x
            · exact .inl ⟨fu', f'', x1, x2, by omega, x4, by omega, x5, x6, x7⟩
            · exact .inr x
          case measure =>
            rcases E7.out with ⟨f'', rfl, rfl, x3, x4, x5, x6⟩ | ⟨_, x, _⟩
            · rw [R8.out.left, LF.out]; omega
            · rw [R8.out.left_bad x, LF.out]; omega
      · have hop' : ((byT s i3 : Int) == 38) = false := by simp; omega
        have hop2 : ((byT s i3 : Int) != 38) = true := by simp; omega
        have hS : rowKL s 38 .and P d sc (fu' + 1) f' i3 n3 = .good f' i3 n3 := by rw [rowKL, if_neg hop]
        have MD : Hid (MngD R0 m m3 k) := by rw [HST.out.symm.trans hS]; exact ⟨X3.out, fun f i n e => by cases e; exact T3.out⟩
        have HF : Hid (EndD d n3 R0 i3 0 0) := by rw [HST.out.symm.trans hS]; exact ⟨rfl, rfl, rfl, rfl⟩
        clear hS HST
        go_wp2_with fail
        refine (nowJ_any s z b i3 n3 d L3 0 0 _ hs (by omega) R3.out).mono ?_
        rintro e w4 ⟨rfl, hg4⟩
        have R4 : Hid (JRd w4 b s i3 n3 d z L3 0 0) := R3.out.kept hg4
        have E : Hid (Q (.returned (.int .i64 k)) w4) := EP.out _ _ _ _ _ _ _ _ HF.out (F3.out.trans (FrJ.grown (grown_some hg4))) (nodJ_kept P3.out hg4) hn31 hn32 hm3 R4.out MD.out
        have HK : Hid (Calls Try.prog 19 #[.pointer (some ⟨b, 0, none⟩)] w4 fun e w' => e = .returned (.bool true) ∧ w' = w4) := okJ_any s z b i3 n3 d L3 0 0 w4 R4.out
        clear hg4 R3 P3 F3
        go_wp2_with fail
        refine HK.out.mono ?_
        rintro e w5 ⟨rfl, rfl⟩
        go_wp2_with fail
        exact E.out
    · have R3 : Hid (JRd wr b s i3 n3 d z L3 c3 a3) := hr3
      have MD : Hid (MngD R0 m m3 k) := by rw [hbad]; exact ⟨X3.out, fun f i n e => by cases e⟩
      have HF : Hid (EndD d n3 R0 i3 c3 a3) := by rw [hbad]; exact ⟨hi', rfl, rfl⟩
      clear hr3 hbad
      go_wp2_with fail
      refine (nowJ_any s z b i3 n3 d L3 c3 a3 _ hs (by omega) R3.out).mono ?_
      rintro e w4 ⟨rfl, hg4⟩
      have R4 : Hid (JRd w4 b s i3 n3 d z L3 c3 a3) := R3.out.kept hg4
      have E : Hid (Q (.returned (.int .i64 k)) w4) := EP.out _ _ _ _ _ _ _ _ HF.out (F3.out.trans (FrJ.grown (grown_some hg4))) (nodJ_kept P3.out hg4) hn31 hn32 hm3 R4.out MD.out
      have HK : Hid (Calls Try.prog 19 #[.pointer (some ⟨b, 0, none⟩)] w4 fun e w' => e = .returned (.bool false) ∧ w' = w4) := by
        have h1 := okJ_any s z b i3 n3 d L3 c3 a3 w4 R4.out
        have hc' : (c3 == 0) = false := by simpa using hc
        rw [hc'] at h1
        exact h1
      clear hg4 R3 P3 F3
      generalize byT s i3 = x at *
      go_wp2_with fail
      refine HK.out.mono ?_
      rintro e w5 ⟨rfl, rfl⟩
      go_wp2_with fail
      exact E.out

set_option maxHeartbeats 3200000 in
theorem formJ_does (s : ByteArray) (P : PL) (k : Nat) (hs : s.size ≤ 4000) (hP : FwdK s P) (hPd : JDoes 17 s P k) : JDoes 11 s (rowK s 124 .or P) k := by
  intro i n d b w L m z sc hi hk hn hd hl hz hm h hp
  obtain ⟨R0, hR0⟩ : ∃ R0, R0 = rowK s 124 .or P i n d sc := ⟨_, rfl⟩
  rw [← hR0]
  have HO : Hid (Calls Try.prog 17 #[.pointer (some ⟨b, 0, none⟩)] w (JGives s b d n z w L m (P i n d sc))) := hPd i n d b w L m z sc hi hk hn hd hl hz hm h hp
  have HQ : Hid (∀ q n' W L' m', i < q → q < s.size → n' + 1 ≤ 30 → m'.length ≤ n' → JRd W b s (q + 1) (n' + 1) d z L' 0 0 → NodJ W b L' m' → Calls Try.prog 17 #[.pointer (some ⟨b, 0, none⟩)] W (JGives s b d (n' + 1) z W L' m' (P (q + 1) (n' + 1) d sc))) := fun q n' W L' m' h1 h2 h3 h4 h5 h6 => hPd (q + 1) (n' + 1) d b W L' m' z sc (by omega) (by omega) h3 hd hl hz (by omega) h5 h6
  have HT : Hid (∀ q n' W L' c a, c ≠ 0 → q ≤ 5000 → JRd W b s q n' d z L' c a → Calls Try.prog 17 #[.pointer (some ⟨b, 0, none⟩)] W fun e w' => e = .returned (.int .i64 0) ∧ W.grownBy w' none) := fun q n' W L' c a h1 h2 h3 => termJ_stop s hs q n' d b W L' z c a h1 h2 h3
  have HG : Hid (∀ q n', q ≤ s.size → n' ≤ 30 → GoodK s q n' (P q n' d sc)) := fun q n' h1 h2 => hP q n' d sc h1 h2
  have HI0 : Hid (∀ e w2, JGives s b d n z w L m (P i n d sc) e w2 → ∃ k : Int, e = .returned (.int .i64 k) ∧ (∃ (L' : Value) (m' : List NdJ) (n' i' : Nat) (c' : Int) (a' : Nat), FrJ w w2 b L L' ∧ NodJ w2 b L' m' ∧ n ≤ n' ∧ n' ≤ 31 ∧ m'.length + n ≤ m.length + n' ∧ (∃ r, m' = m ++ r) ∧ JRd w2 b s i' n' d z L' c' a' ∧ ((∃ (fu : Nat) (f' : Lf), c' = 0 ∧ a' = 0 ∧ i < i' ∧ i' ≤ s.size ∧ s.size - i' < fu ∧ n' ≤ 30 ∧ rowKL s 124 .or P d sc fu f' i' n' = R0 ∧ TopJ m' k f') ∨ (R0 = .bad c' a' ∧ c' ≠ 0 ∧ i' + d ≤ 5000)))) := fun e w2 hg => by
    unfold rowK at hR0
    have hG := hP i n d sc hi hn
    obtain ⟨k, L', m', n', i', c', a', he, h1, h2, h3, h4, h5, h6, hE, hM⟩ := hg.out
    refine ⟨k, he, L', m', n', i', c', a', h1, h2, h3, h4, h5, hM.1, h6, ?_⟩
    cases hR : P i n d sc with
    | bad c j =>
      rw [hR] at hE hR0 hG
      obtain ⟨e1, rfl, rfl⟩ := hE
      exact .inr ⟨hR0, by have := hG.1; omega, e1⟩
    | good f j n1 =>
      rw [hR] at hE hR0 hG hM
      obtain ⟨rfl, rfl, rfl, rfl⟩ := hE
      obtain ⟨g1, g2, g3, g4⟩ := hG
      exact .inl ⟨s.size + 1, f, rfl, rfl, g1, g2, by omega, g4, hR0.symm, hM.2 _ _ _ rfl⟩
  have EP : Hid (∀ (k : Int) w' L' m' n' i' c' a', EndD d n' R0 i' c' a' → FrJ w w' b L L' → NodJ w' b L' m' → n ≤ n' → n' ≤ 31 → m'.length + n ≤ m.length + n' → JRd w' b s i' n' d z L' c' a' → MngD R0 m m' k → JGives s b d n z w L m R0 (.returned (.int .i64 k)) w') := fun k w' L' m' n' i' c' a' h1 h2 h3 h4 h5 h6 h7 h8 => h1.gives k h2 h3 h4 h5 h6 h7 h8
  generalize JGives s b d n z w L m R0 = Q at *
  clear hP hPd hR0 h hp
  go_enter Try.func11, Try.ntmps11
  go_wp2_with fail
  refine HO.out.mono ?_
  intro e w2 hg2
  obtain ⟨k2, rfl, st2⟩ := HI0.out e w2 hg2
  have S2 : Hid (∃ (L' : Value) (m' : List NdJ) (n' i' : Nat) (c' : Int) (a' : Nat), FrJ w w2 b L L' ∧ NodJ w2 b L' m' ∧ n ≤ n' ∧ n' ≤ 31 ∧ m'.length + n ≤ m.length + n' ∧ (∃ r, m' = m ++ r) ∧ JRd w2 b s i' n' d z L' c' a' ∧ ((∃ (fu : Nat) (f' : Lf), c' = 0 ∧ a' = 0 ∧ i < i' ∧ i' ≤ s.size ∧ s.size - i' < fu ∧ n' ≤ 30 ∧ rowKL s 124 .or P d sc fu f' i' n' = R0 ∧ TopJ m' k2 f') ∨ (R0 = .bad c' a' ∧ c' ≠ 0 ∧ i' + d ≤ 5000))) := st2
  clear st2 hg2 HI0 HO
  go_wp2_with fail
  go_loopw [3] (fun v wr => ∃ k : Int, v = .int .i64 k ∧ (∃ (L' : Value) (m' : List NdJ) (n' i' : Nat) (c' : Int) (a' : Nat), FrJ w wr b L L' ∧ NodJ wr b L' m' ∧ n ≤ n' ∧ n' ≤ 31 ∧ m'.length + n ≤ m.length + n' ∧ (∃ r, m' = m ++ r) ∧ JRd wr b s i' n' d z L' c' a' ∧ ((∃ (fu : Nat) (f' : Lf), c' = 0 ∧ a' = 0 ∧ i < i' ∧ i' ≤ s.size ∧ s.size - i' < fu ∧ n' ≤ 30 ∧ rowKL s 124 .or P d sc fu f' i' n' = R0 ∧ TopJ m' k f') ∨ (R0 = .bad c' a' ∧ c' ≠ 0 ∧ i' + d ≤ 5000)))) (fun _ wr => leftJ wr b s.size)
  case atStart => exact ⟨k2, rfl, S2.out⟩
  case round =>
    clear S2
    rename World => wr
    obtain ⟨k, rfl, L3, m3, n3, i3, c3, a3, hf3, hp3, hn31, hn32, hm3, hx3, hr3, hst⟩ := hrel
    have X3 : Hid (∃ r, m3 = m ++ r) := hx3
    clear hx3
    have F3 : Hid (FrJ w wr b L L3) := hf3
    have P3 : Hid (NodJ wr b L3 m3) := hp3
    clear hf3 hp3
    rcases hst with ⟨fu, f', rfl, rfl, hq0, hq, hfu, hn', hrow, htop⟩ | ⟨hbad, hc, hi'⟩
    · have T3 : Hid (TopJ m3 k f') := htop
      clear htop
      have R3 : Hid (JRd wr b s i3 n3 d z L3 0 0) := hr3
      have LF : Hid (leftJ wr b s.size = s.size + 1 - i3) := hr3.left s.size
      have HST : Hid (rowKL s 124 .or P d sc fu f' i3 n3 = R0) := hrow
      clear hr3 hrow
      obtain ⟨fu', rfl⟩ : ∃ x, fu = x + 1 := ⟨fu - 1, by omega⟩
      by_cases hop : byT s i3 = 124
      · have hql := byT_pos hop (by omega)
        have NW : Hid (Calls Try.prog 18 #[.pointer (some ⟨b, 0, none⟩)] wr fun e w' => e = .returned (.int .u8 124) ∧ wr.grownBy w' none) := by
          have h1 := nowJ_any s z b i3 n3 d L3 0 0 wr hs (by omega) R3.out
          rw [hop] at h1
          exact h1
        by_cases hf : 30 < n3 + 1
        · have hS : rowKL s 124 .or P d sc (fu' + 1) f' i3 n3 = .bad 7 i3 := by rw [rowKL, if_pos hop, if_pos hf]
          have HF : Hid (R0 = .bad 7 i3) := HST.out.symm.trans hS
          have HC7 : Hid (∀ c' a', CR n3 0 0 i3 c' a' → c' = 7 ∧ a' = i3) := fun c' a' h => by simp only [CR, hf, true_and, if_true] at h; exact h
          clear hS HST hop
          go_wp2_with fail
          refine NW.out.mono ?_
          rintro e w4 ⟨rfl, hg4⟩
          have R4 : Hid (JRd w4 b s i3 n3 d z L3 0 0) := R3.out.kept hg4
          have G4 : Hid (wr.grownBy w4 (some b)) := grown_some hg4
          have HK : Hid (Calls Try.prog 19 #[.pointer (some ⟨b, 0, none⟩)] w4 fun e w' => e = .returned (.bool true) ∧ w' = w4) := okJ_any s z b i3 n3 d L3 0 0 w4 R4.out
          have d1 := R4.out.c1
          have e1 := R4.out.f 1
          clear hg4 R3 NW
          go_wp2_with fail
          refine HK.out.mono ?_
          rintro e w5 ⟨rfl, rfl⟩
          clear HK
          go_wp2_with fail
          refine (countJ_st s z b i3 n3 d L3 0 0 i3 _ (by omega) R4.out).mono ?_
          rintro e w6 ⟨rfl, hg6, q1, q2, hr6, hq6⟩
          obtain ⟨e7, e8⟩ := HC7.out _ _ hq6
          rw [e7, e8] at hr6
          have R6 : Hid (JRd w6 b s i3 (n3 + 1) d z L3 7 i3) := hr6
          have R6' : Hid (JRd (w6.setCell ⟨b, 1, none⟩ (.int .i64 ((i3 : Int) + 1))) b s (i3 + 1) (n3 + 1) d z L3 7 i3) := R6.out.set1 (i3 + 1) (by omega)
          have G6 : Hid (wr.grownBy (w6.setCell ⟨b, 1, none⟩ (.int .i64 ((i3 : Int) + 1))) (some b)) := grown_trans (grown_trans G4.out hg6) (grown_set _ _ _)
          clear hg6 hr6 hq6 e7 e8 d1 e1 R4
          have d1 := R6.out.c1
          have e1 := R6.out.f 1
          go_wp2_with fail
          refine (HT.out _ _ _ _ _ _ (by omega) (by omega) R6'.out).mono ?_
          rintro e w7 ⟨rfl, hg7⟩
          have R7 : Hid (JRd w7 b s (i3 + 1) (n3 + 1) d z L3 7 i3) := R6'.out.kept hg7
          have G7 : Hid (wr.grownBy w7 (some b)) := grown_trans G6.out (grown_some hg7)
          clear hg7 R6 R6' G6
          go_wp2_with fail
          refine (putJ_any s z b _ (n3 + 1) d L3 _ _ _ m3 _ _ _ _ _ (by omega) R7.out (nodJ_set P3.out G7.out)).mono ?_
          rintro e w8 ⟨rfl, L8, hr8, hp8, hf8⟩
          have R8 : Hid (JRd w8 b s (i3 + 1) (n3 + 1) d z L8 7 i3) := hr8
          have P8 : Hid (NodJ w8 b L8 (m3 ++ [_])) := hp8
          have F8 : Hid (FrJ w w8 b L L8) := (F3.out.trans (FrJ.grown G7.out)).trans hf8
          clear hr8 hp8 hf8 R7 G7
          go_wp2_with fail
          go_roundw
          case rel => exact ⟨_, rfl, L8, _, n3 + 1, i3 + 1, 7, i3, F8.out, P8.out, by omega, by omega, by rw [List.length_append, List.length_singleton]; omega, by obtain ⟨r, hr⟩ := X3.out; exact ⟨r ++ [_], by rw [hr, List.append_assoc]⟩, R8.out, .inr ⟨HF.out, by omega, by omega⟩⟩
          case measure => rw [R8.out.left_bad (by omega), LF.out]; omega
        · have hS : rowKL s 124 .or P d sc (fu' + 1) f' i3 n3 = match P (i3 + 1) (n3 + 1) d sc with
            | .bad c j' => .bad c j'
            | .good g j' n' => rowKL s 124 .or P d sc fu' (.or f' g) j' n' := by rw [rowKL, if_pos hop, if_neg hf]; cases P (i3 + 1) (n3 + 1) d sc <;> rfl
          have HF : Hid (∀ n7 i7 c7 a7 m7 k7, EndD d n7 (P (i3 + 1) (n3 + 1) d sc) i7 c7 a7 → MngD (P (i3 + 1) (n3 + 1) d sc) m3 m7 k7 → (∃ f'', c7 = 0 ∧ a7 = 0 ∧ i3 < i7 ∧ i7 ≤ s.size ∧ n7 ≤ 30 ∧ rowKL s 124 .or P d sc fu' f'' i7 n7 = R0 ∧ TopJ (m7 ++ [⟨7, 0, k, k7, false⟩]) (m7.length : Int) f'') ∨ (R0 = .bad c7 a7 ∧ c7 ≠ 0 ∧ i7 + d ≤ 5000)) := fun n7 i7 c7 a7 m7 k7 hE hM => by
            have hG := HG.out (i3 + 1) (n3 + 1) (by omega) (by omega)
            have h0 := HST.out.symm.trans hS
            cases hR : P (i3 + 1) (n3 + 1) d sc with
            | bad c j =>
              rw [hR] at hE h0 hG
              obtain ⟨e1, rfl, rfl⟩ := hE
              exact .inr ⟨h0, by have := hG.1; omega, e1⟩
            | good f j n1 =>
              rw [hR] at hE h0 hG hM
              obtain ⟨rfl, rfl, rfl, rfl⟩ := hE
              obtain ⟨g1, g2, g3, g4⟩ := hG
              exact .inl ⟨_, rfl, rfl, by omega, g2, g4, h0.symm, T3.out.two hM.1 (hM.2 _ _ _ rfl) (fun i j h1 h2 h3 => ⟨i, j, h1, h2, h3⟩)⟩
          have CP : Hid (∀ W L', JRd W b s (i3 + 1) (n3 + 1) d z L' 0 0 → NodJ W b L' m3 → Calls Try.prog 17 #[.pointer (some ⟨b, 0, none⟩)] W (JGives s b d (n3 + 1) z W L' m3 (P (i3 + 1) (n3 + 1) d sc))) := fun W L' h2 h3 => HQ.out i3 n3 W L' m3 hq0 hql (by omega) (by omega) h2 h3
          generalize P (i3 + 1) (n3 + 1) d sc = R at *
          have HC7 : Hid (∀ c' a', CR n3 0 0 i3 c' a' → c' = 0 ∧ a' = 0) := fun c' a' h => by simp only [CR, hf, false_and, if_false] at h; exact h
          clear hS HST hop
          go_wp2_with fail
          refine NW.out.mono ?_
          rintro e w4 ⟨rfl, hg4⟩
          have R4 : Hid (JRd w4 b s i3 n3 d z L3 0 0) := R3.out.kept hg4
          have G4 : Hid (wr.grownBy w4 (some b)) := grown_some hg4
          have HK : Hid (Calls Try.prog 19 #[.pointer (some ⟨b, 0, none⟩)] w4 fun e w' => e = .returned (.bool true) ∧ w' = w4) := okJ_any s z b i3 n3 d L3 0 0 w4 R4.out
          have d1 := R4.out.c1
          have e1 := R4.out.f 1
          clear hg4 R3 NW
          go_wp2_with fail
          refine HK.out.mono ?_
          rintro e w5 ⟨rfl, rfl⟩
          clear HK
          go_wp2_with fail
          refine (countJ_st s z b i3 n3 d L3 0 0 i3 _ (by omega) R4.out).mono ?_
          rintro e w6 ⟨rfl, hg6, q1, q2, hr6, hq6⟩
          obtain ⟨e7, e8⟩ := HC7.out _ _ hq6
          rw [e7, e8] at hr6
          have R6 : Hid (JRd w6 b s i3 (n3 + 1) d z L3 0 0) := hr6
          have R6' : Hid (JRd (w6.setCell ⟨b, 1, none⟩ (.int .i64 ((i3 : Int) + 1))) b s (i3 + 1) (n3 + 1) d z L3 0 0) := R6.out.set1 (i3 + 1) (by omega)
          have G6 : Hid (wr.grownBy (w6.setCell ⟨b, 1, none⟩ (.int .i64 ((i3 : Int) + 1))) (some b)) := grown_trans (grown_trans G4.out hg6) (grown_set _ _ _)
          clear hg6 hr6 hq6 e7 e8 d1 e1 R4
          have d1 := R6.out.c1
          have e1 := R6.out.f 1
          go_wp2_with fail
          refine (CP.out _ _ R6'.out (nodJ_set P3.out G6.out)).mono ?_
          intro e w7 h7
          obtain ⟨k7, L7, m7, n7, i7, c7, a7, rfl, hf7, hp7, hn71, hn72, hm7, hr7, hE7, hM7⟩ := h7.out
          have R7 : Hid (JRd w7 b s i7 n7 d z L7 c7 a7) := hr7
          have P7 : Hid (NodJ w7 b L7 m7) := hp7
          have F7 : Hid (FrJ w w7 b L L7) := (F3.out.trans (FrJ.grown G6.out)).trans hf7
          have E7 : Hid ((∃ f'', c7 = 0 ∧ a7 = 0 ∧ i3 < i7 ∧ i7 ≤ s.size ∧ n7 ≤ 30 ∧ rowKL s 124 .or P d sc fu' f'' i7 n7 = R0 ∧ TopJ (m7 ++ [⟨7, 0, k, k7, false⟩]) (m7.length : Int) f'') ∨ (R0 = .bad c7 a7 ∧ c7 ≠ 0 ∧ i7 + d ≤ 5000)) := HF.out _ _ _ _ _ _ hE7 hM7
          have X7 : Hid (∃ r, m7 = m ++ r) := by obtain ⟨r, hr⟩ := X3.out; obtain ⟨r', hr'⟩ := hM7.1; exact ⟨r ++ r', by rw [hr', hr, List.append_assoc]⟩
          clear h7 hf7 hp7 hr7 hE7 hM7 R6 R6' G6 HF CP
          go_wp2_with fail
          refine (putJ_any s z b _ n7 d L7 _ _ _ m7 _ _ _ _ _ (by omega) R7.out P7.out).mono ?_
          rintro e w8 ⟨rfl, L8, hr8, hp8, hf8⟩
          have R8 : Hid (JRd w8 b s i7 n7 d z L8 c7 a7) := hr8
          have P8 : Hid (NodJ w8 b L8 (m7 ++ [⟨7, 0, k, k7, false⟩])) := hp8
          have F8 : Hid (FrJ w w8 b L L8) := F7.out.trans hf8
          clear hr8 hp8 hf8 R7 P7 F7
          go_wp2_with fail
          go_roundw
          case rel =>
            refine ⟨_, rfl, L8, _, n7, i7, c7, a7, F8.out, P8.out, by omega, by omega, by rw [List.length_append, List.length_singleton]; omega, by obtain ⟨r, hr⟩ := X7.out; exact ⟨r ++ [_], by rw [hr, List.append_assoc]⟩, R8.out, ?_⟩
            rcases E7.out with ⟨f'', x1, x2, x3, x4, x5, x6, x7⟩ | x
            · exact .inl ⟨fu', f'', x1, x2, by omega, x4, by omega, x5, x6, x7⟩
            · exact .inr x
          case measure =>
            rcases E7.out with ⟨f'', rfl, rfl, x3, x4, x5, x6⟩ | ⟨_, x, _⟩
            · rw [R8.out.left, LF.out]; omega
            · rw [R8.out.left_bad x, LF.out]; omega
      · have hop' : ((byT s i3 : Int) == 124) = false := by simp; omega
        have hop2 : ((byT s i3 : Int) != 124) = true := by simp; omega
        have hS : rowKL s 124 .or P d sc (fu' + 1) f' i3 n3 = .good f' i3 n3 := by rw [rowKL, if_neg hop]
        have MD : Hid (MngD R0 m m3 k) := by rw [HST.out.symm.trans hS]; exact ⟨X3.out, fun f i n e => by cases e; exact T3.out⟩
        have HF : Hid (EndD d n3 R0 i3 0 0) := by rw [HST.out.symm.trans hS]; exact ⟨rfl, rfl, rfl, rfl⟩
        clear hS HST
        go_wp2_with fail
        refine (nowJ_any s z b i3 n3 d L3 0 0 _ hs (by omega) R3.out).mono ?_
        rintro e w4 ⟨rfl, hg4⟩
        have R4 : Hid (JRd w4 b s i3 n3 d z L3 0 0) := R3.out.kept hg4
        have E : Hid (Q (.returned (.int .i64 k)) w4) := EP.out _ _ _ _ _ _ _ _ HF.out (F3.out.trans (FrJ.grown (grown_some hg4))) (nodJ_kept P3.out hg4) hn31 hn32 hm3 R4.out MD.out
        have HK : Hid (Calls Try.prog 19 #[.pointer (some ⟨b, 0, none⟩)] w4 fun e w' => e = .returned (.bool true) ∧ w' = w4) := okJ_any s z b i3 n3 d L3 0 0 w4 R4.out
        clear hg4 R3 P3 F3
        go_wp2_with fail
        refine HK.out.mono ?_
        rintro e w5 ⟨rfl, rfl⟩
        go_wp2_with fail
        exact E.out
    · have R3 : Hid (JRd wr b s i3 n3 d z L3 c3 a3) := hr3
      have MD : Hid (MngD R0 m m3 k) := by rw [hbad]; exact ⟨X3.out, fun f i n e => by cases e⟩
      have HF : Hid (EndD d n3 R0 i3 c3 a3) := by rw [hbad]; exact ⟨hi', rfl, rfl⟩
      clear hr3 hbad
      go_wp2_with fail
      refine (nowJ_any s z b i3 n3 d L3 c3 a3 _ hs (by omega) R3.out).mono ?_
      rintro e w4 ⟨rfl, hg4⟩
      have R4 : Hid (JRd w4 b s i3 n3 d z L3 c3 a3) := R3.out.kept hg4
      have E : Hid (Q (.returned (.int .i64 k)) w4) := EP.out _ _ _ _ _ _ _ _ HF.out (F3.out.trans (FrJ.grown (grown_some hg4))) (nodJ_kept P3.out hg4) hn31 hn32 hm3 R4.out MD.out
      have HK : Hid (Calls Try.prog 19 #[.pointer (some ⟨b, 0, none⟩)] w4 fun e w' => e = .returned (.bool false) ∧ w' = w4) := by
        have h1 := okJ_any s z b i3 n3 d L3 c3 a3 w4 R4.out
        have hc' : (c3 == 0) = false := by simpa using hc
        rw [hc'] at h1
        exact h1
      clear hg4 R3 P3 F3
      generalize byT s i3 = x at *
      go_wp2_with fail
      refine HK.out.mono ?_
      rintro e w5 ⟨rfl, rfl⟩
      go_wp2_with fail
      exact E.out

theorem readJ_all (s : ByteArray) (hs : s.size ≤ 4000) : ∀ k, JDoes 26 s (lvK s k) k := by
  intro k
  induction k with
  | zero => exact fun i n d b w L m z sc hi hm => absurd hm (by omega)
  | succ k ih =>
    have hF := lvK_fwd (s := s) k
    exact partJ_does s _ _ k hs (formK_fwd hF) ih (formJ_does s _ k hs (termK_fwd hF) (termJ_does s _ k hs hF ih))
theorem formJ_all (s : ByteArray) (hs : s.size ≤ 4000) (k : Nat) : JDoes 11 s (formK s (lvK s k)) k :=
  formJ_does s _ k hs (termK_fwd (lvK_fwd k)) (termJ_does s _ k hs (lvK_fwd k) (readJ_all s hs k))

end Go.Proofs.Ytaommgnlnfhbfaa
