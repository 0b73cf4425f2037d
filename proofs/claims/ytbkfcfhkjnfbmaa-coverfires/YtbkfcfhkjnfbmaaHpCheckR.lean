/- The reference's Check of heaps. -/
import Derived.Test.YtbkfcfhkjnfbmaaHpSmall
namespace Go.Proofs.Ytbkfcfhkjnfbmaa
open Go.RowKit
set_option linter.unusedVariables false
set_option linter.unusedSimpArgs false

/-- What the first k steps say. -/
def FitK (T G : List (List Int)) (k : Nat) : Prop := ∀ i, i < k → OneW (T.getD i []) 2 ∧ OneW (G.getD i []) 2
open Classical in
noncomputable def badF (T G : List (List Int)) (k : Nat) : Int := if FitK T G k then 0 else 2
theorem badF_zero (T G : List (List Int)) : badF T G 0 = 0 := by unfold badF; rw [if_pos (show FitK T G 0 from fun i hi => by omega)]
theorem badF_ok {T G : List (List Int)} {k : Nat} (h : OneW (T.getD k []) 2 ∧ OneW (G.getD k []) 2) : badF T G (k + 1) = badF T G k := by
  unfold badF
  by_cases e : FitK T G k
  · rw [if_pos e, if_pos (show FitK T G (k + 1) from upto_succ e h)]
  · rw [if_neg e, if_neg (show ¬ FitK T G (k + 1) from fun q => e fun i hi => q i (by omega))]
theorem badF_bad {T G : List (List Int)} {k : Nat} (h : ¬ (OneW (T.getD k []) 2 ∧ OneW (G.getD k []) 2)) : badF T G (k + 1) = 2 := by
  unfold badF
  rw [if_neg (show ¬ FitK T G (k + 1) from fun q => h (q k (by omega)))]
open Classical in
theorem badF_end {T G : List (List Int)} (h : G.length = T.length) : badF T G T.length = if WithinH T 2 ∧ WithinH G 2 then 0 else 2 := by
  unfold badF
  by_cases e : WithinH T 2 ∧ WithinH G 2
  · rw [if_pos e, if_pos (show FitK T G T.length from fun i hi => ⟨e.1 i hi, e.2 i (by omega)⟩)]
  · rw [if_neg e, if_neg (show ¬ FitK T G T.length from fun q => e ⟨fun i hi => (q i hi).1, fun i hi => (q i (by omega)).2⟩)]

set_option maxHeartbeats 3200000 in
set_option maxRecDepth 100000 in
theorem checkHr_any (x : Hp) (a b : Option Addr) (c d : Nat) (w : World) (h : HpAt w x a b) :
    Calls Try.prog 5 #[hpV x.P a x.T.length c b x.G.length d] w (Says (.int .i64 (checkH x)) w) := by
  have hmt := h.mt
  have hmg := h.mg
  unfold maxLen at hmt hmg
  obtain ⟨W1, hW1, g1, s1, bx1⟩ := boxH_new w x.P a x.T.length c b x.G.length d
  have HW1 : Hid (W1 = _) := hW1
  have G1 : Hid (w.grownBy W1 none) := g1
  have K1 : Hid (∀ W', W1.grownBy W' none → BoxH w.heap.size x.P a x.T.length c b x.G.length d W') := fun W' hW' => bx1.kept hW'
  have HT : Hid (RowsAt W1 a x.T) := h.t.grown g1
  have HG : Hid (RowsAt W1 b x.G) := h.g.grown g1
  obtain ⟨z, hz⟩ : ∃ z, checkH x = z := ⟨_, rfl⟩
  rw [hz]
  have HZ : Hid (checkH x = z) := hz
  clear h hW1 g1 s1 bx1 hz
  obtain ⟨P, T, G⟩ := x
  simp only at *
  have HA : Hid (P < 1 ∨ 4 < P ∨ 8 < T.length → z = 1) := fun h => by rw [← HZ.out]; exact checkH_size (x := ⟨P, T, G⟩) h
  have HB : Hid (¬ (P < 1 ∨ 4 < P ∨ 8 < T.length) → (G.length ≠ T.length ∨ ¬ ShapedH T P ∨ ¬ ShapedH G P) → z = 3) := fun h h2 => by rw [← HZ.out]; exact checkH_shape (x := ⟨P, T, G⟩) h h2
  have HC : Hid (¬ (P < 1 ∨ 4 < P ∨ 8 < T.length) → G.length = T.length → ShapedH T P → ShapedH G P → z = badF T G T.length) := fun h h1 h2 h3 => by
    rw [← HZ.out, badF_end h1]
    by_cases e : WithinH T 2 ∧ WithinH G 2
    · rw [if_pos e]; exact checkH_ok (x := ⟨P, T, G⟩) h (fun e => e.elim (fun e => e h1) fun e => e.elim (fun e => e h2) fun e => e h3) (fun q => q.elim (fun q => q e.1) fun q => q e.2)
    · rw [if_neg e]; exact checkH_range (x := ⟨P, T, G⟩) h (fun e => e.elim (fun e => e h1) fun e => e.elim (fun e => e h2) fun e => e h3) (by
        by_cases q : WithinH T 2
        · exact .inr (fun r => e ⟨q, r⟩)
        · exact .inl q)
  clear HZ
  obtain ⟨x0, x1, x2⟩ := K1.out W1 (grown_refl _ _)
  rw [HW1.out] at x0 x1 x2
  by_cases c1 : P < 1 ∨ 4 < P ∨ 8 < T.length
  · rw [HA.out c1]
    have GF := G1.out
    clear HA HB HC HT HG
    by_cases c2 : P < 1
    · clear c1
      go_enter Try.func5, Try.ntmps5
      go_wp2_with fail
      rw [← HW1.out]
      go_ret
      exact ⟨rfl, GF⟩
    · by_cases c3 : 4 < P
      · clear c1
        go_enter Try.func5, Try.ntmps5
        go_wp2_with fail
        rw [← HW1.out]
        go_ret
        exact ⟨rfl, GF⟩
      · have c4 : (8 : Int) < (T.length : Int) := by omega
        clear c1
        go_enter Try.func5, Try.ntmps5
        go_wp2_with fail
        rw [← HW1.out]
        go_ret
        exact ⟨rfl, GF⟩
  have HN1 : Hid (¬ (P < 1 ∨ 4 < P ∨ 8 < T.length)) := c1
  have l1 : ¬ P < 1 := by omega
  have l2 : ¬ 4 < P := by omega
  have l3 : ¬ (8 : Int) < (T.length : Int) := by omega
  clear c1 HA
  by_cases c2 : G.length = T.length
  case neg =>
    have c3 : ((G.length : Int) != (T.length : Int)) = true := by simp; omega
    rw [HB.out HN1.out (.inl c2)]
    have GF := G1.out
    clear HB HC HT HG c2
    go_enter Try.func5, Try.ntmps5
    go_wp2_with fail
    rw [← HW1.out]
    go_ret
    exact ⟨rfl, GF⟩
  have c3 : ((G.length : Int) != (T.length : Int)) = false := by simp; omega
  have HN2 : Hid (G.length = T.length) := c2
  clear c2
  go_enter Try.func5, Try.ntmps5
  go_wp2_with fail
  rw [← HW1.out]
  clear x0 x1 x2
  go_loopw [3, 4] (fun v3 v4 wr => ∃ k : Nat, v3 = .int .i64 (badF T G k) ∧ v4 = .int .i64 k ∧ k ≤ T.length ∧ W1.grownBy wr none ∧ ∀ i, i < k → ((T.getD i []).length : Int) = P ∧ ((G.getD i []).length : Int) = P) (fun _ v4 _ => T.length - (intOf v4).toNat)
  case atStart => exact ⟨0, by rw [badF_zero], rfl, Nat.zero_le _, grown_refl _ _, fun j hj => by omega⟩
  case round =>
    obtain ⟨k, rfl, rfl, hk, hg, hl⟩ := hrel
    have GR : Hid (W1.grownBy wr none) := hg
    have HK : Hid (∀ i, i < k → ((T.getD i []).length : Int) = P ∧ ((G.getD i []).length : Int) = P) := hl
    clear hg hl
    obtain ⟨bd, hbd⟩ : ∃ bd, badF T G k = bd := ⟨_, rfl⟩
    rw [hbd]
    have HBd : Hid (badF T G k = bd) := hbd
    clear hbd
    obtain ⟨x0, x1, x2⟩ := K1.out wr GR.out
    by_cases hlt : k < T.length
    · have hk1 : (k : Int) < (T.length : Int) := by omega
      have hk2 : (k : Int) < (G.length : Int) := by have := HN2.out; omega
      obtain ⟨ba, oa, rfl, hca⟩ := (HT.out.grown GR.out).at hlt
      obtain ⟨ya, ca, h1, hz1, hm1⟩ := hca k hlt
      obtain ⟨bb, ob, rfl, hcb⟩ := (HG.out.grown GR.out).at (k := k) (by have := HN2.out; omega)
      obtain ⟨yb, cb, h2, hz2, hm2⟩ := hcb k (by have := HN2.out; omega)
      clear hca hcb
      have HR1 : Hid (∀ W, wr.grownBy W none → Calls Try.prog 13 #[.slice ya (T.getD k []).length ca, .int .i64 P, .int .i64 2] W (Says (.int .i64 (rowF (T.getD k []) P 2)) W)) := fun W hW => rowR_any _ _ _ _ _ W (hz1.grown hW) hm1
      have HR2 : Hid (∀ W, wr.grownBy W none → Calls Try.prog 13 #[.slice yb (G.getD k []).length cb, .int .i64 P, .int .i64 2] W (Says (.int .i64 (rowF (G.getD k []) P 2)) W)) := fun W hW => rowR_any _ _ _ _ _ W (hz2.grown hW) hm2
      clear hz1 hz2 hm1 hm2
      obtain ⟨e, he⟩ : ∃ e, rowF (T.getD k []) P 2 = e := ⟨_, rfl⟩
      obtain ⟨f, hf⟩ : ∃ f, rowF (G.getD k []) P 2 = f := ⟨_, rfl⟩
      rw [he] at HR1
      rw [hf] at HR2
      have HE : Hid (rowF (T.getD k []) P 2 = e) := he
      have HF : Hid (rowF (G.getD k []) P 2 = f) := hf
      clear he hf
      generalize (T.getD k []).length = na at h1 HR1
      generalize (G.getD k []).length = nb at h2 HR2
      go_wp2_with fail
      have K9 : Hid (KeepH wr wr w.heap.size P (.slice (some ⟨ba, oa, none⟩) T.length c) (.slice (some ⟨bb, ob, none⟩) G.length d) ⟨ba, oa + k, none⟩ ⟨bb, ob + k, none⟩ (.slice ya na ca) (.slice yb nb cb)) := ⟨grown_refl _ _, x0, x1, x2, h1, h2⟩
      clear x0 x1 x2 h1 h2
      go_region_held3 (fun W => KeepH wr W w.heap.size P (.slice (some ⟨ba, oa, none⟩) T.length c) (.slice (some ⟨bb, ob, none⟩) G.length d) ⟨ba, oa + k, none⟩ ⟨bb, ob + k, none⟩ (.slice ya na ca) (.slice yb nb cb))
        (first | (with_reducible exact KeepH.drew K9.out) | (with_reducible exact KeepH.call (by assumption) hgA) | (with_reducible exact KeepH.drew (by assumption)) | assumption)
        (first | (go_at_call 13; refine (HR1.out _ (show KeepH wr _ w.heap.size P _ _ _ _ _ _ from by assumption).1).mono ?_; rintro E wA ⟨rfl, hgA⟩))
      rename_i hHeld
      have KA : Hid (KeepH wr wA w.heap.size P (.slice (some ⟨ba, oa, none⟩) T.length c) (.slice (some ⟨bb, ob, none⟩) G.length d) ⟨ba, oa + k, none⟩ ⟨bb, ob + k, none⟩ (.slice ya na ca) (.slice yb nb cb)) := hHeld
      clear hHeld hgA
      go_wp2_with fail
      go_region_held3 (fun W => KeepH wr W w.heap.size P (.slice (some ⟨ba, oa, none⟩) T.length c) (.slice (some ⟨bb, ob, none⟩) G.length d) ⟨ba, oa + k, none⟩ ⟨bb, ob + k, none⟩ (.slice ya na ca) (.slice yb nb cb))
        (first | (with_reducible exact KeepH.drew KA.out) | (with_reducible exact KeepH.call (by assumption) hgB) | (with_reducible exact KeepH.drew (by assumption)) | assumption)
        (first | (go_at_call 13; refine (HR2.out _ (show KeepH wr _ w.heap.size P _ _ _ _ _ _ from by assumption).1).mono ?_; rintro E w3 ⟨rfl, hgB⟩))
      rename_i hHeld
      have G3 : Hid (W1.grownBy w3 none) := grown_trans GR.out hHeld.1
      have GF : Hid (w.grownBy w3 none) := grown_trans G1.out G3.out
      clear hHeld hgB
      by_cases e3 : e = 3
      · have e4 : (e == 3) = true := by simpa using e3
        have Hz : Hid (z = 3) := HB.out HN1.out (.inr (.inl (fun q => rowF_three.1 (HE.out.trans e3) (q k hlt))))
        clear e3
        go_wp2_with fail
        go_ret
        exact ⟨by rw [Hz.out]; rfl, GF.out⟩
      · have e4 : (e == 3) = false := by simpa using e3
        by_cases f3 : f = 3
        · have f4 : (f == 3) = true := by simpa using f3
          have Hz : Hid (z = 3) := HB.out HN1.out (.inr (.inr (fun q => rowF_three.1 (HF.out.trans f3) (q k (by have := HN2.out; omega)))))
          clear f3 e3
          go_wp2_with fail
          go_ret
          exact ⟨by rw [Hz.out]; rfl, GF.out⟩
        · have f4 : (f == 3) = false := by simpa using f3
          have s1 : ((T.getD k []).length : Int) = P := rowF_two (by rw [HE.out]; exact e3)
          have s2 : ((G.getD k []).length : Int) = P := rowF_two (by rw [HF.out]; exact f3)
          have HK2 : Hid (∀ i, i < k + 1 → ((T.getD i []).length : Int) = P ∧ ((G.getD i []).length : Int) = P) := upto_succ HK.out ⟨s1, s2⟩
          by_cases e0 : e = 0
          · have e5 : (e != 0) = false := by simpa using e0
            by_cases f0 : f = 0
            · have f5 : (f != 0) = false := by simpa using f0
              have HBn : Hid (badF T G (k + 1) = bd) := by rw [← HBd.out]; exact badF_ok ⟨(of_rowF (HE.out.trans e0)).2, (of_rowF (HF.out.trans f0)).2⟩
              clear e0 f0 e3 f3 s1 s2
              go_wp2_with fail
              go_roundw
              case rel => exact ⟨k + 1, by rw [HBn.out], by go_num, by omega, G3.out, HK2.out⟩
              case measure => simp [intOf]; omega
            · have f5 : (f != 0) = true := by simpa using f0
              have HBn : Hid (badF T G (k + 1) = 2) := badF_bad (fun q => f0 (HF.out.symm.trans (rowF_ok s2 q.2)))
              clear e0 f0 e3 f3 s1 s2
              go_wp2_with fail
              go_roundw
              case rel => exact ⟨k + 1, by rw [HBn.out], by go_num, by omega, G3.out, HK2.out⟩
              case measure => simp [intOf]; omega
          · have e5 : (e != 0) = true := by simpa using e0
            have HBn : Hid (badF T G (k + 1) = 2) := badF_bad (fun q => e0 (HE.out.symm.trans (rowF_ok s1 q.1)))
            clear e0 e3 f3 s1 s2
            go_wp2_with fail
            go_roundw
            case rel => exact ⟨k + 1, by rw [HBn.out], by go_num, by omega, G3.out, HK2.out⟩
            case measure => simp [intOf]; omega
    · have hk1 : ¬ (k : Int) < (T.length : Int) := by omega
      have Hz : Hid (z = bd) := by
        have e : k = T.length := by omega
        have h1 := HC.out HN1.out HN2.out (fun i hi => (HK.out i (by omega)).1) (fun i hi => (HK.out i (by have := HN2.out; omega)).2)
        rw [← e, HBd.out] at h1
        exact h1
      have GF : Hid (w.grownBy wr none) := grown_trans G1.out GR.out
      go_wp2_with fail
      go_ret
      exact ⟨by rw [Hz.out]; rfl, GF.out⟩

end Go.Proofs.Ytbkfcfhkjnfbmaa
