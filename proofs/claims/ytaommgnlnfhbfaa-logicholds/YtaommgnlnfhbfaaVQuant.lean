/- The reference's Holds, at some and every: given that it does what it should for what stands within. -/
import Derived.Test.YtaommgnlnfhbfaaVBool
namespace Go.Proofs.Ytaommgnlnfhbfaa
open Go.RowKit
set_option linter.unusedVariables false
set_option linter.unusedSimpArgs false

theorem fitL_snoc {n : Nat} {ts : List Bool} {vs : List Nat} (h : FitL n ts vs) (hl : vs.length ≤ 2) (se : Bool) (v : Nat) (hv : v < manyL se n) : FitL n (ts ++ [se]) (vs ++ [v]) := by
  have key : ∀ k b, (ts ++ [se])[k]? = some b → (k < ts.length ∧ ts[k]? = some b ∧ (vs ++ [v]).getD k 0 = vs.getD k 0) ∨ (se = b ∧ (vs ++ [v]).getD k 0 = v) := fun k b hk => by
    by_cases h1 : k < ts.length
    · rw [List.getElem?_append_left h1] at hk
      refine .inl ⟨h1, hk, ?_⟩
      have h2 : k < vs.length := by rw [← h.len]; exact h1
      simp [List.getD, List.getElem?_append_left h2]
    · rw [List.getElem?_append_right (by omega)] at hk
      have h2 : k - ts.length = 0 := by
        have := (List.getElem?_eq_some_iff.1 hk).1
        simp at this
        omega
      rw [h2] at hk
      simp at hk
      have h3 : k = vs.length := by rw [← h.len]; omega
      subst h3
      exact .inr ⟨hk, by simp [List.getD]⟩
  refine ⟨by simp [h.len], by simp; omega, fun k hk => ?_, fun k hk => ?_⟩
  · rcases key k _ hk with ⟨_, h1, h2⟩ | ⟨h1, h2⟩
    · rw [h2]; exact h.place k h1
    · rw [h2]; rw [h1] at hv; exact hv
  · rcases key k _ hk with ⟨_, h1, h2⟩ | ⟨h1, h2⟩
    · rw [h2]; exact h.set k h1
    · rw [h2]; rw [h1] at hv; exact hv

attribute [local go_sem ↓] appJ_fold in
set_option maxHeartbeats 3200000 in
set_option maxRecDepth 100000 in
theorem holdsV_some (se : Bool) (f : Lf) (ih : DoesV f) : DoesV (.some se f) := by
  intro W g cap j ns aw av cw cv ws vs ts hL hM hln hwl hl hw hv h0 hf
  obtain ⟨q, hj, hM2⟩ := hM
  obtain ⟨hl2, hwl2⟩ := hwl
  have hv2 : vs.length ≤ 2 := by rw [← hf.len]; exact hl2
  obtain ⟨c0, c1, c2, c3, c4⟩ := hL j _ hj
  have hjl : j < ns.length := (List.getElem?_eq_some_iff.1 hj).1
  have i0 : (j : Int) < (ns.length : Int) := by omega
  simp only at c0 c1 c2 c3 c4
  obtain ⟨N, hN⟩ : ∃ N, manyL se ws.length = N := ⟨_, rfl⟩
  have HI : Hid (∀ W' a' c' x, W.grownBy W' none → RowI W' a' (vs ++ [x]) → x < N → Calls Try.prog 9 #[.slice (some ⟨g, 0, none⟩) ns.length cap, .int .i64 (q : Int), .slice aw ws.length cw, .slice a' (vs.length + 1) c'] W' fun e w' => e = .returned (.bool (holdL ws f (vs ++ [x]))) ∧ W'.grownBy w' none) := fun W' a' c' x hg hr hx => by
    have h3 := ih W' g cap q ns aw a' cw c' ws (vs ++ [x]) (ts ++ [se]) (hL.kept hg) hM2 hln hwl2 hl (hw.kept hg) hr (fun h => by simp at h) (fitL_snoc hf hv2 se x (by rw [hN]; exact hx))
    simp only [List.length_append, List.length_singleton] at h3
    exact h3
  have HV : Hid (∀ W', W.grownBy W' none → ∀ x : Nat, ∃ v1 w1 g2 c2 w2, (AppJ #[30, 30] 30 #[.slice (some ⟨W'.heap.size, 0, none⟩) 0 0, .slice av vs.length cv]).run Try.prog (W'.alloc (.cells #[] 3)) = .ok v1 w1 ∧ (∃ g1 c1, v1 = .slice (some ⟨g1, 0, none⟩) vs.length c1) ∧ (AppJ #[30, 30] 30 #[v1, .slice (some ⟨w1.heap.size, 0, none⟩) 1 1]).run Try.prog (w1.alloc (.cells #[.int .i64 (x : Int)] 3)) = .ok (.slice (some ⟨g2, 0, none⟩) (vs.length + 1) c2) w2 ∧ RowI w2 (some ⟨g2, 0, none⟩) (vs ++ [x]) ∧ W'.grownBy w2 none) := fun W' hW x => by
    obtain ⟨v1, w1, h1, h2, h3, h4⟩ := app_own (hv.kept hW) h0 (by omega)
    obtain ⟨g2, c2, w2, h5, h6, h7⟩ := app_one h2 h3 (by omega) x
    exact ⟨v1, w1, g2, c2, w2, h1, h4, h5, h6, h7⟩
  have HR : holdL ws (.some se f) vs = (List.range (manyL se ws.length)).any fun v => holdL ws f (vs ++ [v]) := rfl
  rw [HR, hN]
  obtain ⟨F, hF⟩ : ∃ F : Nat → Bool, ∀ v, holdL ws f (vs ++ [v]) = F v := ⟨fun v => holdL ws f (vs ++ [v]), fun _ => rfl⟩
  simp only [hF] at HI ⊢
  have h64 : 2 ^ ws.length ≤ 2 ^ 6 := Nat.pow_le_pow_right (by omega) hl
  have hN64 : N ≤ 64 := by rw [← hN]; unfold manyL; split <;> omega
  have HN : Hid (manyL se ws.length = N) := hN
  clear hL hj hM2 hw hv h0 hf HR hwl2 ih hF hN
  obtain ⟨W1, hW1⟩ : ∃ W1, W1 = W.alloc (.cells #[.int .i64 8, .int .i64 0, .int .i64 (q : Int), .int .i64 0, .bool se] 46) := ⟨_, rfl⟩
  have HW1 : Hid (W1 = W.alloc (.cells #[.int .i64 8, .int .i64 0, .int .i64 (q : Int), .int .i64 0, .bool se] 46)) := hW1
  have G1 : Hid (W.grownBy W1 none) := by rw [hW1]; exact grown_alloc _ _
  have HB : Hid (∀ W', W1.grownBy W' none → W'.cell? ⟨W.heap.size, 0, none⟩ = some (.int .i64 8) ∧ W'.cell? ⟨W.heap.size, 2, none⟩ = some (.int .i64 (q : Int))) := fun W' h => by rw [hW1] at h; exact ⟨(boxV h).1, (boxV h).2.2.1⟩
  clear hW1
  cases se with
  | true =>
    have hpw : wrap64 (2 ^ ws.length) = (N : Int) := by
      rw [← HN.out]
      have e : ((manyL true ws.length : Nat) : Int) = 2 ^ ws.length := by simp [manyL]
      rw [← e]
      have : manyL true ws.length ≤ 64 := by rw [HN.out]; exact hN64
      unfold wrap64; omega
    go_enter Try.func9, Try.ntmps9
    go_wp2_with fail
    rw [hpw, ← HW1.out]
    clear c0 c1 c2 c3 c4
    go_loopw [16] (fun v wr => ∃ i : Nat, v = .int .i64 (i : Int) ∧ i ≤ N ∧ (∀ j, j < i → F j = false) ∧ W1.grownBy wr none) (fun v _ => N - (intOf v).toNat)
    case atStart => exact ⟨0, rfl, by omega, fun j hj => absurd hj (by omega), grown_refl _ _⟩
    case round =>
      rename World => wr
      obtain ⟨i, rfl, hi, hno, hgr⟩ := hrel
      have GR : Hid (W1.grownBy wr none) := hgr
      obtain ⟨b0, b2⟩ := HB.out _ hgr
      have NO : Hid (∀ j, j < i → F j = false) := hno
      clear hgr hno
      by_cases hiN : i < N
      · have q1 : (i : Int) < (N : Int) := by omega
        obtain ⟨v1, w1, g2, e2, w2, hr1, ⟨g1, e1, rfl⟩, hr2, hrow, hg2⟩ := HV.out wr (grown_trans G1.out GR.out) i
        have G2 : Hid (W1.grownBy w2 none) := grown_trans GR.out hg2
        obtain ⟨b0', b2'⟩ := HB.out _ G2.out
        have K2 : Hid (Calls Try.prog 9 #[.slice (some ⟨g, 0, none⟩) ns.length cap, .int .i64 (q : Int), .slice aw ws.length cw, .slice (some ⟨g2, 0, none⟩) (vs.length + 1) e2] w2 fun e w' => e = .returned (.bool (F i)) ∧ w2.grownBy w' none) := HI.out w2 _ _ i (grown_trans G1.out G2.out) hrow hiN
        clear hrow hg2
        cases hFi : F i with
        | true =>
          rw [hFi] at K2
          have HR : Hid ((List.range N).any (fun v => F v) = true) := by show _ = true; rw [List.any_eq_true]; exact ⟨i, List.mem_range.2 hiN, hFi⟩
          clear hFi
          go_wp2_with fail
          refine K2.out.mono ?_
          rintro e w3 ⟨rfl, hg3⟩
          have G3 : Hid (W1.grownBy w3 none) := grown_trans G2.out hg3
          obtain ⟨d0, _⟩ := HB.out _ G3.out
          clear hg3
          go_wp2_with fail
          go_ret
          rw [HR.out]
          exact ⟨rfl, grown_trans G1.out G3.out⟩
        | false =>
          rw [hFi] at K2
          have HFi : Hid (F i = false) := hFi
          clear hFi
          go_wp2_with fail
          refine K2.out.mono ?_
          rintro e w3 ⟨rfl, hg3⟩
          have G3 : Hid (W1.grownBy w3 none) := grown_trans G2.out hg3
          obtain ⟨d0, _⟩ := HB.out _ G3.out
          clear hg3
          go_wp2_with fail
          go_roundw
          case rel => exact ⟨i + 1, by go_num, by omega, fun j hj => by
            by_cases hj2 : j < i
            · exact NO.out j hj2
            · have : j = i := by omega
              rw [this]; exact HFi.out, G3.out⟩
          case measure => (simp [intOf]; try omega)
      · have q1 : ¬ (i : Int) < (N : Int) := by omega
        have HR : Hid ((List.range N).any (fun v => F v) = false) := by show _ = false; rw [List.any_eq_false]; intro j hj; have := NO.out j (by have := List.mem_range.1 hj; omega); simp [this]
        go_wp2_with fail
        go_ret
        rw [HR.out]
        exact ⟨rfl, grown_trans G1.out GR.out⟩
  | false =>
    have hN' : N = ws.length := by rw [← HN.out]; rfl
    subst hN'
    go_enter Try.func9, Try.ntmps9
    go_wp2_with fail
    rw [← HW1.out]
    clear c0 c1 c2 c3 c4
    go_loopw [16] (fun v wr => ∃ i : Nat, v = .int .i64 (i : Int) ∧ i ≤ ws.length ∧ (∀ j, j < i → F j = false) ∧ W1.grownBy wr none) (fun v _ => ws.length - (intOf v).toNat)
    case atStart => exact ⟨0, rfl, by omega, fun j hj => absurd hj (by omega), grown_refl _ _⟩
    case round =>
      rename World => wr
      obtain ⟨i, rfl, hi, hno, hgr⟩ := hrel
      have GR : Hid (W1.grownBy wr none) := hgr
      obtain ⟨b0, b2⟩ := HB.out _ hgr
      have NO : Hid (∀ j, j < i → F j = false) := hno
      clear hgr hno
      by_cases hiN : i < ws.length
      · have q1 : (i : Int) < (ws.length : Int) := by omega
        obtain ⟨v1, w1, g2, e2, w2, hr1, ⟨g1, e1, rfl⟩, hr2, hrow, hg2⟩ := HV.out wr (grown_trans G1.out GR.out) i
        have G2 : Hid (W1.grownBy w2 none) := grown_trans GR.out hg2
        obtain ⟨b0', b2'⟩ := HB.out _ G2.out
        have K2 : Hid (Calls Try.prog 9 #[.slice (some ⟨g, 0, none⟩) ns.length cap, .int .i64 (q : Int), .slice aw ws.length cw, .slice (some ⟨g2, 0, none⟩) (vs.length + 1) e2] w2 fun e w' => e = .returned (.bool (F i)) ∧ w2.grownBy w' none) := HI.out w2 _ _ i (grown_trans G1.out G2.out) hrow hiN
        clear hrow hg2
        cases hFi : F i with
        | true =>
          rw [hFi] at K2
          have HR : Hid ((List.range ws.length).any (fun v => F v) = true) := by show _ = true; rw [List.any_eq_true]; exact ⟨i, List.mem_range.2 hiN, hFi⟩
          clear hFi
          go_wp2_with fail
          refine K2.out.mono ?_
          rintro e w3 ⟨rfl, hg3⟩
          have G3 : Hid (W1.grownBy w3 none) := grown_trans G2.out hg3
          obtain ⟨d0, _⟩ := HB.out _ G3.out
          clear hg3
          go_wp2_with fail
          go_ret
          rw [HR.out]
          exact ⟨rfl, grown_trans G1.out G3.out⟩
        | false =>
          rw [hFi] at K2
          have HFi : Hid (F i = false) := hFi
          clear hFi
          go_wp2_with fail
          refine K2.out.mono ?_
          rintro e w3 ⟨rfl, hg3⟩
          have G3 : Hid (W1.grownBy w3 none) := grown_trans G2.out hg3
          obtain ⟨d0, _⟩ := HB.out _ G3.out
          clear hg3
          go_wp2_with fail
          go_roundw
          case rel => exact ⟨i + 1, by go_num, by omega, fun j hj => by
            by_cases hj2 : j < i
            · exact NO.out j hj2
            · have : j = i := by omega
              rw [this]; exact HFi.out, G3.out⟩
          case measure => (simp [intOf]; try omega)
      · have q1 : ¬ (i : Int) < (ws.length : Int) := by omega
        have HR : Hid ((List.range ws.length).any (fun v => F v) = false) := by show _ = false; rw [List.any_eq_false]; intro j hj; have := NO.out j (by have := List.mem_range.1 hj; omega); simp [this]
        go_wp2_with fail
        go_ret
        rw [HR.out]
        exact ⟨rfl, grown_trans G1.out GR.out⟩

attribute [local go_sem ↓] appJ_fold in
set_option maxHeartbeats 3200000 in
set_option maxRecDepth 100000 in
theorem holdsV_every (se : Bool) (f : Lf) (ih : DoesV f) : DoesV (.every se f) := by
  intro W g cap j ns aw av cw cv ws vs ts hL hM hln hwl hl hw hv h0 hf
  obtain ⟨q, hj, hM2⟩ := hM
  obtain ⟨hl2, hwl2⟩ := hwl
  have hv2 : vs.length ≤ 2 := by rw [← hf.len]; exact hl2
  obtain ⟨c0, c1, c2, c3, c4⟩ := hL j _ hj
  have hjl : j < ns.length := (List.getElem?_eq_some_iff.1 hj).1
  have i0 : (j : Int) < (ns.length : Int) := by omega
  simp only at c0 c1 c2 c3 c4
  obtain ⟨N, hN⟩ : ∃ N, manyL se ws.length = N := ⟨_, rfl⟩
  have HI : Hid (∀ W' a' c' x, W.grownBy W' none → RowI W' a' (vs ++ [x]) → x < N → Calls Try.prog 9 #[.slice (some ⟨g, 0, none⟩) ns.length cap, .int .i64 (q : Int), .slice aw ws.length cw, .slice a' (vs.length + 1) c'] W' fun e w' => e = .returned (.bool (holdL ws f (vs ++ [x]))) ∧ W'.grownBy w' none) := fun W' a' c' x hg hr hx => by
    have h3 := ih W' g cap q ns aw a' cw c' ws (vs ++ [x]) (ts ++ [se]) (hL.kept hg) hM2 hln hwl2 hl (hw.kept hg) hr (fun h => by simp at h) (fitL_snoc hf hv2 se x (by rw [hN]; exact hx))
    simp only [List.length_append, List.length_singleton] at h3
    exact h3
  have HV : Hid (∀ W', W.grownBy W' none → ∀ x : Nat, ∃ v1 w1 g2 c2 w2, (AppJ #[30, 30] 30 #[.slice (some ⟨W'.heap.size, 0, none⟩) 0 0, .slice av vs.length cv]).run Try.prog (W'.alloc (.cells #[] 3)) = .ok v1 w1 ∧ (∃ g1 c1, v1 = .slice (some ⟨g1, 0, none⟩) vs.length c1) ∧ (AppJ #[30, 30] 30 #[v1, .slice (some ⟨w1.heap.size, 0, none⟩) 1 1]).run Try.prog (w1.alloc (.cells #[.int .i64 (x : Int)] 3)) = .ok (.slice (some ⟨g2, 0, none⟩) (vs.length + 1) c2) w2 ∧ RowI w2 (some ⟨g2, 0, none⟩) (vs ++ [x]) ∧ W'.grownBy w2 none) := fun W' hW x => by
    obtain ⟨v1, w1, h1, h2, h3, h4⟩ := app_own (hv.kept hW) h0 (by omega)
    obtain ⟨g2, c2, w2, h5, h6, h7⟩ := app_one h2 h3 (by omega) x
    exact ⟨v1, w1, g2, c2, w2, h1, h4, h5, h6, h7⟩
  have HR : holdL ws (.every se f) vs = (List.range (manyL se ws.length)).all fun v => holdL ws f (vs ++ [v]) := rfl
  rw [HR, hN]
  obtain ⟨F, hF⟩ : ∃ F : Nat → Bool, ∀ v, holdL ws f (vs ++ [v]) = F v := ⟨fun v => holdL ws f (vs ++ [v]), fun _ => rfl⟩
  simp only [hF] at HI ⊢
  have h64 : 2 ^ ws.length ≤ 2 ^ 6 := Nat.pow_le_pow_right (by omega) hl
  have hN64 : N ≤ 64 := by rw [← hN]; unfold manyL; split <;> omega
  have HN : Hid (manyL se ws.length = N) := hN
  clear hL hj hM2 hw hv h0 hf HR hwl2 ih hF hN
  obtain ⟨W1, hW1⟩ : ∃ W1, W1 = W.alloc (.cells #[.int .i64 9, .int .i64 0, .int .i64 (q : Int), .int .i64 0, .bool se] 46) := ⟨_, rfl⟩
  have HW1 : Hid (W1 = W.alloc (.cells #[.int .i64 9, .int .i64 0, .int .i64 (q : Int), .int .i64 0, .bool se] 46)) := hW1
  have G1 : Hid (W.grownBy W1 none) := by rw [hW1]; exact grown_alloc _ _
  have HB : Hid (∀ W', W1.grownBy W' none → W'.cell? ⟨W.heap.size, 0, none⟩ = some (.int .i64 9) ∧ W'.cell? ⟨W.heap.size, 2, none⟩ = some (.int .i64 (q : Int))) := fun W' h => by rw [hW1] at h; exact ⟨(boxV h).1, (boxV h).2.2.1⟩
  clear hW1
  cases se with
  | true =>
    have hpw : wrap64 (2 ^ ws.length) = (N : Int) := by
      rw [← HN.out]
      have e : ((manyL true ws.length : Nat) : Int) = 2 ^ ws.length := by simp [manyL]
      rw [← e]
      have : manyL true ws.length ≤ 64 := by rw [HN.out]; exact hN64
      unfold wrap64; omega
    go_enter Try.func9, Try.ntmps9
    go_wp2_with fail
    rw [hpw, ← HW1.out]
    clear c0 c1 c2 c3 c4
    go_loopw [16] (fun v wr => ∃ i : Nat, v = .int .i64 (i : Int) ∧ i ≤ N ∧ (∀ j, j < i → F j = true) ∧ W1.grownBy wr none) (fun v _ => N - (intOf v).toNat)
    case atStart => exact ⟨0, rfl, by omega, fun j hj => absurd hj (by omega), grown_refl _ _⟩
    case round =>
      rename World => wr
      obtain ⟨i, rfl, hi, hno, hgr⟩ := hrel
      have GR : Hid (W1.grownBy wr none) := hgr
      obtain ⟨b0, b2⟩ := HB.out _ hgr
      have NO : Hid (∀ j, j < i → F j = true) := hno
      clear hgr hno
      by_cases hiN : i < N
      · have q1 : (i : Int) < (N : Int) := by omega
        obtain ⟨v1, w1, g2, e2, w2, hr1, ⟨g1, e1, rfl⟩, hr2, hrow, hg2⟩ := HV.out wr (grown_trans G1.out GR.out) i
        have G2 : Hid (W1.grownBy w2 none) := grown_trans GR.out hg2
        obtain ⟨b0', b2'⟩ := HB.out _ G2.out
        have K2 : Hid (Calls Try.prog 9 #[.slice (some ⟨g, 0, none⟩) ns.length cap, .int .i64 (q : Int), .slice aw ws.length cw, .slice (some ⟨g2, 0, none⟩) (vs.length + 1) e2] w2 fun e w' => e = .returned (.bool (F i)) ∧ w2.grownBy w' none) := HI.out w2 _ _ i (grown_trans G1.out G2.out) hrow hiN
        clear hrow hg2
        cases hFi : F i with
        | false =>
          rw [hFi] at K2
          have HR : Hid ((List.range N).all (fun v => F v) = false) := by show _ = false; rw [List.all_eq_false]; exact ⟨i, List.mem_range.2 hiN, by simp [hFi]⟩
          clear hFi
          go_wp2_with fail
          refine K2.out.mono ?_
          rintro e w3 ⟨rfl, hg3⟩
          have G3 : Hid (W1.grownBy w3 none) := grown_trans G2.out hg3
          obtain ⟨d0, _⟩ := HB.out _ G3.out
          clear hg3
          go_wp2_with fail
          go_ret
          rw [HR.out]
          exact ⟨rfl, grown_trans G1.out G3.out⟩
        | true =>
          rw [hFi] at K2
          have HFi : Hid (F i = true) := hFi
          clear hFi
          go_wp2_with fail
          refine K2.out.mono ?_
          rintro e w3 ⟨rfl, hg3⟩
          have G3 : Hid (W1.grownBy w3 none) := grown_trans G2.out hg3
          obtain ⟨d0, _⟩ := HB.out _ G3.out
          clear hg3
          go_wp2_with fail
          go_roundw
          case rel => exact ⟨i + 1, by go_num, by omega, fun j hj => by
            by_cases hj2 : j < i
            · exact NO.out j hj2
            · have : j = i := by omega
              rw [this]; exact HFi.out, G3.out⟩
          case measure => (simp [intOf]; try omega)
      · have q1 : ¬ (i : Int) < (N : Int) := by omega
        have HR : Hid ((List.range N).all (fun v => F v) = true) := by show _ = true; rw [List.all_eq_true]; intro j hj; exact NO.out j (by have := List.mem_range.1 hj; omega)
        go_wp2_with fail
        go_ret
        rw [HR.out]
        exact ⟨rfl, grown_trans G1.out GR.out⟩
  | false =>
    have hN' : N = ws.length := by rw [← HN.out]; rfl
    subst hN'
    go_enter Try.func9, Try.ntmps9
    go_wp2_with fail
    rw [← HW1.out]
    clear c0 c1 c2 c3 c4
    go_loopw [16] (fun v wr => ∃ i : Nat, v = .int .i64 (i : Int) ∧ i ≤ ws.length ∧ (∀ j, j < i → F j = true) ∧ W1.grownBy wr none) (fun v _ => ws.length - (intOf v).toNat)
    case atStart => exact ⟨0, rfl, by omega, fun j hj => absurd hj (by omega), grown_refl _ _⟩
    case round =>
      rename World => wr
      obtain ⟨i, rfl, hi, hno, hgr⟩ := hrel
      have GR : Hid (W1.grownBy wr none) := hgr
      obtain ⟨b0, b2⟩ := HB.out _ hgr
      have NO : Hid (∀ j, j < i → F j = true) := hno
      clear hgr hno
      by_cases hiN : i < ws.length
      · have q1 : (i : Int) < (ws.length : Int) := by omega
        obtain ⟨v1, w1, g2, e2, w2, hr1, ⟨g1, e1, rfl⟩, hr2, hrow, hg2⟩ := HV.out wr (grown_trans G1.out GR.out) i
        have G2 : Hid (W1.grownBy w2 none) := grown_trans GR.out hg2
        obtain ⟨b0', b2'⟩ := HB.out _ G2.out
        have K2 : Hid (Calls Try.prog 9 #[.slice (some ⟨g, 0, none⟩) ns.length cap, .int .i64 (q : Int), .slice aw ws.length cw, .slice (some ⟨g2, 0, none⟩) (vs.length + 1) e2] w2 fun e w' => e = .returned (.bool (F i)) ∧ w2.grownBy w' none) := HI.out w2 _ _ i (grown_trans G1.out G2.out) hrow hiN
        clear hrow hg2
        cases hFi : F i with
        | false =>
          rw [hFi] at K2
          have HR : Hid ((List.range ws.length).all (fun v => F v) = false) := by show _ = false; rw [List.all_eq_false]; exact ⟨i, List.mem_range.2 hiN, by simp [hFi]⟩
          clear hFi
          go_wp2_with fail
          refine K2.out.mono ?_
          rintro e w3 ⟨rfl, hg3⟩
          have G3 : Hid (W1.grownBy w3 none) := grown_trans G2.out hg3
          obtain ⟨d0, _⟩ := HB.out _ G3.out
          clear hg3
          go_wp2_with fail
          go_ret
          rw [HR.out]
          exact ⟨rfl, grown_trans G1.out G3.out⟩
        | true =>
          rw [hFi] at K2
          have HFi : Hid (F i = true) := hFi
          clear hFi
          go_wp2_with fail
          refine K2.out.mono ?_
          rintro e w3 ⟨rfl, hg3⟩
          have G3 : Hid (W1.grownBy w3 none) := grown_trans G2.out hg3
          obtain ⟨d0, _⟩ := HB.out _ G3.out
          clear hg3
          go_wp2_with fail
          go_roundw
          case rel => exact ⟨i + 1, by go_num, by omega, fun j hj => by
            by_cases hj2 : j < i
            · exact NO.out j hj2
            · have : j = i := by omega
              rw [this]; exact HFi.out, G3.out⟩
          case measure => (simp [intOf]; try omega)
      · have q1 : ¬ (i : Int) < (ws.length : Int) := by omega
        have HR : Hid ((List.range ws.length).all (fun v => F v) = true) := by show _ = true; rw [List.all_eq_true]; intro j hj; exact NO.out j (by have := List.mem_range.1 hj; omega)
        go_wp2_with fail
        go_ret
        rw [HR.out]
        exact ⟨rfl, grown_trans G1.out GR.out⟩

theorem doesV_all : ∀ f, DoesV f := by
  intro f
  induction f with
  | letter c x => intro W g cap j ns aw av cw cv ws vs ts hL hM hln hwl hl hw hv h0 hf; exact holdsV_letter W g cap j c x ns aw av cw cv ws vs ts hL hM hln hwl.2 hw hv hf hl
  | lt x y => intro W g cap j ns aw av cw cv ws vs ts hL hM hln hwl hl hw hv h0 hf; exact holdsV_lt W g cap j x y ns aw av cw cv ws vs ts hL hM hln hwl.1 hwl.2 hw hv hf hl
  | eq x y => intro W g cap j ns aw av cw cv ws vs ts hL hM hln hwl hl hw hv h0 hf; exact holdsV_eq W g cap j x y ns aw av cw cv ws vs ts hL hM hln hwl.1 hwl.2 hw hv hf hl
  | nx x y => intro W g cap j ns aw av cw cv ws vs ts hL hM hln hwl hl hw hv h0 hf; exact holdsV_nx W g cap j x y ns aw av cw cv ws vs ts hL hM hln hwl.1 hwl.2 hw hv hf hl
  | inn x y => intro W g cap j ns aw av cw cv ws vs ts hL hM hln hwl hl hw hv h0 hf; exact holdsV_inn W g cap j x y ns aw av cw cv ws vs ts hL hM hln hwl.1 hwl.2 hw hv hf hl
  | not a ih => exact holdsV_not a ih
  | and a b iha ihb => exact holdsV_and a b iha ihb
  | or a b iha ihb => exact holdsV_or a b iha ihb
  | some se a ih => exact holdsV_some se a ih
  | every se a ih => exact holdsV_every se a ih

end Go.Proofs.Ytaommgnlnfhbfaa
