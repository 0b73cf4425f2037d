/- The program's finds. -/
import Derived.Test.YtaommgnlnfhbfaaLApp
import Derived.Deep.RegionHeld3
namespace Go.Proofs.Ytaommgnlnfhbfaa
open Go.RowKit
set_option linter.unusedVariables false
set_option linter.unusedSimpArgs false
attribute [local go_sem ↓] appL_fold

theorem FitL.snoc {n : Nat} {ts : List Bool} {vs : List Nat} (h : FitL n ts vs) (hl : vs.length ≤ 2) (se : Bool) (v : Nat) (hv : v < manyL se n) : FitL n (ts ++ [se]) (vs ++ [v]) := by
  have key : ∀ k b, (ts ++ [se])[k]? = some b → (k < vs.length ∧ ts[k]? = some b ∧ (vs ++ [v]).getD k 0 = vs.getD k 0) ∨ (b = se ∧ (vs ++ [v]).getD k 0 = v) := fun k b hk => by
    have hl2 := h.len
    by_cases h1 : k < ts.length
    · rw [List.getElem?_append_left h1] at hk
      exact .inl ⟨by omega, hk, by simp [List.getD, List.getElem?_append_left (show k < vs.length by omega)]⟩
    · have h2 := (List.getElem?_eq_some_iff.1 hk).1
      rw [List.length_append, List.length_singleton] at h2
      have h3 : k = ts.length := by omega
      subst h3
      rw [List.getElem?_append_right (Nat.le_refl _)] at hk
      simp at hk
      exact .inr ⟨hk.symm, by rw [hl2]; simp [List.getD]⟩
  refine ⟨by simp [h.len], by simp; omega, fun k hk => ?_, fun k hk => ?_⟩
  · rcases key k _ hk with ⟨_, h1, h2⟩ | ⟨h1, h2⟩
    · rw [h2]; exact h.place k h1
    · rw [h2]; rw [← h1] at hv; exact hv
  · rcases key k _ hk with ⟨_, h1, h2⟩ | ⟨h1, h2⟩
    · rw [h2]; exact h.set k h1
    · rw [h2]; rw [← h1] at hv; exact hv

set_option maxHeartbeats 3200000 in
theorem finds_any (l r : TrL) (se : Bool) (x y : Int) (ih : DoesT l) (ok : Nat → Prop) (W : World) (g : Nat) (lv rv : Value) (aw av : Option Addr) (cw cv : Nat) (ws vs : List Nat) (ts : List Bool) (hb : W.heap[g]? = some (.cells #[.int .i64 ((3 : Nat) : Int), lv, rv, .bool se, .int .i64 x, .int .i64 y] 58 (0, 0))) (ht : TreeL ok W lv l) (hwl : WellT l (ts ++ [se])) (hl : ws.length ≤ 6) (h2 : ∀ x ∈ ws, x < 2) (hw : RowW W aw ws) (hv : RowI W av vs) (h0 : (vs = [] → av = none ∧ cv = 0) ∧ vs.length ≤ cv) (hf : FitL ws.length ts vs) (hl2 : vs.length ≤ 2) :
    Calls Try.prog 22 #[.pointer (some ⟨g, 0, none⟩), .slice aw ws.length cw, .slice av vs.length cv] W fun e w' => e = .returned (.bool ((List.range (manyL se ws.length)).any fun v => holdT ws l (vs ++ [v]))) ∧ W.grownBy w' none := by
  obtain ⟨c0, c1, _, c3, _, _⟩ := node_cells hb
  obtain ⟨N, hN⟩ : ∃ N, manyL se ws.length = N := ⟨_, rfl⟩
  have HI : Hid (∀ W' a' c' v, W.grownBy W' none → RowI W' a' (vs ++ [v]) → vs.length + 1 ≤ c' → v < N → Calls Try.prog 14 #[lv, .slice aw ws.length cw, .slice a' (vs.length + 1) c'] W' fun e w' => e = .returned (.bool (holdT ws l (vs ++ [v]))) ∧ W'.grownBy w' none) := fun W' a' c' v hg hr hc hvn => by
    have h3 := ih ok W' lv aw a' cw c' ws (vs ++ [v]) (ts ++ [se]) (ht.idle hg) hwl hl h2 (hw.kept hg) hr ⟨fun h => by simp at h, by simpa using hc⟩ (hf.snoc hl2 se v (by rw [hN]; exact hvn))
    simp only [List.length_append, List.length_singleton] at h3
    exact h3
  have HV : Hid (RowI W av vs) := hv
  rw [hN]
  obtain ⟨a, rfl⟩ := ht.form
  have HC : Hid (∀ W', W.grownBy W' none → W'.cell? ⟨g, 1, none⟩ = some (.pointer a)) := fun W' hg => hg.cell c1 (by simp)
  obtain ⟨F, hF⟩ : ∃ F : Nat → Bool, ∀ v, holdT ws l (vs ++ [v]) = F v := ⟨fun v => holdT ws l (vs ++ [v]), fun _ => rfl⟩
  simp only [hF] at HI ⊢
  have h64 : 2 ^ ws.length ≤ 2 ^ 6 := Nat.pow_le_pow_right (by omega) hl
  have hN64 : N ≤ 64 := by rw [← hN]; unfold manyL; split <;> omega
  clear hb ht hw hv hf ih hF
  have H0 : Hid ((vs = [] → av = none ∧ cv = 0) ∧ vs.length ≤ cv) := h0
  clear h0
  cases se with
  | true =>
    have hpw : wrap64 (2 ^ ws.length) = (N : Int) := by
      rw [← hN]
      have e : ((manyL true ws.length : Nat) : Int) = 2 ^ ws.length := by simp [manyL]
      rw [← e]
      have : manyL true ws.length ≤ 64 := by rw [hN]; exact hN64
      unfold wrap64; omega
    go_enter Try.func22, Try.ntmps22
    go_wp2_with fail
    rw [hpw]
    go_loopw [19] (fun v wr => ∃ i : Nat, v = .int .i64 (i : Int) ∧ i ≤ N ∧ (∀ j, j < i → F j = false) ∧ W.grownBy wr none) (fun v _ => N - (intOf v).toNat)
    case atStart => exact ⟨0, rfl, by omega, fun j hj => absurd hj (by omega), grown_refl _ _⟩
    case round =>
      rename World => wr
      obtain ⟨i, rfl, hi, hno, hgr⟩ := hrel
      have GR : Hid (W.grownBy wr none) := hgr
      have d1 := HC.out _ hgr
      have NO : Hid (∀ j, j < i → F j = false) := hno
      clear hgr hno
      by_cases hiN : i < N
      · have q1 : (i : Int) < (N : Int) := by omega
        obtain ⟨g6, cap6, w6, hrun, hr6, hg6, hc6⟩ := app_vs (HV.out.kept GR.out) (fun h => (H0.out.1 h).1) (by omega) i
        have G6 : Hid (W.grownBy w6 none) := grown_trans GR.out hg6
        have K6 : Hid (Calls Try.prog 14 #[.pointer a, .slice aw ws.length cw, .slice (some ⟨g6, 0, none⟩) (vs.length + 1) cap6] w6 fun e w' => e = .returned (.bool (F i)) ∧ w6.grownBy w' none) := HI.out w6 _ _ i G6.out hr6 hc6 hiN
        clear hr6 hg6 hc6
        have dA : (wr.alloc (.cells #[.int .i64 (i : Int)] 3)).drew.cell? ⟨g, 1, none⟩ = some (.pointer a) := HC.out _ (grown_trans GR.out (grown_drew (grown_alloc _ _)))
        have dB : w6.cell? ⟨g, 1, none⟩ = some (.pointer a) := HC.out _ G6.out
        have dD : wr.drew.cell? ⟨g, 1, none⟩ = some (.pointer a) := HC.out _ (grown_trans GR.out (grown_drew (grown_refl _ _)))
        have fin : Hid (∀ w8, w6.grownBy w8 none → W.grownBy w8 none) := fun w8 h => grown_trans G6.out h
        cases hFi : F i with
        | true =>
          rw [hFi] at K6
          have HR : Hid ((List.range N).any (fun v => F v) = true) := by show _ = true; rw [List.any_eq_true]; exact ⟨i, List.mem_range.2 hiN, hFi⟩
          by_cases hve : vs = []
          · obtain ⟨ha0, hc0⟩ := H0.out.1 hve
            subst hve ha0 hc0
            simp only [List.length_nil] at hrun K6 ⊢
            go_wp2_with fail
            go_region_held3 (fun W' => W'.cell? ⟨g, 1, none⟩ = some (.pointer a)) (first | exact d1 | exact dA | exact dB | exact dD | exact HC.out _ G8.out)
              (first
              | (go_at_call 14; refine K6.out.mono ?_; rintro e w8 ⟨rfl, hg8⟩; have G8 : Hid _ := fin.out _ hg8; clear hg8))
            all_goals
              go_wp2_with fail
              go_ret
              rw [HR.out]
              exact ⟨rfl, G8.out⟩
          · have hvl : ¬ vs.length = 0 := fun h => hve (List.length_eq_zero_iff.1 h)
            have hcv := H0.out.2
            obtain ⟨g0, ha0⟩ : ∃ g0, av = some ⟨g0, 0, none⟩ := by
              rcases HV.out with h | ⟨g0, h, _⟩
              · exact absurd h hve
              · exact ⟨g0, h⟩
            subst ha0
            have q2 : (0 : Int) ≤ (vs.length : Int) := by omega
            have q3 : (vs.length : Int) ≤ (cv : Int) := by omega
            go_wp2_with fail
            go_region_held3 (fun W' => W'.cell? ⟨g, 1, none⟩ = some (.pointer a)) (first | exact d1 | exact dA | exact dB | exact dD | exact HC.out _ G8.out)
              (first
              | (go_at_call 14; refine K6.out.mono ?_; rintro e w8 ⟨rfl, hg8⟩; have G8 : Hid _ := fin.out _ hg8; clear hg8))
            all_goals
              go_wp2_with fail
              go_ret
              rw [HR.out]
              exact ⟨rfl, G8.out⟩
        | false =>
          rw [hFi] at K6
          by_cases hve : vs = []
          · obtain ⟨ha0, hc0⟩ := H0.out.1 hve
            subst hve ha0 hc0
            simp only [List.length_nil] at hrun K6 ⊢
            go_wp2_with fail
            go_region_held3 (fun W' => W'.cell? ⟨g, 1, none⟩ = some (.pointer a)) (first | exact d1 | exact dA | exact dB | exact dD | exact HC.out _ G8.out)
              (first
              | (go_at_call 14; refine K6.out.mono ?_; rintro e w8 ⟨rfl, hg8⟩; have G8 : Hid _ := fin.out _ hg8; clear hg8))
            all_goals
              go_wp2_with fail
              go_roundw
              case rel => exact ⟨i + 1, by go_num, by omega, fun j hj => by
                by_cases hj2 : j < i
                · exact NO.out j hj2
                · have : j = i := by omega
                  rw [this]; exact hFi, G8.out⟩
              case measure => (simp [intOf]; try omega)
          · have hvl : ¬ vs.length = 0 := fun h => hve (List.length_eq_zero_iff.1 h)
            have hcv := H0.out.2
            obtain ⟨g0, ha0⟩ : ∃ g0, av = some ⟨g0, 0, none⟩ := by
              rcases HV.out with h | ⟨g0, h, _⟩
              · exact absurd h hve
              · exact ⟨g0, h⟩
            subst ha0
            have q2 : (0 : Int) ≤ (vs.length : Int) := by omega
            have q3 : (vs.length : Int) ≤ (cv : Int) := by omega
            go_wp2_with fail
            go_region_held3 (fun W' => W'.cell? ⟨g, 1, none⟩ = some (.pointer a)) (first | exact d1 | exact dA | exact dB | exact dD | exact HC.out _ G8.out)
              (first
              | (go_at_call 14; refine K6.out.mono ?_; rintro e w8 ⟨rfl, hg8⟩; have G8 : Hid _ := fin.out _ hg8; clear hg8))
            all_goals
              go_wp2_with fail
              go_roundw
              case rel => exact ⟨i + 1, by go_num, by omega, fun j hj => by
                by_cases hj2 : j < i
                · exact NO.out j hj2
                · have : j = i := by omega
                  rw [this]; exact hFi, G8.out⟩
              case measure => (simp [intOf]; try omega)
      · have q1 : ¬ (i : Int) < (N : Int) := by omega
        have HR : Hid ((List.range N).any (fun v => F v) = false) := by
          show _ = false
          rw [List.any_eq_false]
          intro j hj
          have := NO.out j (by have := List.mem_range.1 hj; omega)
          simp [this]
        go_wp2_with fail
        go_ret
        rw [HR.out]
        exact ⟨rfl, GR.out⟩
  | false =>
    have hN' : N = ws.length := by rw [← hN]; rfl
    subst hN'
    go_enter Try.func22, Try.ntmps22
    go_wp2_with fail
    go_loopw [19] (fun v wr => ∃ i : Nat, v = .int .i64 (i : Int) ∧ i ≤ ws.length ∧ (∀ j, j < i → F j = false) ∧ W.grownBy wr none) (fun v _ => ws.length - (intOf v).toNat)
    case atStart => exact ⟨0, rfl, by omega, fun j hj => absurd hj (by omega), grown_refl _ _⟩
    case round =>
      rename World => wr
      obtain ⟨i, rfl, hi, hno, hgr⟩ := hrel
      have GR : Hid (W.grownBy wr none) := hgr
      have d1 := HC.out _ hgr
      have NO : Hid (∀ j, j < i → F j = false) := hno
      clear hgr hno
      by_cases hiN : i < ws.length
      · have q1 : (i : Int) < (ws.length : Int) := by omega
        obtain ⟨g6, cap6, w6, hrun, hr6, hg6, hc6⟩ := app_vs (HV.out.kept GR.out) (fun h => (H0.out.1 h).1) (by omega) i
        have G6 : Hid (W.grownBy w6 none) := grown_trans GR.out hg6
        have K6 : Hid (Calls Try.prog 14 #[.pointer a, .slice aw ws.length cw, .slice (some ⟨g6, 0, none⟩) (vs.length + 1) cap6] w6 fun e w' => e = .returned (.bool (F i)) ∧ w6.grownBy w' none) := HI.out w6 _ _ i G6.out hr6 hc6 hiN
        clear hr6 hg6 hc6
        have dA : (wr.alloc (.cells #[.int .i64 (i : Int)] 3)).drew.cell? ⟨g, 1, none⟩ = some (.pointer a) := HC.out _ (grown_trans GR.out (grown_drew (grown_alloc _ _)))
        have dB : w6.cell? ⟨g, 1, none⟩ = some (.pointer a) := HC.out _ G6.out
        have dD : wr.drew.cell? ⟨g, 1, none⟩ = some (.pointer a) := HC.out _ (grown_trans GR.out (grown_drew (grown_refl _ _)))
        have fin : Hid (∀ w8, w6.grownBy w8 none → W.grownBy w8 none) := fun w8 h => grown_trans G6.out h
        cases hFi : F i with
        | true =>
          rw [hFi] at K6
          have HR : Hid ((List.range ws.length).any (fun v => F v) = true) := by show _ = true; rw [List.any_eq_true]; exact ⟨i, List.mem_range.2 hiN, hFi⟩
          by_cases hve : vs = []
          · obtain ⟨ha0, hc0⟩ := H0.out.1 hve
            subst hve ha0 hc0
            simp only [List.length_nil] at hrun K6 ⊢
            go_wp2_with fail
            go_region_held3 (fun W' => W'.cell? ⟨g, 1, none⟩ = some (.pointer a)) (first | exact d1 | exact dA | exact dB | exact dD | exact HC.out _ G8.out)
              (first
              | (go_at_call 14; refine K6.out.mono ?_; rintro e w8 ⟨rfl, hg8⟩; have G8 : Hid _ := fin.out _ hg8; clear hg8))
            all_goals
              go_wp2_with fail
              go_ret
              rw [HR.out]
              exact ⟨rfl, G8.out⟩
          · have hvl : ¬ vs.length = 0 := fun h => hve (List.length_eq_zero_iff.1 h)
            have hcv := H0.out.2
            obtain ⟨g0, ha0⟩ : ∃ g0, av = some ⟨g0, 0, none⟩ := by
              rcases HV.out with h | ⟨g0, h, _⟩
              · exact absurd h hve
              · exact ⟨g0, h⟩
            subst ha0
            have q2 : (0 : Int) ≤ (vs.length : Int) := by omega
            have q3 : (vs.length : Int) ≤ (cv : Int) := by omega
            go_wp2_with fail
            go_region_held3 (fun W' => W'.cell? ⟨g, 1, none⟩ = some (.pointer a)) (first | exact d1 | exact dA | exact dB | exact dD | exact HC.out _ G8.out)
              (first
              | (go_at_call 14; refine K6.out.mono ?_; rintro e w8 ⟨rfl, hg8⟩; have G8 : Hid _ := fin.out _ hg8; clear hg8))
            all_goals
              go_wp2_with fail
              go_ret
              rw [HR.out]
              exact ⟨rfl, G8.out⟩
        | false =>
          rw [hFi] at K6
          by_cases hve : vs = []
          · obtain ⟨ha0, hc0⟩ := H0.out.1 hve
            subst hve ha0 hc0
            simp only [List.length_nil] at hrun K6 ⊢
            go_wp2_with fail
            go_region_held3 (fun W' => W'.cell? ⟨g, 1, none⟩ = some (.pointer a)) (first | exact d1 | exact dA | exact dB | exact dD | exact HC.out _ G8.out)
              (first
              | (go_at_call 14; refine K6.out.mono ?_; rintro e w8 ⟨rfl, hg8⟩; have G8 : Hid _ := fin.out _ hg8; clear hg8))
            all_goals
              go_wp2_with fail
              go_roundw
              case rel => exact ⟨i + 1, by go_num, by omega, fun j hj => by
                by_cases hj2 : j < i
                · exact NO.out j hj2
                · have : j = i := by omega
                  rw [this]; exact hFi, G8.out⟩
              case measure => (simp [intOf]; try omega)
          · have hvl : ¬ vs.length = 0 := fun h => hve (List.length_eq_zero_iff.1 h)
            have hcv := H0.out.2
            obtain ⟨g0, ha0⟩ : ∃ g0, av = some ⟨g0, 0, none⟩ := by
              rcases HV.out with h | ⟨g0, h, _⟩
              · exact absurd h hve
              · exact ⟨g0, h⟩
            subst ha0
            have q2 : (0 : Int) ≤ (vs.length : Int) := by omega
            have q3 : (vs.length : Int) ≤ (cv : Int) := by omega
            go_wp2_with fail
            go_region_held3 (fun W' => W'.cell? ⟨g, 1, none⟩ = some (.pointer a)) (first | exact d1 | exact dA | exact dB | exact dD | exact HC.out _ G8.out)
              (first
              | (go_at_call 14; refine K6.out.mono ?_; rintro e w8 ⟨rfl, hg8⟩; have G8 : Hid _ := fin.out _ hg8; clear hg8))
            all_goals
              go_wp2_with fail
              go_roundw
              case rel => exact ⟨i + 1, by go_num, by omega, fun j hj => by
                by_cases hj2 : j < i
                · exact NO.out j hj2
                · have : j = i := by omega
                  rw [this]; exact hFi, G8.out⟩
              case measure => (simp [intOf]; try omega)
      · have q1 : ¬ (i : Int) < (ws.length : Int) := by omega
        have HR : Hid ((List.range ws.length).any (fun v => F v) = false) := by
          show _ = false
          rw [List.any_eq_false]
          intro j hj
          have := NO.out j (by have := List.mem_range.1 hj; omega)
          simp [this]
        go_wp2_with fail
        go_ret
        rw [HR.out]
        exact ⟨rfl, GR.out⟩

end Go.Proofs.Ytaommgnlnfhbfaa
