/- The program's 'of' over numbers: what comes out is the transducer whose states are numbered as they are come to. -/
import Derived.Test.YtodcmlcpicabaaaTlOfR
import Derived.BigRegion
import Derived.Deep.RegionWith
import Derived.Deep.RegionHeld3
import Derived.Deep.RegionLaw
import Derived.Deep.DeepCutAuto
namespace Go.Proofs.Ytodcmlcpicabaaa
open Go.RowKit
set_option linter.unusedVariables false
set_option linter.unusedSimpArgs false

attribute [local go_sem ↓] appY_fold in
set_option maxHeartbeats 6400000 in
set_option maxRecDepth 100000 in
theorem ofP_any (lo l x0 n : Nat) (δ : Nat → Nat → Nat) (σ : Nat → Nat → List Int) (ε : Nat → List Int) (p1 p2 : Value) (w : World) (hl : l ≤ 4) (hn : n ≤ 1000) (hx0 : x0 < n) (hδ : ∀ s a, s < n → a < l → δ s a < n) (hσ : ∀ s a, s < n → a < l → (σ s a).length ≤ 1000) (hε : ∀ s, s < n → (ε s).length ≤ 1000)
    (hN : ∀ W, w.grownBy W none → ∀ s a, s < n → a < l → Calls Try.prog 53 #[.int .i64 (s : Nat), .int .i64 (a : Nat), p1, p2] W (StpP (σ s a) (δ s a) W))
    (hM : ∀ W, w.grownBy W none → ∀ s, s < n → Calls Try.prog 54 #[.int .i64 (s : Nat), p1, p2] W (LstP (min lo w.heap.size) (ε s) W)) :
    Calls Try.prog 35 #[.int .i64 l, .int .i64 x0, .func (.func 53) #[] #[p1, p2], .func (.func 54) #[] #[p1, p2]] w (OfTP lo l x0 n δ σ ε w) := by
  have HN : Hid (∀ W, w.grownBy W none → ∀ s a, s < n → a < l → Calls Try.prog 53 #[.int .i64 (s : Nat), .int .i64 (a : Nat), p1, p2] W (StpP (σ s a) (δ s a) W)) := hN
  have HM : Hid (∀ W, w.grownBy W none → ∀ s, s < n → Calls Try.prog 54 #[.int .i64 (s : Nat), p1, p2] W (LstP (min lo w.heap.size) (ε s) W)) := hM
  have HD : Hid (∀ s a, s < n → a < l → δ s a < n) := hδ
  have HS : Hid (∀ s a, s < n → a < l → (σ s a).length ≤ 1000) := hσ
  have HE : Hid (∀ s, s < n → (ε s).length ≤ 1000) := hε
  clear hN hM hδ hσ hε
  obtain ⟨W4, hrun4, hA4, hg4⟩ := ofT_start (w := w) l x0 (by omega)
  have A4 : Hid (OfT lo w.heap.size l W4 (.slice (some ⟨w.heap.size + 1 + 1, 0, none⟩) 1 1) (.slice none 0 0) (.slice none 0 0) (.slice none 0 0) [x0] [] [] [] [] []) := hA4
  have G4 : Hid (w.grownBy W4 none) := hg4
  unfold zer7 at hrun4
  clear hA4 hg4
  obtain ⟨Po, hPo⟩ : ∃ P, P = OfTP lo l x0 n δ σ ε w := ⟨_, rfl⟩
  have HPo : Hid (Po = OfTP lo l x0 n δ σ ε w) := hPo
  rw [← hPo]
  clear hPo
  have hmm := @run_makeMap Try.prog
  go_enter Try.func35, Try.ntmps35
  go_wp2_with fail
  clear hrun4 hmm
  go_loopw [10, 12] (fun v i wr => OutR lo δ σ ε l x0 w v i wr) (fun _ i _ => n - (intOf i).toNat)
  case atStart => exact OutR.start A4.out G4.out
  case round =>
    clear A4 G4
    obtain ⟨k, xs, aS, cS, aN, cN, aY, cY, aE, cE, rs, ys, es, hxs, rfl, rfl, hk, hgo, hO, hA, hg⟩ := hrel
    have hnd : xs.length ≤ n := by
      have h1 := bfsL_nodup id δ l x0 k
      rw [hxs] at h1
      exact nodup_le n xs (by simpa using h1) (fun y hy => bfsL_lt id HD.out hx0 k y (by rw [hxs]; exact hy))
    have HXS : Hid (bfsL id δ l x0 k = xs) := hxs
    have HGo : Hid (∀ j, j < k → j < (bfsL id δ l x0 j).length) := hgo
    have HO : Hid (OutT δ σ ε l x0 k rs ys es) := hO
    have A : Hid (OfT lo w.heap.size l wr (.slice aS xs.length cS) (.slice aN k cN) (.slice aY k cY) (.slice aE k cE) xs rs ys es [] []) := hA
    have G : Hid (w.grownBy wr none) := hg
    clear hxs hgo hO hA hg
    by_cases hlt : k < xs.length
    · have hki : (k : Int) < (xs.length : Int) := by omega
      have hxn : xs.getD k 0 < n := bfsL_lt id HD.out hx0 k _ (by rw [HXS.out]; exact getD_mem hlt)
      obtain ⟨x, hx⟩ : ∃ x, xs.getD k 0 = x := ⟨_, rfl⟩
      rw [hx] at hxn
      have HX : Hid (xs.getD k 0 = x) := hx
      clear hx
      have hm1 := fun W => make_intsT W l (by omega)
      have hm2 := fun W => make_rowsT W l (by omega)
      go_wp2_with fail
      go_cut [13, 14] (fun v13 v14 wc => TwoR lo w.heap.size l w (.slice aS xs.length cS) (.slice aN k cN) (.slice aY k cY) (.slice aE k cE) xs rs ys es v13 v14 wc)
      case first =>
        have T1 := TwoR.ab A.out G.out hl
        have T2 := TwoR.ba A.out G.out hl
        go_region
        all_goals
          go_wp2_with fail
          go_meet
          case rel => first | exact T1 | exact T2
      case rest =>
        clear A G hm1 hm2
        obtain ⟨gr, gy, rfl, rfl, hA, hg⟩ := hcut
        have A5 : Hid (OfT lo w.heap.size l wc (.slice aS xs.length cS) (.slice aN k cN) (.slice aY k cY) (.slice aE k cE) xs rs ys es [(3, .slice (some ⟨gr, 0, none⟩) l l, vals (List.replicate l 0)), (22, .slice (some ⟨gy, 0, none⟩) l l, valsT (List.replicate l (none, 0, [])))] []) := hA
        have G5 : Hid (w.grownBy wc none) := hg
        clear hA hg
        go_wp2_with fail
        go_loopw [10, 38] (fun v i wq => InR lo δ σ l w (.slice aN k cN) (.slice aY k cY) (.slice aE k cE) x xs rs ys es gr gy v i wq) (fun _ i _ => l - (intOf i).toNat)
        case atStart => exact InR.start A5.out G5.out
        case round =>
          clear A5 G5
          obtain ⟨a, zs, aS, cS, ps, hys, rfl, rfl, ha, hI, hA, hg⟩ := hrel
          obtain ⟨zz, hzz⟩ := rowL_more id δ x a xs
          have hyn : ∀ y, y ∈ zs → y < n := fun y hy => rowL_lt (κ := id) HD.out hxn (fun z hz => bfsL_lt id HD.out hx0 k z (by rw [HXS.out]; exact hz)) ha y (by rw [hys]; exact hy)
          have hynd : zs.length ≤ n := by
            have h1 := bfsL_nodup id δ l x0 k
            rw [HXS.out] at h1
            have h2 := rowL_nodup (κ := id) (δ := δ) (x := x) h1 a
            rw [hys] at h2
            exact nodup_le n zs (by simpa using h2) hyn
          have hky : k < zs.length := by rw [← hys, hzz]; simp; omega
          have hgx : zs.getD k 0 = x := by rw [← hys, hzz, getD_app _ hlt]; exact HX.out
          have HYS : Hid (rowL id δ x a xs = zs) := hys
          have HI : Hid (InT σ l x a ps) := hI
          have A : Hid (OfT lo w.heap.size l wr (.slice aS zs.length cS) (.slice aN k cN) (.slice aY k cY) (.slice aE k cE) zs rs ys es [(3, .slice (some ⟨gr, 0, none⟩) l l, vals (nxR δ l x a zs)), (22, .slice (some ⟨gy, 0, none⟩) l l, valsT ps)] ps) := hA
          have G : Hid (w.grownBy wr none) := hg
          obtain ⟨gS, cS', eS, hcS⟩ := A.out.state hky
          rw [hgx] at hcS
          simp only [Value.slice.injEq] at eS
          obtain ⟨rfl, _, rfl⟩ := eS
          have HGX : Hid (zs.getD k 0 = x) := hgx
          clear hys hA hg hgx hzz hI
          by_cases hal : a < l
          · have hali : (a : Int) < (l : Int) := by omega
            have hkyi : (k : Int) < (zs.length : Int) := by omega
            have hyd : δ x a < n := HD.out x a hxn hal
            have HSL : Hid ((σ x a).length ≤ 1000) := HS.out x a hxn hal
            go_wp2_with fail
            refine (HN.out _ G.out x a hxn hal).mono ?_
            rintro e w6 ⟨av, ks, rfl, hi6, hg6, hn6⟩
            have A6 : Hid (OfT lo w.heap.size l w6 (.slice (some ⟨gS, 0, none⟩) zs.length cS) (.slice aN k cN) (.slice aY k cY) (.slice aE k cE) zs rs ys es [(3, .slice (some ⟨gr, 0, none⟩) l l, vals (nxR δ l x a zs)), (22, .slice (some ⟨gy, 0, none⟩) l l, valsT ps)] ((av, ks, σ x a) :: ps)) := A.out.word hg6 hi6 (fun _ y hy => .inr (hn6 y hy)) ks
            have G6 : Hid (w.grownBy w6 none) := grown_trans G.out hg6
            clear hg6 hi6 hn6 A G hcS
            obtain ⟨hl1, hl2⟩ := A6.out.num.look (y := δ x a) (by omega) (fun z hz => by have := hyn z hz; omega)
            obtain ⟨us, hus⟩ : ∃ us, σ x a = us := ⟨_, rfl⟩
            rw [hus] at A6 ⊢
            have HUS : Hid (σ x a = us) := hus
            clear hus
            by_cases hm : δ x a ∈ zs
            · have hrun := hl1 hm
              have hK : hasK id zs (δ x a) := ⟨_, hm, rfl⟩
              have hI := ix_lt hK
              obtain ⟨⟨⟨u, hu⟩, hfz⟩, ⟨⟨u2, hu2⟩, hfz2⟩, A8, G8, HY1⟩ := in_old A6.out G6.out HYS.out HI.out HUS.out hm hal
              have HA8 : Hid _ := A8
              have HG8 : Hid _ := G8
              have HY1' : Hid _ := HY1
              have hI2 : ix id zs (δ x a) < n := by omega
              clear hl1 hl2 hK A6 A8 G8 HY1
              generalize ix id zs (δ x a) = iy at *
              generalize δ x a = y at *
              generalize us.length = nu at *
              go_wp2_with fail
              go_roundw
              case rel => exact ⟨a + 1, zs, _, _, _, HY1'.out, rfl, by go_num, by omega, HA8.out.1, HA8.out.2, HG8.out⟩
              case measure => simp [intOf]; omega
            · obtain ⟨c0, hrun⟩ := hl2 hm
              obtain ⟨W7, hup, hN7, hg7⟩ := A6.out.num.put (y := δ x a) (by omega) (fun z hz => by have := hyn z hz; omega) hm (by omega)
              obtain ⟨g, cap, W8, hap, ⟨⟨u, hu⟩, hfz⟩, ⟨⟨u2, hu2⟩, hfz2⟩, A8, G8, HY1⟩ := in_new A6.out G6.out HYS.out HI.out HUS.out hm hal (by omega) hN7 hg7
              have HA8 : Hid _ := A8
              have HG8 : Hid _ := G8
              have HY1' : Hid _ := HY1
              clear hl1 hl2 A6 A8 G8 HY1 hm hN7 hg7
              generalize hyy : δ x a = y at *
              clear hyy
              generalize us.length = nu at *
              go_wp2_with fail
              go_roundw
              case rel => exact ⟨a + 1, zs ++ [y], some ⟨g, 0, none⟩, cap, _, HY1'.out, by simp, by go_num, by omega, HA8.out.1, by simpa using HA8.out.2, HG8.out⟩
              case measure => simp [intOf]; omega
          · have hal2 : a = l := by omega
            have hali : ¬ (a : Int) < (l : Int) := by omega
            have HY1 : Hid (bfsL id δ l x0 (k + 1) = zs) := by
              show _ = _
              simp only [bfsL]
              rw [HXS.out, if_pos hlt, HX.out, ← hal2]
              exact HYS.out
            have HO2 := HO.out
            obtain ⟨g1, c1, W9, hap1, ⟨e1, f1⟩, hA9, hG9⟩ := A.out.appN rfl (by have := HO2.rl; omega) rfl G.out
            rw [HO2.rl] at hap1 hA9 hG9
            clear HO2 hcS
            obtain ⟨d0, d1, d2, d3, d4, d5, d6, dz⟩ := A.out.cells
            have d4' := fun ob => (grown_alloc wr ob).cell d4 (by simp)
            have A9 : Hid _ := hA9
            have G9 : Hid _ := hG9
            clear hA9 hG9 A G d0 d1 d2 d3 d5 d6 dz
            go_upto_region 19 with fail
            obtain ⟨W10, hW10⟩ : ∃ W, W = W9.setCell ⟨w.heap.size + 1, 4, none⟩ (.slice (some ⟨g1, 0, none⟩) (k + 1) c1) := ⟨_, rfl⟩
            rw [← hW10]
            rw [← hW10] at A9 G9
            clear hW10 hap1 e1 f1 d4 d4'
            have HO2 := HO.out
            obtain ⟨g2, c2, W9b, hap2, ⟨e2, f2⟩, hA10, hG10⟩ := A9.out.appY rfl (by have := HO2.yl; omega) rfl G9.out
            rw [HO2.yl] at hap2 hA10 hG10
            clear HO2
            obtain ⟨d0, d1, d2, d3, d4, d5, d6, dz⟩ := A9.out.cells
            have d5' := fun ob => (grown_alloc W10 ob).cell d5 (by simp)
            have A10 : Hid _ := hA10
            have G10 : Hid _ := hG10
            clear hA10 hG10 A9 G9 d0 d1 d2 d3 d4 d6 dz
            go_upto_region 20 with fail
            obtain ⟨W11, hW11⟩ : ∃ W, W = W9b.setCell ⟨w.heap.size + 1, 5, none⟩ (.slice (some ⟨g2, 0, none⟩) (k + 1) c2) := ⟨_, rfl⟩
            rw [← hW11]
            rw [← hW11] at A10 G10
            clear hW11 hap2 e2 f2 d5 d5'
            have A11 : Hid (OfT lo w.heap.size l W11 (.slice (some ⟨gS, 0, none⟩) zs.length cS) (.slice (some ⟨g1, 0, none⟩) (k + 1) c1) (.slice (some ⟨g2, 0, none⟩) (k + 1) c2) (.slice aE k cE) zs (rs ++ [(.slice (some ⟨gr, 0, none⟩) l l, nxR δ l x a zs)]) (ys ++ [(.slice (some ⟨gy, 0, none⟩) l l, ps)]) es [] []) := A10.out
            have G11 : Hid (w.grownBy W11 none) := G10.out
            clear A10 G10
            have x0' := A11.out.cells.2.2.2.2.2.2.1
            have x0'' : W11.drew.cell? ⟨w.heap.size + 1, 6, none⟩ = some (.slice aE k cE) := (grown_drew (grown_refl W11 none)).cell x0' (by simp)
            have S0 : Hid (SOf gS k x W11) := by
              obtain ⟨gS', cS', eS, hcS⟩ := A11.out.state hky
              simp only [Value.slice.injEq, Option.some.injEq, Addr.mk.injEq] at eS
              obtain ⟨⟨rfl, _⟩, _⟩ := eS
              rw [HGX.out] at hcS
              exact hcS
            have hkyi : (k : Int) < (zs.length : Int) := by omega
            have HAp := end_round A11.out G11.out HO.out HI.out HXS.out HX.out HY1.out HGo.out hal2 hlt (by omega) hky HGX.out
            clear x0'
            refine wp_region_held_drew (S := SOf gS k x) (by kernel_rfl) (S0.out.kept (grown_drew (grown_refl _ _))) (fun hHeld => ?_)
            refine wpAnyH_take (i := 0) (v := ?_) rfl (by kernel_rfl) (by kernel_rfl) (by kernel_rfl) (fun _ _ _ h => h) (Or.inl ⟨by rfl, ?_⟩) (by assumption) ?_
            rotate_left
            · intro W hSw
              have q0 := hSw
              unfold SOf at q0
              go_simp
              with_reducible rfl
            try simp only [Act.put, List.getElem_toArray, List.getElem_cons_succ, List.getElem_cons_zero, List.setIfInBounds_toArray, List.set_cons_zero, List.set_cons_succ]
            refine wpAnyH_take (i := 2) (v := ?_) rfl (by kernel_rfl) (by kernel_rfl) (by kernel_rfl) (fun _ _ _ h => h) (Or.inl ⟨by rfl, ?_⟩) (by assumption) ?_
            rotate_left
            · intro W hSw
              have q0 := hSw
              unfold SOf at q0
              go_simp
              with_reducible rfl
            try simp only [Act.put, List.getElem_toArray, List.getElem_cons_succ, List.getElem_cons_zero, List.setIfInBounds_toArray, List.set_cons_zero, List.set_cons_succ]
            refine wpAnyH_take (i := 3) (v := ?_) rfl (by kernel_rfl) (by kernel_rfl) (by kernel_rfl) (fun _ _ _ h => h) (Or.inl ⟨by rfl, ?_⟩) (by assumption) ?_
            rotate_left
            · intro W hSw
              have q0 := hSw
              unfold SOf at q0
              go_simp
              with_reducible rfl
            try simp only [Act.put, List.getElem_toArray, List.getElem_cons_succ, List.getElem_cons_zero, List.setIfInBounds_toArray, List.set_cons_zero, List.set_cons_succ]
            refine wpAnyH_take (i := 4) (v := ?_) rfl (by kernel_rfl) (by kernel_rfl) (by kernel_rfl) (fun _ _ _ h => h) (Or.inl ⟨by rfl, ?_⟩) (by assumption) ?_
            rotate_left
            · intro W hSw
              have q0 := hSw
              unfold SOf at q0
              go_simp
              with_reducible rfl
            try simp only [Act.put, List.getElem_toArray, List.getElem_cons_succ, List.getElem_cons_zero, List.setIfInBounds_toArray, List.set_cons_zero, List.set_cons_succ]
            refine wpAnyH_take (i := 5) (v := ?_) rfl (by kernel_rfl) (by kernel_rfl) (by kernel_rfl) (fun _ _ _ h => h) (Or.inl ⟨by rfl, ?_⟩) (by assumption) ?_
            rotate_left
            · intro W hSw
              have q0 := hSw
              unfold SOf at q0
              go_simp
              with_reducible rfl
            try simp only [Act.put, List.getElem_toArray, List.getElem_cons_succ, List.getElem_cons_zero, List.setIfInBounds_toArray, List.set_cons_zero, List.set_cons_succ]
            refine wpAnyH_take (i := 6) (v := ?_) rfl (by kernel_rfl) (by kernel_rfl) (by kernel_rfl) (fun _ _ _ h => h) (Or.inl ⟨by rfl, ?_⟩) (by assumption) ?_
            rotate_left
            · intro W hSw
              have q0 := hSw
              unfold SOf at q0
              go_simp
              with_reducible rfl
            try simp only [Act.put, List.getElem_toArray, List.getElem_cons_succ, List.getElem_cons_zero, List.setIfInBounds_toArray, List.set_cons_zero, List.set_cons_succ]
            refine wpAnyH_ready (rs := [1, 7]) (by kernel_rfl) (by simp) ?_
            refine AllReadyH.cons (o := _) rfl (fun K' hK => ?_) ?_
            · go_simp
              refine hK.out _ _ (by assumption) (fun hHeld => ?_)
              clear hK K'
              try simp only [Act.put, List.getElem_toArray, List.getElem_cons_succ, List.getElem_cons_zero, List.setIfInBounds_toArray, List.set_cons_zero, List.set_cons_succ]
              refine wpAnyH_ready (rs := [7]) (by kernel_rfl) (by simp) ?_
              refine AllReadyH.cons (o := _) rfl (fun K' hK => ?_) ?_
              · go_simp
                refine (HM.out _ (grown_drew G11.out) x hxn).mono ?_
                rintro E w12 ⟨a12, k12, rfl, hi12, hg12, hn12, hc12⟩
                obtain ⟨x12, g4, c4, w13, hrun4, y4, z4, S8, S9, M9⟩ := HAp.out w12 a12 k12 hg12 hi12 hn12 hc12
                have x12' := fun ob => (grown_alloc w12 ob).cell x12 (by simp)
                have H9 : Hid (W11.drew.grownBy w12 none) := hg12
                clear hi12 hg12 hn12 hc12
                go_wp2_with fail
                refine hK.out _ _ (hHeld.kept H9.out) (fun hHeld => ?_)
                clear hK K'
                try simp only [Act.put, List.getElem_toArray, List.getElem_cons_succ, List.getElem_cons_zero, List.setIfInBounds_toArray, List.set_cons_zero, List.set_cons_succ]
                refine wpAnyH_ready (rs := [8]) (by kernel_rfl) (by simp) ?_
                refine AllReadyH.cons (o := _) rfl (fun K' hK => ?_) ?_
                · go_simp
                  refine hK.out _ _ (hHeld.kept (grown_alloc _ _)) (fun hHeld => ?_)
                  clear hK K'
                  try simp only [Act.put, List.getElem_toArray, List.getElem_cons_succ, List.getElem_cons_zero, List.setIfInBounds_toArray, List.set_cons_zero, List.set_cons_succ]
                  refine wpAnyH_ready (rs := [9]) (by kernel_rfl) (by simp) ?_
                  refine AllReadyH.cons (o := _) rfl (fun K' hK => ?_) ?_
                  · go_simp
                    refine hK.out _ _ (S8.out) (fun hHeld => ?_)
                    clear hK K'
                    try simp only [Act.put, List.getElem_toArray, List.getElem_cons_succ, List.getElem_cons_zero, List.setIfInBounds_toArray, List.set_cons_zero, List.set_cons_succ]
                    refine wpAnyH_take (i := 10) (v := ?_) rfl (by kernel_rfl) (by kernel_rfl) (by kernel_rfl) (fun _ _ _ h => h) (Or.inl ⟨by rfl, ?_⟩) (by assumption) ?_
                    rotate_left
                    · intro W hSw
                      have q0 := hSw
                      unfold SOf at q0
                      go_simp
                      with_reducible rfl
                    try simp only [Act.put, List.getElem_toArray, List.getElem_cons_succ, List.getElem_cons_zero, List.setIfInBounds_toArray, List.set_cons_zero, List.set_cons_succ]
                    refine wpAnyH_ready (rs := [11]) (by kernel_rfl) (by simp) ?_
                    refine AllReadyH.cons (o := _) rfl (fun K' hK => ?_) ?_
                    · go_simp
                      refine hK.out _ _ (S9.out) (fun hHeld => ?_)
                      clear hK K'
                      try simp only [Act.put, List.getElem_toArray, List.getElem_cons_succ, List.getElem_cons_zero, List.setIfInBounds_toArray, List.set_cons_zero, List.set_cons_succ]
                      refine wpAnyH_done (by kernel_rfl) ?_ _
                      go_wp2_with fail
                      go_roundw
                      case rel => exact M9.out
                      case measure => simp [intOf]; omega
                    exact AllReadyH.nil
                  exact AllReadyH.nil
                exact AllReadyH.nil
              exact AllReadyH.nil
            refine AllReadyH.cons (o := _) rfl (fun K' hK => ?_) ?_
            · go_simp
              refine (HM.out _ (grown_drew G11.out) x hxn).mono ?_
              rintro E w12 ⟨a12, k12, rfl, hi12, hg12, hn12, hc12⟩
              obtain ⟨x12, g4, c4, w13, hrun4, y4, z4, S8, S9, M9⟩ := HAp.out w12 a12 k12 hg12 hi12 hn12 hc12
              have x12' := fun ob => (grown_alloc w12 ob).cell x12 (by simp)
              have H9 : Hid (W11.drew.grownBy w12 none) := hg12
              clear hi12 hg12 hn12 hc12
              go_wp2_with fail
              refine hK.out _ _ (hHeld.kept H9.out) (fun hHeld => ?_)
              clear hK K'
              try simp only [Act.put, List.getElem_toArray, List.getElem_cons_succ, List.getElem_cons_zero, List.setIfInBounds_toArray, List.set_cons_zero, List.set_cons_succ]
              refine wpAnyH_ready (rs := [1, 8]) (by kernel_rfl) (by simp) ?_
              refine AllReadyH.cons (o := _) rfl (fun K' hK => ?_) ?_
              · go_simp
                refine hK.out _ _ (by assumption) (fun hHeld => ?_)
                clear hK K'
                try simp only [Act.put, List.getElem_toArray, List.getElem_cons_succ, List.getElem_cons_zero, List.setIfInBounds_toArray, List.set_cons_zero, List.set_cons_succ]
                refine wpAnyH_ready (rs := [8]) (by kernel_rfl) (by simp) ?_
                refine AllReadyH.cons (o := _) rfl (fun K' hK => ?_) ?_
                · go_simp
                  refine hK.out _ _ (hHeld.kept (grown_alloc _ _)) (fun hHeld => ?_)
                  clear hK K'
                  try simp only [Act.put, List.getElem_toArray, List.getElem_cons_succ, List.getElem_cons_zero, List.setIfInBounds_toArray, List.set_cons_zero, List.set_cons_succ]
                  refine wpAnyH_ready (rs := [9]) (by kernel_rfl) (by simp) ?_
                  refine AllReadyH.cons (o := _) rfl (fun K' hK => ?_) ?_
                  · go_simp
                    refine hK.out _ _ (S8.out) (fun hHeld => ?_)
                    clear hK K'
                    try simp only [Act.put, List.getElem_toArray, List.getElem_cons_succ, List.getElem_cons_zero, List.setIfInBounds_toArray, List.set_cons_zero, List.set_cons_succ]
                    refine wpAnyH_take (i := 10) (v := ?_) rfl (by kernel_rfl) (by kernel_rfl) (by kernel_rfl) (fun _ _ _ h => h) (Or.inl ⟨by rfl, ?_⟩) (by assumption) ?_
                    rotate_left
                    · intro W hSw
                      have q0 := hSw
                      unfold SOf at q0
                      go_simp
                      with_reducible rfl
                    try simp only [Act.put, List.getElem_toArray, List.getElem_cons_succ, List.getElem_cons_zero, List.setIfInBounds_toArray, List.set_cons_zero, List.set_cons_succ]
                    refine wpAnyH_ready (rs := [11]) (by kernel_rfl) (by simp) ?_
                    refine AllReadyH.cons (o := _) rfl (fun K' hK => ?_) ?_
                    · go_simp
                      refine hK.out _ _ (S9.out) (fun hHeld => ?_)
                      clear hK K'
                      try simp only [Act.put, List.getElem_toArray, List.getElem_cons_succ, List.getElem_cons_zero, List.setIfInBounds_toArray, List.set_cons_zero, List.set_cons_succ]
                      refine wpAnyH_done (by kernel_rfl) ?_ _
                      go_wp2_with fail
                      go_roundw
                      case rel => exact M9.out
                      case measure => simp [intOf]; omega
                    exact AllReadyH.nil
                  exact AllReadyH.nil
                exact AllReadyH.nil
              refine AllReadyH.cons (o := _) rfl (fun K' hK => ?_) ?_
              · go_simp
                refine hK.out _ _ (hHeld.kept (grown_alloc _ _)) (fun hHeld => ?_)
                clear hK K'
                try simp only [Act.put, List.getElem_toArray, List.getElem_cons_succ, List.getElem_cons_zero, List.setIfInBounds_toArray, List.set_cons_zero, List.set_cons_succ]
                refine wpAnyH_ready (rs := [1]) (by kernel_rfl) (by simp) ?_
                refine AllReadyH.cons (o := _) rfl (fun K' hK => ?_) ?_
                · go_simp
                  refine hK.out _ _ (by assumption) (fun hHeld => ?_)
                  clear hK K'
                  try simp only [Act.put, List.getElem_toArray, List.getElem_cons_succ, List.getElem_cons_zero, List.setIfInBounds_toArray, List.set_cons_zero, List.set_cons_succ]
                  refine wpAnyH_ready (rs := [9]) (by kernel_rfl) (by simp) ?_
                  refine AllReadyH.cons (o := _) rfl (fun K' hK => ?_) ?_
                  · go_simp
                    refine hK.out _ _ (S8.out) (fun hHeld => ?_)
                    clear hK K'
                    try simp only [Act.put, List.getElem_toArray, List.getElem_cons_succ, List.getElem_cons_zero, List.setIfInBounds_toArray, List.set_cons_zero, List.set_cons_succ]
                    refine wpAnyH_take (i := 10) (v := ?_) rfl (by kernel_rfl) (by kernel_rfl) (by kernel_rfl) (fun _ _ _ h => h) (Or.inl ⟨by rfl, ?_⟩) (by assumption) ?_
                    rotate_left
                    · intro W hSw
                      have q0 := hSw
                      unfold SOf at q0
                      go_simp
                      with_reducible rfl
                    try simp only [Act.put, List.getElem_toArray, List.getElem_cons_succ, List.getElem_cons_zero, List.setIfInBounds_toArray, List.set_cons_zero, List.set_cons_succ]
                    refine wpAnyH_ready (rs := [11]) (by kernel_rfl) (by simp) ?_
                    refine AllReadyH.cons (o := _) rfl (fun K' hK => ?_) ?_
                    · go_simp
                      refine hK.out _ _ (S9.out) (fun hHeld => ?_)
                      clear hK K'
                      try simp only [Act.put, List.getElem_toArray, List.getElem_cons_succ, List.getElem_cons_zero, List.setIfInBounds_toArray, List.set_cons_zero, List.set_cons_succ]
                      refine wpAnyH_done (by kernel_rfl) ?_ _
                      go_wp2_with fail
                      go_roundw
                      case rel => exact M9.out
                      case measure => simp [intOf]; omega
                    exact AllReadyH.nil
                  exact AllReadyH.nil
                exact AllReadyH.nil
              exact AllReadyH.nil
            exact AllReadyH.nil
    · have hke : k = xs.length := by omega
      have hki : ¬ (k : Int) < (xs.length : Int) := by omega
      have HEnd : Hid (IsEnd (bfsL id δ l x0) k) := ⟨by rw [HXS.out]; exact hke.symm, HGo.out⟩
      obtain ⟨d0, d1, d2, d3, d4, d5, d6, dz⟩ := A.out.cells
      obtain ⟨⟨p0, p1, p2, p3, p4, p5, p6⟩, fz, W9, hW9, g9, q0, q1, q2, q3, q4, q5, q6⟩ := seven_store A.out.res (.int .i64 (l : Int)) (.int .i64 0) (.int .i64 0) (.slice none 0 0) (.slice aN k cN) (.slice aY k cY) (.slice aE k cE)
      have F : Hid (Po (.returned (tnV (l : Int) 0 0 none 0 0 aN k cN aY k cY aE k cE)) W9) := by
        show Po _ _
        rw [HPo.out]
        exact end_all A.out G.out HO.out HEnd.out HXS.out (by omega) HS.out HE.out (fun y hy => bfsL_lt id HD.out hx0 k y hy) g9
      have HW9 : Hid (W9 = _) := hW9
      have f0 := fz 0
      have f1 := fz 1
      have f2 := fz 2
      have f3 := fz 3
      have f4 := fz 4
      have f5 := fz 5
      have f6 := fz 6
      clear g9 dz fz hke A G hW9
      go_wp2_with fail
      rw [← HW9.out]
      exact bodyPost_ret (v := tnV (l : Int) 0 0 none 0 0 aN k cN aY k cY aE k cE) (by simp [results, Try.results35, go_sem, q0, q1, q2, q3, q4, q5, q6]) rfl F.out

end Go.Proofs.Ytodcmlcpicabaaa
