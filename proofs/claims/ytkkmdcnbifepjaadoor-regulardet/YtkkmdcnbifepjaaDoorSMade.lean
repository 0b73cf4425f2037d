/- The reference's Sets: sets of states as states, made least. -/
import Derived.Test.YtkkmdcnbifepjaaDoorSMadeD
namespace Go.Proofs.YtkkmdcnbifepjaaDoor
open Go.RowKit
set_option linter.unusedVariables false
attribute [local go_sem ↓] app_fold

set_option maxHeartbeats 6400000 in
set_option maxRecDepth 100000 in
theorem setsR_any (x : Aut) (l nS q0 : Nat) (hL : x.L = l) (hN : x.N = nS) (h8 : nS ≤ 11) (hl1 : 1 ≤ l) (hl4 : l ≤ 4) (hmt : x.T.length ≤ 100000) (hGt : InT x.T l nS) (hGf : InR x.F nS) (hS0 : x.S = [(q0 : Int)]) (hq0 : q0 < nS) (a b e : Option Addr) (c d f : Nat) (w : World) (h : AutAt w x a b e) :
    Calls Tryd.prog 27 #[autV l nS a x.S.length c b x.T.length d e x.F.length f] w (LeastPost (dset x.T) (mset x.F) (2 ^ nS) l (2 ^ q0) w) := by
  obtain ⟨K, hK⟩ : ∃ K, K = 2 ^ nS := ⟨_, rfl⟩
  have hK4 : K ≤ 2048 := by rw [hK]; exact Nat.pow_le_pow_right (n := 2) (by omega) h8
  have HK : Hid (K = 2 ^ nS) := hK
  obtain ⟨s, hs⟩ : ∃ s, s = 2 ^ q0 := ⟨_, rfl⟩
  have HSs : Hid (s = 2 ^ q0) := hs
  have hs8' : s < K := by rw [hs, hK]; exact Nat.pow_lt_pow_right (by omega) hq0
  rw [← hK, ← hs]
  have HT : Hid (InT x.T l nS) := hGt
  have HS1 : Hid (x.S = [(q0 : Int)]) := hS0
  have HFi : Hid (InR x.F nS) := hGf
  have HStp : Hid (∀ W, w.grownBy W none → StepsAt W b x.T) := fun W hW => h.steps.grown hW
  have HSta : Hid (∀ W, w.grownBy W none → Ints W a x.S) := fun W hW => h.start.grown hW
  have HFin : Hid (∀ W, w.grownBy W none → Ints W e x.F) := fun W hW => h.final.grown hW
  have HsF : Hid (setOf x.F < K) := hK ▸ setOf_ltK hGf
  have HD : Hid (∀ s k, s < K → k < l → dset x.T s k < K) := fun s k _ _ => hK ▸ orIf_ltK hGt
  have hms := h.ms
  have hmf := h.mf
  unfold maxLen at hms hmf
  clear h hGt hGf hS0 hL hN hK hs
  obtain ⟨L, N, S, T, F⟩ := x
  simp only at *
  obtain ⟨W1, hW1, g1, s1, bx1⟩ := boxA_new w l nS a S.length c b T.length d e F.length f
  obtain ⟨W2, hW2⟩ : ∃ W2, W2 = W1.alloc (.cells #[.int .i64 0, .int .i64 0, .slice none 0 0, .slice none 0 0] 25) := ⟨_, rfl⟩
  have HW2 : Hid (W2 = (w.alloc (.cells #[.int .i64 l, .int .i64 nS, .slice a S.length c, .slice b T.length d, .slice e F.length f] 65)).alloc (.cells #[.int .i64 0, .int .i64 0, .slice none 0 0, .slice none 0 0] 25)) := by show _ = _; rw [hW2, hW1]
  have G2 : Hid (w.grownBy W2 none) := by rw [hW2]; exact grown_trans g1 (grown_alloc _ _)
  have S2 : Hid (W2.heap.size = w.heap.size + 1 + 1) := by show _ = _; rw [hW2, World.size_alloc, s1]
  have BX : Hid (∀ W', W2.grownBy W' none → W'.cell? ⟨w.heap.size, 0, none⟩ = some (.int .i64 l) ∧ W'.cell? ⟨w.heap.size, 1, none⟩ = some (.int .i64 nS) ∧ W'.cell? ⟨w.heap.size, 2, none⟩ = some (.slice a S.length c) ∧ W'.cell? ⟨w.heap.size, 3, none⟩ = some (.slice b T.length d) ∧ W'.cell? ⟨w.heap.size, 4, none⟩ = some (.slice e F.length f)) := fun W' hW' => bx1 W' (grown_trans (by rw [hW2]; exact grown_alloc _ _) hW')
  have RB : Hid (∀ W', W2.grownBy W' none → W'.heap[w.heap.size + 1]? = some (.cells #[.int .i64 0, .int .i64 0, .slice none 0 0, .slice none 0 0] 25 (0, 0))) := fun W' hW' => by
    have h1 := heap_alloc_new W1 (.cells #[.int .i64 0, .int .i64 0, .slice none 0 0, .slice none 0 0] 25)
    rw [← hW2, s1] at h1
    exact (hW'.block _ (by rw [S2.out]; omega) (by simp)).trans h1
  clear hW1 g1 s1 bx1 hW2
  obtain ⟨x0, x1, x2, x3, x4⟩ := BX.out W2 (grown_refl _ _)
  rw [HW2.out] at x0 x1 x2 x3 x4
  have hshK : wrap64 ((2 : Int) ^ nS) = (K : Int) := by rw [HK.out]; exact (IntWalk.i64_left _).symm.trans (pow_wrapP (by omega))
  have hshs : wrap64 ((2 : Int) ^ q0) = (s : Int) := by rw [HSs.out]; exact (IntWalk.i64_left _).symm.trans (pow_wrapP (by omega))
  have hn0 : ¬ (nS : Int) < 0 := by omega
  have hq00 : ¬ (q0 : Int) < 0 := by omega
  obtain ⟨W3, hmk, ho3, hg3⟩ := fil_make K (by omega) W2
  have O3 : Hid (Owns W2.heap.size W3 [(3, .slice (some ⟨W2.heap.size, 0, none⟩) K K, vals (filL K 0))]) := ho3
  have G3 : Hid (W2.grownBy W3 none) := hg3
  rw [HW2.out] at hmk
  go_enter Tryd.func27, Tryd.ntmps27
  go_wp2_with fail
  clear x0 x1 x2 x3 x4 hmk ho3 hg3
  rw [S2.out] at O3
  generalize hgn : w.heap.size + 1 + 1 = gn at *
  have HGE : Hid (w.heap.size + 1 + 1 = gn) := hgn
  have HGN : Hid (W2.heap.size = gn) := S2.out
  clear hgn
  go_loopw [5] (fun v wr => ∃ k : Nat, k ≤ K ∧ v = .int .i64 k ∧ Owns gn wr [(3, .slice (some ⟨gn, 0, none⟩) K K, vals (filL K k))] ∧ W2.grownBy wr none) (fun v _ => K - (intOf v).toNat)
  case atStart => exact ⟨0, by omega, rfl, O3.out, G3.out⟩
  case round =>
    clear O3 G3
    obtain ⟨k, hk, rfl, ho, hg⟩ := hrel
    have O : Hid (Owns gn wr [(3, .slice (some ⟨gn, 0, none⟩) K K, vals (filL K k))]) := ho
    have G : Hid (W2.grownBy wr none) := hg
    clear ho hg
    by_cases hlt : k < K
    · have hki : (k : Int) < (K : Int) := by omega
      obtain ⟨⟨u, hu⟩, hfz, hB, ho4⟩ := fil_step O.out hlt
      have O4 : Hid (Owns gn (wr.setCell ⟨gn, k, none⟩ (.int .i64 (-1))) [(3, .slice (some ⟨gn, 0, none⟩) K K, vals (filL K (k + 1)))]) := ho4
      have G4 : Hid (W2.grownBy (wr.setCell ⟨gn, k, none⟩ (.int .i64 (-1))) none) := grown_new G.out (grown_set _ _ _) (by rw [HGN.out]; exact Nat.le_refl _)
      clear ho4
      go_wp2_with fail
      go_roundw
      case rel => exact ⟨k + 1, by omega, by go_num, O4.out, G4.out⟩
      case measure => simp [intOf]; omega
    · have hki : ¬ (k : Int) < (K : Int) := by omega
      have hke : k = K := by omega
      have hown : Owns W2.heap.size wr [(3, .slice (some ⟨gn, 0, none⟩) K K, vals (filL K K))] := by have h1 := O.out; rw [hke] at h1; rw [HGN.out]; exact h1
      obtain ⟨gS0, cap0, w4, hrun4, hc4, ⟨u, hu⟩, hfz, hg4, hA5⟩ := MdAt.begin (l := l) hown G.out hs8' rfl
      obtain ⟨x0, x1, x2, x3, x4⟩ := BX.out wr G.out
      obtain ⟨bb, off, hab, hcs⟩ := (HSta.out wr (grown_trans G2.out G.out)).at (k := 0) (by rw [HS1.out]; simp)
      have hc0 := hcs 0 (by rw [HS1.out]; simp)
      rw [HS1.out] at hc0
      simp only [List.getD_cons_zero, Nat.add_zero] at hc0
      have hsl : S.length = 1 := by rw [HS1.out]; rfl
      rw [hab] at x2
      have G4 : Hid (W2.grownBy (w4.setCell ⟨gn, s, none⟩ (.int .i64 0)) none) := hg4
      obtain ⟨W4, hW4⟩ : ∃ W4, W4 = w4.setCell ⟨gn, s, none⟩ (.int .i64 0) := ⟨_, rfl⟩
      have HW4 : Hid (W4 = w4.setCell ⟨gn, s, none⟩ (.int .i64 0)) := hW4
      rw [← hW4] at hA5 G4
      have hsz4 : W4.heap.size = w4.heap.size := by rw [hW4]; simp [World.setCell]
      rw [← hsz4] at hA5
      have A5 : Hid (MdAt K W4.heap.size l W2 (W4.alloc (.cells #[.int .i64 (l : Int), .int .i64 0, .slice none 0 0, .slice none 0 0] 25)) none 0 0 none 0 0 gn (some ⟨gS0, 0, none⟩) cap0 [s] [] [] []) := hA5
      have hsi : (s : Int) < (K : Int) := by omega
      clear hA5 hW4 hown O G hg4 hsz4 hcs hke
      go_wp2_with fail
      rw [← HW4.out]
      clear x0 x1 x2 x3 x4 hki hk hlt HW4 hu hfz hc4 hrun4 hc0
      go_loop [6, 7] (fun r v => ∃ k y : Nat, k ≤ F.length ∧ v = .int .i64 k ∧ r = .int .i64 y ∧ y = setOf (F.take k)) (fun _ v => F.length - (intOf v).toNat)
      case atStart => exact ⟨0, 0, by omega, rfl, rfl, rfl⟩
      case round =>
        obtain ⟨k, y, hk, rfl, rfl, hy⟩ := hrel
        have HY : Hid (y = setOf (F.take k)) := hy
        have hy8 : y < 2048 := by have h1 := setOf_ltK (inR_take HFi.out k); rw [← HK.out, ← hy] at h1; omega
        obtain ⟨x0, x1, x2, x3, x4⟩ := BX.out _ G4.out
        clear hy
        by_cases hlt : k < F.length
        · have hki : (k : Int) < (F.length : Int) := by omega
          obtain ⟨bb, off, hab, hc⟩ := (HFin.out _ (grown_trans G2.out G4.out)).at hlt
          rw [hab] at x4
          have hck := hc k hlt
          have hin := HFi.out k hlt
          obtain ⟨q, hq⟩ : ∃ q : Nat, F.getD k 0 = q := ⟨(F.getD k 0).toNat, by omega⟩
          have HY2 : Hid (setOf (F.take (k + 1)) = y ||| 2 ^ q) := by show _ = _; rw [setOf_snoc hlt, hq, HY.out]; simp
          rw [hq] at hck hin
          have hq8 : q < 12 := by omega
          have hqi : ¬ (q : Int) < 0 := by omega
          clear hc hab hq hin x0 x1 x2 x3
          go_wp2_with fail
          go_round
          case rel =>
            refine ⟨k + 1, y ||| 2 ^ q, by omega, by go_num, ?_, HY2.out.symm⟩
            rw [show wrap64 ((2 : Int) ^ q) = ((2 ^ q : Nat) : Int) from (IntWalk.i64_left _).symm.trans (pow_wrapP hq8), orP (by omega) (pow_ltP hq8)]
          case measure => simp [intOf]; omega
        · have hki : ¬ (k : Int) < (F.length : Int) := by omega
          have HY2 : Hid (y = setOf F) := by show _ = _; rw [HY.out, List.take_of_length_le (by omega)]
          obtain ⟨W5, hW5⟩ : ∃ W5, W5 = W4.alloc (.cells #[.int .i64 (l : Int), .int .i64 0, .slice none 0 0, .slice none 0 0] 25) := ⟨_, rfl⟩
          have HW5 : Hid (W5 = W4.alloc (.cells #[.int .i64 (l : Int), .int .i64 0, .slice none 0 0, .slice none 0 0] 25)) := hW5
          rw [← hW5] at A5
          clear HY hW5
          go_wp2_with fail
          rw [← HW5.out]
          clear x0 x1 x2 x3 x4 hki hk hlt HW5
          generalize W4.heap.size = bo at *
          obtain ⟨δ, hδ⟩ : ∃ δ, dset T = δ := ⟨_, rfl⟩
          obtain ⟨m, hm⟩ : ∃ m, mset F = m := ⟨_, rfl⟩
          have HDl : Hid (dset T = δ) := hδ
          have HMm : Hid (mset F = m) := hm
          have HD2 : Hid (∀ s k, s < K → k < l → δ s k < K) := by rw [hδ] at HD; exact HD
          clear HD
          go_loopw [3, 9] (fun v i wr => ∃ (k : Nat) (xs : List Nat) (aS : Option Addr) (cS : Nat) (aN : Option Addr) (cN : Nat) (aM : Option Addr) (cM : Nat) (mvs : List (Value × List Int)), bfsL id δ l s k = xs ∧ v = .slice aS xs.length cS ∧ i = .int .i64 k ∧ k ≤ xs.length ∧ (∀ j, j < k → j < (bfsL id δ l s j).length) ∧ mvs.map (·.2) = partR id δ l s k ∧ mvs.length = k ∧ MdAt K bo l W2 wr aN k cN aM k cM gn aS cS xs mvs (partM id δ m l s k) []) (fun _ i _ => K - (intOf i).toNat)
          case atStart => exact ⟨0, [s], some ⟨gS0, 0, none⟩, cap0, none, 0, none, 0, [], rfl, rfl, rfl, by simp, fun j hj => by omega, by simp [partR], rfl, by simpa [partM] using A5.out⟩
          case round =>
            clear A5
            obtain ⟨k, xs, aS, cS, aN, cN, aM, cM, mvs, hxs, rfl, rfl, hk, hgo, hrs, hrl, hA⟩ := hrel
            have hnd : xs.length ≤ K := by
              have h1 := bfsL_nodup id δ l s k
              rw [hxs] at h1
              exact nodup_le K xs (by simpa using h1) (fun y hy => bfsL_lt id HD2.out hs8' k y (by rw [hxs]; exact hy))
            have HXS : Hid (bfsL id δ l s k = xs) := hxs
            have HGo : Hid (∀ j, j < k → j < (bfsL id δ l s j).length) := hgo
            have HRS : Hid (mvs.map (·.2) = partR id δ l s k) := hrs
            have HRL : Hid (mvs.length = k) := hrl
            have A : Hid (MdAt K bo l W2 wr aN k cN aM k cM gn aS cS xs mvs (partM id δ m l s k) []) := hA
            clear hxs hgo hrs hrl hA
            by_cases hlt : k < xs.length
            · have hki : (k : Int) < (xs.length : Int) := by omega
              have hxn : xs.getD k 0 < K := bfsL_lt id HD2.out hs8' k _ (by rw [HXS.out]; exact getD_mem hlt)
              obtain ⟨x, hx⟩ : ∃ x, xs.getD k 0 = x := ⟨_, rfl⟩
              rw [hx] at hxn
              have HX : Hid (xs.getD k 0 = x) := hx
              have A1 : Hid (MdAt K bo l W2 wr aN k cN aM k cM gn aS cS xs mvs (partM id δ m l s k) [(3, .slice none 0 0, vals (nxRow δ xs x 0))]) := A.out.bare
              clear hx A
              go_wp2_with fail
              clear hki
              go_loopw [3, 10, 11] (fun v vn i wr => ∃ (a : Nat) (ys : List Nat) (aS : Option Addr) (cS : Nat) (ag : Option Addr) (cg : Nat), rowL id δ x a xs = ys ∧ v = .slice aS ys.length cS ∧ vn = .slice ag a cg ∧ i = .int .i64 a ∧ a ≤ l ∧ MdAt K bo l W2 wr aN k cN aM k cM gn aS cS ys mvs (partM id δ m l s k) [(3, .slice ag a cg, vals (nxRow δ ys x a))]) (fun _ _ i _ => l - (intOf i).toNat)
              case atStart => exact ⟨0, xs, aS, cS, none, 0, rfl, rfl, rfl, rfl, by omega, A1.out⟩
              case round =>
                clear A1
                rename World => wq
                obtain ⟨a9, ys, aS, cS, ag, cg, hys, rfl, rfl, rfl, ha, hA⟩ := hrel
                obtain ⟨zs, hzs⟩ := rowL_more id δ x a9 xs
                have hyn : ∀ y, y ∈ ys → y < K := fun y hy => rowL_lt (κ := id) HD2.out hxn (fun z hz => bfsL_lt id HD2.out hs8' k z (by rw [HXS.out]; exact hz)) ha y (by rw [hys]; exact hy)
                have hynd : ys.length ≤ K := by
                  have h1 := bfsL_nodup id δ l s k
                  rw [HXS.out] at h1
                  have h2 := rowL_nodup (κ := id) (δ := δ) (x := x) h1 a9
                  rw [hys] at h2
                  exact nodup_le K ys (by simpa using h2) hyn
                have hky : k < ys.length := by rw [← hys, hzs]; simp; omega
                have hgx : ys.getD k 0 = x := by rw [← hys, hzs, getD_app _ hlt]; exact HX.out
                have HYS : Hid (rowL id δ x a9 xs = ys) := hys
                have HYN : Hid (∀ y, y ∈ ys → y < K) := hyn
                have HGX : Hid (ys.getD k 0 = x) := hgx
                have A : Hid (MdAt K bo l W2 wq aN k cN aM k cM gn aS cS ys mvs (partM id δ m l s k) [(3, .slice ag a9 cg, vals (nxRow δ ys x a9))]) := hA
                obtain ⟨x0, x1, x2, x3, x4⟩ := BX.out wq hA.old
                clear hys hA hgx hzs hyn
                by_cases hal : a9 < l
                · have hali : (a9 : Int) < (l : Int) := by omega
                  have hyd : δ x a9 < K := HD2.out x a9 hxn hal
                  go_wp2_with fail
                  clear x0 x1 x2 x3 x4
                  go_loopw [12, 13] (fun v i wr => ∃ (j q : Nat), j ≤ T.length ∧ v = .int .i64 q ∧ i = .int .i64 j ∧ q = orIf (setP x a9) (T.take j) ∧ MdAt K bo l W2 wr aN k cN aM k cM gn aS cS ys mvs (partM id δ m l s k) [(3, .slice ag a9 cg, vals (nxRow δ ys x a9))]) (fun _ i _ => T.length - (intOf i).toNat)
                  case atStart => exact ⟨0, 0, by omega, rfl, rfl, rfl, A.out⟩
                  case round =>
                    clear A
                    rename World => wz
                    obtain ⟨j, q, hj, rfl, rfl, hq, hA⟩ := hrel
                    have A : Hid (MdAt K bo l W2 wz aN k cN aM k cM gn aS cS ys mvs (partM id δ m l s k) [(3, .slice ag a9 cg, vals (nxRow δ ys x a9))]) := hA
                    have HQ : Hid (q = orIf (setP x a9) (T.take j)) := hq
                    have hq8 : q < K := hq ▸ (by have h1 := orIf_ltK (p := setP x a9) (inT_take HT.out j); rw [← HK.out] at h1; exact h1)
                    obtain ⟨x0, x1, x2, x3, x4⟩ := BX.out wz hA.old
                    obtain ⟨gS, haS, hcS⟩ := hA.set hky
                    rw [HGX.out] at hcS
                    subst haS
                    clear hq hA
                    by_cases hjl : j < T.length
                    · have hji : (j : Int) < (T.length : Int) := by omega
                      obtain ⟨bb, off, hab, hc⟩ := (HStp.out wz (grown_trans G2.out A.out.old)).at hjl
                      obtain ⟨y0, y1, y2⟩ := hc j hjl
                      rw [hab] at x3
                      obtain ⟨⟨i1, i2⟩, ⟨i3, i4⟩, ⟨i5, i6⟩⟩ := HT.out j hjl
                      have HO := orIf_snoc (p := setP x a9) hjl
                      rw [← HQ.out] at HO
                      have HO2 : Hid _ := HO
                      obtain ⟨xx, hxx⟩ : ∃ xx, T.getD j (0, 0, 0) = xx := ⟨_, rfl⟩
                      rw [hxx] at y0 y1 y2 i1 i2 i3 i4 i5 i6 HO2
                      clear hxx hc hab HO
                      obtain ⟨ff, ll, tt⟩ := xx
                      simp only at y0 y1 y2 i1 i2 i3 i4 i5 i6
                      obtain ⟨fn, rfl⟩ : ∃ n : Nat, ff = n := ⟨ff.toNat, by omega⟩
                      obtain ⟨ln, rfl⟩ : ∃ n : Nat, ll = n := ⟨ll.toNat, by omega⟩
                      obtain ⟨tn, rfl⟩ : ∃ n : Nat, tt = n := ⟨tt.toNat, by omega⟩
                      have htn : tn < 12 := by omega
                      obtain ⟨W6, hW6⟩ : ∃ W6, W6 = wz.alloc (.cells #[.int .i64 fn, .int .i64 ln, .int .i64 tn] 102) := ⟨_, rfl⟩
                      have HW6 : Hid (W6 = wz.alloc (.cells #[.int .i64 fn, .int .i64 ln, .int .i64 tn] 102)) := hW6
                      have hb6 := heap_alloc_new wz (.cells #[.int .i64 fn, .int .i64 ln, .int .i64 tn] 102)
                      rw [← hW6] at hb6
                      have g6 : wz.grownBy W6 none := by rw [hW6]; exact grown_alloc _ _
                      have A6 : Hid (MdAt K bo l W2 W6 aN k cN aM k cM gn (some ⟨gS, 0, none⟩) cS ys mvs (partM id δ m l s k) [(3, .slice ag a9 cg, vals (nxRow δ ys x a9))]) := A.out.kept g6
                      have e0 : W6.cell? ⟨wz.heap.size, 0, none⟩ = some (.int .i64 fn) := by rw [cell_of_row _ _ 0 _ _ (0, 0) hb6]; rfl
                      have e1 : W6.cell? ⟨wz.heap.size, 1, none⟩ = some (.int .i64 ln) := by rw [cell_of_row _ _ 1 _ _ (0, 0) hb6]; rfl
                      have e2 : W6.cell? ⟨wz.heap.size, 2, none⟩ = some (.int .i64 tn) := by rw [cell_of_row _ _ 2 _ _ (0, 0) hb6]; rfl
                      have hc6 : W6.cell? ⟨gS, k, none⟩ = some (.int .i64 (x : Int)) := g6.cell hcS (by simp)
                      have HSP : Hid (setP x a9 ((fn : Int), (ln : Int), (tn : Int)) = (decide (ln = a9) && x.testBit fn)) := by show _ = _; simp [setP]
                      have hkyi : (k : Int) < (ys.length : Int) := by omega
                      have hbit := shr_bitP (s := x) (x := fn) (by omega)
                      have hfn0 : ¬ (fn : Int) < 0 := by omega
                      have htn0 : ¬ (tn : Int) < 0 := by omega
                      clear hW6 hb6 x0 x1 x2 x4 g6 hcS
                      by_cases hll : ln = a9
                      · have hle : ((ln : Int) == (a9 : Int)) = true := by simp [hll]
                        by_cases hb9 : x.testBit fn = true
                        · have HO3 : Hid (orIf (setP x a9) (T.take (j + 1)) = q ||| 2 ^ tn) := by
                            show _ = _
                            rw [HO2.out, if_pos (by rw [HSP.out, hll, hb9]; simp)]
                            simp
                          rw [if_pos hb9] at hbit
                          subst hll
                          clear hb9 HSP HO2
                          go_wp2_with fail
                          rw [← HW6.out]
                          go_quiet (fail)
                          go_wp2_with fail
                          go_roundw
                          case rel =>
                            refine ⟨j + 1, q ||| 2 ^ tn, by omega, ?_, by go_num, HO3.out.symm, A6.out.kept (grown_drewN (grown_refl _ _) _)⟩
                            rw [show wrap64 ((2 : Int) ^ tn) = ((2 ^ tn : Nat) : Int) from (IntWalk.i64_left _).symm.trans (pow_wrapP htn), orP (by omega) (pow_ltP htn)]
                          case measure => simp [intOf]; omega
                        · have HO3 : Hid (orIf (setP x a9) (T.take (j + 1)) = q) := by
                            show _ = _
                            rw [HO2.out, if_neg (by rw [HSP.out]; simp [hb9])]
                          rw [if_neg hb9] at hbit
                          subst hll
                          clear hb9 HSP HO2
                          go_wp2_with fail
                          rw [← HW6.out]
                          go_quiet (fail)
                          go_wp2_with fail
                          go_roundw
                          case rel => exact ⟨j + 1, q, by omega, rfl, by go_num, HO3.out.symm, A6.out.kept (grown_drewN (grown_refl _ _) _)⟩
                          case measure => simp [intOf]; omega
                      · have hle : ((ln : Int) == (a9 : Int)) = false := by simp; omega
                        have HO3 : Hid (orIf (setP x a9) (T.take (j + 1)) = q) := by
                          show _ = _
                          rw [HO2.out, if_neg (by rw [HSP.out]; simp [hll])]
                        clear HSP HO2
                        go_wp2_with fail
                        rw [← HW6.out]
                        go_quiet (fail)
                        go_wp2_with fail
                        go_roundw
                        case rel => exact ⟨j + 1, q, by omega, rfl, by go_num, HO3.out.symm, A6.out.kept (grown_drewN (grown_refl _ _) _)⟩
                        case measure => simp [intOf]; omega
                    · have hji : ¬ (j : Int) < (T.length : Int) := by omega
                      have HQ2 : Hid (δ x a9 = q) := by show _ = _; rw [← HDl.out, HQ.out, List.take_of_length_le (by omega)]; rfl
                      obtain ⟨hnum, hnfz⟩ := A.out.num hq8
                      have HYS2 : Hid (rowL id δ x (a9 + 1) xs = ins id ys q) := by show _ = _; simp only [rowL]; rw [HYS.out, HQ2.out]
                      have HHas : Hid (∀ b, b < a9 → hasK id ys (δ x b)) := fun b hb => by rw [← HYS.out]; exact rowL_has id δ x xs hb
                      clear HQ hcS
                      by_cases hmem : q ∈ ys
                      · rw [if_pos hmem] at hnum
                        have hI : ix id ys q < ys.length := ix_lt (hasK_id.2 hmem)
                        have HY1 : Hid (rowL id δ x (a9 + 1) xs = ys) := by show _ = _; rw [HYS2.out]; exact ins_old (hasK_id.2 hmem)
                        obtain ⟨g9, c9, w9, hrun, hA9⟩ := A.out.putI rfl (by rw [nxRow_len]; omega) (((ix id ys q : Nat) : Int))
                        have A9 : Hid (MdAt K bo l W2 w9 aN k cN aM k cM gn (some ⟨gS, 0, none⟩) cS ys mvs (partM id δ m l s k) [(3, .slice (some ⟨g9, 0, none⟩) (a9 + 1) c9, vals (nxRow δ ys x (a9 + 1)))]) := by
                          have h1 := hA9
                          rw [← HQ2.out, nxRow_snoc] at h1
                          exact h1
                        have hc : ∀ o, (wz.alloc o).cell? ⟨gn, q, none⟩ = some (.int .i64 ((ix id ys q : Nat) : Int)) := fun o => (grown_alloc _ o).cell hnum (by simp)
                        clear hA9 hmem A
                        generalize ix id ys q = iy at *
                        have hiy : ¬ (iy : Int) < 0 := by omega
                        go_wp2_with fail
                        go_roundw
                        case rel => exact ⟨a9 + 1, ys, some ⟨gS, 0, none⟩, cS, some ⟨g9, 0, none⟩, c9, HY1.out, rfl, rfl, by go_num, by omega, A9.out⟩
                        case measure => simp [intOf]; omega
                      · rw [if_neg hmem] at hnum
                        have HNK : Hid (¬ hasK id ys q) := fun h => hmem (hasK_id.1 h)
                        have HY1 : Hid (rowL id δ x (a9 + 1) xs = ys ++ [q]) := by show _ = _; rw [HYS2.out]; exact ins_new HNK.out
                        obtain ⟨g7, c7, w7, hrun7, hA7⟩ := A.out.push hq8 hmem (by omega) rfl
                        obtain ⟨hnum7, _⟩ := hA7.num hq8
                        rw [if_pos (by simp), ix_last HNK.out] at hnum7
                        obtain ⟨g9, c9, w9, hrun, hA9⟩ := hA7.putI rfl (by rw [nxRow_len]; omega) ((ys.length : Nat) : Int)
                        have A9 : Hid (MdAt K bo l W2 w9 aN k cN aM k cM gn (some ⟨g7, 0, none⟩) c7 (ys ++ [q]) mvs (partM id δ m l s k) [(3, .slice (some ⟨g9, 0, none⟩) (a9 + 1) c9, vals (nxRow δ (ys ++ [q]) x (a9 + 1)))]) := by
                          have h1 := hA9
                          have h2 : ((ys.length : Nat) : Int) = ((ix id (ys ++ [q]) (δ x a9) : Nat) : Int) := by rw [HQ2.out, ix_last HNK.out]
                          rw [nxRow_more (y := q) HHas.out, h2, nxRow_snoc] at h1
                          exact h1
                        have hm1 : (-1 : Int) < 0 := by omega
                        clear hA9 hA7 hmem A
                        go_wp2_with fail
                        go_roundw
                        case rel => exact ⟨a9 + 1, ys ++ [q], some ⟨g7, 0, none⟩, c7, some ⟨g9, 0, none⟩, c9, HY1.out, by simp, rfl, by go_num, by omega, A9.out⟩
                        case measure => simp [intOf]; omega
                · have hal2 : l = a9 := by omega
                  subst hal2
                  have hali : ¬ (l : Int) < (l : Int) := by omega
                  have HY1 : Hid (bfsL id δ l s (k + 1) = ys) := by
                    show _ = _
                    simp only [bfsL]
                    rw [HXS.out, if_pos hlt, HX.out]
                    exact HYS.out
                  obtain ⟨g1, rfl⟩ := (at_6 A.out.own).formM List.mem_cons_self (by rw [vals_len, nxRow_len]; omega)
                  obtain ⟨g8, c8, w8, run8, p8, z8, hA8⟩ := A.out.putR rfl (by rw [HRL.out]; omega)
                  obtain ⟨o0, o1, o2, o3, of⟩ := A.out.box
                  have o2a : ∀ o, (wq.alloc o).cell? ⟨bo, 2, none⟩ = some (.slice aN k cN) := fun o => (grown_alloc _ o).cell o2 (by simp)
                  obtain ⟨W8, hW8⟩ : ∃ W8, W8 = w8.setCell ⟨bo, 2, none⟩ (.slice (some ⟨g8, 0, none⟩) (k + 1) c8) := ⟨_, rfl⟩
                  have HW8 : Hid (W8 = w8.setCell ⟨bo, 2, none⟩ (.slice (some ⟨g8, 0, none⟩) (k + 1) c8)) := hW8
                  rw [← hW8] at hA8
                  have A8 : Hid (MdAt K bo l W2 W8 (some ⟨g8, 0, none⟩) (k + 1) c8 aM k cM gn aS cS ys (mvs ++ [(.slice (some ⟨g1, 0, none⟩) l cg, nxRow δ ys x l)]) (partM id δ m l s k) []) := hA8
                  obtain ⟨gS, haS, hcS⟩ := A.out.set hky
                  rw [HGX.out] at hcS
                  subst haS
                  have hkyi : (k : Int) < (ys.length : Int) := by omega
                  have hy8' : y < K := by rw [HY2.out]; exact HsF.out
                  have hand := andP (s := x) (t := y) (by omega) (by omega)
                  have HMx : Hid (m x = decide (x &&& y ≠ 0)) := by show _ = _; rw [← HMm.out, HY2.out]; rfl
                  have HGo2 : Hid (∀ j, j < k + 1 → j < (bfsL id δ l s j).length) := fun j hj => by
                    by_cases e : j = k
                    · subst e; rw [HXS.out]; exact hlt
                    · exact HGo.out j (by omega)
                  have HRS2 : Hid ((mvs ++ [(Value.slice (some ⟨g1, 0, none⟩) l cg, nxRow δ ys x l)]).map (·.2) = partR id δ l s (k + 1)) := by
                    show _ = _
                    rw [partR_step (fun j hj => HGo2.out j (by omega)), List.map_append, HRS.out, HY1.out, HXS.out, HX.out]
                    rfl
                  have HRL2 : Hid ((mvs ++ [(Value.slice (some ⟨g1, 0, none⟩) l cg, nxRow δ ys x l)]).length = k + 1) := by show _ = _; rw [List.length_append, HRL.out]; rfl
                  obtain ⟨qm, hqm⟩ : ∃ qm : Int, (if m x = true then (1 : Int) else 0) = qm := ⟨_, rfl⟩
                  have HPM : Hid (partM id δ m l s (k + 1) = partM id δ m l s k ++ [qm]) := by
                    show _ = _
                    rw [partM_step (HGo2.out k (by omega)), HXS.out, HX.out, hqm]
                  have HML : Hid ((partM id δ m l s k).length ≤ 100000000) := by
                    show _ ≤ _
                    have : (partM id δ m l s k).length ≤ k := by simp only [partM, List.length_map, List.length_take]; omega
                    omega
                  have HWs : Hid (W8.heap.size = w8.heap.size) := by show _ = _; rw [hW8]; simp [World.setCell]
                  obtain ⟨g9, c9, w9, run9, p9, z9, hA9⟩ := A8.out.putM (H := w8.heap.size) HWs.out HML.out qm
                  have A9 : Hid (MdAt K bo l W2 (w9.setCell ⟨bo, 3, none⟩ (.slice (some ⟨g9, 0, none⟩) (k + 1) c9)) (some ⟨g8, 0, none⟩) (k + 1) c8 (some ⟨g9, 0, none⟩) (k + 1) c9 gn (some ⟨gS, 0, none⟩) cS ys (mvs ++ [(.slice (some ⟨g1, 0, none⟩) l cg, nxRow δ ys x l)]) (partM id δ m l s (k + 1)) []) := by
                    show MdAt _ _ _ _ _ _ _ _ _ _ _ _ _ _ _ _ _ _
                    rw [HPM.out]; exact hA9
                  have o3' := A8.out.box.2.2.2.1
                  have o3a : ∀ o, (W8.alloc o).cell? ⟨bo, 3, none⟩ = some (.slice aM k cM) := fun o => (grown_alloc _ o).cell o3' (by simp)
                  clear hA8 hA9 o0 o1 o3 of x1 x2 x3 x4 hW8 HPM HML A A8 hal HYS HYN
                  rw [HW8.out] at o3' o3a run9
                  generalize (x &&& y) = rr at *
                  by_cases hr0 : rr = 0
                  · have hmx : m x = false := by rw [HMx.out]; simp [hr0]
                    rw [hmx] at hqm
                    simp only [Bool.false_eq_true, if_false] at hqm
                    subst hqm hr0
                    clear hmx HMx
                    go_wp2_with fail
                    go_roundw
                    case rel => exact ⟨k + 1, ys, some ⟨gS, 0, none⟩, cS, some ⟨g8, 0, none⟩, c8, some ⟨g9, 0, none⟩, c9, _, HY1.out, rfl, by go_num, by omega, HGo2.out, HRS2.out, HRL2.out, A9.out⟩
                    case measure => simp [intOf]; omega
                  · have hmx : m x = true := by rw [HMx.out]; simp [hr0]
                    rw [hmx] at hqm
                    simp only [if_true] at hqm
                    subst hqm
                    have hrn : ((rr : Int) != 0) = true := by simp [hr0]
                    clear hmx HMx hr0
                    go_wp2_with fail
                    go_roundw
                    case rel => exact ⟨k + 1, ys, some ⟨gS, 0, none⟩, cS, some ⟨g8, 0, none⟩, c8, some ⟨g9, 0, none⟩, c9, _, HY1.out, rfl, by go_num, by omega, HGo2.out, HRS2.out, HRL2.out, A9.out⟩
                    case measure => simp [intOf]; omega
            · have hki : ¬ (k : Int) < (xs.length : Int) := by omega
              have hke : k = xs.length := by omega
              have HEnd : Hid (IsEnd (bfsL id δ l s) k) := ⟨by rw [HXS.out]; exact hke.symm, HGo.out⟩
              have hk6 : k ≤ K := by omega
              have GR : Hid (Good (reachD δ m l s k)) := reachD_good hl1 hl4 (by omega) HD2.out hs8' HEnd.out hk6
              have hrs2 : mvs.map (·.2) = resR id δ l (bfsL id δ l s k) := by rw [HRS.out, partR_end HEnd.out]
              have hml : (resM m (bfsL id δ l s k)).length = k := by simp [resM, HEnd.out.len]
              have D9 : DetAt wr (reachD δ m l s k) aN aM := by
                have h1 := A.out
                rw [partM_end HEnd.out] at h1
                have h3 := h1.whole (fun x hx => by
                  have h4 : x.2 ∈ mvs.map (·.2) := List.mem_map.2 ⟨x, hx, rfl⟩
                  rw [hrs2] at h4
                  obtain ⟨y9, _, hy9⟩ := List.mem_map.1 h4
                  rw [← hy9]; simp [rowR, maxLen]; omega) (by rw [HRL.out]; unfold maxLen; omega) (by rw [hml]; unfold maxLen; omega)
                rw [hrs2] at h3
                exact h3
              have HL : Hid (Calls Tryd.prog 47 #[.agg #[.int .i64 l, .int .i64 0, .slice aN k cN, .slice aM k cM]] wr (LeastPost (reachD δ m l s k).nx (reachD δ m l s k).mk1 k l 0 wr)) := by
                have h1 := leastR_any l 0 (resR id δ l (bfsL id δ l s k)) (resM m (bfsL id δ l s k)) aN aM cN cM wr D9 GR.out
                have e1 : (resR id δ l (bfsL id δ l s k)).length = k := by simp [resR, HEnd.out.len]
                rw [e1, hml] at h1
                exact h1
              obtain ⟨o0, o1, o2, o3, of⟩ := A.out.box
              have G9 : Hid (W2.grownBy wr none) := A.out.old
              clear D9 GR hrs2 hml hke HGo HRS HRL A of
              go_wp2_with fail
              refine HL.out.mono ?_
              rintro E w6 ⟨aR6, cR6, aM6, cM6, rs6, M6, rfl, hlo, hn6, hm6, hr6, ho6, hg6⟩
              have hlo2 := least_reach HD2.out hs8' HEnd.out hlo
              have K6 := RB.out w6 (grown_trans G9.out hg6)
              obtain ⟨r0, r1, r2, r3, rz⟩ := block_cells K6
              have rz0 := rz 0
              have rz1 := rz 1
              have rz2 := rz 2
              have rz3 := rz 3
              obtain ⟨W9, hW9, hg9, q0, q1, q2, q3⟩ := det_store K6 (.int .i64 (l : Int)) (.int .i64 0) (.slice aR6 rs6.length cR6) (.slice aM6 M6.length cM6)
              have hsz : w.heap.size + 1 < wr.heap.size := by have h1 := G9.out.size; have h2 := S2.out; have h3 := HGE.out; omega
              have Fin : Hid (LeastPost (dset T) (mset F) K l s w (.returned (.agg #[.int .i64 l, .int .i64 0, .slice aR6 rs6.length cR6, .slice aM6 M6.length cM6])) W9) := by
                show LeastPost _ _ _ _ _ _ _ _
                rw [HDl.out, HMm.out]
                exact ⟨aR6, cR6, aM6, cM6, rs6, M6, rfl, hlo2, by omega, hm6, hr6, (ho6.below hg9 (by omega)).base (by omega), grown_new (grown_trans (grown_trans G2.out G9.out) hg6) hg9 (by omega)⟩
              clear hlo hlo2 hn6 hm6 hr6 ho6 hg6 hg9 rz K6 HL o0 o1 o2 o3
              generalize rs6.length = nr at *
              generalize M6.length = nm at *
              go_wp2_with fail
              rw [← hW9]
              exact bodyPost_ret (v := .agg #[.int .i64 l, .int .i64 0, .slice aR6 nr cR6, .slice aM6 nm cM6]) (by simp [results, Tryd.results27, go_sem, q0, q1, q2, q3]) rfl Fin.out

end Go.Proofs.YtkkmdcnbifepjaaDoor
