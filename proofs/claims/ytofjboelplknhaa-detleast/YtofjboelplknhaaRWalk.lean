/- The reference's Walked: the pairs that are come to, in the order of their first words. -/
import Derived.Test.YtofjboelplknhaaRWalkD
namespace Go.Proofs.Ytofjboelplknhaa
open Go.RowKit
set_option linter.unusedVariables false
attribute [local go_sem ↓] app_fold

/-- Ahead of the i-th pair, or behind the last. -/
def WkAt (δ δ' : Nat → Nat → Nat) (p q n k l i : Nat) (ws : List (List Nat)) : Prop := (i < ws.length ∧ WInv δ δ' p q n k l ws i 0) ∨ (i = ws.length ∧ WEnd δ δ' p q n k l ws)

set_option maxHeartbeats 1600000 in
set_option maxRecDepth 100000 in
theorem walkedR_any (L S S' : Int) (R R' : List (List Int)) (M M' : List Int) (a a' e e' : Option Addr) (c c' f f' p q : Nat) (w : World) (h : DetAt w ⟨L, S, R, M⟩ a a') (hG : Good ⟨L, S, R, M⟩) (h2 : DetAt w ⟨L, S', R', M'⟩ e e') (hG2 : Good ⟨L, S', R', M'⟩) (hp : p < R.length) (hq : q < R'.length) :
    Calls Try.prog 46 #[.agg #[.int .i64 L, .int .i64 S, .slice a R.length c, .slice a' M.length c'], .agg #[.int .i64 L, .int .i64 S', .slice e R'.length f, .slice e' M'.length f'], .int .i64 (p : Nat), .int .i64 (q : Nat)] w (WalkPost (Dfa.nx ⟨L, S, R, M⟩) (Dfa.nx ⟨L, S', R', M'⟩) p q R.length R'.length L.toNat w) := by
  have hn3 : R.length ≤ 3000 := hG.n3
  have hk3 : R'.length ≤ 3000 := hG2.n3
  have hL4 : 1 ≤ L ∧ L ≤ 4 := ⟨hG.l1, hG.l4⟩
  obtain ⟨l, hl⟩ : ∃ l : Nat, L = l := ⟨L.toNat, by omega⟩
  subst hl
  simp only [Int.toNat_natCast]
  have H : Hid (DetAt w ⟨l, S, R, M⟩ a a') := h
  have GD : Hid (Good ⟨l, S, R, M⟩) := hG
  have H2 : Hid (DetAt w ⟨l, S', R', M'⟩ e e') := h2
  have GD2 : Hid (Good ⟨l, S', R', M'⟩) := hG2
  obtain ⟨δ, hδ⟩ : ∃ δ, Dfa.nx ⟨l, S, R, M⟩ = δ := ⟨_, rfl⟩
  obtain ⟨δ', hδ'⟩ : ∃ δ', Dfa.nx ⟨l, S', R', M'⟩ = δ' := ⟨_, rfl⟩
  obtain ⟨n, hnR⟩ : ∃ n, R.length = n := ⟨_, rfl⟩
  obtain ⟨k, hkR⟩ : ∃ k, R'.length = k := ⟨_, rfl⟩
  have HDl : Hid (Dfa.nx ⟨l, S, R, M⟩ = δ) := hδ
  have HDl' : Hid (Dfa.nx ⟨l, S', R', M'⟩ = δ') := hδ'
  have HRn : Hid (R.length = n) := hnR
  have HRk : Hid (R'.length = k) := hkR
  have HD : Hid (∀ s b, s < n → b < l → δ s b < n) := fun s b hs hb => by
    have := hG.nx_lt (s := s) (a := b) (by rw [HRn.out]; exact hs) (by simp; exact hb)
    rwa [HRn.out, HDl.out] at this
  have HD' : Hid (∀ s b, s < k → b < l → δ' s b < k) := fun s b hs hb => by
    have := hG2.nx_lt (s := s) (a := b) (by rw [HRk.out]; exact hs) (by simp; exact hb)
    rwa [HRk.out, HDl'.out] at this
  have hL1 : 1 ≤ l := by omega
  have hl4 : l ≤ 4 := by omega
  have hpn : p < n := by omega
  have hqk : q < k := by omega
  obtain ⟨m, hm⟩ : ∃ m, n * k = m := ⟨_, rfl⟩
  have HM : Hid (n * k = m) := hm
  have hm9 : m ≤ 9000000 := by
    have h2 := Nat.mul_le_mul (show n ≤ 3000 by omega) (show k ≤ 3000 by omega)
    omega
  have hmul : (n : Int) * (k : Int) = (m : Int) := by rw [← hm]; simp
  have hmulw : IntKind.i64.wrap ((n : Int) * (k : Int)) = (m : Int) := by rw [hmul, IntKind.wrap_i64]; omega
  have HCw : Hid (∀ x y, x < n → y < k → ∃ xk c, x * k = xk ∧ x * k + y = c ∧ c < m ∧ IntKind.i64.wrap ((x : Int) * (k : Int)) = (xk : Int) ∧ IntKind.i64.wrap ((xk : Int) + (y : Int)) = (c : Int)) := fun x y hx hy => by
    have h1 := cod_lt hx hy
    rw [HM.out] at h1
    refine ⟨x * k, x * k + y, rfl, rfl, h1, ?_, ?_⟩
    · rw [show (x : Int) * (k : Int) = ((x * k : Nat) : Int) by simp, IntKind.wrap_i64]; omega
    · rw [show ((x * k : Nat) : Int) + (y : Int) = ((x * k + y : Nat) : Int) by simp, IntKind.wrap_i64]; omega
  obtain ⟨W1, hW1⟩ : ∃ W1, W1 = ((w.alloc (.cells #[.int .i64 l, .int .i64 S, .slice a R.length c, .slice a' M.length c'] 25)).alloc (.cells #[.int .i64 l, .int .i64 S', .slice e R'.length f, .slice e' M'.length f'] 25)).alloc (.cells #[.slice none 0 0, .slice none 0 0, .slice none 0 0] 77) := ⟨_, rfl⟩
  have HW1 : Hid (W1 = _) := hW1
  have HS1 : Hid (W1.heap.size = w.heap.size + 3) := by show _ = _; rw [hW1]; simp
  have Box : Hid (∀ W, W1.grownBy W none → w.grownBy W none ∧ W.cell? ⟨w.heap.size, 0, none⟩ = some (.int .i64 l) ∧ W.cell? ⟨w.heap.size, 2, none⟩ = some (.slice a n c) ∧ W.cell? ⟨w.heap.size + 1, 2, none⟩ = some (.slice e k f)) := fun W hW => by
    rw [hW1] at hW
    have h1 := grown_trans (grown_alloc _ _) hW
    have h3 := grown_trans (grown_alloc _ _) h1
    have b1 := box4 (w := w) h3
    have b2 := box4 h1
    rw [World.size_alloc] at b2
    refine ⟨grown_trans (grown_alloc _ _) h3, b1.1, by rw [← HRn.out]; exact b1.2.2.1, by rw [← HRk.out]; exact b2.2.2.1⟩
  have HZ1 : Hid (∀ W, W1.grownBy W none → W.heap[w.heap.size + 2]? = some (.cells #[.slice none 0 0, .slice none 0 0, .slice none 0 0] 77 (0, 0))) := fun W hW => by
    have h1 := heap_alloc_new ((w.alloc (.cells #[.int .i64 l, .int .i64 S, .slice a R.length c, .slice a' M.length c'] 25)).alloc (.cells #[.int .i64 l, .int .i64 S', .slice e R'.length f, .slice e' M'.length f'] 25)) (.cells #[.slice none 0 0, .slice none 0 0, .slice none 0 0] 77)
    rw [World.size_alloc, World.size_alloc, ← hW1] at h1
    exact (hW.block _ (by rw [HS1.out]; omega) (by simp)).trans h1
  obtain ⟨_, y0, y2, y2'⟩ := Box.out W1 (grown_refl _ _)
  have hmk := make_bools W1 m (by omega)
  clear h hG h2 hG2 hδ hδ' hnR hkR hm hW1
  rw [HRn.out, HRk.out, HDl.out, HDl'.out]
  rw [HRn.out, HRk.out] at HW1
  go_enter Try.func46, Try.ntmps46
  go_wp2_with fail
  rw [← HW1.out]
  obtain ⟨c0k, c0, hck1, hc0, hc0m, hcw1, hcw2⟩ := HCw.out p q hpn hqk
  obtain ⟨gs, hgs⟩ : ∃ gs, W1.heap.size = gs := ⟨_, rfl⟩
  obtain ⟨W2, hW2⟩ : ∃ W2, W2 = W1.alloc (.cells (Array.replicate m (Value.bool false)) 4) := ⟨_, rfl⟩
  obtain ⟨W3, hW3⟩ : ∃ W3, W3 = ((((W2.alloc (.cells #[.int .i64 (p : Int)] 3)).alloc (.cells #[.int .i64 (q : Int)] 3)).alloc (.cells #[] 3)).alloc (.cells #[.slice (some ⟨gs + 1 + 1 + 1, 0, none⟩) 0 0] 23)).alloc (.cells #[.slice (some ⟨gs + 1, 0, none⟩) 1 1, .slice (some ⟨gs + 1 + 1, 0, none⟩) 1 1, .slice (some ⟨gs + 1 + 1 + 1 + 1, 0, none⟩) 1 1] 77) := ⟨_, rfl⟩
  obtain ⟨W4, hW4⟩ : ∃ W4, W4 = (((((W2.setCell ⟨gs, c0, none⟩ (.bool true)).alloc (.cells #[.int .i64 (p : Int)] 3)).alloc (.cells #[.int .i64 (q : Int)] 3)).alloc (.cells #[] 3)).alloc (.cells #[.slice (some ⟨gs + 1 + 1 + 1, 0, none⟩) 0 0] 23)).alloc (.cells #[.slice (some ⟨gs + 1, 0, none⟩) 1 1, .slice (some ⟨gs + 1 + 1, 0, none⟩) 1 1, .slice (some ⟨gs + 1 + 1 + 1 + 1, 0, none⟩) 1 1] 77) := ⟨_, rfl⟩
  have hs2 : W2.heap.size = gs + 1 := by rw [hW2, World.size_alloc, hgs]
  have o2 : Owns W1.heap.size W2 [(4, .slice (some ⟨gs, 0, none⟩) m m, tvals m fun _ => false)] := by
    have o2 := (Owns.no W1.heap.size W1).made (arr := Array.replicate m (Value.bool false)) (n := m) (Nat.le_refl _) 4 (by simp) (by unfold maxLen; omega)
    rw [← hW2, tvals_no, hgs] at o2
    rw [hgs]
    exact o2
  have A4 : Hid (WkSt δ δ' p q n k (gs + 1 + 1 + 1 + 1 + 1) gs W1 W4 [(.slice (some ⟨gs + 1 + 1 + 1, 0, none⟩) 0 0, [])] (some ⟨gs + 1, 0, none⟩) (some ⟨gs + 1 + 1, 0, none⟩) (some ⟨gs + 1 + 1 + 1 + 1, 0, none⟩) 1 1 1) := by
    refine ⟨?_, fun x hx => ?_, ?_⟩
    · have o3 := o2.set hc0m (.bool true)
      rw [tvals_set (g := metB k δ δ' p q [[]]) (metB_iff.2 ⟨[], by simp, hc0⟩) (fun j hj hne => by
        cases hc : metB k δ δ' p q [[]] j with
        | false => rfl
        | true =>
          obtain ⟨u, hu, e⟩ := metB_iff.1 hc
          simp only [List.mem_singleton] at hu
          subst hu
          exact absurd (e.symm.trans hc0) hne)] at o3
      have hs2' : (W2.setCell ⟨gs, c0, none⟩ (.bool true)).heap.size = gs + 1 := by rw [size_set]; exact hs2
      have o4 := o3.made (arr := #[.int .i64 (p : Int)]) (n := 1) (by omega) 3 rfl (by unfold maxLen; omega)
      have o5 := o4.made (arr := #[.int .i64 (q : Int)]) (n := 1) (by rw [World.size_alloc]; omega) 3 rfl (by unfold maxLen; omega)
      have o6 := o5.made (arr := #[]) (n := 0) (by rw [World.size_alloc, World.size_alloc]; omega) 3 rfl (by unfold maxLen; omega)
      have o7 := o6.made (arr := #[.slice (some ⟨gs + 1 + 1 + 1, 0, none⟩) 0 0]) (n := 1) (by rw [World.size_alloc, World.size_alloc, World.size_alloc]; omega) 23 rfl (by unfold maxLen; omega)
      have o8 := o7.made (arr := #[.slice (some ⟨gs + 1, 0, none⟩) 1 1, .slice (some ⟨gs + 1 + 1, 0, none⟩) 1 1, .slice (some ⟨gs + 1 + 1 + 1 + 1, 0, none⟩) 1 1]) (n := 3) (by rw [World.size_alloc, World.size_alloc, World.size_alloc, World.size_alloc]; omega) 77 rfl (by unfold maxLen; omega)
      rw [← hW4] at o8
      simp only [World.size_alloc, hs2'] at o8
      rw [HM.out]
      exact to_6 (at_5 (to_3 (at_5 (to_2 (at_5 o8)))))
    · simp only [List.mem_singleton] at hx
      subst hx
      exact ⟨_, _, rfl⟩
    · rw [hW4]
      have g2 : W1.grownBy (W2.setCell ⟨gs, c0, none⟩ (.bool true)) none := grown_new (by rw [hW2]; exact grown_alloc _ _) (grown_set _ _ _) (Nat.le_of_eq hgs)
      exact grown_trans (grown_trans (grown_trans (grown_trans (grown_trans g2 (grown_alloc _ _)) (grown_alloc _ _)) (grown_alloc _ _)) (grown_alloc _ _)) (grown_alloc _ _)
  have g23 : W2.grownBy W3 none := by
    rw [hW3]
    exact grown_trans (grown_trans (grown_trans (grown_trans (grown_alloc _ _) (grown_alloc _ _)) (grown_alloc _ _)) (grown_alloc _ _)) (grown_alloc _ _)
  have G3 : Hid (W1.grownBy W3 none) := by
    show World.grownBy _ _ _
    rw [hW2] at g23
    exact grown_trans (grown_alloc _ _) g23
  rw [hgs, ← hW2] at hmk
  have HW3 : Hid (W3 = _) := hW3
  have HW4 : Hid (W4 = _) := hW4
  obtain ⟨_, z0, z2, z2'⟩ := Box.out W3 G3.out
  have o3 := o2.kept g23
  have zs := o3.cell (tvals_get (f := fun _ => false) hc0m)
  have zf := o3.fz c0
  clear hW2 hW3 hW4 o2 o3 g23
  rw [HW3.out] at z0 z2 z2' zs zf
  rw [hmk]
  go_wp2_with fail
  rw [← HW4.out]
  clear z0 z2 z2' zs zf hmk G3 HW3 HW4 HW1 hs2 hgs hcw1 hcw2 hck1 hc0 hc0m y0 y2 y2' hmulw hmul hp hq hn3 hk3 hL4
  generalize gs + 1 + 1 + 1 + 1 + 1 = bo at *
  generalize gs + 1 + 1 + 1 + 1 = gW at *
  generalize gs + 1 + 1 + 1 = gE at *
  generalize gs + 1 + 1 = gQ at *
  generalize gs + 1 = gP at *
  go_loopw [11] (fun v11 wr => ∃ (i : Nat) (rs : List (Value × List Nat)) (aP aQ aW : Option Addr) (cP cQ cW : Nat), v11 = .int .i64 i ∧ WkSt δ δ' p q n k bo gs W1 wr rs aP aQ aW cP cQ cW ∧ WkAt δ δ' p q n k l i (rs.map (·.2))) (fun v11 _ => m - (intOf v11).toNat)
  case atStart => exact ⟨0, _, _, _, _, _, _, _, rfl, A4.out, .inl ⟨by simp, WInv.start hpn hqk l⟩⟩
  case round =>
    clear A4
    obtain ⟨i, rs, aP, aQ, aW, cP, cQ, cW, rfl, hS, hA⟩ := hrel
    obtain ⟨hgw, y0, y2, y2'⟩ := Box.out wr hS.old
    obtain ⟨x0, x1, x2⟩ := hS.box
    have ST : Hid (WkSt δ δ' p q n k bo gs W1 wr rs aP aQ aW cP cQ cW) := hS
    obtain ⟨N, hN⟩ : ∃ N, rs.length = N := ⟨_, rfl⟩
    rw [hN] at x0 x1 x2
    have HN : Hid (rs.length = N) := hN
    rcases hA with ⟨hi, hinv⟩ | ⟨hi, hend⟩
    · have hle := hinv.len
      rw [List.length_map, hN, HM.out] at hle
      rw [List.length_map, hN] at hi
      have hii : (i : Int) < (N : Int) := by omega
      have WI : Hid (WInv δ δ' p q n k l (rs.map (·.2)) i 0) := hinv
      have hN9 : (N : Int) ≤ 9000000 := by omega
      clear hinv hS hgw hN
      go_wp2_with fail
      clear y0 y2 y2' x0 x1 x2 hii
      go_loopw [12] (fun v12 wr => ∃ (b : Nat) (rs : List (Value × List Nat)) (aP aQ aW : Option Addr) (cP cQ cW : Nat), v12 = .int .i64 b ∧ b ≤ l ∧ WkSt δ δ' p q n k bo gs W1 wr rs aP aQ aW cP cQ cW ∧ WInv δ δ' p q n k l (rs.map (·.2)) i b) (fun v12 _ => l - (intOf v12).toNat)
      case atStart => exact ⟨0, _, _, _, _, _, _, _, rfl, by omega, ST.out, WI.out⟩
      case round =>
        clear ST WI HN hN9 hle hi
        obtain ⟨b, rs, aP, aQ, aW, cP, cQ, cW, rfl, hb, hS, hinv⟩ := hrel
        have hle := hinv.len
        have hi := hinv.trail.walk.len
        rw [List.length_map] at hle hi
        rw [HM.out] at hle
        have hlu := hinv.lt _ (getD_memL (d := []) (by rw [List.length_map]; exact hi))
        have hul := hinv.long i (by rw [List.length_map]; exact hi)
        obtain ⟨gP, gQ, gW, gz, cz, haP, haQ, haW, r0, r1, r2, hzm⟩ := hS.reads hi
        subst haP haQ haW
        obtain ⟨hgw, y0, y2, y2'⟩ := Box.out wr hS.old
        obtain ⟨x0, x1, x2⟩ := hS.box
        have ST : Hid (WkSt δ δ' p q n k bo gs W1 wr rs (some ⟨gP, 0, none⟩) (some ⟨gQ, 0, none⟩) (some ⟨gW, 0, none⟩) cP cQ cW) := hS
        have WI : Hid (WInv δ δ' p q n k l (rs.map (·.2)) i b) := hinv
        obtain ⟨N, hN⟩ : ∃ N, rs.length = N := ⟨_, rfl⟩
        obtain ⟨u, hu⟩ : ∃ u, (rs.map (·.2)).getD i [] = u := ⟨_, rfl⟩
        rw [hN] at x0 x1 x2 hi hle
        rw [hu] at r0 r1 r2 hzm hlu hul
        have HN : Hid (rs.length = N) := hN
        have HU : Hid ((rs.map (·.2)).getD i [] = u) := hu
        have HZ : Hid _ := hzm
        have hii : (i : Int) < (N : Int) := by omega
        clear hinv hS hN hu hzm
        by_cases hbl : b < l
        · have hbi : (b : Int) < (l : Int) := by omega
          obtain ⟨sx, hsx⟩ : ∃ sx, u.foldl δ p = sx := ⟨_, rfl⟩
          obtain ⟨sy, hsy⟩ : ∃ sy, u.foldl δ' q = sy := ⟨_, rfl⟩
          rw [hsx] at r0 hlu
          rw [hsy] at r1 hlu
          obtain ⟨hsxn, hsyk⟩ := hlu
          obtain ⟨bR, oR, bx, ox, cx, haR, s1, s2⟩ := step_reads (l := b) (H.out.grown hgw) GD.out (show sx < R.length by rw [HRn.out]; exact hsxn) hbi
          subst haR
          obtain ⟨bR', oR', bY, oY, cY, haR', s3, s4⟩ := step_reads (l := b) (H2.out.grown hgw) GD2.out (show sy < R'.length by rw [HRk.out]; exact hsyk) hbi
          subst haR'
          rw [HDl.out] at s2
          rw [HDl'.out] at s4
          simp only [Int.toNat_natCast] at s1 s3
          have hdx := HD.out sx b hsxn hbl
          have hdy := HD'.out sy b hsyk hbl
          obtain ⟨dx, hdxe⟩ : ∃ dx, δ sx b = dx := ⟨_, rfl⟩
          obtain ⟨dy, hdye⟩ : ∃ dy, δ' sy b = dy := ⟨_, rfl⟩
          rw [hdxe] at hdx s2
          rw [hdye] at hdy s4
          obtain ⟨xk, c1, hxk, hc1, hc1m, hcw1, hcw2⟩ := HCw.out dx dy hdx hdy
          have hsxi : (sx : Int) < (n : Int) := by omega
          have hsyi : (sy : Int) < (k : Int) := by omega
          have HCod : Hid (cod k δ δ' p q (u ++ [b]) = c1) := by
            show _ = _
            unfold cod
            rw [List.foldl_append, List.foldl_append, hsx, hsy]
            show δ sx b * k + δ' sy b = c1
            rw [hdxe, hdye]; exact hc1
          have HFx : Hid ((u ++ [b]).foldl δ p = dx) := by show _ = _; rw [List.foldl_append, hsx]; exact hdxe
          have HFy : Hid ((u ++ [b]).foldl δ' q = dy) := by show _ = _; rw [List.foldl_append, hsy]; exact hdye
          have HSt : Hid (δ ((( rs.map (·.2)).getD i []).foldl δ p) b * k + δ' (((rs.map (·.2)).getD i []).foldl δ' q) b = c1) := by show _ = _; rw [HU.out, hsx, hsy, hdxe, hdye]; exact hc1
          have HSx : Hid (δ ((( rs.map (·.2)).getD i []).foldl δ p) b < n ∧ δ' (((rs.map (·.2)).getD i []).foldl δ' q) b < k) := by show _ ∧ _; rw [HU.out, hsx, hsy, hdxe, hdye]; exact ⟨hdx, hdy⟩
          obtain ⟨v1, v2⟩ := ST.out.seen (c := c1) (by rw [HM.out]; exact hc1m)
          clear hsx hsy hdxe hdye hxk hc1 hgw
          cases hmet : metB k δ δ' p q (rs.map (·.2)) c1 with
          | true =>
            rw [hmet] at v1
            have WI2 : Hid (WInv δ δ' p q n k l (rs.map (·.2)) i (b + 1)) := WI.out.skip HSx.out.2 (by
              obtain ⟨u', h1, h2⟩ := metB_iff.1 hmet
              exact ⟨u', h1, h2.trans HSt.out.symm⟩)
            clear hmet WI HSt HSx HFx HFy HCod HZ
            go_wp2_with fail
            go_region
            all_goals
              go_wp2_with fail
              go_region
              all_goals
                go_wp2_with fail
                go_roundw
                case rel => exact ⟨b + 1, rs, _, _, _, _, _, _, by go_num, by omega, ST.out.kept (grown_drew (grown_drew (grown_refl _ _))), WI2.out⟩
                case measure => simp [intOf]; omega
          | false =>
            rw [hmet] at v1
            have WI2 : Hid (WInv δ δ' p q n k l (rs.map (·.2) ++ [u ++ [b]]) i (b + 1)) := by
              have h1 := WI.out.put hbl HSx.out.1 HSx.out.2 (fun u' hu' he => by
                have : metB k δ δ' p q (rs.map (·.2)) c1 = true := metB_iff.2 ⟨u', hu', he.trans HSt.out⟩
                rw [hmet] at this; cases this)
              rw [HU.out] at h1
              exact h1
            have hN9 : rs.length ≤ 100000000 := by rw [HN.out]; omega
            have hu9 : u.length ≤ 100000000 := by omega
            have MK : Hid _ := ST.out.mark (u := u ++ [b]) (c := c1) (by rw [HM.out]; exact hc1m) HCod.out
            have t2 := MK.out.own.cell (i := 2) rfl
            have tw : (wr.setCell ⟨gs, c1, none⟩ (.bool true)).cell? ⟨gW, i, none⟩ = some (.slice (some ⟨gz, 0, none⟩) u.length cz) := by
              have h1 := (at_4 ST.out.own).row
              have h2 := (at_4 MK.out.own).row
              cases hv : (rs.map (·.1))[i]? with
              | none => rw [List.getElem?_eq_none_iff, List.length_map, HN.out] at hv; omega
              | some v =>
                have h3 := (at_4 ST.out.own).cell hv
                have h4 := (at_4 MK.out.own).cell hv
                rw [h4, ← h3]
                exact r2
            obtain ⟨g1, d1, w1, run0, m1⟩ := (MK.out.kept (grown_drew (grown_drew (grown_refl _ _)))).clone (H := wr.heap.size) (size_set _ _ _) HZ.out hu9
            have run1 : (AppS #[23, 23] 23 #[.slice (some ⟨wr.heap.size, 0, none⟩) 0 0, .slice (some ⟨gz, 0, none⟩) u.length cz]).run Try.prog ((wr.setCell ⟨gs, c1, none⟩ (.bool true)).alloc (.cells #[] 3)).drew.drew = .ok (.slice (some ⟨g1, 0, none⟩) u.length d1) w1 := run0
            clear run0
            obtain ⟨g2, d2, w2, run2, m2⟩ := m1.letter (a := b) rfl hu9
            obtain ⟨g3, d3, w3, run3, p1, p2, p3, m3⟩ := m2.putP (x := dx) rfl (by simpa using hN9)
            obtain ⟨g4, d4, w4, run4, q1, q2, q3, m4⟩ := m3.putQ (x := dy) (H := w3.heap.size) (size_set _ _ _) (by simpa using hN9)
            obtain ⟨g5, d5, w5, run5, e1, e2, e3, m5⟩ := m4.putW (H := w4.heap.size) (size_set _ _ _) hN9
            have ST2 : Hid (WkSt δ δ' p q n k bo gs W1 (w5.setCell ⟨bo, 2, none⟩ (.slice (some ⟨g5, 0, none⟩) (rs.length + 1) d5)) (rs ++ [(.slice (some ⟨g2, 0, none⟩) (u ++ [b]).length d2, u ++ [b])]) (some ⟨g3, 0, none⟩) (some ⟨g4, 0, none⟩) (some ⟨g5, 0, none⟩) d3 d4 d5) := by
              refine Mid.done (aP' := none) (aQ' := none) (aW' := none) (cP' := 0) (cQ' := 0) (cW' := 0) ST.out.wds ?_
              rw [HFx.out, HFy.out]
              have hlen : (u ++ [b]).length = u.length + 1 := by simp
              rw [hlen]
              exact m5
            have WI3 : Hid (WInv δ δ' p q n k l ((rs ++ [(Value.slice (some ⟨g2, 0, none⟩) (u ++ [b]).length d2, u ++ [b])]).map (·.2)) i (b + 1)) := by
              show WInv _ _ _ _ _ _ _ _ _ _
              rw [List.map_append]
              exact WI2.out
            rw [HN.out] at run3 p1 p2 run4 q1 q2 run5 e1 e2 ST2 t2
            have t2' := fun ob => (grown_alloc (wr.setCell ⟨gs, c1, none⟩ (.bool true)) ob).cell t2 (by simp)
            have tw' := fun ob => (grown_alloc (wr.setCell ⟨gs, c1, none⟩ (.bool true)) ob).cell tw (by simp)
            have p1' := fun ob => (grown_alloc w2 ob).cell p1 (by simp)
            have q1' := fun ob => (grown_alloc _ ob).cell q1 (by simp)
            have e1' := fun ob => (grown_alloc _ ob).cell e1 (by simp)
            clear hmet WI WI2 HSt HSx HFx HFy HCod HZ ST MK m1 m2 m3 m4 m5 hN9 hu9
            generalize u.length = nu at *
            go_wp2_with fail
            go_region
            all_goals
              go_wp2_with fail
              go_region
              all_goals
                go_wp2_with fail
                go_roundw
                case rel => exact ⟨b + 1, _, _, _, _, _, _, _, by go_num, by omega, ST2.out, WI3.out⟩
                case measure => simp [intOf]; omega
        · have hbi : ¬ (b : Int) < (l : Int) := by omega
          have hbe : b = l := by omega
          subst hbe
          have AT : Hid (WkAt δ δ' p q n k b (i + 1) (rs.map (·.2))) := by
            have hl0 : (rs.map (·.2)).length = N := by rw [List.length_map]; exact HN.out
            by_cases h1 : i + 1 < N
            · exact .inl ⟨by rw [hl0]; exact h1, WI.out.next (by rw [hl0]; exact h1)⟩
            · exact .inr ⟨by rw [hl0]; omega, WI.out.over (by rw [hl0]; omega)⟩
          clear WI r0 r1 r2 HZ hgw
          go_wp2_with fail
          go_roundw
          case rel => exact ⟨i + 1, rs, _, _, _, _, _, _, by go_num, ST.out, AT.out⟩
          case measure => simp [intOf]; omega
    · rw [List.length_map, hN] at hi
      have hii : ¬ (i : Int) < (N : Int) := by omega
      have EN : Hid (WEnd δ δ' p q n k l (rs.map (·.2))) := hend
      have hk1 := HZ1.out wr hS.old
      obtain ⟨k0, k1, k2, kz⟩ := block_cells3 hk1
      have kz0 := kz 0
      have kz1 := kz 1
      have kz2 := kz 2
      obtain ⟨W9, hW9, hg9, j0, j1, j2⟩ := pairs_store hk1 (.slice aP N cP) (.slice aQ N cQ) (.slice aW N cW)
      have G9 : Hid (w.grownBy W9 none) := grown_new hgw hg9 (by omega)
      have O9 : Hid (Owns w.heap.size W9 ((3, .slice aP N cP, vals (natInts (rs.map fun u => u.2.foldl δ p))) :: (3, .slice aQ N cQ, vals (natInts (rs.map fun u => u.2.foldl δ' q))) :: (23, .slice aW N cW, rs.map (·.1)) :: rowIts rs)) := by
        have h1 := ST.out.own.below hg9 (by rw [HS1.out]; omega)
        rw [hN] at h1
        have h2 := h1.sublist (its' := (3, .slice aP N cP, vals (natInts (rs.map fun u => u.2.foldl δ p))) :: (3, .slice aQ N cQ, vals (natInts (rs.map fun u => u.2.foldl δ' q))) :: (23, .slice aW N cW, rs.map (·.1)) :: rowIts rs) (.cons _ (.cons_cons _ (.cons_cons _ (.cons_cons _ (.cons _ (List.Sublist.refl _))))))
        exact h2.base (by rw [HS1.out]; omega)
      clear hk1 kz hend hS hgw hg9 ST hN y0 y2 y2'
      go_wp2_with fail
      rw [← hW9]
      refine bodyPost_ret (v := .agg #[.slice aP N cP, .slice aQ N cQ, .slice aW N cW]) (by simp [results, Try.results46, go_sem, j0, j1, j2]) rfl ⟨rs, aP, aQ, aW, cP, cQ, cW, N, rfl, HN.out.symm, EN.out, O9.out, G9.out⟩

end Go.Proofs.Ytofjboelplknhaa
