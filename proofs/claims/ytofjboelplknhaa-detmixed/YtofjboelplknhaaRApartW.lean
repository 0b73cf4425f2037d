/- The reference's Apart: the first word that tells two states of two automata apart. -/
import Derived.Test.YtofjboelplknhaaRApart
namespace Go.Proofs.Ytofjboelplknhaa
open Go.RowKit
set_option linter.unusedVariables false

set_option maxHeartbeats 1600000 in
set_option maxRecDepth 100000 in
theorem apartR_any (L S L' S' : Int) (R R' : List (List Int)) (M M' : List Int) (a a' e e' : Option Addr) (c c' f f' p q : Nat) (w : World) (h : DetAt w ⟨L, S, R, M⟩ a a') (hG : Good ⟨L, S, R, M⟩) (h2 : DetAt w ⟨L', S', R', M'⟩ e e') (hG2 : Good ⟨L', S', R', M'⟩) (hp : p < R.length) (hq : q < R'.length)
    (hW : ∀ W, w.grownBy W none → Calls Try.prog 46 #[.agg #[.int .i64 L, .int .i64 S, .slice a R.length c, .slice a' M.length c'], .agg #[.int .i64 L', .int .i64 S', .slice e R'.length f, .slice e' M'.length f'], .int .i64 (p : Nat), .int .i64 (q : Nat)] W (WalkPost (Dfa.nx ⟨L, S, R, M⟩) (Dfa.nx ⟨L', S', R', M'⟩) p q R.length R'.length L.toNat W)) :
    Calls Try.prog 17 #[.agg #[.int .i64 L, .int .i64 S, .slice a R.length c, .slice a' M.length c'], .agg #[.int .i64 L', .int .i64 S', .slice e R'.length f, .slice e' M'.length f'], .int .i64 (p : Nat), .int .i64 (q : Nat)] w (ApartRPost (tell2 (Dfa.nx ⟨L, S, R, M⟩) (Dfa.nx ⟨L', S', R', M'⟩) (Dfa.mk1 ⟨L, S, R, M⟩) (Dfa.mk1 ⟨L', S', R', M'⟩) p q) L.toNat w) := by
  have hn3 : R.length ≤ 3000 := hG.n3
  have hn3' : R'.length ≤ 3000 := hG2.n3
  have HML : Hid (M.length = R.length) := hG.ml
  have HML' : Hid (M'.length = R'.length) := hG2.ml
  have hL1 : 1 ≤ L.toNat := by have := hG.l1; simp only at this; omega
  have H : Hid (DetAt w ⟨L, S, R, M⟩ a a') := h
  have H2 : Hid (DetAt w ⟨L', S', R', M'⟩ e e') := h2
  have GD : Hid (Good ⟨L, S, R, M⟩) := hG
  have GD2 : Hid (Good ⟨L', S', R', M'⟩) := hG2
  have HWk : Hid (∀ W, w.grownBy W none → Calls Try.prog 46 #[.agg #[.int .i64 L, .int .i64 S, .slice a R.length c, .slice a' M.length c'], .agg #[.int .i64 L', .int .i64 S', .slice e R'.length f, .slice e' M'.length f'], .int .i64 (p : Nat), .int .i64 (q : Nat)] W (WalkPost (Dfa.nx ⟨L, S, R, M⟩) (Dfa.nx ⟨L', S', R', M'⟩) p q R.length R'.length L.toNat W)) := hW
  obtain ⟨W2, hW2⟩ : ∃ W2, W2 = (w.alloc (.cells #[.int .i64 L, .int .i64 S, .slice a R.length c, .slice a' M.length c'] 25)).alloc (.cells #[.int .i64 L', .int .i64 S', .slice e R'.length f, .slice e' M'.length f'] 25) := ⟨_, rfl⟩
  have HW2 : Hid (W2 = _) := hW2
  have G2 : Hid (w.grownBy W2 none) := by show World.grownBy _ _ _; rw [hW2]; exact grown_trans (grown_alloc _ _) (grown_alloc _ _)
  have Bx : Hid (∀ W, W2.grownBy W none → W.cell? ⟨w.heap.size, 3, none⟩ = some (.slice a' M.length c') ∧ W.cell? ⟨w.heap.size + 1, 3, none⟩ = some (.slice e' M'.length f')) := fun W hW => by
    rw [hW2] at hW
    refine ⟨(box4 (w := w) (grown_trans (grown_alloc _ _) hW)).2.2.2, ?_⟩
    have := (box4 hW).2.2.2
    simpa using this
  obtain ⟨T, hT⟩ : ∃ T, tell2 (Dfa.nx ⟨L, S, R, M⟩) (Dfa.nx ⟨L', S', R', M'⟩) (Dfa.mk1 ⟨L, S, R, M⟩) (Dfa.mk1 ⟨L', S', R', M'⟩) p q = T := ⟨_, rfl⟩
  have HT : Hid (_ = T) := hT
  rw [hT]
  obtain ⟨δ, hδ⟩ : ∃ δ, Dfa.nx ⟨L, S, R, M⟩ = δ := ⟨_, rfl⟩
  obtain ⟨δ', hδ'⟩ : ∃ δ', Dfa.nx ⟨L', S', R', M'⟩ = δ' := ⟨_, rfl⟩
  have HDl : Hid (Dfa.nx ⟨L, S, R, M⟩ = δ) := hδ
  have HDl' : Hid (Dfa.nx ⟨L', S', R', M'⟩ = δ') := hδ'
  have HKy : Hid (∀ u u' v, (u.foldl δ p, u.foldl δ' q) = (u'.foldl δ p, u'.foldl δ' q) → T (u ++ v) = T (u' ++ v)) := fun u u' v hk => by
    rw [← hT, hδ, hδ']; exact tell2_key _ _ _ _ _ _ u u' v hk
  have HTe : Hid (∀ u : List Nat, u.foldl δ p < R.length → u.foldl δ' q < R'.length → T u = (M.getD (u.foldl δ p) 0 != M'.getD (u.foldl δ' q) 0)) := fun u h1 h2 => by
    have h3 : M.getD (u.foldl δ p) 0 = 0 ∨ M.getD (u.foldl δ p) 0 = 1 := hG.m _ (by show _ < M.length; rw [HML.out]; exact h1)
    have h4 : M'.getD (u.foldl δ' q) 0 = 0 ∨ M'.getD (u.foldl δ' q) 0 = 1 := hG2.m _ (by show _ < M'.length; rw [HML'.out]; exact h2)
    have e1 : Dfa.mk1 ⟨L, S, R, M⟩ (u.foldl δ p) = decide (M.getD (u.foldl δ p) 0 = 1) := rfl
    have e2 : Dfa.mk1 ⟨L', S', R', M'⟩ (u.foldl δ' q) = decide (M'.getD (u.foldl δ' q) 0 = 1) := rfl
    rw [← hT]
    unfold tell2
    rw [hδ, hδ', e1, e2]
    rcases h3 with h3 | h3 <;> rcases h4 with h4 | h4 <;> rw [h3, h4] <;> rfl
  rw [hδ, hδ'] at HWk
  clear h hG h2 hG2 hW hW2 hT hδ hδ'
  go_enter Try.func17, Try.ntmps17
  go_wp2_with fail
  rw [← HW2.out]
  refine (HWk.out _ G2.out).mono ?_
  rintro E w3 ⟨vs, aP, aQ, aW, cP, cQ, cW, N, rfl, hN, hend, ho3, hg3⟩
  have HN : Hid (N = vs.length) := hN
  have EN : Hid (WEnd δ δ' p q R.length R'.length L.toNat (vs.map (·.2))) := hend
  have O3 : Hid (Owns W2.heap.size w3 ((3, .slice aP N cP, vals (natInts (vs.map fun u => u.2.foldl δ p))) :: (3, .slice aQ N cQ, vals (natInts (vs.map fun u => u.2.foldl δ' q))) :: (23, .slice aW N cW, vs.map (·.1)) :: rowIts vs)) := ho3
  have G3 : Hid (W2.grownBy w3 none) := hg3
  have hN9 : N ≤ 9000000 := by
    have h1 := hend.len
    rw [List.length_map, ← hN] at h1
    have h2 := Nat.mul_le_mul hn3 hn3'
    omega
  clear hN hend ho3 hg3 HWk HW2
  go_wp2_with fail
  have BxL : Hid (∀ W, (w3.alloc (.cells #[.slice aP N cP, .slice aQ N cQ, .slice aW N cW] 77)).grownBy W none → W2.grownBy W none ∧ W.cell? ⟨w3.heap.size, 0, none⟩ = some (.slice aP N cP) ∧ W.cell? ⟨w3.heap.size, 1, none⟩ = some (.slice aQ N cQ) ∧ W.cell? ⟨w3.heap.size, 2, none⟩ = some (.slice aW N cW)) := fun W hW => by
    have hb := heap_alloc_new w3 (.cells #[.slice aP N cP, .slice aQ N cQ, .slice aW N cW] 77)
    have hc : ∀ k v, #[Value.slice aP N cP, .slice aQ N cQ, .slice aW N cW][k]? = some v → W.cell? ⟨w3.heap.size, k, none⟩ = some v := fun k v hv => hW.cell (by rw [cell_of_row _ _ k _ _ (0, 0) hb]; exact hv) (by simp)
    exact ⟨grown_trans G3.out (grown_trans (grown_alloc _ _) hW), hc 0 _ rfl, hc 1 _ rfl, hc 2 _ rfl⟩
  have O4 : Hid (∀ W, (w3.alloc (.cells #[.slice aP N cP, .slice aQ N cQ, .slice aW N cW] 77)).grownBy W none → Owns W2.heap.size W ((3, .slice aP N cP, vals (natInts (vs.map fun u => u.2.foldl δ p))) :: (3, .slice aQ N cQ, vals (natInts (vs.map fun u => u.2.foldl δ' q))) :: (23, .slice aW N cW, vs.map (·.1)) :: rowIts vs)) := fun W hW => O3.out.kept (grown_trans (grown_alloc _ _) hW)
  obtain ⟨W4, hW4⟩ : ∃ W4, W4 = w3.alloc (.cells #[.slice aP N cP, .slice aQ N cQ, .slice aW N cW] 77) := ⟨_, rfl⟩
  rw [← hW4] at BxL O4 ⊢
  clear hW4 O3 G3
  obtain ⟨ws, hws⟩ : ∃ ws, vs.map (·.2) = ws := ⟨_, rfl⟩
  have HWS : Hid (vs.map (·.2) = ws) := hws
  rw [hws] at EN
  have HNW : Hid (ws.length = N) := by show _ = _; rw [← hws, List.length_map]; exact HN.out.symm
  clear hws
  go_loopw [11] (fun v11 wr => ∃ (i : Nat), v11 = .int .i64 i ∧ i ≤ N ∧ (∀ j, j < i → T (ws.getD j []) = false) ∧ W4.grownBy wr none) (fun v11 _ => N - (intOf v11).toNat)
  case atStart => exact ⟨0, rfl, by omega, fun j hj => absurd hj (Nat.not_lt_zero j), grown_refl _ _⟩
  case round =>
    obtain ⟨i, rfl, hi, hno, hg⟩ := hrel
    have NO : Hid (∀ j, j < i → T (ws.getD j []) = false) := hno
    have G : Hid (W4.grownBy wr none) := hg
    obtain ⟨hg2, l0, l1, l2⟩ := BxL.out wr hg
    obtain ⟨m0, m1⟩ := Bx.out wr hg2
    have hgw : w.grownBy wr none := grown_trans G2.out hg2
    have HGw : Hid (w.grownBy wr none) := hgw
    have hO := O4.out wr hg
    clear hno hg hg2
    by_cases hlt : i < N
    · have hii : (i : Int) < (N : Int) := by omega
      obtain ⟨gP, gQ, gW, az, cz, rfl, rfl, rfl, x0, x1, x2, hz⟩ := walk_reads HN.out hlt hO
      rw [HWS.out] at x0 x1 x2 hz
      obtain ⟨u, hu⟩ : ∃ u, ws.getD i [] = u := ⟨_, rfl⟩
      have hlu := EN.out.lt u (by rw [← hu]; exact getD_memL (by rw [HNW.out]; exact hlt))
      have hul : u.length ≤ i := by rw [← hu]; exact EN.out.long i (by rw [HNW.out]; exact hlt)
      have HTu := HTe.out u hlu.1 hlu.2
      rw [hu] at x0 x1 x2 hz
      have HU : Hid (ws.getD i [] = u) := hu
      have HZ : Hid (Ints wr az (natInts u)) := hz
      obtain ⟨bm, om, ham, y1⟩ := mark_reads (H.out.grown hgw) GD.out hlu.1
      subst ham
      obtain ⟨bm', om', ham, y2⟩ := mark_reads (H2.out.grown hgw) GD2.out hlu.2
      subst ham
      obtain ⟨hx, hy⟩ := hlu
      generalize u.foldl δ p = x at x0 y1 hx HTu
      generalize u.foldl δ' q = y at x1 y2 hy HTu
      have hxm : (x : Int) < (M.length : Int) := by rw [HML.out]; omega
      have hym : (y : Int) < (M'.length : Int) := by rw [HML'.out]; omega
      generalize M.getD x 0 = mx at y1 HTu
      generalize M'.getD y 0 = my at y2 HTu
      obtain ⟨nu, hnu⟩ : ∃ nu, u.length = nu := ⟨_, rfl⟩
      rw [hnu] at x2
      have HNu : Hid (u.length = nu) := hnu
      have HUL : Hid (u.length ≤ i) := hul
      have HTu' : Hid (T u = (mx != my)) := HTu
      clear hO hz hgw hu hx hy HTu hnu hul
      by_cases hmm : mx = my
      · have hmi : (mx != my) = false := by simpa using hmm
        have NO2 : Hid (∀ j, j < i + 1 → T (ws.getD j []) = false) := fun j hj => by
          rcases Nat.lt_or_ge j i with h1 | h1
          · exact NO.out j h1
          · have : j = i := by omega
            subst this
            rw [HU.out, HTu'.out]; exact hmi
        clear hmm NO HTu' HZ
        go_wp2_with fail
        go_region
        all_goals
          clear l0 l1 l2 m0 m1 x0 x1 x2 y1 y2
          go_wp2_with fail
          go_roundw
          case rel => exact ⟨i + 1, by go_num, by omega, NO2.out, grown_drew G.out⟩
          case measure => simp [intOf]; omega
      · have hmi : (mx != my) = true := by simpa using hmm
        have HF : Hid (FirstOf T L.toNat u true) := by
          have := EN.out.trail.first hL1 HKy.out (e := i) (by rw [HNW.out]; exact hlt) (by rw [HU.out, HTu'.out]; exact hmi) NO.out
          rw [HU.out] at this
          exact this
        clear hmm NO HTu'
        go_wp2_with fail
        go_region
        all_goals
          have l2' : wr.drew.cell? ⟨w3.heap.size, 2, none⟩ = _ := l2
          have x2' : wr.drew.cell? ⟨gW, i, none⟩ = _ := x2
          clear l0 l1 m0 m1 x0 x1 y1 y2
          go_wp2_with fail
          go_ret2
          exact ⟨u, true, az, cz, by rw [HNu.out]; rfl, HF.out, by have := HUL.out; omega, HZ.out.grown (grown_drew (grown_refl _ _)), grown_drew HGw.out⟩
    · have hii : ¬ (i : Int) < (N : Int) := by omega
      have HF : Hid (FirstOf T L.toNat [] false) := EN.out.trail.none hL1 HKy.out (fun j hj => NO.out j (by rw [HNW.out] at hj; omega))
      clear hO hgw m0 m1 l1 l2 NO
      go_wp2_with fail
      go_ret2
      exact ⟨[], false, none, 0, rfl, HF.out, by simp, .inl rfl, HGw.out⟩

end Go.Proofs.Ytofjboelplknhaa
