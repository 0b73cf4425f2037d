/- What is wrong with an automaton that need not know its way: the reference's Check. -/
import Derived.Test.YtaangdomdeklhaaUCheck2
namespace Go.Proofs.Ytaangdomdeklhaa
open Go.RowKit
set_option linter.unusedVariables false

set_option maxHeartbeats 800000 in
theorem aheadR_any (x y : StepI) (w : World) : Calls Try.prog 25 #[stepV x, stepV y] w (TellsB (Lex x y) w) := by
  obtain ⟨f, l, t⟩ := x
  obtain ⟨f', l', t'⟩ := y
  simp only [stepV]
  have G : Hid (∀ o o', w.grownBy ((w.alloc o).alloc o') none) := fun o o' => grown_trans (grown_alloc _ _) (grown_alloc _ _)
  by_cases c1 : f = f'
  · subst c1
    have e1 : (f != f) = false := by simp
    by_cases c2 : l = l'
    · subst c2
      have e2 : (l != l) = false := by simp
      by_cases c3 : t < t'
      · go_enter Try.func25, Try.ntmps25
        go_wp2_with fail
        go_ret
        exact tellsB true (by first | rfl | simp) ⟨fun _ => .inr ⟨rfl, .inr ⟨rfl, c3⟩⟩, fun _ => rfl⟩ (G.out _ _)
      · go_enter Try.func25, Try.ntmps25
        go_wp2_with fail
        go_ret
        exact tellsB false (by first | rfl | simp [c3] | (simp; omega)) ⟨(fun e => by cases e), fun e => by simp only [Lex] at e; omega⟩ (G.out _ _)
    · have e2 : (l != l') = true := by simpa using c2
      by_cases c3 : l < l'
      · go_enter Try.func25, Try.ntmps25
        go_wp2_with fail
        go_ret
        exact tellsB true (by first | rfl | simp) ⟨fun _ => .inr ⟨rfl, .inl c3⟩, fun _ => rfl⟩ (G.out _ _)
      · go_enter Try.func25, Try.ntmps25
        go_wp2_with fail
        go_ret
        exact tellsB false (by first | rfl | simp [c3] | (simp; omega)) ⟨(fun e => by cases e), fun e => by simp only [Lex] at e; omega⟩ (G.out _ _)
  · have e1 : (f != f') = true := by simpa using c1
    by_cases c3 : f < f'
    · go_enter Try.func25, Try.ntmps25
      go_wp2_with fail
      go_ret
      exact tellsB true (by first | rfl | simp) ⟨fun _ => .inl c3, fun _ => rfl⟩ (G.out _ _)
    · go_enter Try.func25, Try.ntmps25
      go_wp2_with fail
      go_ret
      exact tellsB false (by first | rfl | simp [c3] | (simp; omega)) ⟨(fun e => by cases e), fun e => by simp only [Lex] at e; omega⟩ (G.out _ _)

set_option maxHeartbeats 6400000 in
set_option maxRecDepth 100000 in
theorem checkA7_any (x : Aut) (a b e : Option Addr) (c d f : Nat) (w : World) (h : AutAt w x a b e) :
    Calls Try.prog 9 #[autV x.L x.N a x.S.length c b x.T.length d e x.F.length f] w (Says (.int .i64 (checkA x)) w) := by
  have hmt := h.mt
  have hms := h.ms
  have hmf := h.mf
  unfold maxLen at hmt hms hmf
  obtain ⟨W1, hW1, g1, s1, bx1⟩ := boxA_new w x.L x.N a x.S.length c b x.T.length d e x.F.length f
  have HW1 : Hid (W1 = _) := hW1
  have G1 : Hid (w.grownBy W1 none) := g1
  have KK : Hid (∀ W', W1.grownBy W' none → W'.cell? ⟨w.heap.size, 0, none⟩ = some (.int .i64 x.L) ∧ W'.cell? ⟨w.heap.size, 1, none⟩ = some (.int .i64 x.N) ∧ W'.cell? ⟨w.heap.size, 2, none⟩ = some (.slice a x.S.length c) ∧ W'.cell? ⟨w.heap.size, 3, none⟩ = some (.slice b x.T.length d) ∧ W'.cell? ⟨w.heap.size, 4, none⟩ = some (.slice e x.F.length f)) := bx1
  have HIS : Hid (∀ W, W1.grownBy W none → Ints W a x.S) := fun W hW => h.start.grown (grown_trans g1 hW)
  have HIF : Hid (∀ W, W1.grownBy W none → Ints W e x.F) := fun W hW => h.final.grown (grown_trans g1 hW)
  have HIT : Hid (∀ W, W1.grownBy W none → StepsAt W b x.T) := fun W hW => h.steps.grown (grown_trans g1 hW)
  obtain ⟨z, hz⟩ : ∃ z, checkA x = z := ⟨_, rfl⟩
  rw [hz]
  have HZ : Hid (checkA x = z) := hz
  clear h hW1 g1 s1 bx1 hz
  obtain ⟨L, N, S, T, F⟩ := x
  simp only at *
  have HA : Hid (L < 1 ∨ 4 < L → z = 2) := fun h => by rw [← HZ.out]; exact checkA_range h
  have HB : Hid (¬ (L < 1 ∨ 4 < L) → N < 1 ∨ 300 < N ∨ 40000 < T.length → z = 1) := fun h h2 => by rw [← HZ.out]; exact checkA_size h h2
  have HC : Hid (¬ (L < 1 ∨ 4 < L) → ¬ (N < 1 ∨ 300 < N ∨ 40000 < T.length) → ¬ (InR S N ∧ InR F N ∧ InT T L N) → z = 2) := fun h h2 h3 => by rw [← HZ.out]; exact checkA_in h h2 h3
  have HD : Hid (¬ (L < 1 ∨ 4 < L) → ¬ (N < 1 ∨ 300 < N ∨ 40000 < T.length) → InR S N ∧ InR F N ∧ InT T L N → ¬ (Rise S ∧ Rise F ∧ RiseT T) → z = 3) := fun h h2 h3 h4 => by rw [← HZ.out]; exact checkA_rise h h2 h3 h4
  have HE : Hid (¬ (L < 1 ∨ 4 < L) → ¬ (N < 1 ∨ 300 < N ∨ 40000 < T.length) → InR S N ∧ InR F N ∧ InT T L N → (Rise S ∧ Rise F ∧ RiseT T) → z = 0) := fun h h2 h3 h4 => by
    rw [← HZ.out]; exact checkA_good ⟨by simp only; omega, by simp only; omega, by simp only; omega, by simp only; omega, by simp only; omega, h3.1, h3.2.1, h3.2.2, h4.1, h4.2.1, h4.2.2⟩
  have HAh : Hid (∀ x y W, Calls Try.prog 25 #[stepV x, stepV y] W (TellsB (Lex x y) W)) := fun x y W => aheadR_any x y W
  clear HZ
  obtain ⟨x0, x1, x2, x3, x4⟩ := KK.out W1 (grown_refl _ _)
  by_cases c1 : L < 1 ∨ 4 < L
  · rw [HA.out c1]
    have GF := G1.out
    clear HA HB HC HD HE HAh HIS HIF HIT
    rcases c1 with c1 | c1
    · go_enter Try.func9, Try.ntmps9
      go_wp2_with fail
      rw [← HW1.out]
      go_ret
      exact ⟨rfl, GF⟩
    · have c2 : ¬ L < 1 := by omega
      go_enter Try.func9, Try.ntmps9
      go_wp2_with fail
      rw [← HW1.out]
      go_ret
      exact ⟨rfl, GF⟩
  have HNc1 : Hid (¬ (L < 1 ∨ 4 < L)) := c1
  have l1 : ¬ L < 1 := by omega
  have l2 : ¬ 4 < L := by omega
  clear c1
  by_cases c2 : N < 1 ∨ 300 < N ∨ 40000 < T.length
  · rw [HB.out HNc1.out c2]
    have GF := G1.out
    clear HA HB HC HD HE HAh HIS HIF HIT
    by_cases c3 : N < 1
    · go_enter Try.func9, Try.ntmps9
      go_wp2_with fail
      rw [← HW1.out]
      go_ret
      exact ⟨rfl, GF⟩
    · by_cases c4 : 300 < N
      · go_enter Try.func9, Try.ntmps9
        go_wp2_with fail
        rw [← HW1.out]
        go_ret
        exact ⟨rfl, GF⟩
      · have c5 : (40000 : Int) < (T.length : Int) := by omega
        go_enter Try.func9, Try.ntmps9
        go_wp2_with fail
        rw [← HW1.out]
        go_ret
        exact ⟨rfl, GF⟩
  have HNc2 : Hid (¬ (N < 1 ∨ 300 < N ∨ 40000 < T.length)) := c2
  have n1 : ¬ N < 1 := by omega
  have n2 : ¬ 300 < N := by omega
  have n3 : ¬ (40000 : Int) < (T.length : Int) := by omega
  have HZin : Hid (¬ (InR S N ∧ InR F N ∧ InT T L N) → z = 2) := fun h => HC.out HNc1.out HNc2.out h
  have HZri : Hid (InR S N ∧ InR F N ∧ InT T L N → ¬ (Rise S ∧ Rise F ∧ RiseT T) → z = 3) := fun h h2 => HD.out HNc1.out HNc2.out h h2
  have HZok : Hid (InR S N ∧ InR F N ∧ InT T L N → Rise S ∧ Rise F ∧ RiseT T → z = 0) := fun h h2 => HE.out HNc1.out HNc2.out h h2
  clear c2 HA HB HC HD HE
  go_enter Try.func9, Try.ntmps9
  go_wp2_with fail
  rw [← HW1.out]
  clear x0 x1 x2 x3 x4
  go_loopw [3] (fun v wr => ∃ k : Nat, k ≤ S.length ∧ v = .int .i64 k ∧ W1.grownBy wr none ∧ ∀ j, j < k → 0 ≤ S.getD j 0 ∧ S.getD j 0 < N) (fun v _ => S.length - (intOf v).toNat)
  case atStart => exact ⟨0, by omega, rfl, grown_refl _ _, fun j hj => by omega⟩
  case round =>
    try clear G
    obtain ⟨k, hk, rfl, hgw, hg⟩ := hrel
    have HJ : Hid (∀ j, j < k → 0 ≤ S.getD j 0 ∧ S.getD j 0 < N) := hg
    have G : Hid (W1.grownBy wr none) := hgw
    obtain ⟨x0, x1, x2, x3, x4⟩ := KK.out wr hgw
    clear hg
    by_cases hlt : k < S.length
    · obtain ⟨bb, off, hab, hc⟩ := (HIS.out wr hgw).at hlt
      have hck := hc k hlt
      rw [hab] at x2
      obtain ⟨y, hy⟩ : ∃ y, S.getD k 0 = y := ⟨_, rfl⟩
      rw [hy] at hck
      have HY : Hid (S.getD k 0 = y) := hy
      have hki : (k : Int) < (S.length : Int) := by omega
      clear hc hgw hy hab
      by_cases g1 : y < 0
      · have Hz : Hid (z = 2) := HZin.out (fun e => by have := e.1 k hlt; rw [HY.out] at this; omega)
        go_wp2_with fail
        go_quiet (fail)
        go_wp2_with fail
        go_ret
        exact ⟨by rw [Hz.out]; rfl, grown_trans G1.out (by first | exact G.out | exact grown_drewN G.out _ | exact grown_drew G.out)⟩
      · by_cases g2 : N ≤ y
        · have Hz : Hid (z = 2) := HZin.out (fun e => by have := e.1 k hlt; rw [HY.out] at this; omega)
          go_wp2_with fail
          go_quiet (fail)
          go_wp2_with fail
          go_ret
          exact ⟨by rw [Hz.out]; rfl, grown_trans G1.out (by first | exact G.out | exact grown_drewN G.out _ | exact grown_drew G.out)⟩
        · have HJ2 : Hid (∀ j, j < k + 1 → 0 ≤ S.getD j 0 ∧ S.getD j 0 < N) := fun j hj => by
            by_cases e : j = k
            · subst e; rw [HY.out]; omega
            · exact HJ.out j (by omega)
          go_wp2_with fail
          go_quiet (fail)
          go_wp2_with fail
          go_roundw
          case rel => exact ⟨k + 1, by omega, by go_num, (by first | exact G.out | exact grown_drewN G.out _ | exact grown_drew G.out), HJ2.out⟩
          case measure => simp [intOf]; omega
    · have hki : ¬ (k : Int) < (S.length : Int) := by omega
      have RS : Hid (InR S N) := fun i hi => HJ.out i (by omega)
      clear hgw HJ
      go_wp2_with fail
      clear x0 x1 x2 x3 x4 hki hlt
      go_loopw [4] (fun v wr => ∃ k : Nat, k ≤ F.length ∧ v = .int .i64 k ∧ W1.grownBy wr none ∧ ∀ j, j < k → 0 ≤ F.getD j 0 ∧ F.getD j 0 < N) (fun v _ => F.length - (intOf v).toNat)
      case atStart => exact ⟨0, by omega, rfl, G.out, fun j hj => by omega⟩
      case round =>
        try clear G
        obtain ⟨k, hk, rfl, hgw, hg⟩ := hrel
        have HJ : Hid (∀ j, j < k → 0 ≤ F.getD j 0 ∧ F.getD j 0 < N) := hg
        have G : Hid (W1.grownBy wr none) := hgw
        obtain ⟨x0, x1, x2, x3, x4⟩ := KK.out wr hgw
        clear hg
        by_cases hlt : k < F.length
        · obtain ⟨bb, off, hab, hc⟩ := (HIF.out wr hgw).at hlt
          have hck := hc k hlt
          rw [hab] at x4
          obtain ⟨y, hy⟩ : ∃ y, F.getD k 0 = y := ⟨_, rfl⟩
          rw [hy] at hck
          have HY : Hid (F.getD k 0 = y) := hy
          have hki : (k : Int) < (F.length : Int) := by omega
          clear hc hgw hy hab
          by_cases g1 : y < 0
          · have Hz : Hid (z = 2) := HZin.out (fun e => by have := e.2.1 k hlt; rw [HY.out] at this; omega)
            go_wp2_with fail
            go_quiet (fail)
            go_wp2_with fail
            go_ret
            exact ⟨by rw [Hz.out]; rfl, grown_trans G1.out (by first | exact G.out | exact grown_drewN G.out _ | exact grown_drew G.out)⟩
          · by_cases g2 : N ≤ y
            · have Hz : Hid (z = 2) := HZin.out (fun e => by have := e.2.1 k hlt; rw [HY.out] at this; omega)
              go_wp2_with fail
              go_quiet (fail)
              go_wp2_with fail
              go_ret
              exact ⟨by rw [Hz.out]; rfl, grown_trans G1.out (by first | exact G.out | exact grown_drewN G.out _ | exact grown_drew G.out)⟩
            · have HJ2 : Hid (∀ j, j < k + 1 → 0 ≤ F.getD j 0 ∧ F.getD j 0 < N) := fun j hj => by
                by_cases e : j = k
                · subst e; rw [HY.out]; omega
                · exact HJ.out j (by omega)
              go_wp2_with fail
              go_quiet (fail)
              go_wp2_with fail
              go_roundw
              case rel => exact ⟨k + 1, by omega, by go_num, (by first | exact G.out | exact grown_drewN G.out _ | exact grown_drew G.out), HJ2.out⟩
              case measure => simp [intOf]; omega
        · have hki : ¬ (k : Int) < (F.length : Int) := by omega
          have RF : Hid (InR F N) := fun i hi => HJ.out i (by omega)
          clear hgw HJ
          go_wp2_with fail
          clear x0 x1 x2 x3 x4 hki hlt
          go_loopw [5] (fun v wr => ∃ k : Nat, k ≤ T.length ∧ v = .int .i64 k ∧ W1.grownBy wr none ∧ ∀ j, j < k → StIn L N (T.getD j (0, 0, 0))) (fun v _ => T.length - (intOf v).toNat)
          case atStart => exact ⟨0, by omega, rfl, G.out, fun j hj => by omega⟩
          case round =>
            clear G
            obtain ⟨k, hk, rfl, hgw, hg⟩ := hrel
            have HJ : Hid (∀ j, j < k → StIn L N (T.getD j (0, 0, 0))) := hg
            have G : Hid (W1.grownBy wr none) := hgw
            obtain ⟨x0, x1, x2, x3, x4⟩ := KK.out wr hgw
            clear hg
            by_cases hlt : k < T.length
            · obtain ⟨bb, off, hab, hc⟩ := (HIT.out wr hgw).at hlt
              obtain ⟨y0, y1, y2⟩ := hc k hlt
              rw [hab] at x3
              have hki : (k : Int) < (T.length : Int) := by omega
              have HNo : Hid (¬ StIn L N (T.getD k (0, 0, 0)) → z = 2) := fun hx => HZin.out (fun e => hx (e.2.2 k hlt))
              have HYes : Hid (StIn L N (T.getD k (0, 0, 0)) → ∀ j, j < k + 1 → StIn L N (T.getD j (0, 0, 0))) := fun hx j hj => by
                by_cases e : j = k
                · subst e; exact hx
                · exact HJ.out j (by omega)
              have cL : ∀ o, (wr.alloc o).cell? ⟨w.heap.size, 0, none⟩ = some (.int .i64 L) := fun o => (KK.out _ (grown_trans hgw (grown_alloc _ o))).1
              have cN : ∀ o, (wr.alloc o).cell? ⟨w.heap.size, 1, none⟩ = some (.int .i64 N) := fun o => (KK.out _ (grown_trans hgw (grown_alloc _ o))).2.1
              have GA : Hid (∀ o, W1.grownBy (wr.alloc o) none) := fun o => grown_trans hgw (grown_alloc _ o)
              clear hc hgw hab
              generalize T.getD k (0, 0, 0) = y at *
              obtain ⟨ff, ll, tt⟩ := y
              simp only at y0 y1 y2
              by_cases g1 : ff < 0
              · have Hz : Hid (z = 2) := HNo.out (fun e => by have := e.1; simp only at this; omega)
                go_wp2_with fail
                go_ret
                exact ⟨by rw [Hz.out]; rfl, grown_trans G1.out (GA.out _)⟩
              by_cases g2 : N ≤ ff
              · have Hz : Hid (z = 2) := HNo.out (fun e => by have := e.1; simp only at this; omega)
                go_wp2_with fail
                go_ret
                exact ⟨by rw [Hz.out]; rfl, grown_trans G1.out (GA.out _)⟩
              by_cases g3 : tt < 0
              · have Hz : Hid (z = 2) := HNo.out (fun e => by have := e.2.1; simp only at this; omega)
                go_wp2_with fail
                go_ret
                exact ⟨by rw [Hz.out]; rfl, grown_trans G1.out (GA.out _)⟩
              by_cases g4 : N ≤ tt
              · have Hz : Hid (z = 2) := HNo.out (fun e => by have := e.2.1; simp only at this; omega)
                go_wp2_with fail
                go_ret
                exact ⟨by rw [Hz.out]; rfl, grown_trans G1.out (GA.out _)⟩
              by_cases g5 : ll < 0
              · have Hz : Hid (z = 2) := HNo.out (fun e => by have := e.2.2; simp only at this; omega)
                go_wp2_with fail
                go_ret
                exact ⟨by rw [Hz.out]; rfl, grown_trans G1.out (GA.out _)⟩
              by_cases g6 : L ≤ ll
              · have Hz : Hid (z = 2) := HNo.out (fun e => by have := e.2.2; simp only at this; omega)
                go_wp2_with fail
                go_ret
                exact ⟨by rw [Hz.out]; rfl, grown_trans G1.out (GA.out _)⟩
              have HS : Hid (StIn L N (ff, ll, tt)) := ⟨by simp only; omega, by simp only; omega, by simp only; omega⟩
              go_wp2_with fail
              go_roundw
              case rel => exact ⟨k + 1, by omega, by go_num, GA.out _, HYes.out HS.out⟩
              case measure => simp [intOf]; omega
            · have hki : ¬ (k : Int) < (T.length : Int) := by omega
              have HIn : Hid (InR S N ∧ InR F N ∧ InT T L N) := ⟨RS.out, RF.out, fun i hi => HJ.out i (by omega)⟩
              have HZr : Hid (¬ (Rise S ∧ Rise F ∧ RiseT T) → z = 3) := fun h => HZri.out HIn.out h
              have HZo : Hid (Rise S ∧ Rise F ∧ RiseT T → z = 0) := fun h => HZok.out HIn.out h
              clear hgw HJ RS RF HZin HZri HZok
              go_wp2_with fail
              clear x0 x1 x2 x3 x4 hki hlt
              go_loopw [7] (fun v wr => ∃ k : Nat, 1 ≤ k ∧ (k ≤ S.length ∨ k = 1) ∧ v = .int .i64 k ∧ W1.grownBy wr none ∧ ∀ j, j + 1 < k → S.getD j 0 < S.getD (j + 1) 0) (fun v _ => S.length - (intOf v).toNat)
              case atStart => exact ⟨1, by omega, .inr rfl, rfl, G.out, fun j hj => by omega⟩
              case round =>
                clear G
                obtain ⟨k, hk1, hk, rfl, hgw, hg⟩ := hrel
                have HJ : Hid (∀ j, j + 1 < k → S.getD j 0 < S.getD (j + 1) 0) := hg
                have G : Hid (W1.grownBy wr none) := hgw
                obtain ⟨x0, x1, x2, x3, x4⟩ := KK.out wr hgw
                clear hg
                by_cases hlt : k < S.length
                · obtain ⟨bb, off, hab, hc⟩ := (HIS.out wr hgw).at hlt
                  have hck := hc k hlt
                  obtain ⟨p, hp⟩ : ∃ p, k - 1 = p := ⟨_, rfl⟩
                  have hcp := hc p (by omega)
                  rw [hab] at x2
                  have HRn : Hid (¬ S.getD p 0 < S.getD k 0 → z = 3) := fun hx => HZr.out (fun e => hx (by have := e.1 p (by omega); rw [show p + 1 = k by omega] at this; exact this))
                  have HRy : Hid (S.getD p 0 < S.getD k 0 → ∀ j, j + 1 < k + 1 → S.getD j 0 < S.getD (j + 1) 0) := fun hx => rise_step hk1 hlt HJ.out (by rw [hp]; exact hx)
                  have hwp : IntKind.i64.wrap ((k : Int) - 1) = (p : Int) := by rw [IntKind.wrap_i64]; omega
                  have hpl : p < S.length := by omega
                  have hki : (k : Int) < (S.length : Int) := by omega
                  clear hc hgw hab hp
                  generalize S.getD p 0 = y at *
                  generalize S.getD k 0 = y' at *
                  by_cases g1 : y' ≤ y
                  · have Hz : Hid (z = 3) := HRn.out (by omega)
                    go_wp2_with fail
                    go_quiet (fail)
                    go_wp2_with fail
                    go_ret
                    exact ⟨by rw [Hz.out]; rfl, grown_trans G1.out (by first | exact G.out | exact grown_drewN G.out _ | exact grown_drew G.out)⟩
                  · have HJ2 : Hid (∀ j, j + 1 < k + 1 → S.getD j 0 < S.getD (j + 1) 0) := HRy.out (by omega)
                    go_wp2_with fail
                    go_quiet (fail)
                    go_wp2_with fail
                    go_roundw
                    case rel => exact ⟨k + 1, by omega, .inl (by omega), by go_num, (by first | exact G.out | exact grown_drewN G.out _ | exact grown_drew G.out), HJ2.out⟩
                    case measure => simp [intOf]; omega
                · have hki : ¬ (k : Int) < (S.length : Int) := by omega
                  have QS : Hid (Rise S) := fun i hi => HJ.out i (by omega)
                  clear hgw HJ
                  go_wp2_with fail
                  clear x0 x1 x2 x3 x4 hki hlt
                  go_loopw [8] (fun v wr => ∃ k : Nat, 1 ≤ k ∧ (k ≤ F.length ∨ k = 1) ∧ v = .int .i64 k ∧ W1.grownBy wr none ∧ ∀ j, j + 1 < k → F.getD j 0 < F.getD (j + 1) 0) (fun v _ => F.length - (intOf v).toNat)
                  case atStart => exact ⟨1, by omega, .inr rfl, rfl, G.out, fun j hj => by omega⟩
                  case round =>
                    clear G
                    obtain ⟨k, hk1, hk, rfl, hgw, hg⟩ := hrel
                    have HJ : Hid (∀ j, j + 1 < k → F.getD j 0 < F.getD (j + 1) 0) := hg
                    have G : Hid (W1.grownBy wr none) := hgw
                    obtain ⟨x0, x1, x2, x3, x4⟩ := KK.out wr hgw
                    clear hg
                    by_cases hlt : k < F.length
                    · obtain ⟨bb, off, hab, hc⟩ := (HIF.out wr hgw).at hlt
                      have hck := hc k hlt
                      obtain ⟨p, hp⟩ : ∃ p, k - 1 = p := ⟨_, rfl⟩
                      have hcp := hc p (by omega)
                      rw [hab] at x4
                      have HRn : Hid (¬ F.getD p 0 < F.getD k 0 → z = 3) := fun hx => HZr.out (fun e => hx (by have := e.2.1 p (by omega); rw [show p + 1 = k by omega] at this; exact this))
                      have HRy : Hid (F.getD p 0 < F.getD k 0 → ∀ j, j + 1 < k + 1 → F.getD j 0 < F.getD (j + 1) 0) := fun hx => rise_step hk1 hlt HJ.out (by rw [hp]; exact hx)
                      have hwp : IntKind.i64.wrap ((k : Int) - 1) = (p : Int) := by rw [IntKind.wrap_i64]; omega
                      have hpl : p < F.length := by omega
                      have hki : (k : Int) < (F.length : Int) := by omega
                      clear hc hgw hab hp
                      generalize F.getD p 0 = y at *
                      generalize F.getD k 0 = y' at *
                      by_cases g1 : y' ≤ y
                      · have Hz : Hid (z = 3) := HRn.out (by omega)
                        go_wp2_with fail
                        go_quiet (fail)
                        go_wp2_with fail
                        go_ret
                        exact ⟨by rw [Hz.out]; rfl, grown_trans G1.out (by first | exact G.out | exact grown_drewN G.out _ | exact grown_drew G.out)⟩
                      · have HJ2 : Hid (∀ j, j + 1 < k + 1 → F.getD j 0 < F.getD (j + 1) 0) := HRy.out (by omega)
                        go_wp2_with fail
                        go_quiet (fail)
                        go_wp2_with fail
                        go_roundw
                        case rel => exact ⟨k + 1, by omega, .inl (by omega), by go_num, (by first | exact G.out | exact grown_drewN G.out _ | exact grown_drew G.out), HJ2.out⟩
                        case measure => simp [intOf]; omega
                    · have hki : ¬ (k : Int) < (F.length : Int) := by omega
                      have QF : Hid (Rise F) := fun i hi => HJ.out i (by omega)
                      clear hgw HJ
                      go_wp2_with fail
                      clear x0 x1 x2 x3 x4 hki hlt
                      go_loopw [9] (fun v wr => ∃ k : Nat, 1 ≤ k ∧ (k ≤ T.length ∨ k = 1) ∧ v = .int .i64 k ∧ W1.grownBy wr none ∧ ∀ j, j + 1 < k → Lex (T.getD j (0, 0, 0)) (T.getD (j + 1) (0, 0, 0))) (fun v _ => T.length - (intOf v).toNat)
                      case atStart => exact ⟨1, by omega, .inr rfl, rfl, G.out, fun j hj => by omega⟩
                      case round =>
                        clear G
                        obtain ⟨k, hk1, hk, rfl, hgw, hg⟩ := hrel
                        have HJ : Hid (∀ j, j + 1 < k → Lex (T.getD j (0, 0, 0)) (T.getD (j + 1) (0, 0, 0))) := hg
                        have G : Hid (W1.grownBy wr none) := hgw
                        obtain ⟨x0, x1, x2, x3, x4⟩ := KK.out wr hgw
                        clear hg
                        by_cases hlt : k < T.length
                        · obtain ⟨bb, off, hab, hc⟩ := (HIT.out wr hgw).at hlt
                          obtain ⟨p, hp⟩ : ∃ p, k - 1 = p := ⟨_, rfl⟩
                          obtain ⟨y0, y1, y2⟩ := hc k hlt
                          obtain ⟨q0, q1, q2⟩ := hc p (by omega)
                          rw [hab] at x3
                          have HRn : Hid (¬ Lex (T.getD p (0, 0, 0)) (T.getD k (0, 0, 0)) → z = 3) := fun hx => HZr.out (fun e => hx (by have := e.2.2 p (by omega); rw [show p + 1 = k by omega] at this; exact this))
                          have HRy : Hid (Lex (T.getD p (0, 0, 0)) (T.getD k (0, 0, 0)) → ∀ j, j + 1 < k + 1 → Lex (T.getD j (0, 0, 0)) (T.getD (j + 1) (0, 0, 0))) := fun hx => riseT_step hk1 hlt HJ.out (by rw [hp]; exact hx)
                          have hwp : IntKind.i64.wrap ((k : Int) - 1) = (p : Int) := by rw [IntKind.wrap_i64]; omega
                          have hpl : p < T.length := by omega
                          have hki : (k : Int) < (T.length : Int) := by omega
                          have HC : Hid (∀ W, Calls Try.prog 25 #[stepV (T.getD p (0, 0, 0)), stepV (T.getD k (0, 0, 0))] W (TellsB (Lex (T.getD p (0, 0, 0)) (T.getD k (0, 0, 0))) W)) := fun W => HAh.out _ _ W
                          clear hc hgw hab hp
                          generalize T.getD p (0, 0, 0) = xx at *
                          generalize T.getD k (0, 0, 0) = yy at *
                          by_cases g1 : Lex xx yy
                          · have HC2 : Hid (∀ W, Calls Try.prog 25 #[stepV xx, stepV yy] W (Says (.bool true) W)) := fun W => (HC.out W).mono fun e w' h => says_of_tells h g1
                            have HJ2 : Hid (∀ j, j + 1 < k + 1 → Lex (T.getD j (0, 0, 0)) (T.getD (j + 1) (0, 0, 0))) := HRy.out g1
                            clear g1 HC
                            obtain ⟨ff, ll, tt⟩ := xx
                            obtain ⟨f', l', t'⟩ := yy
                            simp only [stepV] at HC2 y0 y1 y2 q0 q1 q2
                            go_wp2_with fail
                            go_region_with (go_at_call 25; refine (HC2.out _).mono ?_; rintro E w3 ⟨rfl, hg3⟩; have G3 : Hid (W1.grownBy w3 none) := grown_trans (by first | exact G.out | exact grown_drewN G.out _ | exact grown_drew G.out) hg3)
                            all_goals
                              go_wp2_with fail
                              go_roundw
                              case rel => exact ⟨k + 1, by omega, .inl (by omega), by go_num, G3.out, HJ2.out⟩
                              case measure => simp [intOf]; omega
                          · have HC2 : Hid (∀ W, Calls Try.prog 25 #[stepV xx, stepV yy] W (Says (.bool false) W)) := fun W => (HC.out W).mono fun e w' h => says_not h g1
                            have Hz : Hid (z = 3) := HRn.out g1
                            clear g1 HC
                            obtain ⟨ff, ll, tt⟩ := xx
                            obtain ⟨f', l', t'⟩ := yy
                            simp only [stepV] at HC2 y0 y1 y2 q0 q1 q2
                            go_wp2_with fail
                            go_region_with (go_at_call 25; refine (HC2.out _).mono ?_; rintro E w3 ⟨rfl, hg3⟩; have G3 : Hid (W1.grownBy w3 none) := grown_trans (by first | exact G.out | exact grown_drewN G.out _ | exact grown_drew G.out) hg3)
                            all_goals
                              go_wp2_with fail
                              go_ret
                              exact ⟨by rw [Hz.out]; rfl, grown_trans G1.out G3.out⟩
                        · have hki : ¬ (k : Int) < (T.length : Int) := by omega
                          have Hz : Hid (z = 0) := HZo.out ⟨QS.out, QF.out, fun i hi => HJ.out i (by omega)⟩
                          clear hgw HJ
                          go_wp2_with fail
                          go_ret
                          exact ⟨by rw [Hz.out]; rfl, grown_trans G1.out G.out⟩

end Go.Proofs.Ytaangdomdeklhaa
