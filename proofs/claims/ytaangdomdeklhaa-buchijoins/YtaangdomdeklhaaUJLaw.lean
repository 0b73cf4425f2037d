/- The walk of the law BuchiJoins, case by case, out of the contracts of what it calls. -/
import Derived.Test.YtaangdomdeklhaaUJEithG
import Derived.Test.YtaangdomdeklhaaULasV
namespace Go.Proofs.Ytaangdomdeklhaa
open Go.RowKit
set_option linter.unusedVariables false

set_option maxHeartbeats 1600000 in
theorem noAuto_yes (w : World) : Calls Try.prog 17 #[noAutV] w (Says (.bool true) w) := by
  have G : Hid (∀ o, w.grownBy (w.alloc o) none) := fun o => grown_alloc w o
  go_enter Try.func17, Try.ntmps17
  go_wp2_with fail
  go_ret
  exact ⟨rfl, G.out _⟩

theorem boxLJ (w : World) (v0 v1 : Value) : ∃ W, W = w.alloc (.cells #[v0, v1] 42) ∧ w.grownBy W none ∧ ∀ W', W.grownBy W' none → W'.cell? ⟨w.heap.size, 0, none⟩ = some v0 ∧ W'.cell? ⟨w.heap.size, 1, none⟩ = some v1 := by
  refine ⟨_, rfl, grown_alloc _ _, fun W' h => ?_⟩
  have hb := heap_alloc_new w (.cells #[v0, v1] 42)
  exact ⟨h.cell (by rw [cell_of_row _ _ 0 _ _ (0, 0) hb]; rfl) (by simp), h.cell (by rw [cell_of_row _ _ 1 _ _ (0, 0) hb]; rfl) (by simp)⟩

theorem law_boxes2 (w : World) (L N : Int) (vS vT vF : Value) (L' N' : Int) (uS uT uF : Value) (v0 v1 : Value) : ∃ W, W = ((w.alloc (.cells #[.int .i64 L, .int .i64 N, vS, vT, vF] 25)).alloc (.cells #[.int .i64 L', .int .i64 N', uS, uT, uF] 25)).alloc (.cells #[v0, v1] 42) ∧ w.grownBy W none ∧ (∀ W', W.grownBy W' none → KeepC W W' w.heap.size L N vS vT vF) ∧ (∀ W', W.grownBy W' none → KeepC W W' (w.heap.size + 1) L' N' uS uT uF) ∧ (∀ W', W.grownBy W' none → W'.cell? ⟨w.heap.size + 1 + 1, 0, none⟩ = some v0 ∧ W'.cell? ⟨w.heap.size + 1 + 1, 1, none⟩ = some v1) := by
  obtain ⟨W1, hW1, g1, s1, k1⟩ := two_boxes w L N vS vT vF L' N' uS uT uF
  obtain ⟨W2, hW2, g2, bx2⟩ := boxLJ W1 v0 v1
  rw [s1] at bx2
  refine ⟨W2, by rw [hW2, hW1], grown_trans g1 g2, fun W' h => ?_, fun W' h => ?_, bx2⟩
  · obtain ⟨_, x0, x1, x2, x3, x4, y0, y1, y2, y3, y4⟩ := k1.call (grown_trans g2 h)
    exact ⟨h, x0, x1, x2, x3, x4⟩
  · obtain ⟨_, x0, x1, x2, x3, x4, y0, y1, y2, y3, y4⟩ := k1.call (grown_trans g2 h)
    exact ⟨h, y0, y1, y2, y3, y4⟩

set_option maxHeartbeats 6400000 in
set_option maxRecDepth 100000 in
theorem bj_bad (x y : Aut) (r ck1 ck2 : Int) (a b e a' b' e' ah al : Option Addr) (c d f c' d' f' nh ch nl cl : Nat) (w : World)
    (hcase : (r ≠ 0 ∧ r = ck1) ∨ (ck1 = 0 ∧ r ≠ 0 ∧ r = ck2) ∨ (ck1 = 0 ∧ ck2 = 0 ∧ x.L ≠ y.L ∧ r = 3) ∨ (ck1 = 0 ∧ ck2 = 0 ∧ x.L = y.L ∧ (8 < x.N ∨ 8 < y.N) ∧ r = 1))
    (HAu1 : Hid (∀ W, w.grownBy W none → Calls Try.prog 5 #[autV x.L x.N a x.S.length c b x.T.length d e x.F.length f] W (AutoPost x W)))
    (HAu2 : Hid (∀ W, w.grownBy W none → Calls Try.prog 5 #[autV y.L y.N a' y.S.length c' b' y.T.length d' e' y.F.length f'] W (AutoPost y W)))
    (HSa1 : Hid (∀ W a1 b1 e1 c1 d1 f1, w.grownBy W none → AutAt W x a1 b1 e1 → Calls Try.prog 7 #[autV x.L x.N a1 x.S.length c1 b1 x.T.length d1 e1 x.F.length f1, autV x.L x.N a x.S.length c b x.T.length d e x.F.length f] W (Says (.bool true) W)))
    (HSa2 : Hid (∀ W a1 b1 e1 c1 d1 f1, w.grownBy W none → AutAt W y a1 b1 e1 → Calls Try.prog 7 #[autV y.L y.N a1 y.S.length c1 b1 y.T.length d1 e1 y.F.length f1, autV y.L y.N a' y.S.length c' b' y.T.length d' e' y.F.length f'] W (Says (.bool true) W)))
    (HC1 : Hid (∀ W, w.grownBy W none → Calls Try.prog 9 #[autV x.L x.N a x.S.length c b x.T.length d e x.F.length f] W (Says (.int .i64 ck1) W)))
    (HC2 : Hid (∀ W, w.grownBy W none → Calls Try.prog 9 #[autV y.L y.N a' y.S.length c' b' y.T.length d' e' y.F.length f'] W (Says (.int .i64 ck2) W)))
    (HEi : Hid (∀ W a1 b1 e1 c1 d1 f1 a2 b2 e2 c2 d2 f2, AutAt W x a1 b1 e1 → AutAt W y a2 b2 e2 → Calls Try.prog 15 #[autV x.L x.N a1 x.S.length c1 b1 x.T.length d1 e1 x.F.length f1, autV y.L y.N a2 y.S.length c2 b2 y.T.length d2 e2 y.F.length f2] W (Says (.tuple #[noAutV, .int .i64 r]) W)))
    (HBo : Hid (∀ W a1 b1 e1 c1 d1 f1 a2 b2 e2 c2 d2 f2, AutAt W x a1 b1 e1 → AutAt W y a2 b2 e2 → Calls Try.prog 16 #[autV x.L x.N a1 x.S.length c1 b1 x.T.length d1 e1 x.F.length f1, autV y.L y.N a2 y.S.length c2 b2 y.T.length d2 e2 y.F.length f2] W (Says (.tuple #[noAutV, .int .i64 r]) W)))
    (HNo : Hid (∀ W, Calls Try.prog 17 #[noAutV] W (Says (.bool true) W)))
    : Calls Try.prog 4 #[autV x.L x.N a x.S.length c b x.T.length d e x.F.length f, autV y.L y.N a' y.S.length c' b' y.T.length d' e' y.F.length f', lasV ah nh ch al nl cl] w (Says (.bool true) w) := by
  obtain ⟨w0, hW, hg, bA, bB, bL⟩ := law_boxes2 w x.L x.N (.slice a x.S.length c) (.slice b x.T.length d) (.slice e x.F.length f) y.L y.N (.slice a' y.S.length c') (.slice b' y.T.length d') (.slice e' y.F.length f') (.slice ah nh ch) (.slice al nl cl)
  have BA : Hid (∀ W', w0.grownBy W' none → KeepC w0 W' w.heap.size x.L x.N (.slice a x.S.length c) (.slice b x.T.length d) (.slice e x.F.length f)) := bA
  have BB : Hid (∀ W', w0.grownBy W' none → KeepC w0 W' (w.heap.size + 1) y.L y.N (.slice a' y.S.length c') (.slice b' y.T.length d') (.slice e' y.F.length f')) := bB
  have BL : Hid (∀ W', w0.grownBy W' none → W'.cell? ⟨w.heap.size + 1 + 1, 0, none⟩ = some (.slice ah nh ch) ∧ W'.cell? ⟨w.heap.size + 1 + 1, 1, none⟩ = some (.slice al nl cl)) := bL
  have Gw_w0 : Hid (World.grownBy w w0 none) := grown_trans (grown_refl _ _) hg
  have HWw0 : Hid (w0 = _) := hW
  clear hg bA bB bL hW
  obtain ⟨_, A0, A1, A2, A3, A4⟩ := BA.out w0 (grown_refl _ _)
  rw [HWw0.out] at A0 A1 A2 A3 A4
  go_enter Try.func4, Try.ntmps4
  go_wp2_with fail
  rw [← HWw0.out]
  clear HWw0
  clear A0 A1 A2 A3 A4
  refine (HAu1.out _ Gw_w0.out).mono ?_
  rintro E w1 ⟨a1, b1, e1, c1, d1, f1, rfl, hX, hg⟩
  have KX : Hid (∀ W, w1.grownBy W none → AutAt W x a1 b1 e1) := fun W hW => hX.grown hW
  clear hX
  have Gw_w1 : Hid (World.grownBy w w1 none) := grown_trans (Gw_w0.out) hg
  have Gw0_w1 : Hid (World.grownBy w0 w1 none) := grown_trans (grown_refl _ _) hg
  clear hg
  obtain ⟨w2, hW, hg, hs, hb⟩ := boxA_new w1 x.L x.N a1 x.S.length c1 b1 x.T.length d1 e1 x.F.length f1
  have BX : Hid (∀ W', World.grownBy w2 W' none → KeepC w2 W' w1.heap.size x.L x.N (.slice a1 x.S.length c1) (.slice b1 x.T.length d1) (.slice e1 x.F.length f1)) := fun W' h => ⟨h, hb W' h⟩
  have Gw_w2 : Hid (World.grownBy w w2 none) := grown_trans (Gw_w1.out) hg
  have Gw0_w2 : Hid (World.grownBy w0 w2 none) := grown_trans (Gw0_w1.out) hg
  have Gw1_w2 : Hid (World.grownBy w1 w2 none) := grown_trans (grown_refl _ _) hg
  have HWw2 : Hid (w2 = _) := hW
  clear hg hs hb hW
  obtain ⟨_, B0, B1, B2, B3, B4⟩ := BB.out w2 (Gw0_w2.out)
  rw [HWw2.out] at B0 B1 B2 B3 B4
  go_wp2_with fail
  rw [← HWw2.out]
  clear HWw2
  clear B0 B1 B2 B3 B4
  refine (HAu2.out _ Gw_w2.out).mono ?_
  rintro E w3 ⟨a2, b2, e2, c2, d2, f2, rfl, hY, hg⟩
  have KY : Hid (∀ W, World.grownBy w3 W none → AutAt W y a2 b2 e2) := fun W hW => hY.grown hW
  clear hY
  have Gw_w3 : Hid (World.grownBy w w3 none) := grown_trans (Gw_w2.out) hg
  have Gw0_w3 : Hid (World.grownBy w0 w3 none) := grown_trans (Gw0_w2.out) hg
  have Gw1_w3 : Hid (World.grownBy w1 w3 none) := grown_trans (Gw1_w2.out) hg
  have Gw2_w3 : Hid (World.grownBy w2 w3 none) := grown_trans (grown_refl _ _) hg
  clear hg
  obtain ⟨w4, hW, hg, hs, hb⟩ := boxA_new w3 y.L y.N a2 y.S.length c2 b2 y.T.length d2 e2 y.F.length f2
  have BY : Hid (∀ W', World.grownBy w4 W' none → KeepC w4 W' w3.heap.size y.L y.N (.slice a2 y.S.length c2) (.slice b2 y.T.length d2) (.slice e2 y.F.length f2)) := fun W' h => ⟨h, hb W' h⟩
  have Gw_w4 : Hid (World.grownBy w w4 none) := grown_trans (Gw_w3.out) hg
  have Gw0_w4 : Hid (World.grownBy w0 w4 none) := grown_trans (Gw0_w3.out) hg
  have Gw1_w4 : Hid (World.grownBy w1 w4 none) := grown_trans (Gw1_w3.out) hg
  have Gw2_w4 : Hid (World.grownBy w2 w4 none) := grown_trans (Gw2_w3.out) hg
  have Gw3_w4 : Hid (World.grownBy w3 w4 none) := grown_trans (grown_refl _ _) hg
  have HWw4 : Hid (w4 = _) := hW
  clear hg hs hb hW
  obtain ⟨_, X0, X1, X2, X3, X4⟩ := BX.out w4 (Gw2_w4.out)
  obtain ⟨_, Y0, Y1, Y2, Y3, Y4⟩ := BY.out w4 (grown_refl _ _)
  rw [HWw4.out] at X0 X1 X2 X3 X4 Y0 Y1 Y2 Y3 Y4
  go_wp2_with fail
  rw [← HWw4.out]
  clear HWw4
  clear X0 X1 X2 X3 X4 Y0 Y1 Y2 Y3 Y4
  refine (HEi.out _ _ _ _ _ _ _ _ _ _ _ _ _ (KX.out _ Gw1_w4.out) (KY.out _ Gw3_w4.out)).mono ?_
  rintro E w5 ⟨rfl, hg⟩
  have Gw_w5 : Hid (World.grownBy w w5 none) := grown_trans (Gw_w4.out) hg
  have Gw0_w5 : Hid (World.grownBy w0 w5 none) := grown_trans (Gw0_w4.out) hg
  have Gw1_w5 : Hid (World.grownBy w1 w5 none) := grown_trans (Gw1_w4.out) hg
  have Gw2_w5 : Hid (World.grownBy w2 w5 none) := grown_trans (Gw2_w4.out) hg
  have Gw3_w5 : Hid (World.grownBy w3 w5 none) := grown_trans (Gw3_w4.out) hg
  have Gw4_w5 : Hid (World.grownBy w4 w5 none) := grown_trans (grown_refl _ _) hg
  clear hg
  obtain ⟨w6, hW, hg, hs, hb⟩ := boxA_new w5 0 0 none 0 0 none 0 0 none 0 0
  have BO : Hid (∀ W', World.grownBy w6 W' none → KeepC w6 W' w5.heap.size 0 0 (.slice none 0 0) (.slice none 0 0) (.slice none 0 0)) := fun W' h => ⟨h, hb W' h⟩
  have Gw_w6 : Hid (World.grownBy w w6 none) := grown_trans (Gw_w5.out) hg
  have Gw0_w6 : Hid (World.grownBy w0 w6 none) := grown_trans (Gw0_w5.out) hg
  have Gw1_w6 : Hid (World.grownBy w1 w6 none) := grown_trans (Gw1_w5.out) hg
  have Gw2_w6 : Hid (World.grownBy w2 w6 none) := grown_trans (Gw2_w5.out) hg
  have Gw3_w6 : Hid (World.grownBy w3 w6 none) := grown_trans (Gw3_w5.out) hg
  have Gw4_w6 : Hid (World.grownBy w4 w6 none) := grown_trans (Gw4_w5.out) hg
  have HWw6 : Hid (w6 = _) := hW
  clear hg hs hb hW
  obtain ⟨_, X0, X1, X2, X3, X4⟩ := BX.out w6 (Gw2_w6.out)
  obtain ⟨_, Y0, Y1, Y2, Y3, Y4⟩ := BY.out w6 (Gw4_w6.out)
  rw [HWw6.out] at X0 X1 X2 X3 X4 Y0 Y1 Y2 Y3 Y4
  go_wp2_with fail
  rw [← HWw6.out]
  clear HWw6
  clear X0 X1 X2 X3 X4 Y0 Y1 Y2 Y3 Y4
  refine (HBo.out _ _ _ _ _ _ _ _ _ _ _ _ _ (KX.out _ Gw1_w6.out) (KY.out _ Gw3_w6.out)).mono ?_
  rintro E w7 ⟨rfl, hg⟩
  have Gw_w7 : Hid (World.grownBy w w7 none) := grown_trans (Gw_w6.out) hg
  have Gw0_w7 : Hid (World.grownBy w0 w7 none) := grown_trans (Gw0_w6.out) hg
  have Gw1_w7 : Hid (World.grownBy w1 w7 none) := grown_trans (Gw1_w6.out) hg
  have Gw2_w7 : Hid (World.grownBy w2 w7 none) := grown_trans (Gw2_w6.out) hg
  have Gw3_w7 : Hid (World.grownBy w3 w7 none) := grown_trans (Gw3_w6.out) hg
  have Gw4_w7 : Hid (World.grownBy w4 w7 none) := grown_trans (Gw4_w6.out) hg
  have Gw6_w7 : Hid (World.grownBy w6 w7 none) := grown_trans (grown_refl _ _) hg
  clear hg
  obtain ⟨w8, hW, hg, hs, hb⟩ := boxA_new w7 0 0 none 0 0 none 0 0 none 0 0
  have BN : Hid (∀ W', World.grownBy w8 W' none → KeepC w8 W' w7.heap.size 0 0 (.slice none 0 0) (.slice none 0 0) (.slice none 0 0)) := fun W' h => ⟨h, hb W' h⟩
  have Gw_w8 : Hid (World.grownBy w w8 none) := grown_trans (Gw_w7.out) hg
  have Gw0_w8 : Hid (World.grownBy w0 w8 none) := grown_trans (Gw0_w7.out) hg
  have Gw1_w8 : Hid (World.grownBy w1 w8 none) := grown_trans (Gw1_w7.out) hg
  have Gw2_w8 : Hid (World.grownBy w2 w8 none) := grown_trans (Gw2_w7.out) hg
  have Gw3_w8 : Hid (World.grownBy w3 w8 none) := grown_trans (Gw3_w7.out) hg
  have Gw4_w8 : Hid (World.grownBy w4 w8 none) := grown_trans (Gw4_w7.out) hg
  have Gw6_w8 : Hid (World.grownBy w6 w8 none) := grown_trans (Gw6_w7.out) hg
  have HWw8 : Hid (w8 = _) := hW
  clear hg hs hb hW
  obtain ⟨_, X0, X1, X2, X3, X4⟩ := BX.out w8 (Gw2_w8.out)
  obtain ⟨_, A0, A1, A2, A3, A4⟩ := BA.out w8 (Gw0_w8.out)
  rw [HWw8.out] at X0 X1 X2 X3 X4 A0 A1 A2 A3 A4
  go_wp2_with fail
  rw [← HWw8.out]
  clear HWw8
  clear X0 X1 X2 X3 X4 A0 A1 A2 A3 A4
  refine (HSa1.out _ _ _ _ _ _ _ Gw_w8.out (KX.out _ Gw1_w8.out)).mono ?_
  rintro E w9 ⟨rfl, hg⟩
  have Gw_w9 : Hid (World.grownBy w w9 none) := grown_trans (Gw_w8.out) hg
  have Gw0_w9 : Hid (World.grownBy w0 w9 none) := grown_trans (Gw0_w8.out) hg
  have Gw1_w9 : Hid (World.grownBy w1 w9 none) := grown_trans (Gw1_w8.out) hg
  have Gw2_w9 : Hid (World.grownBy w2 w9 none) := grown_trans (Gw2_w8.out) hg
  have Gw3_w9 : Hid (World.grownBy w3 w9 none) := grown_trans (Gw3_w8.out) hg
  have Gw4_w9 : Hid (World.grownBy w4 w9 none) := grown_trans (Gw4_w8.out) hg
  have Gw6_w9 : Hid (World.grownBy w6 w9 none) := grown_trans (Gw6_w8.out) hg
  have Gw8_w9 : Hid (World.grownBy w8 w9 none) := grown_trans (grown_refl _ _) hg
  clear hg
  obtain ⟨_, Y0, Y1, Y2, Y3, Y4⟩ := BY.out w9 (Gw4_w9.out)
  obtain ⟨_, B0, B1, B2, B3, B4⟩ := BB.out w9 (Gw0_w9.out)
  go_wp2_with fail
  clear Y0 Y1 Y2 Y3 Y4 B0 B1 B2 B3 B4
  refine (HSa2.out _ _ _ _ _ _ _ Gw_w9.out (KY.out _ Gw3_w9.out)).mono ?_
  rintro E w10 ⟨rfl, hg⟩
  have Gw_w10 : Hid (World.grownBy w w10 none) := grown_trans (Gw_w9.out) hg
  have Gw0_w10 : Hid (World.grownBy w0 w10 none) := grown_trans (Gw0_w9.out) hg
  have Gw1_w10 : Hid (World.grownBy w1 w10 none) := grown_trans (Gw1_w9.out) hg
  have Gw2_w10 : Hid (World.grownBy w2 w10 none) := grown_trans (Gw2_w9.out) hg
  have Gw3_w10 : Hid (World.grownBy w3 w10 none) := grown_trans (Gw3_w9.out) hg
  have Gw4_w10 : Hid (World.grownBy w4 w10 none) := grown_trans (Gw4_w9.out) hg
  have Gw6_w10 : Hid (World.grownBy w6 w10 none) := grown_trans (Gw6_w9.out) hg
  have Gw8_w10 : Hid (World.grownBy w8 w10 none) := grown_trans (Gw8_w9.out) hg
  clear hg
  obtain ⟨_, A0, A1, A2, A3, A4⟩ := BA.out w10 (Gw0_w10.out)
  go_wp2_with fail
  clear A0 A1 A2 A3 A4
  refine (HC1.out _ Gw_w10.out).mono ?_
  rintro E w11 ⟨rfl, hg⟩
  have Gw_w11 : Hid (World.grownBy w w11 none) := grown_trans (Gw_w10.out) hg
  have Gw0_w11 : Hid (World.grownBy w0 w11 none) := grown_trans (Gw0_w10.out) hg
  have Gw1_w11 : Hid (World.grownBy w1 w11 none) := grown_trans (Gw1_w10.out) hg
  have Gw2_w11 : Hid (World.grownBy w2 w11 none) := grown_trans (Gw2_w10.out) hg
  have Gw3_w11 : Hid (World.grownBy w3 w11 none) := grown_trans (Gw3_w10.out) hg
  have Gw4_w11 : Hid (World.grownBy w4 w11 none) := grown_trans (Gw4_w10.out) hg
  have Gw6_w11 : Hid (World.grownBy w6 w11 none) := grown_trans (Gw6_w10.out) hg
  have Gw8_w11 : Hid (World.grownBy w8 w11 none) := grown_trans (Gw8_w10.out) hg
  clear hg
  rcases hcase with ⟨k1, rfl⟩ | ⟨rfl, k2, rfl⟩ | ⟨rfl, rfl, k3, rfl⟩ | ⟨rfl, rfl, k3, k4, rfl⟩
  · have f1 : (r != 0) = true := by simpa using k1
    have f2 : (r == 0) = false := by simpa using k1
    have f3 : (r == r) = true := by simp
    obtain ⟨_, A0, A1, A2, A3, A4⟩ := BA.out w11 (Gw0_w11.out)
    obtain ⟨_, B0, B1, B2, B3, B4⟩ := BB.out w11 (Gw0_w11.out)
    obtain ⟨_, O0, O1, O2, O3, O4⟩ := BO.out w11 (Gw6_w11.out)
    go_wp2_with fail
    clear A0 A1 A2 A3 A4 B0 B1 B2 B3 B4 O0 O1 O2 O3 O4
    refine (HNo.out _).mono ?_
    rintro E w12 ⟨rfl, hg⟩
    have Gw_w12 : Hid (World.grownBy w w12 none) := grown_trans (Gw_w11.out) hg
    have Gw0_w12 : Hid (World.grownBy w0 w12 none) := grown_trans (Gw0_w11.out) hg
    have Gw1_w12 : Hid (World.grownBy w1 w12 none) := grown_trans (Gw1_w11.out) hg
    have Gw2_w12 : Hid (World.grownBy w2 w12 none) := grown_trans (Gw2_w11.out) hg
    have Gw3_w12 : Hid (World.grownBy w3 w12 none) := grown_trans (Gw3_w11.out) hg
    have Gw4_w12 : Hid (World.grownBy w4 w12 none) := grown_trans (Gw4_w11.out) hg
    have Gw6_w12 : Hid (World.grownBy w6 w12 none) := grown_trans (Gw6_w11.out) hg
    have Gw8_w12 : Hid (World.grownBy w8 w12 none) := grown_trans (Gw8_w11.out) hg
    clear hg
    obtain ⟨_, N0, N1, N2, N3, N4⟩ := BN.out w12 (Gw8_w12.out)
    go_wp2_with fail
    clear N0 N1 N2 N3 N4
    refine (HNo.out _).mono ?_
    rintro E w13 ⟨rfl, hg⟩
    have Gw_w13 : Hid (World.grownBy w w13 none) := grown_trans (Gw_w12.out) hg
    have Gw0_w13 : Hid (World.grownBy w0 w13 none) := grown_trans (Gw0_w12.out) hg
    have Gw1_w13 : Hid (World.grownBy w1 w13 none) := grown_trans (Gw1_w12.out) hg
    have Gw2_w13 : Hid (World.grownBy w2 w13 none) := grown_trans (Gw2_w12.out) hg
    have Gw3_w13 : Hid (World.grownBy w3 w13 none) := grown_trans (Gw3_w12.out) hg
    have Gw4_w13 : Hid (World.grownBy w4 w13 none) := grown_trans (Gw4_w12.out) hg
    have Gw6_w13 : Hid (World.grownBy w6 w13 none) := grown_trans (Gw6_w12.out) hg
    have Gw8_w13 : Hid (World.grownBy w8 w13 none) := grown_trans (Gw8_w12.out) hg
    clear hg
    go_wp2_with fail
    go_ret
    exact ⟨rfl, Gw_w13.out⟩
  · have f1 : (r != 0) = true := by simpa using k2
    have f2 : (r == 0) = false := by simpa using k2
    have f3 : (r == r) = true := by simp
    obtain ⟨_, A0, A1, A2, A3, A4⟩ := BA.out w11 (Gw0_w11.out)
    obtain ⟨_, B0, B1, B2, B3, B4⟩ := BB.out w11 (Gw0_w11.out)
    go_wp2_with fail
    clear A0 A1 A2 A3 A4 B0 B1 B2 B3 B4
    refine (HC2.out _ Gw_w11.out).mono ?_
    rintro E w12 ⟨rfl, hg⟩
    have Gw_w12 : Hid (World.grownBy w w12 none) := grown_trans (Gw_w11.out) hg
    have Gw0_w12 : Hid (World.grownBy w0 w12 none) := grown_trans (Gw0_w11.out) hg
    have Gw1_w12 : Hid (World.grownBy w1 w12 none) := grown_trans (Gw1_w11.out) hg
    have Gw2_w12 : Hid (World.grownBy w2 w12 none) := grown_trans (Gw2_w11.out) hg
    have Gw3_w12 : Hid (World.grownBy w3 w12 none) := grown_trans (Gw3_w11.out) hg
    have Gw4_w12 : Hid (World.grownBy w4 w12 none) := grown_trans (Gw4_w11.out) hg
    have Gw6_w12 : Hid (World.grownBy w6 w12 none) := grown_trans (Gw6_w11.out) hg
    have Gw8_w12 : Hid (World.grownBy w8 w12 none) := grown_trans (Gw8_w11.out) hg
    clear hg
    obtain ⟨_, A0, A1, A2, A3, A4⟩ := BA.out w12 (Gw0_w12.out)
    obtain ⟨_, B0, B1, B2, B3, B4⟩ := BB.out w12 (Gw0_w12.out)
    obtain ⟨_, O0, O1, O2, O3, O4⟩ := BO.out w12 (Gw6_w12.out)
    go_wp2_with fail
    clear A0 A1 A2 A3 A4 B0 B1 B2 B3 B4 O0 O1 O2 O3 O4
    refine (HNo.out _).mono ?_
    rintro E w13 ⟨rfl, hg⟩
    have Gw_w13 : Hid (World.grownBy w w13 none) := grown_trans (Gw_w12.out) hg
    have Gw0_w13 : Hid (World.grownBy w0 w13 none) := grown_trans (Gw0_w12.out) hg
    have Gw1_w13 : Hid (World.grownBy w1 w13 none) := grown_trans (Gw1_w12.out) hg
    have Gw2_w13 : Hid (World.grownBy w2 w13 none) := grown_trans (Gw2_w12.out) hg
    have Gw3_w13 : Hid (World.grownBy w3 w13 none) := grown_trans (Gw3_w12.out) hg
    have Gw4_w13 : Hid (World.grownBy w4 w13 none) := grown_trans (Gw4_w12.out) hg
    have Gw6_w13 : Hid (World.grownBy w6 w13 none) := grown_trans (Gw6_w12.out) hg
    have Gw8_w13 : Hid (World.grownBy w8 w13 none) := grown_trans (Gw8_w12.out) hg
    clear hg
    obtain ⟨_, N0, N1, N2, N3, N4⟩ := BN.out w13 (Gw8_w13.out)
    go_wp2_with fail
    clear N0 N1 N2 N3 N4
    refine (HNo.out _).mono ?_
    rintro E w14 ⟨rfl, hg⟩
    have Gw_w14 : Hid (World.grownBy w w14 none) := grown_trans (Gw_w13.out) hg
    have Gw0_w14 : Hid (World.grownBy w0 w14 none) := grown_trans (Gw0_w13.out) hg
    have Gw1_w14 : Hid (World.grownBy w1 w14 none) := grown_trans (Gw1_w13.out) hg
    have Gw2_w14 : Hid (World.grownBy w2 w14 none) := grown_trans (Gw2_w13.out) hg
    have Gw3_w14 : Hid (World.grownBy w3 w14 none) := grown_trans (Gw3_w13.out) hg
    have Gw4_w14 : Hid (World.grownBy w4 w14 none) := grown_trans (Gw4_w13.out) hg
    have Gw6_w14 : Hid (World.grownBy w6 w14 none) := grown_trans (Gw6_w13.out) hg
    have Gw8_w14 : Hid (World.grownBy w8 w14 none) := grown_trans (Gw8_w13.out) hg
    clear hg
    go_wp2_with fail
    go_ret
    exact ⟨rfl, Gw_w14.out⟩
  · have f1 : (x.L != y.L) = true := by simpa using k3
    obtain ⟨_, A0, A1, A2, A3, A4⟩ := BA.out w11 (Gw0_w11.out)
    obtain ⟨_, B0, B1, B2, B3, B4⟩ := BB.out w11 (Gw0_w11.out)
    go_wp2_with fail
    clear A0 A1 A2 A3 A4 B0 B1 B2 B3 B4
    refine (HC2.out _ Gw_w11.out).mono ?_
    rintro E w12 ⟨rfl, hg⟩
    have Gw_w12 : Hid (World.grownBy w w12 none) := grown_trans (Gw_w11.out) hg
    have Gw0_w12 : Hid (World.grownBy w0 w12 none) := grown_trans (Gw0_w11.out) hg
    have Gw1_w12 : Hid (World.grownBy w1 w12 none) := grown_trans (Gw1_w11.out) hg
    have Gw2_w12 : Hid (World.grownBy w2 w12 none) := grown_trans (Gw2_w11.out) hg
    have Gw3_w12 : Hid (World.grownBy w3 w12 none) := grown_trans (Gw3_w11.out) hg
    have Gw4_w12 : Hid (World.grownBy w4 w12 none) := grown_trans (Gw4_w11.out) hg
    have Gw6_w12 : Hid (World.grownBy w6 w12 none) := grown_trans (Gw6_w11.out) hg
    have Gw8_w12 : Hid (World.grownBy w8 w12 none) := grown_trans (Gw8_w11.out) hg
    clear hg
    obtain ⟨_, A0, A1, A2, A3, A4⟩ := BA.out w12 (Gw0_w12.out)
    obtain ⟨_, B0, B1, B2, B3, B4⟩ := BB.out w12 (Gw0_w12.out)
    obtain ⟨_, O0, O1, O2, O3, O4⟩ := BO.out w12 (Gw6_w12.out)
    go_wp2_with fail
    clear A0 A1 A2 A3 A4 B0 B1 B2 B3 B4 O0 O1 O2 O3 O4
    refine (HNo.out _).mono ?_
    rintro E w13 ⟨rfl, hg⟩
    have Gw_w13 : Hid (World.grownBy w w13 none) := grown_trans (Gw_w12.out) hg
    have Gw0_w13 : Hid (World.grownBy w0 w13 none) := grown_trans (Gw0_w12.out) hg
    have Gw1_w13 : Hid (World.grownBy w1 w13 none) := grown_trans (Gw1_w12.out) hg
    have Gw2_w13 : Hid (World.grownBy w2 w13 none) := grown_trans (Gw2_w12.out) hg
    have Gw3_w13 : Hid (World.grownBy w3 w13 none) := grown_trans (Gw3_w12.out) hg
    have Gw4_w13 : Hid (World.grownBy w4 w13 none) := grown_trans (Gw4_w12.out) hg
    have Gw6_w13 : Hid (World.grownBy w6 w13 none) := grown_trans (Gw6_w12.out) hg
    have Gw8_w13 : Hid (World.grownBy w8 w13 none) := grown_trans (Gw8_w12.out) hg
    clear hg
    obtain ⟨_, N0, N1, N2, N3, N4⟩ := BN.out w13 (Gw8_w13.out)
    go_wp2_with fail
    clear N0 N1 N2 N3 N4
    refine (HNo.out _).mono ?_
    rintro E w14 ⟨rfl, hg⟩
    have Gw_w14 : Hid (World.grownBy w w14 none) := grown_trans (Gw_w13.out) hg
    have Gw0_w14 : Hid (World.grownBy w0 w14 none) := grown_trans (Gw0_w13.out) hg
    have Gw1_w14 : Hid (World.grownBy w1 w14 none) := grown_trans (Gw1_w13.out) hg
    have Gw2_w14 : Hid (World.grownBy w2 w14 none) := grown_trans (Gw2_w13.out) hg
    have Gw3_w14 : Hid (World.grownBy w3 w14 none) := grown_trans (Gw3_w13.out) hg
    have Gw4_w14 : Hid (World.grownBy w4 w14 none) := grown_trans (Gw4_w13.out) hg
    have Gw6_w14 : Hid (World.grownBy w6 w14 none) := grown_trans (Gw6_w13.out) hg
    have Gw8_w14 : Hid (World.grownBy w8 w14 none) := grown_trans (Gw8_w13.out) hg
    clear hg
    go_wp2_with fail
    go_ret
    exact ⟨rfl, Gw_w14.out⟩
  · by_cases k5 : 8 < x.N
    · have f1 : (x.L != y.L) = false := by simpa using k3
      have g1 : 8 < x.N := k5
      obtain ⟨_, A0, A1, A2, A3, A4⟩ := BA.out w11 (Gw0_w11.out)
      obtain ⟨_, B0, B1, B2, B3, B4⟩ := BB.out w11 (Gw0_w11.out)
      go_wp2_with fail
      clear A0 A1 A2 A3 A4 B0 B1 B2 B3 B4
      refine (HC2.out _ Gw_w11.out).mono ?_
      rintro E w12 ⟨rfl, hg⟩
      have Gw_w12 : Hid (World.grownBy w w12 none) := grown_trans (Gw_w11.out) hg
      have Gw0_w12 : Hid (World.grownBy w0 w12 none) := grown_trans (Gw0_w11.out) hg
      have Gw1_w12 : Hid (World.grownBy w1 w12 none) := grown_trans (Gw1_w11.out) hg
      have Gw2_w12 : Hid (World.grownBy w2 w12 none) := grown_trans (Gw2_w11.out) hg
      have Gw3_w12 : Hid (World.grownBy w3 w12 none) := grown_trans (Gw3_w11.out) hg
      have Gw4_w12 : Hid (World.grownBy w4 w12 none) := grown_trans (Gw4_w11.out) hg
      have Gw6_w12 : Hid (World.grownBy w6 w12 none) := grown_trans (Gw6_w11.out) hg
      have Gw8_w12 : Hid (World.grownBy w8 w12 none) := grown_trans (Gw8_w11.out) hg
      clear hg
      obtain ⟨_, A0, A1, A2, A3, A4⟩ := BA.out w12 (Gw0_w12.out)
      obtain ⟨_, B0, B1, B2, B3, B4⟩ := BB.out w12 (Gw0_w12.out)
      obtain ⟨_, O0, O1, O2, O3, O4⟩ := BO.out w12 (Gw6_w12.out)
      go_wp2_with fail
      clear A0 A1 A2 A3 A4 B0 B1 B2 B3 B4 O0 O1 O2 O3 O4
      refine (HNo.out _).mono ?_
      rintro E w13 ⟨rfl, hg⟩
      have Gw_w13 : Hid (World.grownBy w w13 none) := grown_trans (Gw_w12.out) hg
      have Gw0_w13 : Hid (World.grownBy w0 w13 none) := grown_trans (Gw0_w12.out) hg
      have Gw1_w13 : Hid (World.grownBy w1 w13 none) := grown_trans (Gw1_w12.out) hg
      have Gw2_w13 : Hid (World.grownBy w2 w13 none) := grown_trans (Gw2_w12.out) hg
      have Gw3_w13 : Hid (World.grownBy w3 w13 none) := grown_trans (Gw3_w12.out) hg
      have Gw4_w13 : Hid (World.grownBy w4 w13 none) := grown_trans (Gw4_w12.out) hg
      have Gw6_w13 : Hid (World.grownBy w6 w13 none) := grown_trans (Gw6_w12.out) hg
      have Gw8_w13 : Hid (World.grownBy w8 w13 none) := grown_trans (Gw8_w12.out) hg
      clear hg
      obtain ⟨_, N0, N1, N2, N3, N4⟩ := BN.out w13 (Gw8_w13.out)
      go_wp2_with fail
      clear N0 N1 N2 N3 N4
      refine (HNo.out _).mono ?_
      rintro E w14 ⟨rfl, hg⟩
      have Gw_w14 : Hid (World.grownBy w w14 none) := grown_trans (Gw_w13.out) hg
      have Gw0_w14 : Hid (World.grownBy w0 w14 none) := grown_trans (Gw0_w13.out) hg
      have Gw1_w14 : Hid (World.grownBy w1 w14 none) := grown_trans (Gw1_w13.out) hg
      have Gw2_w14 : Hid (World.grownBy w2 w14 none) := grown_trans (Gw2_w13.out) hg
      have Gw3_w14 : Hid (World.grownBy w3 w14 none) := grown_trans (Gw3_w13.out) hg
      have Gw4_w14 : Hid (World.grownBy w4 w14 none) := grown_trans (Gw4_w13.out) hg
      have Gw6_w14 : Hid (World.grownBy w6 w14 none) := grown_trans (Gw6_w13.out) hg
      have Gw8_w14 : Hid (World.grownBy w8 w14 none) := grown_trans (Gw8_w13.out) hg
      clear hg
      go_wp2_with fail
      go_ret
      exact ⟨rfl, Gw_w14.out⟩
    · have f1 : (x.L != y.L) = false := by simpa using k3
      have g1 : ¬ 8 < x.N := k5
      have g2 : 8 < y.N := k4.resolve_left k5
      obtain ⟨_, A0, A1, A2, A3, A4⟩ := BA.out w11 (Gw0_w11.out)
      obtain ⟨_, B0, B1, B2, B3, B4⟩ := BB.out w11 (Gw0_w11.out)
      go_wp2_with fail
      clear A0 A1 A2 A3 A4 B0 B1 B2 B3 B4
      refine (HC2.out _ Gw_w11.out).mono ?_
      rintro E w12 ⟨rfl, hg⟩
      have Gw_w12 : Hid (World.grownBy w w12 none) := grown_trans (Gw_w11.out) hg
      have Gw0_w12 : Hid (World.grownBy w0 w12 none) := grown_trans (Gw0_w11.out) hg
      have Gw1_w12 : Hid (World.grownBy w1 w12 none) := grown_trans (Gw1_w11.out) hg
      have Gw2_w12 : Hid (World.grownBy w2 w12 none) := grown_trans (Gw2_w11.out) hg
      have Gw3_w12 : Hid (World.grownBy w3 w12 none) := grown_trans (Gw3_w11.out) hg
      have Gw4_w12 : Hid (World.grownBy w4 w12 none) := grown_trans (Gw4_w11.out) hg
      have Gw6_w12 : Hid (World.grownBy w6 w12 none) := grown_trans (Gw6_w11.out) hg
      have Gw8_w12 : Hid (World.grownBy w8 w12 none) := grown_trans (Gw8_w11.out) hg
      clear hg
      obtain ⟨_, A0, A1, A2, A3, A4⟩ := BA.out w12 (Gw0_w12.out)
      obtain ⟨_, B0, B1, B2, B3, B4⟩ := BB.out w12 (Gw0_w12.out)
      obtain ⟨_, O0, O1, O2, O3, O4⟩ := BO.out w12 (Gw6_w12.out)
      go_wp2_with fail
      clear A0 A1 A2 A3 A4 B0 B1 B2 B3 B4 O0 O1 O2 O3 O4
      refine (HNo.out _).mono ?_
      rintro E w13 ⟨rfl, hg⟩
      have Gw_w13 : Hid (World.grownBy w w13 none) := grown_trans (Gw_w12.out) hg
      have Gw0_w13 : Hid (World.grownBy w0 w13 none) := grown_trans (Gw0_w12.out) hg
      have Gw1_w13 : Hid (World.grownBy w1 w13 none) := grown_trans (Gw1_w12.out) hg
      have Gw2_w13 : Hid (World.grownBy w2 w13 none) := grown_trans (Gw2_w12.out) hg
      have Gw3_w13 : Hid (World.grownBy w3 w13 none) := grown_trans (Gw3_w12.out) hg
      have Gw4_w13 : Hid (World.grownBy w4 w13 none) := grown_trans (Gw4_w12.out) hg
      have Gw6_w13 : Hid (World.grownBy w6 w13 none) := grown_trans (Gw6_w12.out) hg
      have Gw8_w13 : Hid (World.grownBy w8 w13 none) := grown_trans (Gw8_w12.out) hg
      clear hg
      obtain ⟨_, N0, N1, N2, N3, N4⟩ := BN.out w13 (Gw8_w13.out)
      go_wp2_with fail
      clear N0 N1 N2 N3 N4
      refine (HNo.out _).mono ?_
      rintro E w14 ⟨rfl, hg⟩
      have Gw_w14 : Hid (World.grownBy w w14 none) := grown_trans (Gw_w13.out) hg
      have Gw0_w14 : Hid (World.grownBy w0 w14 none) := grown_trans (Gw0_w13.out) hg
      have Gw1_w14 : Hid (World.grownBy w1 w14 none) := grown_trans (Gw1_w13.out) hg
      have Gw2_w14 : Hid (World.grownBy w2 w14 none) := grown_trans (Gw2_w13.out) hg
      have Gw3_w14 : Hid (World.grownBy w3 w14 none) := grown_trans (Gw3_w13.out) hg
      have Gw4_w14 : Hid (World.grownBy w4 w14 none) := grown_trans (Gw4_w13.out) hg
      have Gw6_w14 : Hid (World.grownBy w6 w14 none) := grown_trans (Gw6_w13.out) hg
      have Gw8_w14 : Hid (World.grownBy w8 w14 none) := grown_trans (Gw8_w13.out) hg
      clear hg
      go_wp2_with fail
      go_ret
      exact ⟨rfl, Gw_w14.out⟩

set_option maxHeartbeats 6400000 in
set_option maxRecDepth 100000 in
theorem bj_good (x y z : Aut) (Q : Aut → Prop) (P1 P2 : Prop) (bad : Int) (a b e a' b' e' ah al : Option Addr) (c d f c' d' f' nh ch nl cl : Nat) (w : World)
    (hl : Hid (x.L = y.L)) (h8 : x.N ≤ 8) (h8' : y.N ≤ 8)
    (HAu1 : Hid (∀ W, w.grownBy W none → Calls Try.prog 5 #[autV x.L x.N a x.S.length c b x.T.length d e x.F.length f] W (AutoPost x W)))
    (HAu2 : Hid (∀ W, w.grownBy W none → Calls Try.prog 5 #[autV y.L y.N a' y.S.length c' b' y.T.length d' e' y.F.length f'] W (AutoPost y W)))
    (HSa1 : Hid (∀ W a1 b1 e1 c1 d1 f1, w.grownBy W none → AutAt W x a1 b1 e1 → Calls Try.prog 7 #[autV x.L x.N a1 x.S.length c1 b1 x.T.length d1 e1 x.F.length f1, autV x.L x.N a x.S.length c b x.T.length d e x.F.length f] W (Says (.bool true) W)))
    (HSa2 : Hid (∀ W a1 b1 e1 c1 d1 f1, w.grownBy W none → AutAt W y a1 b1 e1 → Calls Try.prog 7 #[autV y.L y.N a1 y.S.length c1 b1 y.T.length d1 e1 y.F.length f1, autV y.L y.N a' y.S.length c' b' y.T.length d' e' y.F.length f'] W (Says (.bool true) W)))
    (HC1 : Hid (∀ W, w.grownBy W none → Calls Try.prog 9 #[autV x.L x.N a x.S.length c b x.T.length d e x.F.length f] W (Says (.int .i64 0) W)))
    (HC2 : Hid (∀ W, w.grownBy W none → Calls Try.prog 9 #[autV y.L y.N a' y.S.length c' b' y.T.length d' e' y.F.length f'] W (Says (.int .i64 0) W)))
    (HEi : Hid (∀ W a1 b1 e1 c1 d1 f1 a2 b2 e2 c2 d2 f2, AutAt W x a1 b1 e1 → AutAt W y a2 b2 e2 → Calls Try.prog 15 #[autV x.L x.N a1 x.S.length c1 b1 x.T.length d1 e1 x.F.length f1, autV y.L y.N a2 y.S.length c2 b2 y.T.length d2 e2 y.F.length f2] W (AutoOk z W)))
    (HBo : Hid (∀ W a1 b1 e1 c1 d1 f1 a2 b2 e2 c2 d2 f2, AutAt W x a1 b1 e1 → AutAt W y a2 b2 e2 → Calls Try.prog 16 #[autV x.L x.N a1 x.S.length c1 b1 x.T.length d1 e1 x.F.length f1, autV y.L y.N a2 y.S.length c2 b2 y.T.length d2 e2 y.F.length f2] W (fun E w' => ∃ u, Q u ∧ AutoOk u W E w')))
    (HL1 : Hid (z.L = x.L)) (HL2 : Hid (∀ u, Q u → u.L = x.L))
    (HC3 : Hid (∀ W a1 b1 e1 c1 d1 f1, AutAt W z a1 b1 e1 → Calls Try.prog 9 #[autV z.L z.N a1 z.S.length c1 b1 z.T.length d1 e1 z.F.length f1] W (Says (.int .i64 0) W)))
    (HC4 : Hid (∀ u W a1 b1 e1 c1 d1 f1, Q u → AutAt W u a1 b1 e1 → Calls Try.prog 9 #[autV u.L u.N a1 u.S.length c1 b1 u.T.length d1 e1 u.F.length f1] W (Says (.int .i64 0) W)))
    (HLs : Hid (∀ W, w.grownBy W none → Calls Try.prog 18 #[autV x.L x.N a x.S.length c b x.T.length d e x.F.length f, lasV ah nh ch al nl cl] W (Says (.int .i64 bad) W)))
    (HA1 : Hid (bad = 0 → ∀ W, w.grownBy W none → Calls Try.prog 19 #[autV x.L x.N a x.S.length c b x.T.length d e x.F.length f, lasV ah nh ch al nl cl] W (TellsB P1 W)))
    (HA2 : Hid (bad = 0 → ∀ W, w.grownBy W none → Calls Try.prog 19 #[autV y.L y.N a' y.S.length c' b' y.T.length d' e' y.F.length f', lasV ah nh ch al nl cl] W (TellsB P2 W)))
    (HA3 : Hid (bad = 0 → ∀ W a1 b1 e1 c1 d1 f1, w.grownBy W none → AutAt W z a1 b1 e1 → Calls Try.prog 19 #[autV z.L z.N a1 z.S.length c1 b1 z.T.length d1 e1 z.F.length f1, lasV ah nh ch al nl cl] W (TellsB (P1 ∨ P2) W)))
    (HA4 : Hid (bad = 0 → ∀ u W a1 b1 e1 c1 d1 f1, Q u → w.grownBy W none → AutAt W u a1 b1 e1 → Calls Try.prog 19 #[autV u.L u.N a1 u.S.length c1 b1 u.T.length d1 e1 u.F.length f1, lasV ah nh ch al nl cl] W (TellsB (P1 ∧ P2) W)))
    : Calls Try.prog 4 #[autV x.L x.N a x.S.length c b x.T.length d e x.F.length f, autV y.L y.N a' y.S.length c' b' y.T.length d' e' y.F.length f', lasV ah nh ch al nl cl] w (Says (.bool true) w) := by
  have f5 : (x.L != y.L) = false := by simpa using hl.out
  have f6 : ¬ 8 < x.N := by omega
  have f7 : ¬ 8 < y.N := by omega
  obtain ⟨w0, hW, hg, bA, bB, bL⟩ := law_boxes2 w x.L x.N (.slice a x.S.length c) (.slice b x.T.length d) (.slice e x.F.length f) y.L y.N (.slice a' y.S.length c') (.slice b' y.T.length d') (.slice e' y.F.length f') (.slice ah nh ch) (.slice al nl cl)
  have BA : Hid (∀ W', w0.grownBy W' none → KeepC w0 W' w.heap.size x.L x.N (.slice a x.S.length c) (.slice b x.T.length d) (.slice e x.F.length f)) := bA
  have BB : Hid (∀ W', w0.grownBy W' none → KeepC w0 W' (w.heap.size + 1) y.L y.N (.slice a' y.S.length c') (.slice b' y.T.length d') (.slice e' y.F.length f')) := bB
  have BL : Hid (∀ W', w0.grownBy W' none → W'.cell? ⟨w.heap.size + 1 + 1, 0, none⟩ = some (.slice ah nh ch) ∧ W'.cell? ⟨w.heap.size + 1 + 1, 1, none⟩ = some (.slice al nl cl)) := bL
  have Gw_w0 : Hid (World.grownBy w w0 none) := grown_trans (grown_refl _ _) hg
  have HWw0 : Hid (w0 = _) := hW
  clear hg bA bB bL hW
  obtain ⟨_, A0, A1, A2, A3, A4⟩ := BA.out w0 (grown_refl _ _)
  rw [HWw0.out] at A0 A1 A2 A3 A4
  go_enter Try.func4, Try.ntmps4
  go_wp2_with fail
  rw [← HWw0.out]
  clear HWw0
  clear A0 A1 A2 A3 A4
  refine (HAu1.out _ Gw_w0.out).mono ?_
  rintro E w1 ⟨a1, b1, e1, c1, d1, f1, rfl, hX, hg⟩
  have KX : Hid (∀ W, w1.grownBy W none → AutAt W x a1 b1 e1) := fun W hW => hX.grown hW
  clear hX
  have Gw_w1 : Hid (World.grownBy w w1 none) := grown_trans (Gw_w0.out) hg
  have Gw0_w1 : Hid (World.grownBy w0 w1 none) := grown_trans (grown_refl _ _) hg
  clear hg
  obtain ⟨w2, hW, hg, hs, hb⟩ := boxA_new w1 x.L x.N a1 x.S.length c1 b1 x.T.length d1 e1 x.F.length f1
  have BX : Hid (∀ W', World.grownBy w2 W' none → KeepC w2 W' w1.heap.size x.L x.N (.slice a1 x.S.length c1) (.slice b1 x.T.length d1) (.slice e1 x.F.length f1)) := fun W' h => ⟨h, hb W' h⟩
  have Gw_w2 : Hid (World.grownBy w w2 none) := grown_trans (Gw_w1.out) hg
  have Gw0_w2 : Hid (World.grownBy w0 w2 none) := grown_trans (Gw0_w1.out) hg
  have Gw1_w2 : Hid (World.grownBy w1 w2 none) := grown_trans (grown_refl _ _) hg
  have HWw2 : Hid (w2 = _) := hW
  clear hg hs hb hW
  obtain ⟨_, B0, B1, B2, B3, B4⟩ := BB.out w2 (Gw0_w2.out)
  rw [HWw2.out] at B0 B1 B2 B3 B4
  go_wp2_with fail
  rw [← HWw2.out]
  clear HWw2
  clear B0 B1 B2 B3 B4
  refine (HAu2.out _ Gw_w2.out).mono ?_
  rintro E w3 ⟨a2, b2, e2, c2, d2, f2, rfl, hY, hg⟩
  have KY : Hid (∀ W, World.grownBy w3 W none → AutAt W y a2 b2 e2) := fun W hW => hY.grown hW
  clear hY
  have Gw_w3 : Hid (World.grownBy w w3 none) := grown_trans (Gw_w2.out) hg
  have Gw0_w3 : Hid (World.grownBy w0 w3 none) := grown_trans (Gw0_w2.out) hg
  have Gw1_w3 : Hid (World.grownBy w1 w3 none) := grown_trans (Gw1_w2.out) hg
  have Gw2_w3 : Hid (World.grownBy w2 w3 none) := grown_trans (grown_refl _ _) hg
  clear hg
  obtain ⟨w4, hW, hg, hs, hb⟩ := boxA_new w3 y.L y.N a2 y.S.length c2 b2 y.T.length d2 e2 y.F.length f2
  have BY : Hid (∀ W', World.grownBy w4 W' none → KeepC w4 W' w3.heap.size y.L y.N (.slice a2 y.S.length c2) (.slice b2 y.T.length d2) (.slice e2 y.F.length f2)) := fun W' h => ⟨h, hb W' h⟩
  have Gw_w4 : Hid (World.grownBy w w4 none) := grown_trans (Gw_w3.out) hg
  have Gw0_w4 : Hid (World.grownBy w0 w4 none) := grown_trans (Gw0_w3.out) hg
  have Gw1_w4 : Hid (World.grownBy w1 w4 none) := grown_trans (Gw1_w3.out) hg
  have Gw2_w4 : Hid (World.grownBy w2 w4 none) := grown_trans (Gw2_w3.out) hg
  have Gw3_w4 : Hid (World.grownBy w3 w4 none) := grown_trans (grown_refl _ _) hg
  have HWw4 : Hid (w4 = _) := hW
  clear hg hs hb hW
  obtain ⟨_, X0, X1, X2, X3, X4⟩ := BX.out w4 (Gw2_w4.out)
  obtain ⟨_, Y0, Y1, Y2, Y3, Y4⟩ := BY.out w4 (grown_refl _ _)
  rw [HWw4.out] at X0 X1 X2 X3 X4 Y0 Y1 Y2 Y3 Y4
  go_wp2_with fail
  rw [← HWw4.out]
  clear HWw4
  clear X0 X1 X2 X3 X4 Y0 Y1 Y2 Y3 Y4
  refine (HEi.out _ _ _ _ _ _ _ _ _ _ _ _ _ (KX.out _ Gw1_w4.out) (KY.out _ Gw3_w4.out)).mono ?_
  rintro E w5 ⟨a3, b3, e3, c3, d3, f3, rfl, hO, hg⟩
  have KO : Hid (∀ W, World.grownBy w5 W none → AutAt W z a3 b3 e3) := fun W hW => hO.grown hW
  clear hO
  have Gw_w5 : Hid (World.grownBy w w5 none) := grown_trans (Gw_w4.out) hg
  have Gw0_w5 : Hid (World.grownBy w0 w5 none) := grown_trans (Gw0_w4.out) hg
  have Gw1_w5 : Hid (World.grownBy w1 w5 none) := grown_trans (Gw1_w4.out) hg
  have Gw2_w5 : Hid (World.grownBy w2 w5 none) := grown_trans (Gw2_w4.out) hg
  have Gw3_w5 : Hid (World.grownBy w3 w5 none) := grown_trans (Gw3_w4.out) hg
  have Gw4_w5 : Hid (World.grownBy w4 w5 none) := grown_trans (grown_refl _ _) hg
  clear hg
  obtain ⟨w6, hW, hg, hs, hb⟩ := boxA_new w5 z.L z.N a3 z.S.length c3 b3 z.T.length d3 e3 z.F.length f3
  have BO : Hid (∀ W', World.grownBy w6 W' none → KeepC w6 W' w5.heap.size z.L z.N (.slice a3 z.S.length c3) (.slice b3 z.T.length d3) (.slice e3 z.F.length f3)) := fun W' h => ⟨h, hb W' h⟩
  have Gw_w6 : Hid (World.grownBy w w6 none) := grown_trans (Gw_w5.out) hg
  have Gw0_w6 : Hid (World.grownBy w0 w6 none) := grown_trans (Gw0_w5.out) hg
  have Gw1_w6 : Hid (World.grownBy w1 w6 none) := grown_trans (Gw1_w5.out) hg
  have Gw2_w6 : Hid (World.grownBy w2 w6 none) := grown_trans (Gw2_w5.out) hg
  have Gw3_w6 : Hid (World.grownBy w3 w6 none) := grown_trans (Gw3_w5.out) hg
  have Gw4_w6 : Hid (World.grownBy w4 w6 none) := grown_trans (Gw4_w5.out) hg
  have Gw5_w6 : Hid (World.grownBy w5 w6 none) := grown_trans (grown_refl _ _) hg
  have HWw6 : Hid (w6 = _) := hW
  clear hg hs hb hW
  obtain ⟨_, X0, X1, X2, X3, X4⟩ := BX.out w6 (Gw2_w6.out)
  obtain ⟨_, Y0, Y1, Y2, Y3, Y4⟩ := BY.out w6 (Gw4_w6.out)
  rw [HWw6.out] at X0 X1 X2 X3 X4 Y0 Y1 Y2 Y3 Y4
  go_wp2_with fail
  rw [← HWw6.out]
  clear HWw6
  clear X0 X1 X2 X3 X4 Y0 Y1 Y2 Y3 Y4
  refine (HBo.out _ _ _ _ _ _ _ _ _ _ _ _ _ (KX.out _ Gw1_w6.out) (KY.out _ Gw3_w6.out)).mono ?_
  rintro E w7 ⟨u, hu, a4, b4, e4, c4, d4, f4, rfl, hN, hg⟩
  have KN : Hid (∀ W, World.grownBy w7 W none → AutAt W u a4 b4 e4) := fun W hW => hN.grown hW
  have HU : Hid (Q u) := hu
  clear hN hu
  have Gw_w7 : Hid (World.grownBy w w7 none) := grown_trans (Gw_w6.out) hg
  have Gw0_w7 : Hid (World.grownBy w0 w7 none) := grown_trans (Gw0_w6.out) hg
  have Gw1_w7 : Hid (World.grownBy w1 w7 none) := grown_trans (Gw1_w6.out) hg
  have Gw2_w7 : Hid (World.grownBy w2 w7 none) := grown_trans (Gw2_w6.out) hg
  have Gw3_w7 : Hid (World.grownBy w3 w7 none) := grown_trans (Gw3_w6.out) hg
  have Gw4_w7 : Hid (World.grownBy w4 w7 none) := grown_trans (Gw4_w6.out) hg
  have Gw5_w7 : Hid (World.grownBy w5 w7 none) := grown_trans (Gw5_w6.out) hg
  have Gw6_w7 : Hid (World.grownBy w6 w7 none) := grown_trans (grown_refl _ _) hg
  clear hg
  obtain ⟨w8, hW, hg, hs, hb⟩ := boxA_new w7 u.L u.N a4 u.S.length c4 b4 u.T.length d4 e4 u.F.length f4
  have BN : Hid (∀ W', World.grownBy w8 W' none → KeepC w8 W' w7.heap.size u.L u.N (.slice a4 u.S.length c4) (.slice b4 u.T.length d4) (.slice e4 u.F.length f4)) := fun W' h => ⟨h, hb W' h⟩
  have Gw_w8 : Hid (World.grownBy w w8 none) := grown_trans (Gw_w7.out) hg
  have Gw0_w8 : Hid (World.grownBy w0 w8 none) := grown_trans (Gw0_w7.out) hg
  have Gw1_w8 : Hid (World.grownBy w1 w8 none) := grown_trans (Gw1_w7.out) hg
  have Gw2_w8 : Hid (World.grownBy w2 w8 none) := grown_trans (Gw2_w7.out) hg
  have Gw3_w8 : Hid (World.grownBy w3 w8 none) := grown_trans (Gw3_w7.out) hg
  have Gw4_w8 : Hid (World.grownBy w4 w8 none) := grown_trans (Gw4_w7.out) hg
  have Gw5_w8 : Hid (World.grownBy w5 w8 none) := grown_trans (Gw5_w7.out) hg
  have Gw6_w8 : Hid (World.grownBy w6 w8 none) := grown_trans (Gw6_w7.out) hg
  have Gw7_w8 : Hid (World.grownBy w7 w8 none) := grown_trans (grown_refl _ _) hg
  have HWw8 : Hid (w8 = _) := hW
  clear hg hs hb hW
  obtain ⟨_, X0, X1, X2, X3, X4⟩ := BX.out w8 (Gw2_w8.out)
  obtain ⟨_, A0, A1, A2, A3, A4⟩ := BA.out w8 (Gw0_w8.out)
  rw [HWw8.out] at X0 X1 X2 X3 X4 A0 A1 A2 A3 A4
  go_wp2_with fail
  rw [← HWw8.out]
  clear HWw8
  clear X0 X1 X2 X3 X4 A0 A1 A2 A3 A4
  refine (HSa1.out _ _ _ _ _ _ _ Gw_w8.out (KX.out _ Gw1_w8.out)).mono ?_
  rintro E w9 ⟨rfl, hg⟩
  have Gw_w9 : Hid (World.grownBy w w9 none) := grown_trans (Gw_w8.out) hg
  have Gw0_w9 : Hid (World.grownBy w0 w9 none) := grown_trans (Gw0_w8.out) hg
  have Gw1_w9 : Hid (World.grownBy w1 w9 none) := grown_trans (Gw1_w8.out) hg
  have Gw2_w9 : Hid (World.grownBy w2 w9 none) := grown_trans (Gw2_w8.out) hg
  have Gw3_w9 : Hid (World.grownBy w3 w9 none) := grown_trans (Gw3_w8.out) hg
  have Gw4_w9 : Hid (World.grownBy w4 w9 none) := grown_trans (Gw4_w8.out) hg
  have Gw5_w9 : Hid (World.grownBy w5 w9 none) := grown_trans (Gw5_w8.out) hg
  have Gw6_w9 : Hid (World.grownBy w6 w9 none) := grown_trans (Gw6_w8.out) hg
  have Gw7_w9 : Hid (World.grownBy w7 w9 none) := grown_trans (Gw7_w8.out) hg
  have Gw8_w9 : Hid (World.grownBy w8 w9 none) := grown_trans (grown_refl _ _) hg
  clear hg
  obtain ⟨_, Y0, Y1, Y2, Y3, Y4⟩ := BY.out w9 (Gw4_w9.out)
  obtain ⟨_, B0, B1, B2, B3, B4⟩ := BB.out w9 (Gw0_w9.out)
  go_wp2_with fail
  clear Y0 Y1 Y2 Y3 Y4 B0 B1 B2 B3 B4
  refine (HSa2.out _ _ _ _ _ _ _ Gw_w9.out (KY.out _ Gw3_w9.out)).mono ?_
  rintro E w10 ⟨rfl, hg⟩
  have Gw_w10 : Hid (World.grownBy w w10 none) := grown_trans (Gw_w9.out) hg
  have Gw0_w10 : Hid (World.grownBy w0 w10 none) := grown_trans (Gw0_w9.out) hg
  have Gw1_w10 : Hid (World.grownBy w1 w10 none) := grown_trans (Gw1_w9.out) hg
  have Gw2_w10 : Hid (World.grownBy w2 w10 none) := grown_trans (Gw2_w9.out) hg
  have Gw3_w10 : Hid (World.grownBy w3 w10 none) := grown_trans (Gw3_w9.out) hg
  have Gw4_w10 : Hid (World.grownBy w4 w10 none) := grown_trans (Gw4_w9.out) hg
  have Gw5_w10 : Hid (World.grownBy w5 w10 none) := grown_trans (Gw5_w9.out) hg
  have Gw6_w10 : Hid (World.grownBy w6 w10 none) := grown_trans (Gw6_w9.out) hg
  have Gw7_w10 : Hid (World.grownBy w7 w10 none) := grown_trans (Gw7_w9.out) hg
  have Gw8_w10 : Hid (World.grownBy w8 w10 none) := grown_trans (Gw8_w9.out) hg
  clear hg
  obtain ⟨_, A0, A1, A2, A3, A4⟩ := BA.out w10 (Gw0_w10.out)
  go_wp2_with fail
  clear A0 A1 A2 A3 A4
  refine (HC1.out _ Gw_w10.out).mono ?_
  rintro E w11 ⟨rfl, hg⟩
  have Gw_w11 : Hid (World.grownBy w w11 none) := grown_trans (Gw_w10.out) hg
  have Gw0_w11 : Hid (World.grownBy w0 w11 none) := grown_trans (Gw0_w10.out) hg
  have Gw1_w11 : Hid (World.grownBy w1 w11 none) := grown_trans (Gw1_w10.out) hg
  have Gw2_w11 : Hid (World.grownBy w2 w11 none) := grown_trans (Gw2_w10.out) hg
  have Gw3_w11 : Hid (World.grownBy w3 w11 none) := grown_trans (Gw3_w10.out) hg
  have Gw4_w11 : Hid (World.grownBy w4 w11 none) := grown_trans (Gw4_w10.out) hg
  have Gw5_w11 : Hid (World.grownBy w5 w11 none) := grown_trans (Gw5_w10.out) hg
  have Gw6_w11 : Hid (World.grownBy w6 w11 none) := grown_trans (Gw6_w10.out) hg
  have Gw7_w11 : Hid (World.grownBy w7 w11 none) := grown_trans (Gw7_w10.out) hg
  have Gw8_w11 : Hid (World.grownBy w8 w11 none) := grown_trans (Gw8_w10.out) hg
  clear hg
  obtain ⟨_, A0, A1, A2, A3, A4⟩ := BA.out w11 (Gw0_w11.out)
  obtain ⟨_, B0, B1, B2, B3, B4⟩ := BB.out w11 (Gw0_w11.out)
  go_wp2_with fail
  clear A0 A1 A2 A3 A4 B0 B1 B2 B3 B4
  refine (HC2.out _ Gw_w11.out).mono ?_
  rintro E w12 ⟨rfl, hg⟩
  have Gw_w12 : Hid (World.grownBy w w12 none) := grown_trans (Gw_w11.out) hg
  have Gw0_w12 : Hid (World.grownBy w0 w12 none) := grown_trans (Gw0_w11.out) hg
  have Gw1_w12 : Hid (World.grownBy w1 w12 none) := grown_trans (Gw1_w11.out) hg
  have Gw2_w12 : Hid (World.grownBy w2 w12 none) := grown_trans (Gw2_w11.out) hg
  have Gw3_w12 : Hid (World.grownBy w3 w12 none) := grown_trans (Gw3_w11.out) hg
  have Gw4_w12 : Hid (World.grownBy w4 w12 none) := grown_trans (Gw4_w11.out) hg
  have Gw5_w12 : Hid (World.grownBy w5 w12 none) := grown_trans (Gw5_w11.out) hg
  have Gw6_w12 : Hid (World.grownBy w6 w12 none) := grown_trans (Gw6_w11.out) hg
  have Gw7_w12 : Hid (World.grownBy w7 w12 none) := grown_trans (Gw7_w11.out) hg
  have Gw8_w12 : Hid (World.grownBy w8 w12 none) := grown_trans (Gw8_w11.out) hg
  clear hg
  obtain ⟨_, A0, A1, A2, A3, A4⟩ := BA.out w12 (Gw0_w12.out)
  obtain ⟨_, B0, B1, B2, B3, B4⟩ := BB.out w12 (Gw0_w12.out)
  obtain ⟨_, O0, O1, O2, O3, O4⟩ := BO.out w12 (Gw6_w12.out)
  go_wp2_with fail
  clear A0 A1 A2 A3 A4 B0 B1 B2 B3 B4 O0 O1 O2 O3 O4
  refine (HC3.out _ _ _ _ _ _ _ (KO.out _ Gw5_w12.out)).mono ?_
  rintro E w13 ⟨rfl, hg⟩
  have Gw_w13 : Hid (World.grownBy w w13 none) := grown_trans (Gw_w12.out) hg
  have Gw0_w13 : Hid (World.grownBy w0 w13 none) := grown_trans (Gw0_w12.out) hg
  have Gw1_w13 : Hid (World.grownBy w1 w13 none) := grown_trans (Gw1_w12.out) hg
  have Gw2_w13 : Hid (World.grownBy w2 w13 none) := grown_trans (Gw2_w12.out) hg
  have Gw3_w13 : Hid (World.grownBy w3 w13 none) := grown_trans (Gw3_w12.out) hg
  have Gw4_w13 : Hid (World.grownBy w4 w13 none) := grown_trans (Gw4_w12.out) hg
  have Gw5_w13 : Hid (World.grownBy w5 w13 none) := grown_trans (Gw5_w12.out) hg
  have Gw6_w13 : Hid (World.grownBy w6 w13 none) := grown_trans (Gw6_w12.out) hg
  have Gw7_w13 : Hid (World.grownBy w7 w13 none) := grown_trans (Gw7_w12.out) hg
  have Gw8_w13 : Hid (World.grownBy w8 w13 none) := grown_trans (Gw8_w12.out) hg
  clear hg
  obtain ⟨_, N0, N1, N2, N3, N4⟩ := BN.out w13 (Gw8_w13.out)
  go_wp2_with fail
  clear N0 N1 N2 N3 N4
  refine (HC4.out _ _ _ _ _ _ _ _ HU.out (KN.out _ Gw7_w13.out)).mono ?_
  rintro E w14 ⟨rfl, hg⟩
  have Gw_w14 : Hid (World.grownBy w w14 none) := grown_trans (Gw_w13.out) hg
  have Gw0_w14 : Hid (World.grownBy w0 w14 none) := grown_trans (Gw0_w13.out) hg
  have Gw1_w14 : Hid (World.grownBy w1 w14 none) := grown_trans (Gw1_w13.out) hg
  have Gw2_w14 : Hid (World.grownBy w2 w14 none) := grown_trans (Gw2_w13.out) hg
  have Gw3_w14 : Hid (World.grownBy w3 w14 none) := grown_trans (Gw3_w13.out) hg
  have Gw4_w14 : Hid (World.grownBy w4 w14 none) := grown_trans (Gw4_w13.out) hg
  have Gw5_w14 : Hid (World.grownBy w5 w14 none) := grown_trans (Gw5_w13.out) hg
  have Gw6_w14 : Hid (World.grownBy w6 w14 none) := grown_trans (Gw6_w13.out) hg
  have Gw7_w14 : Hid (World.grownBy w7 w14 none) := grown_trans (Gw7_w13.out) hg
  have Gw8_w14 : Hid (World.grownBy w8 w14 none) := grown_trans (Gw8_w13.out) hg
  clear hg
  have f1 : (z.L != x.L) = false := by rw [HL1.out]; simp
  have f2 : (u.L != x.L) = false := by rw [HL2.out u HU.out]; simp
  obtain ⟨_, A0, A1, A2, A3, A4⟩ := BA.out w14 (Gw0_w14.out)
  obtain ⟨_, O0, O1, O2, O3, O4⟩ := BO.out w14 (Gw6_w14.out)
  obtain ⟨_, N0, N1, N2, N3, N4⟩ := BN.out w14 (Gw8_w14.out)
  obtain ⟨L0, L1⟩ := BL.out w14 (Gw0_w14.out)
  go_wp2_with fail
  clear A0 A1 A2 A3 A4 O0 O1 O2 O3 O4 N0 N1 N2 N3 N4 L0 L1
  refine (HLs.out _ Gw_w14.out).mono ?_
  rintro E w15 ⟨rfl, hg⟩
  have Gw_w15 : Hid (World.grownBy w w15 none) := grown_trans (Gw_w14.out) hg
  have Gw0_w15 : Hid (World.grownBy w0 w15 none) := grown_trans (Gw0_w14.out) hg
  have Gw1_w15 : Hid (World.grownBy w1 w15 none) := grown_trans (Gw1_w14.out) hg
  have Gw2_w15 : Hid (World.grownBy w2 w15 none) := grown_trans (Gw2_w14.out) hg
  have Gw3_w15 : Hid (World.grownBy w3 w15 none) := grown_trans (Gw3_w14.out) hg
  have Gw4_w15 : Hid (World.grownBy w4 w15 none) := grown_trans (Gw4_w14.out) hg
  have Gw5_w15 : Hid (World.grownBy w5 w15 none) := grown_trans (Gw5_w14.out) hg
  have Gw6_w15 : Hid (World.grownBy w6 w15 none) := grown_trans (Gw6_w14.out) hg
  have Gw7_w15 : Hid (World.grownBy w7 w15 none) := grown_trans (Gw7_w14.out) hg
  have Gw8_w15 : Hid (World.grownBy w8 w15 none) := grown_trans (Gw8_w14.out) hg
  clear hg
  by_cases hbad : bad = 0
  · have h1 : (bad != 0) = false := by simpa using hbad
    obtain ⟨_, A0, A1, A2, A3, A4⟩ := BA.out w15 (Gw0_w15.out)
    obtain ⟨L0, L1⟩ := BL.out w15 (Gw0_w15.out)
    go_wp2_with fail
    clear L0 L1 A0 A1 A2 A3 A4
    refine (HA1.out hbad _ Gw_w15.out).mono ?_
    rintro E w16 ⟨t1, rfl, p1, hg⟩
    have Gw_w16 : Hid (World.grownBy w w16 none) := grown_trans (Gw_w15.out) hg
    have Gw0_w16 : Hid (World.grownBy w0 w16 none) := grown_trans (Gw0_w15.out) hg
    have Gw1_w16 : Hid (World.grownBy w1 w16 none) := grown_trans (Gw1_w15.out) hg
    have Gw2_w16 : Hid (World.grownBy w2 w16 none) := grown_trans (Gw2_w15.out) hg
    have Gw3_w16 : Hid (World.grownBy w3 w16 none) := grown_trans (Gw3_w15.out) hg
    have Gw4_w16 : Hid (World.grownBy w4 w16 none) := grown_trans (Gw4_w15.out) hg
    have Gw5_w16 : Hid (World.grownBy w5 w16 none) := grown_trans (Gw5_w15.out) hg
    have Gw6_w16 : Hid (World.grownBy w6 w16 none) := grown_trans (Gw6_w15.out) hg
    have Gw7_w16 : Hid (World.grownBy w7 w16 none) := grown_trans (Gw7_w15.out) hg
    have Gw8_w16 : Hid (World.grownBy w8 w16 none) := grown_trans (Gw8_w15.out) hg
    clear hg
    obtain ⟨_, B0, B1, B2, B3, B4⟩ := BB.out w16 (Gw0_w16.out)
    obtain ⟨L0, L1⟩ := BL.out w16 (Gw0_w16.out)
    go_wp2_with fail
    clear L0 L1 B0 B1 B2 B3 B4
    refine (HA2.out hbad _ Gw_w16.out).mono ?_
    rintro E w17 ⟨t2, rfl, p2, hg⟩
    have Gw_w17 : Hid (World.grownBy w w17 none) := grown_trans (Gw_w16.out) hg
    have Gw0_w17 : Hid (World.grownBy w0 w17 none) := grown_trans (Gw0_w16.out) hg
    have Gw1_w17 : Hid (World.grownBy w1 w17 none) := grown_trans (Gw1_w16.out) hg
    have Gw2_w17 : Hid (World.grownBy w2 w17 none) := grown_trans (Gw2_w16.out) hg
    have Gw3_w17 : Hid (World.grownBy w3 w17 none) := grown_trans (Gw3_w16.out) hg
    have Gw4_w17 : Hid (World.grownBy w4 w17 none) := grown_trans (Gw4_w16.out) hg
    have Gw5_w17 : Hid (World.grownBy w5 w17 none) := grown_trans (Gw5_w16.out) hg
    have Gw6_w17 : Hid (World.grownBy w6 w17 none) := grown_trans (Gw6_w16.out) hg
    have Gw7_w17 : Hid (World.grownBy w7 w17 none) := grown_trans (Gw7_w16.out) hg
    have Gw8_w17 : Hid (World.grownBy w8 w17 none) := grown_trans (Gw8_w16.out) hg
    clear hg
    obtain ⟨_, O0, O1, O2, O3, O4⟩ := BO.out w17 (Gw6_w17.out)
    obtain ⟨L0, L1⟩ := BL.out w17 (Gw0_w17.out)
    go_wp2_with fail
    clear L0 L1 O0 O1 O2 O3 O4
    refine (HA3.out hbad _ _ _ _ _ _ _ Gw_w17.out (KO.out _ Gw5_w17.out)).mono ?_
    rintro E w18 ⟨t3, rfl, p3, hg⟩
    have Gw_w18 : Hid (World.grownBy w w18 none) := grown_trans (Gw_w17.out) hg
    have Gw0_w18 : Hid (World.grownBy w0 w18 none) := grown_trans (Gw0_w17.out) hg
    have Gw1_w18 : Hid (World.grownBy w1 w18 none) := grown_trans (Gw1_w17.out) hg
    have Gw2_w18 : Hid (World.grownBy w2 w18 none) := grown_trans (Gw2_w17.out) hg
    have Gw3_w18 : Hid (World.grownBy w3 w18 none) := grown_trans (Gw3_w17.out) hg
    have Gw4_w18 : Hid (World.grownBy w4 w18 none) := grown_trans (Gw4_w17.out) hg
    have Gw5_w18 : Hid (World.grownBy w5 w18 none) := grown_trans (Gw5_w17.out) hg
    have Gw6_w18 : Hid (World.grownBy w6 w18 none) := grown_trans (Gw6_w17.out) hg
    have Gw7_w18 : Hid (World.grownBy w7 w18 none) := grown_trans (Gw7_w17.out) hg
    have Gw8_w18 : Hid (World.grownBy w8 w18 none) := grown_trans (Gw8_w17.out) hg
    clear hg
    obtain ⟨_, N0, N1, N2, N3, N4⟩ := BN.out w18 (Gw8_w18.out)
    obtain ⟨L0, L1⟩ := BL.out w18 (Gw0_w18.out)
    go_wp2_with fail
    clear L0 L1 N0 N1 N2 N3 N4
    refine (HA4.out hbad _ _ _ _ _ _ _ _ HU.out Gw_w18.out (KN.out _ Gw7_w18.out)).mono ?_
    rintro E w19 ⟨t4, rfl, p4, hg⟩
    have Gw_w19 : Hid (World.grownBy w w19 none) := grown_trans (Gw_w18.out) hg
    have Gw0_w19 : Hid (World.grownBy w0 w19 none) := grown_trans (Gw0_w18.out) hg
    have Gw1_w19 : Hid (World.grownBy w1 w19 none) := grown_trans (Gw1_w18.out) hg
    have Gw2_w19 : Hid (World.grownBy w2 w19 none) := grown_trans (Gw2_w18.out) hg
    have Gw3_w19 : Hid (World.grownBy w3 w19 none) := grown_trans (Gw3_w18.out) hg
    have Gw4_w19 : Hid (World.grownBy w4 w19 none) := grown_trans (Gw4_w18.out) hg
    have Gw5_w19 : Hid (World.grownBy w5 w19 none) := grown_trans (Gw5_w18.out) hg
    have Gw6_w19 : Hid (World.grownBy w6 w19 none) := grown_trans (Gw6_w18.out) hg
    have Gw7_w19 : Hid (World.grownBy w7 w19 none) := grown_trans (Gw7_w18.out) hg
    have Gw8_w19 : Hid (World.grownBy w8 w19 none) := grown_trans (Gw8_w18.out) hg
    clear hg
    have j3 : t3 = (t1 || t2) := by cases t1 <;> cases t2 <;> cases t3 <;> simp_all
    have j4 : t4 = (t1 && t2) := by cases t1 <;> cases t2 <;> cases t4 <;> simp_all
    subst j3 j4
    clear p1 p2 p3 p4
    cases t1 <;> cases t2
    all_goals
      go_wp2_with fail
      go_ret
      exact ⟨rfl, Gw_w19.out⟩
  · have h1 : (bad != 0) = true := by simpa using hbad
    go_wp2_with fail
    go_ret
    exact ⟨rfl, Gw_w15.out⟩

end Go.Proofs.Ytaangdomdeklhaa
