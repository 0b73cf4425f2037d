/- The walk of the law RegularSums, out of the contracts of what it calls. -/
import Derived.Test.YtkkmdcnbifepjaaDoorKBox
import Derived.Test.YtkkmdcnbifepjaaDoorPCm
import Derived.Test.YtkkmdcnbifepjaaDoorPTab
namespace Go.Proofs.YtkkmdcnbifepjaaDoor
open Go.RowKit
set_option linter.unusedVariables false

/-- What a call of regular.Det leaves. -/
def RPost (i : Nat) (y : Int) (X : Nat → Nat → World → Value → Prop) (W : World) (E : Ending) (w' : World) : Prop :=
  ∃ L S p n c q k d, E = .returned (.tuple #[detV L S p n c q k d, .int .i64 y]) ∧ (y = 0 → X i W.heap.size w' (detV L S p n c q k d)) ∧ W.grownBy w' none
/-- What a call of det.Mixed leaves. -/
def MPost (X : Nat → Nat → World → Value → Prop) (W : World) (E : Ending) (w' : World) : Prop :=
  ∃ L S p n c q k d y, E = .returned (.tuple #[detV L S p n c q k d, .int .i64 y]) ∧ (∀ W'' v B, w'.grownBy W'' none → X 2 B W'' v → ∃ b, Calls Tryd.prog 15 #[v, detV L S p n c q k d] W'' (Says (.bool b) W'') ∧ (y = 0 → b = true)) ∧ W.grownBy w' none

set_option maxHeartbeats 12800000 in
set_option maxRecDepth 100000 in
theorem rsum_walk (s t : ByteArray) (w : World) (y0 y1 y2 y3 y4 y5 y6 : Int) (X : Nat → Nat → World → Value → Prop) (hsm : s.size ≤ maxLen) (htm : t.size ≤ maxLen)
    (hX : Hid (∀ i B W W' v, X i B W v → Turn (fun g => g < B) W W' → X i B W' v))
    (HC : Hid (∀ W, w.grownBy W none → Calls Tryd.prog 13 #[] W (Says (.bool true) W)))
    (HD0 : Hid (∀ W, w.grownBy W none → Calls Tryd.prog 5 #[.int .i64 4, .string s] W (RPost 0 y0 X W)))
    (HD1 : Hid (∀ W, w.grownBy W none → Calls Tryd.prog 5 #[.int .i64 4, .string t] W (RPost 1 y1 X W)))
    (HD2 : Hid (y0 = 0 → y1 = 0 → ∀ W, w.grownBy W none → Calls Tryd.prog 5 #[.int .i64 4, .string (sumT s t)] W (RPost 2 y2 X W)))
    (HD3 : Hid (y0 = 0 → y1 = 0 → ∀ W, w.grownBy W none → Calls Tryd.prog 5 #[.int .i64 4, .string (starsT s)] W (RPost 3 y3 X W)))
    (HD4 : Hid (y0 = 0 → y1 = 0 → ∀ W, w.grownBy W none → Calls Tryd.prog 5 #[.int .i64 4, .string (starT s)] W (RPost 4 y4 X W)))
    (HD5 : Hid (y0 = 0 → y1 = 0 → ∀ W, w.grownBy W none → Calls Tryd.prog 5 #[.int .i64 4, .string (moreT s)] W (RPost 5 y5 X W)))
    (HD6 : Hid (y0 = 0 → y1 = 0 → ∀ W, w.grownBy W none → Calls Tryd.prog 5 #[.int .i64 4, .string (behindT s)] W (RPost 6 y6 X W)))
    (HMx : Hid (y0 = 0 → y1 = 0 → ∀ W va vb B B', X 0 B W va → X 1 B' W vb → Calls Tryd.prog 14 #[va, vb, .int .i64 14] W (MPost X W)))
    (HA1 : Hid (y0 = 0 → y1 = 0 → ∀ W vc vd B B', X 3 B W vc → X 4 B' W vd → Calls Tryd.prog 15 #[vc, vd] W (Says (.bool true) W)))
    (HA2 : Hid (y0 = 0 → y1 = 0 → ∀ W vc vd B B', X 5 B W vc → X 6 B' W vd → Calls Tryd.prog 15 #[vc, vd] W (Says (.bool true) W))) :
    Calls Tryd.prog 4 #[.string s, .string t] w (Says (.bool true) w) := by
  unfold maxLen at hsm htm
  go_enter Tryd.func4, Tryd.ntmps4
  go_wp2_with fail
  refine (HC.out _ (grown_refl _ _)).mono ?_
  rintro E w1 ⟨rfl, hg1⟩
  have G1 : Hid (w.grownBy w1 none) := hg1
  clear hg1
  go_wp2_with fail
  refine (HD0.out _ G1.out).mono ?_
  rintro E w2 ⟨L2, S2, p2, n2, c2, q2, k2, d2, rfl, hx2, hg2⟩
  obtain ⟨W2, hW2, g2, s2, CC2⟩ := c4_new w2 (.int .i64 L2) (.int .i64 S2) (.slice p2 n2 c2) (.slice q2 k2 d2)
  have HW2 : Hid (W2 = w2.alloc (.cells #[.int .i64 L2, .int .i64 S2, .slice p2 n2 c2, .slice q2 k2 d2] 25)) := hW2
  have gg2 : w1.grownBy W2 none := grown_trans hg2 g2
  have G2 : Hid (w.grownBy W2 none) := grown_trans G1.out gg2
  obtain ⟨bA, hbA⟩ : ∃ bA, w2.heap.size = bA := ⟨_, rfl⟩
  have GB2 : Hid (w1.heap.size ≤ bA) := by show _ ≤ _; rw [← hbA]; exact hg2.size
  have LBbA : Hid (w.heap.size ≤ bA) := by show _ ≤ _; rw [← hbA]; exact (grown_trans G1.out hg2).size
  rw [hbA] at CC2
  have BbA_2 : Hid (C4 W2 bA (.int .i64 L2) (.int .i64 S2) (.slice p2 n2 c2) (.slice q2 k2 d2)) := CC2
  have X0_2 : Hid (y0 = 0 → X 0 w1.heap.size W2 (detV L2 S2 p2 n2 c2 q2 k2 d2)) := fun e => hX.out _ _ _ _ _ (hx2 e) (Turn.of g2)
  skip
  clear hx2 hg2 g2 s2 CC2 gg2
  clear hW2
  go_wp2_with fail
  rw [← HW2.out]
  clear HW2
  refine (HD1.out _ G2.out).mono ?_
  rintro E w3 ⟨L3, S3, p3, n3, c3, q3, k3, d3, rfl, hx3, hg3⟩
  obtain ⟨W3, hW3, g3, s3, CC3⟩ := c4_new w3 (.int .i64 L3) (.int .i64 S3) (.slice p3 n3 c3) (.slice q3 k3 d3)
  have HW3 : Hid (W3 = w3.alloc (.cells #[.int .i64 L3, .int .i64 S3, .slice p3 n3 c3, .slice q3 k3 d3] 25)) := hW3
  have gg3 : W2.grownBy W3 none := grown_trans hg3 g3
  have G3 : Hid (w.grownBy W3 none) := grown_trans G2.out gg3
  obtain ⟨bB, hbB⟩ : ∃ bB, w3.heap.size = bB := ⟨_, rfl⟩
  have GB3 : Hid (W2.heap.size ≤ bB) := by show _ ≤ _; rw [← hbB]; exact hg3.size
  have LBbB : Hid (w.heap.size ≤ bB) := by show _ ≤ _; rw [← hbB]; exact (grown_trans G2.out hg3).size
  rw [hbB] at CC3
  have BbB_3 : Hid (C4 W3 bB (.int .i64 L3) (.int .i64 S3) (.slice p3 n3 c3) (.slice q3 k3 d3)) := CC3
  have X1_3 : Hid (y1 = 0 → X 1 W2.heap.size W3 (detV L3 S3 p3 n3 c3 q3 k3 d3)) := fun e => hX.out _ _ _ _ _ (hx3 e) (Turn.of g3)
  have BbA_3 : Hid (C4 W3 bA (.int .i64 L2) (.int .i64 S2) (.slice p2 n2 c2) (.slice q2 k2 d2)) := BbA_2.out.kept gg3
  have X0_3 : Hid (y0 = 0 → X 0 w1.heap.size W3 (detV L2 S2 p2 n2 c2 q2 k2 d2)) := fun e => hX.out _ _ _ _ _ (X0_2.out e) (Turn.of gg3)
  clear BbA_2 X0_2
  clear hx3 hg3 g3 s3 CC3 gg3
  by_cases h0 : y0 = 0
  · skip
    by_cases h1 : y1 = 0
    · skip
      by_cases hs : s.size ≤ 100
      · skip
        by_cases ht : t.size ≤ 100
        · skip
          have f0 : (y0 != 0) = false := by simpa using h0
          have f1 : (y1 != 0) = false := by simpa using h1
          have i0 : decide ((100 : Int) < (s.size : Int)) = false := by simp; omega
          have i1 : decide ((100 : Int) < (t.size : Int)) = false := by simp; omega
          clear hW3
          go_wp2_with fail
          rw [← HW3.out]
          clear HW3
          refine (HD2.out h0 h1 _ G3.out).mono ?_
          rintro E w4 ⟨L4, S4, p4, n4, c4, q4, k4, d4, rfl, hx4, hg4⟩
          obtain ⟨W4, hW4, g4, s4, CC4⟩ := c4_new w4 (.int .i64 L4) (.int .i64 S4) (.slice p4 n4 c4) (.slice q4 k4 d4)
          have HW4 : Hid (W4 = w4.alloc (.cells #[.int .i64 L4, .int .i64 S4, .slice p4 n4 c4, .slice q4 k4 d4] 25)) := hW4
          have gg4 : W3.grownBy W4 none := grown_trans hg4 g4
          have G4 : Hid (w.grownBy W4 none) := grown_trans G3.out gg4
          obtain ⟨bC, hbC⟩ : ∃ bC, w4.heap.size = bC := ⟨_, rfl⟩
          have GB4 : Hid (W3.heap.size ≤ bC) := by show _ ≤ _; rw [← hbC]; exact hg4.size
          have LBbC : Hid (w.heap.size ≤ bC) := by show _ ≤ _; rw [← hbC]; exact (grown_trans G3.out hg4).size
          rw [hbC] at CC4
          have BbC_4 : Hid (C4 W4 bC (.int .i64 L4) (.int .i64 S4) (.slice p4 n4 c4) (.slice q4 k4 d4)) := CC4
          have X2_4 : Hid (y2 = 0 → X 2 W3.heap.size W4 (detV L4 S4 p4 n4 c4 q4 k4 d4)) := fun e => hX.out _ _ _ _ _ (hx4 e) (Turn.of g4)
          have BbA_4 : Hid (C4 W4 bA (.int .i64 L2) (.int .i64 S2) (.slice p2 n2 c2) (.slice q2 k2 d2)) := BbA_3.out.kept gg4
          have BbB_4 : Hid (C4 W4 bB (.int .i64 L3) (.int .i64 S3) (.slice p3 n3 c3) (.slice q3 k3 d3)) := BbB_3.out.kept gg4
          have X0_4 : Hid (y0 = 0 → X 0 w1.heap.size W4 (detV L2 S2 p2 n2 c2 q2 k2 d2)) := fun e => hX.out _ _ _ _ _ (X0_3.out e) (Turn.of gg4)
          have X1_4 : Hid (y1 = 0 → X 1 W2.heap.size W4 (detV L3 S3 p3 n3 c3 q3 k3 d3)) := fun e => hX.out _ _ _ _ _ (X1_3.out e) (Turn.of gg4)
          clear BbA_3 BbB_3 X0_3 X1_3
          clear hx4 hg4 g4 s4 CC4 gg4
          by_cases h2 : y2 = 0
          · have f2 : (y2 == 0) = true := by simpa using h2
            obtain ⟨u0, u1, u2, u3⟩ := BbA_4.out.get
            obtain ⟨v0, v1, v2, v3⟩ := BbB_4.out.get
            rw [hW4] at u0 u1 u2 u3 v0 v1 v2 v3
            clear hW4
            go_wp2_with fail
            rw [← HW4.out]
            refine (HMx.out h0 h1 _ _ _ _ _ (X0_4.out h0) (X1_4.out h1)).mono ?_
            rintro E w5 ⟨L5, S5, p5, n5, c5, q5, k5, d5, yM, rfl, hal, hg5⟩
            obtain ⟨W5, hW5, g5, s5, CC5⟩ := c4_new w5 (.int .i64 L5) (.int .i64 S5) (.slice p5 n5 c5) (.slice q5 k5 d5)
            have HW5 : Hid (W5 = w5.alloc (.cells #[.int .i64 L5, .int .i64 S5, .slice p5 n5 c5, .slice q5 k5 d5] 25)) := hW5
            have gg5 : W4.grownBy W5 none := grown_trans hg5 g5
            have G5 : Hid (w.grownBy W5 none) := grown_trans G4.out gg5
            have BC5 : Hid (C4 W5 bC (.int .i64 L4) (.int .i64 S4) (.slice p4 n4 c4) (.slice q4 k4 d4)) := BbC_4.out.kept gg5
            obtain ⟨b, hb, hby⟩ := hal W5 _ _ g5 (hX.out _ _ _ _ _ (X2_4.out h2) (Turn.of gg5))
            have HB : Hid (Calls Tryd.prog 15 #[detV L4 S4 p4 n4 c4 q4 k4 d4, detV L5 S5 p5 n5 c5 q5 k5 d5] W5 (Says (.bool b) W5)) := hb
            have HBY : Hid (yM = 0 → b = true) := hby
            obtain ⟨bM, hbM⟩ : ∃ bM, w5.heap.size = bM := ⟨_, rfl⟩
            rw [hbM] at CC5
            clear u0 u1 u2 u3 v0 v1 v2 v3 HW4 hal hb hby
            obtain ⟨u0, u1, u2, u3⟩ := BC5.out.get
            obtain ⟨v0, v1, v2, v3⟩ := CC5.get
            rw [hW5] at u0 u1 u2 u3 v0 v1 v2 v3
            clear hW5 BbA_4 BbB_4 BbC_4 X0_4 X1_4 X2_4 hg5 g5 s5 CC5 gg5
            go_wp2_with fail
            rw [← HW5.out]
            refine HB.out.mono ?_
            rintro E w6 ⟨rfl, hg6⟩
            have G6 : Hid (w.grownBy w6 none) := grown_trans G5.out hg6
            have BbC_6 : Hid (C4 w6 bC (.int .i64 L4) (.int .i64 S4) (.slice p4 n4 c4) (.slice q4 k4 d4)) := BC5.out.kept hg6
            clear hg6 u0 u1 u2 u3 v0 v1 v2 v3 HW5 BC5 HB
            by_cases hM : yM = 0
            · have fM : (yM == 0) = true := by simpa using hM
              have hbt : b = true := HBY.out hM
              subst hbt
              go_wp2_with fail
              refine (HD3.out h0 h1 _ G6.out).mono ?_
              rintro E w7 ⟨L7, S7, p7, n7, c7, q7, k7, d7, rfl, hx7, hg7⟩
              have LT7 : Hid (bC < w6.heap.size) := BbC_6.out.lt
              have D7 : C4 w7 bC (.int .i64 L4) (.int .i64 S4) (.slice p4 n4 c4) (.slice q4 k4 d4) := BbC_6.out.kept hg7
              obtain ⟨z0, z1, z2, z3⟩ := D7.get
              have zf0 := D7.fz 0
              have zf1 := D7.fz 1
              have zf2 := D7.fz 2
              have zf3 := D7.fz 3
              obtain ⟨W7, hW7, hgs7, CC7⟩ := c4_store D7 (.int .i64 L7) (.int .i64 S7) (.slice p7 n7 c7) (.slice q7 k7 d7)
              have HW7 : Hid (W7 = _) := hW7
              have G7 : Hid (w.grownBy W7 none) := grown_new (grown_trans G6.out hg7) hgs7 LBbC.out
              have BbC_7 : Hid (C4 W7 bC (.int .i64 L7) (.int .i64 S7) (.slice p7 n7 c7) (.slice q7 k7 d7)) := CC7
              have X3_7 : Hid (y3 = 0 → X 3 w6.heap.size W7 (detV L7 S7 p7 n7 c7 q7 k7 d7)) := fun e => hX.out _ _ _ _ _ (hx7 e) ((Turn.refl _ _).step hgs7 (.inl LT7.out))
              clear BbC_6 hx7 hg7 hgs7 CC7 D7
              clear hW7
              go_wp2_with fail
              rw [← HW7.out]
              clear HW7 z0 z1 z2 z3 zf0 zf1 zf2 zf3
              have LTC : Hid (bC < W7.heap.size) := BbC_7.out.lt
              have SZ : Hid (∀ V, W7.grownBy V none → bC < V.heap.size) := fun V hV => Nat.lt_of_lt_of_le LTC.out hV.size
              refine (HD4.out h0 h1 _ G7.out).mono ?_
              rintro E w8 ⟨L8, S8, p8, n8, c8, q8, k8, d8, rfl, hx8, hg8⟩
              obtain ⟨W8, hW8, g8, s8, CC8⟩ := c4_new w8 (.int .i64 L8) (.int .i64 S8) (.slice p8 n8 c8) (.slice q8 k8 d8)
              have HW8 : Hid (W8 = w8.alloc (.cells #[.int .i64 L8, .int .i64 S8, .slice p8 n8 c8, .slice q8 k8 d8] 25)) := hW8
              have gg8 : W7.grownBy W8 none := grown_trans hg8 g8
              have G8 : Hid (w.grownBy W8 none) := grown_trans G7.out gg8
              obtain ⟨bD, hbD⟩ : ∃ bD, w8.heap.size = bD := ⟨_, rfl⟩
              have GB8 : Hid (W7.heap.size ≤ bD) := by show _ ≤ _; rw [← hbD]; exact hg8.size
              have LBbD : Hid (w.heap.size ≤ bD) := by show _ ≤ _; rw [← hbD]; exact (grown_trans G7.out hg8).size
              rw [hbD] at CC8
              have BbD_8 : Hid (C4 W8 bD (.int .i64 L8) (.int .i64 S8) (.slice p8 n8 c8) (.slice q8 k8 d8)) := CC8
              have X4_8 : Hid (y4 = 0 → X 4 W7.heap.size W8 (detV L8 S8 p8 n8 c8 q8 k8 d8)) := fun e => hX.out _ _ _ _ _ (hx8 e) (Turn.of g8)
              have BbC_8 : Hid (C4 W8 bC (.int .i64 L7) (.int .i64 S7) (.slice p7 n7 c7) (.slice q7 k7 d7)) := BbC_7.out.kept gg8
              have X3_8 : Hid (y3 = 0 → X 3 w6.heap.size W8 (detV L7 S7 p7 n7 c7 q7 k7 d7)) := fun e => hX.out _ _ _ _ _ (X3_7.out e) (Turn.of gg8)
              clear BbC_7 X3_7
              clear hx8 hg8 g8 s8 CC8 gg8
              have NE : Hid (bD ≠ bC) := by
                show bD ≠ bC
                have h1 := LTC.out
                have h2 := GB8.out
                omega
              by_cases h3 : y3 = 0
              · have f3 : (y3 == 0) = true := by simpa using h3
                by_cases h4 : y4 = 0
                · have f4 : (y4 == 0) = true := by simpa using h4
                  obtain ⟨u0, u1, u2, u3⟩ := BbC_8.out.get
                  obtain ⟨v0, v1, v2, v3⟩ := BbD_8.out.get
                  rw [hW8] at u0 u1 u2 u3 v0 v1 v2 v3
                  clear hW8
                  go_wp2_with fail
                  rw [← HW8.out]
                  refine (HA1.out h0 h1 _ _ _ _ _ (X3_8.out h3) (X4_8.out h4)).mono ?_
                  rintro E wy ⟨rfl, hgy⟩
                  have GY : Hid (w.grownBy wy none) := grown_trans G8.out hgy
                  have BbC_y : Hid (C4 wy bC (.int .i64 L7) (.int .i64 S7) (.slice p7 n7 c7) (.slice q7 k7 d7)) := BbC_8.out.kept hgy
                  have BbD_y : Hid (C4 wy bD (.int .i64 L8) (.int .i64 S8) (.slice p8 n8 c8) (.slice q8 k8 d8)) := BbD_8.out.kept hgy
                  clear BbC_8 BbD_8 X3_8 X4_8 hgy u0 u1 u2 u3 v0 v1 v2 v3 HW8
                  go_wp2_with fail
                  refine (HD5.out h0 h1 _ GY.out).mono ?_
                  rintro E w9 ⟨L9, S9, p9, n9, c9, q9, k9, d9, rfl, hx9, hg9⟩
                  have LT9 : Hid (bC < wy.heap.size ∧ bD < wy.heap.size) := ⟨BbC_y.out.lt, BbD_y.out.lt⟩
                  have D9 : C4 w9 bC (.int .i64 L7) (.int .i64 S7) (.slice p7 n7 c7) (.slice q7 k7 d7) := BbC_y.out.kept hg9
                  obtain ⟨z0, z1, z2, z3⟩ := D9.get
                  have zf0 := D9.fz 0
                  have zf1 := D9.fz 1
                  have zf2 := D9.fz 2
                  have zf3 := D9.fz 3
                  obtain ⟨W9, hW9, hgs9, CC9⟩ := c4_store D9 (.int .i64 L9) (.int .i64 S9) (.slice p9 n9 c9) (.slice q9 k9 d9)
                  have HW9 : Hid (W9 = _) := hW9
                  have G9 : Hid (w.grownBy W9 none) := grown_new (grown_trans GY.out hg9) hgs9 LBbC.out
                  have BbC_9 : Hid (C4 W9 bC (.int .i64 L9) (.int .i64 S9) (.slice p9 n9 c9) (.slice q9 k9 d9)) := CC9
                  have X5_9 : Hid (y5 = 0 → X 5 wy.heap.size W9 (detV L9 S9 p9 n9 c9 q9 k9 d9)) := fun e => hX.out _ _ _ _ _ (hx9 e) ((Turn.refl _ _).step hgs9 (.inl LT9.out.1))
                  have BbD_9 : Hid (C4 W9 bD (.int .i64 L8) (.int .i64 S8) (.slice p8 n8 c8) (.slice q8 k8 d8)) := (BbD_y.out.kept hg9).far hgs9 NE.out
                  clear BbC_y BbD_y hx9 hg9 hgs9 CC9 D9
                  clear hW9
                  go_wp2_with fail
                  rw [← HW9.out]
                  clear HW9 z0 z1 z2 z3 zf0 zf1 zf2 zf3
                  refine (HD6.out h0 h1 _ G9.out).mono ?_
                  rintro E w10 ⟨L10, S10, p10, n10, c10, q10, k10, d10, rfl, hx10, hg10⟩
                  have LT10 : Hid (bC < W9.heap.size ∧ bD < W9.heap.size) := ⟨BbC_9.out.lt, BbD_9.out.lt⟩
                  have D10 : C4 w10 bD (.int .i64 L8) (.int .i64 S8) (.slice p8 n8 c8) (.slice q8 k8 d8) := BbD_9.out.kept hg10
                  obtain ⟨z0, z1, z2, z3⟩ := D10.get
                  have zf0 := D10.fz 0
                  have zf1 := D10.fz 1
                  have zf2 := D10.fz 2
                  have zf3 := D10.fz 3
                  obtain ⟨W10, hW10, hgs10, CC10⟩ := c4_store D10 (.int .i64 L10) (.int .i64 S10) (.slice p10 n10 c10) (.slice q10 k10 d10)
                  have HW10 : Hid (W10 = _) := hW10
                  have G10 : Hid (w.grownBy W10 none) := grown_new (grown_trans G9.out hg10) hgs10 LBbD.out
                  have BbD_10 : Hid (C4 W10 bD (.int .i64 L10) (.int .i64 S10) (.slice p10 n10 c10) (.slice q10 k10 d10)) := CC10
                  have X6_10 : Hid (y6 = 0 → X 6 W9.heap.size W10 (detV L10 S10 p10 n10 c10 q10 k10 d10)) := fun e => hX.out _ _ _ _ _ (hx10 e) ((Turn.refl _ _).step hgs10 (.inl LT10.out.2))
                  have BbC_10 : Hid (C4 W10 bC (.int .i64 L9) (.int .i64 S9) (.slice p9 n9 c9) (.slice q9 k9 d9)) := (BbC_9.out.kept hg10).far hgs10 NE.out.symm
                  have X5_10 : Hid (y5 = 0 → X 5 wy.heap.size W10 (detV L9 S9 p9 n9 c9 q9 k9 d9)) := fun e => hX.out _ _ _ _ _ (hX.out _ _ _ _ _ (X5_9.out e) (Turn.of hg10)) ((Turn.refl _ _).step hgs10 (.inl LT9.out.2))
                  clear BbC_9 BbD_9 X5_9 hx10 hg10 hgs10 CC10 D10
                  by_cases h5 : y5 = 0
                  · have f5 : (y5 != 0) = false := by simpa using h5
                    by_cases h6 : y6 = 0
                    · have f6 : (y6 != 0) = false := by simpa using h6
                      obtain ⟨u0, u1, u2, u3⟩ := BbC_10.out.get
                      obtain ⟨v0, v1, v2, v3⟩ := BbD_10.out.get
                      rw [hW10] at u0 u1 u2 u3 v0 v1 v2 v3
                      clear hW10
                      go_wp2_with fail
                      rw [← HW10.out]
                      refine (HA2.out h0 h1 _ _ _ _ _ (X5_10.out h5) (X6_10.out h6)).mono ?_
                      rintro E wz ⟨rfl, hgz⟩
                      have GZ : Hid (w.grownBy wz none) := grown_trans G10.out hgz
                      clear hgz u0 u1 u2 u3 v0 v1 v2 v3 z0 z1 z2 z3 zf0 zf1 zf2 zf3 HW10
                      go_wp2_with fail
                      go_ret
                      exact ⟨rfl, GZ.out⟩
                    · have f6 : (y6 != 0) = true := by simpa using h6
                      clear hW10
                      go_wp2_with fail
                      go_ret
                      exact ⟨rfl, by rw [← HW10.out]; exact G10.out⟩
                  · have f5 : (y5 != 0) = true := by simpa using h5
                    clear hW10
                    go_wp2_with fail
                    go_ret
                    exact ⟨rfl, by rw [← HW10.out]; exact G10.out⟩
                · have f4 : (y4 == 0) = false := by simpa using h4
                  go_wp2_with fail
                  rw [← HW8.out]
                  clear HW8 hW8
                  refine (HD5.out h0 h1 _ G8.out).mono ?_
                  rintro E w9 ⟨L9, S9, p9, n9, c9, q9, k9, d9, rfl, hx9, hg9⟩
                  have LT9 : Hid (bC < W8.heap.size ∧ bD < W8.heap.size) := ⟨BbC_8.out.lt, BbD_8.out.lt⟩
                  have D9 : C4 w9 bC (.int .i64 L7) (.int .i64 S7) (.slice p7 n7 c7) (.slice q7 k7 d7) := BbC_8.out.kept hg9
                  obtain ⟨z0, z1, z2, z3⟩ := D9.get
                  have zf0 := D9.fz 0
                  have zf1 := D9.fz 1
                  have zf2 := D9.fz 2
                  have zf3 := D9.fz 3
                  obtain ⟨W9, hW9, hgs9, CC9⟩ := c4_store D9 (.int .i64 L9) (.int .i64 S9) (.slice p9 n9 c9) (.slice q9 k9 d9)
                  have HW9 : Hid (W9 = _) := hW9
                  have G9 : Hid (w.grownBy W9 none) := grown_new (grown_trans G8.out hg9) hgs9 LBbC.out
                  have BbC_9 : Hid (C4 W9 bC (.int .i64 L9) (.int .i64 S9) (.slice p9 n9 c9) (.slice q9 k9 d9)) := CC9
                  have X5_9 : Hid (y5 = 0 → X 5 W8.heap.size W9 (detV L9 S9 p9 n9 c9 q9 k9 d9)) := fun e => hX.out _ _ _ _ _ (hx9 e) ((Turn.refl _ _).step hgs9 (.inl LT9.out.1))
                  have BbD_9 : Hid (C4 W9 bD (.int .i64 L8) (.int .i64 S8) (.slice p8 n8 c8) (.slice q8 k8 d8)) := (BbD_8.out.kept hg9).far hgs9 NE.out
                  clear BbC_8 BbD_8 hx9 hg9 hgs9 CC9 D9
                  clear hW9
                  go_wp2_with fail
                  rw [← HW9.out]
                  clear HW9 z0 z1 z2 z3 zf0 zf1 zf2 zf3
                  refine (HD6.out h0 h1 _ G9.out).mono ?_
                  rintro E w10 ⟨L10, S10, p10, n10, c10, q10, k10, d10, rfl, hx10, hg10⟩
                  have LT10 : Hid (bC < W9.heap.size ∧ bD < W9.heap.size) := ⟨BbC_9.out.lt, BbD_9.out.lt⟩
                  have D10 : C4 w10 bD (.int .i64 L8) (.int .i64 S8) (.slice p8 n8 c8) (.slice q8 k8 d8) := BbD_9.out.kept hg10
                  obtain ⟨z0, z1, z2, z3⟩ := D10.get
                  have zf0 := D10.fz 0
                  have zf1 := D10.fz 1
                  have zf2 := D10.fz 2
                  have zf3 := D10.fz 3
                  obtain ⟨W10, hW10, hgs10, CC10⟩ := c4_store D10 (.int .i64 L10) (.int .i64 S10) (.slice p10 n10 c10) (.slice q10 k10 d10)
                  have HW10 : Hid (W10 = _) := hW10
                  have G10 : Hid (w.grownBy W10 none) := grown_new (grown_trans G9.out hg10) hgs10 LBbD.out
                  have BbD_10 : Hid (C4 W10 bD (.int .i64 L10) (.int .i64 S10) (.slice p10 n10 c10) (.slice q10 k10 d10)) := CC10
                  have X6_10 : Hid (y6 = 0 → X 6 W9.heap.size W10 (detV L10 S10 p10 n10 c10 q10 k10 d10)) := fun e => hX.out _ _ _ _ _ (hx10 e) ((Turn.refl _ _).step hgs10 (.inl LT10.out.2))
                  have BbC_10 : Hid (C4 W10 bC (.int .i64 L9) (.int .i64 S9) (.slice p9 n9 c9) (.slice q9 k9 d9)) := (BbC_9.out.kept hg10).far hgs10 NE.out.symm
                  have X5_10 : Hid (y5 = 0 → X 5 W8.heap.size W10 (detV L9 S9 p9 n9 c9 q9 k9 d9)) := fun e => hX.out _ _ _ _ _ (hX.out _ _ _ _ _ (X5_9.out e) (Turn.of hg10)) ((Turn.refl _ _).step hgs10 (.inl LT9.out.2))
                  clear BbC_9 BbD_9 X5_9 hx10 hg10 hgs10 CC10 D10
                  by_cases h5 : y5 = 0
                  · have f5 : (y5 != 0) = false := by simpa using h5
                    by_cases h6 : y6 = 0
                    · have f6 : (y6 != 0) = false := by simpa using h6
                      obtain ⟨u0, u1, u2, u3⟩ := BbC_10.out.get
                      obtain ⟨v0, v1, v2, v3⟩ := BbD_10.out.get
                      rw [hW10] at u0 u1 u2 u3 v0 v1 v2 v3
                      clear hW10
                      go_wp2_with fail
                      rw [← HW10.out]
                      refine (HA2.out h0 h1 _ _ _ _ _ (X5_10.out h5) (X6_10.out h6)).mono ?_
                      rintro E wz ⟨rfl, hgz⟩
                      have GZ : Hid (w.grownBy wz none) := grown_trans G10.out hgz
                      clear hgz u0 u1 u2 u3 v0 v1 v2 v3 z0 z1 z2 z3 zf0 zf1 zf2 zf3 HW10
                      go_wp2_with fail
                      go_ret
                      exact ⟨rfl, GZ.out⟩
                    · have f6 : (y6 != 0) = true := by simpa using h6
                      clear hW10
                      go_wp2_with fail
                      go_ret
                      exact ⟨rfl, by rw [← HW10.out]; exact G10.out⟩
                  · have f5 : (y5 != 0) = true := by simpa using h5
                    clear hW10
                    go_wp2_with fail
                    go_ret
                    exact ⟨rfl, by rw [← HW10.out]; exact G10.out⟩
              · have f3 : (y3 == 0) = false := by simpa using h3
                go_wp2_with fail
                rw [← HW8.out]
                clear HW8 hW8
                refine (HD5.out h0 h1 _ G8.out).mono ?_
                rintro E w9 ⟨L9, S9, p9, n9, c9, q9, k9, d9, rfl, hx9, hg9⟩
                have LT9 : Hid (bC < W8.heap.size ∧ bD < W8.heap.size) := ⟨BbC_8.out.lt, BbD_8.out.lt⟩
                have D9 : C4 w9 bC (.int .i64 L7) (.int .i64 S7) (.slice p7 n7 c7) (.slice q7 k7 d7) := BbC_8.out.kept hg9
                obtain ⟨z0, z1, z2, z3⟩ := D9.get
                have zf0 := D9.fz 0
                have zf1 := D9.fz 1
                have zf2 := D9.fz 2
                have zf3 := D9.fz 3
                obtain ⟨W9, hW9, hgs9, CC9⟩ := c4_store D9 (.int .i64 L9) (.int .i64 S9) (.slice p9 n9 c9) (.slice q9 k9 d9)
                have HW9 : Hid (W9 = _) := hW9
                have G9 : Hid (w.grownBy W9 none) := grown_new (grown_trans G8.out hg9) hgs9 LBbC.out
                have BbC_9 : Hid (C4 W9 bC (.int .i64 L9) (.int .i64 S9) (.slice p9 n9 c9) (.slice q9 k9 d9)) := CC9
                have X5_9 : Hid (y5 = 0 → X 5 W8.heap.size W9 (detV L9 S9 p9 n9 c9 q9 k9 d9)) := fun e => hX.out _ _ _ _ _ (hx9 e) ((Turn.refl _ _).step hgs9 (.inl LT9.out.1))
                have BbD_9 : Hid (C4 W9 bD (.int .i64 L8) (.int .i64 S8) (.slice p8 n8 c8) (.slice q8 k8 d8)) := (BbD_8.out.kept hg9).far hgs9 NE.out
                clear BbC_8 BbD_8 hx9 hg9 hgs9 CC9 D9
                clear hW9
                go_wp2_with fail
                rw [← HW9.out]
                clear HW9 z0 z1 z2 z3 zf0 zf1 zf2 zf3
                refine (HD6.out h0 h1 _ G9.out).mono ?_
                rintro E w10 ⟨L10, S10, p10, n10, c10, q10, k10, d10, rfl, hx10, hg10⟩
                have LT10 : Hid (bC < W9.heap.size ∧ bD < W9.heap.size) := ⟨BbC_9.out.lt, BbD_9.out.lt⟩
                have D10 : C4 w10 bD (.int .i64 L8) (.int .i64 S8) (.slice p8 n8 c8) (.slice q8 k8 d8) := BbD_9.out.kept hg10
                obtain ⟨z0, z1, z2, z3⟩ := D10.get
                have zf0 := D10.fz 0
                have zf1 := D10.fz 1
                have zf2 := D10.fz 2
                have zf3 := D10.fz 3
                obtain ⟨W10, hW10, hgs10, CC10⟩ := c4_store D10 (.int .i64 L10) (.int .i64 S10) (.slice p10 n10 c10) (.slice q10 k10 d10)
                have HW10 : Hid (W10 = _) := hW10
                have G10 : Hid (w.grownBy W10 none) := grown_new (grown_trans G9.out hg10) hgs10 LBbD.out
                have BbD_10 : Hid (C4 W10 bD (.int .i64 L10) (.int .i64 S10) (.slice p10 n10 c10) (.slice q10 k10 d10)) := CC10
                have X6_10 : Hid (y6 = 0 → X 6 W9.heap.size W10 (detV L10 S10 p10 n10 c10 q10 k10 d10)) := fun e => hX.out _ _ _ _ _ (hx10 e) ((Turn.refl _ _).step hgs10 (.inl LT10.out.2))
                have BbC_10 : Hid (C4 W10 bC (.int .i64 L9) (.int .i64 S9) (.slice p9 n9 c9) (.slice q9 k9 d9)) := (BbC_9.out.kept hg10).far hgs10 NE.out.symm
                have X5_10 : Hid (y5 = 0 → X 5 W8.heap.size W10 (detV L9 S9 p9 n9 c9 q9 k9 d9)) := fun e => hX.out _ _ _ _ _ (hX.out _ _ _ _ _ (X5_9.out e) (Turn.of hg10)) ((Turn.refl _ _).step hgs10 (.inl LT9.out.2))
                clear BbC_9 BbD_9 X5_9 hx10 hg10 hgs10 CC10 D10
                by_cases h5 : y5 = 0
                · have f5 : (y5 != 0) = false := by simpa using h5
                  by_cases h6 : y6 = 0
                  · have f6 : (y6 != 0) = false := by simpa using h6
                    obtain ⟨u0, u1, u2, u3⟩ := BbC_10.out.get
                    obtain ⟨v0, v1, v2, v3⟩ := BbD_10.out.get
                    rw [hW10] at u0 u1 u2 u3 v0 v1 v2 v3
                    clear hW10
                    go_wp2_with fail
                    rw [← HW10.out]
                    refine (HA2.out h0 h1 _ _ _ _ _ (X5_10.out h5) (X6_10.out h6)).mono ?_
                    rintro E wz ⟨rfl, hgz⟩
                    have GZ : Hid (w.grownBy wz none) := grown_trans G10.out hgz
                    clear hgz u0 u1 u2 u3 v0 v1 v2 v3 z0 z1 z2 z3 zf0 zf1 zf2 zf3 HW10
                    go_wp2_with fail
                    go_ret
                    exact ⟨rfl, GZ.out⟩
                  · have f6 : (y6 != 0) = true := by simpa using h6
                    clear hW10
                    go_wp2_with fail
                    go_ret
                    exact ⟨rfl, by rw [← HW10.out]; exact G10.out⟩
                · have f5 : (y5 != 0) = true := by simpa using h5
                  clear hW10
                  go_wp2_with fail
                  go_ret
                  exact ⟨rfl, by rw [← HW10.out]; exact G10.out⟩
            · have fM : (yM == 0) = false := by simpa using hM
              go_wp2_with fail
              refine (HD3.out h0 h1 _ G6.out).mono ?_
              rintro E w7 ⟨L7, S7, p7, n7, c7, q7, k7, d7, rfl, hx7, hg7⟩
              have LT7 : Hid (bC < w6.heap.size) := BbC_6.out.lt
              have D7 : C4 w7 bC (.int .i64 L4) (.int .i64 S4) (.slice p4 n4 c4) (.slice q4 k4 d4) := BbC_6.out.kept hg7
              obtain ⟨z0, z1, z2, z3⟩ := D7.get
              have zf0 := D7.fz 0
              have zf1 := D7.fz 1
              have zf2 := D7.fz 2
              have zf3 := D7.fz 3
              obtain ⟨W7, hW7, hgs7, CC7⟩ := c4_store D7 (.int .i64 L7) (.int .i64 S7) (.slice p7 n7 c7) (.slice q7 k7 d7)
              have HW7 : Hid (W7 = _) := hW7
              have G7 : Hid (w.grownBy W7 none) := grown_new (grown_trans G6.out hg7) hgs7 LBbC.out
              have BbC_7 : Hid (C4 W7 bC (.int .i64 L7) (.int .i64 S7) (.slice p7 n7 c7) (.slice q7 k7 d7)) := CC7
              have X3_7 : Hid (y3 = 0 → X 3 w6.heap.size W7 (detV L7 S7 p7 n7 c7 q7 k7 d7)) := fun e => hX.out _ _ _ _ _ (hx7 e) ((Turn.refl _ _).step hgs7 (.inl LT7.out))
              clear BbC_6 hx7 hg7 hgs7 CC7 D7
              clear hW7
              go_wp2_with fail
              rw [← HW7.out]
              clear HW7 z0 z1 z2 z3 zf0 zf1 zf2 zf3
              have LTC : Hid (bC < W7.heap.size) := BbC_7.out.lt
              have SZ : Hid (∀ V, W7.grownBy V none → bC < V.heap.size) := fun V hV => Nat.lt_of_lt_of_le LTC.out hV.size
              refine (HD4.out h0 h1 _ G7.out).mono ?_
              rintro E w8 ⟨L8, S8, p8, n8, c8, q8, k8, d8, rfl, hx8, hg8⟩
              obtain ⟨W8, hW8, g8, s8, CC8⟩ := c4_new w8 (.int .i64 L8) (.int .i64 S8) (.slice p8 n8 c8) (.slice q8 k8 d8)
              have HW8 : Hid (W8 = w8.alloc (.cells #[.int .i64 L8, .int .i64 S8, .slice p8 n8 c8, .slice q8 k8 d8] 25)) := hW8
              have gg8 : W7.grownBy W8 none := grown_trans hg8 g8
              have G8 : Hid (w.grownBy W8 none) := grown_trans G7.out gg8
              obtain ⟨bD, hbD⟩ : ∃ bD, w8.heap.size = bD := ⟨_, rfl⟩
              have GB8 : Hid (W7.heap.size ≤ bD) := by show _ ≤ _; rw [← hbD]; exact hg8.size
              have LBbD : Hid (w.heap.size ≤ bD) := by show _ ≤ _; rw [← hbD]; exact (grown_trans G7.out hg8).size
              rw [hbD] at CC8
              have BbD_8 : Hid (C4 W8 bD (.int .i64 L8) (.int .i64 S8) (.slice p8 n8 c8) (.slice q8 k8 d8)) := CC8
              have X4_8 : Hid (y4 = 0 → X 4 W7.heap.size W8 (detV L8 S8 p8 n8 c8 q8 k8 d8)) := fun e => hX.out _ _ _ _ _ (hx8 e) (Turn.of g8)
              have BbC_8 : Hid (C4 W8 bC (.int .i64 L7) (.int .i64 S7) (.slice p7 n7 c7) (.slice q7 k7 d7)) := BbC_7.out.kept gg8
              have X3_8 : Hid (y3 = 0 → X 3 w6.heap.size W8 (detV L7 S7 p7 n7 c7 q7 k7 d7)) := fun e => hX.out _ _ _ _ _ (X3_7.out e) (Turn.of gg8)
              clear BbC_7 X3_7
              clear hx8 hg8 g8 s8 CC8 gg8
              have NE : Hid (bD ≠ bC) := by
                show bD ≠ bC
                have h1 := LTC.out
                have h2 := GB8.out
                omega
              by_cases h3 : y3 = 0
              · have f3 : (y3 == 0) = true := by simpa using h3
                by_cases h4 : y4 = 0
                · have f4 : (y4 == 0) = true := by simpa using h4
                  obtain ⟨u0, u1, u2, u3⟩ := BbC_8.out.get
                  obtain ⟨v0, v1, v2, v3⟩ := BbD_8.out.get
                  rw [hW8] at u0 u1 u2 u3 v0 v1 v2 v3
                  clear hW8
                  go_wp2_with fail
                  rw [← HW8.out]
                  refine (HA1.out h0 h1 _ _ _ _ _ (X3_8.out h3) (X4_8.out h4)).mono ?_
                  rintro E wy ⟨rfl, hgy⟩
                  have GY : Hid (w.grownBy wy none) := grown_trans G8.out hgy
                  have BbC_y : Hid (C4 wy bC (.int .i64 L7) (.int .i64 S7) (.slice p7 n7 c7) (.slice q7 k7 d7)) := BbC_8.out.kept hgy
                  have BbD_y : Hid (C4 wy bD (.int .i64 L8) (.int .i64 S8) (.slice p8 n8 c8) (.slice q8 k8 d8)) := BbD_8.out.kept hgy
                  clear BbC_8 BbD_8 X3_8 X4_8 hgy u0 u1 u2 u3 v0 v1 v2 v3 HW8
                  go_wp2_with fail
                  refine (HD5.out h0 h1 _ GY.out).mono ?_
                  rintro E w9 ⟨L9, S9, p9, n9, c9, q9, k9, d9, rfl, hx9, hg9⟩
                  have LT9 : Hid (bC < wy.heap.size ∧ bD < wy.heap.size) := ⟨BbC_y.out.lt, BbD_y.out.lt⟩
                  have D9 : C4 w9 bC (.int .i64 L7) (.int .i64 S7) (.slice p7 n7 c7) (.slice q7 k7 d7) := BbC_y.out.kept hg9
                  obtain ⟨z0, z1, z2, z3⟩ := D9.get
                  have zf0 := D9.fz 0
                  have zf1 := D9.fz 1
                  have zf2 := D9.fz 2
                  have zf3 := D9.fz 3
                  obtain ⟨W9, hW9, hgs9, CC9⟩ := c4_store D9 (.int .i64 L9) (.int .i64 S9) (.slice p9 n9 c9) (.slice q9 k9 d9)
                  have HW9 : Hid (W9 = _) := hW9
                  have G9 : Hid (w.grownBy W9 none) := grown_new (grown_trans GY.out hg9) hgs9 LBbC.out
                  have BbC_9 : Hid (C4 W9 bC (.int .i64 L9) (.int .i64 S9) (.slice p9 n9 c9) (.slice q9 k9 d9)) := CC9
                  have X5_9 : Hid (y5 = 0 → X 5 wy.heap.size W9 (detV L9 S9 p9 n9 c9 q9 k9 d9)) := fun e => hX.out _ _ _ _ _ (hx9 e) ((Turn.refl _ _).step hgs9 (.inl LT9.out.1))
                  have BbD_9 : Hid (C4 W9 bD (.int .i64 L8) (.int .i64 S8) (.slice p8 n8 c8) (.slice q8 k8 d8)) := (BbD_y.out.kept hg9).far hgs9 NE.out
                  clear BbC_y BbD_y hx9 hg9 hgs9 CC9 D9
                  clear hW9
                  go_wp2_with fail
                  rw [← HW9.out]
                  clear HW9 z0 z1 z2 z3 zf0 zf1 zf2 zf3
                  refine (HD6.out h0 h1 _ G9.out).mono ?_
                  rintro E w10 ⟨L10, S10, p10, n10, c10, q10, k10, d10, rfl, hx10, hg10⟩
                  have LT10 : Hid (bC < W9.heap.size ∧ bD < W9.heap.size) := ⟨BbC_9.out.lt, BbD_9.out.lt⟩
                  have D10 : C4 w10 bD (.int .i64 L8) (.int .i64 S8) (.slice p8 n8 c8) (.slice q8 k8 d8) := BbD_9.out.kept hg10
                  obtain ⟨z0, z1, z2, z3⟩ := D10.get
                  have zf0 := D10.fz 0
                  have zf1 := D10.fz 1
                  have zf2 := D10.fz 2
                  have zf3 := D10.fz 3
                  obtain ⟨W10, hW10, hgs10, CC10⟩ := c4_store D10 (.int .i64 L10) (.int .i64 S10) (.slice p10 n10 c10) (.slice q10 k10 d10)
                  have HW10 : Hid (W10 = _) := hW10
                  have G10 : Hid (w.grownBy W10 none) := grown_new (grown_trans G9.out hg10) hgs10 LBbD.out
                  have BbD_10 : Hid (C4 W10 bD (.int .i64 L10) (.int .i64 S10) (.slice p10 n10 c10) (.slice q10 k10 d10)) := CC10
                  have X6_10 : Hid (y6 = 0 → X 6 W9.heap.size W10 (detV L10 S10 p10 n10 c10 q10 k10 d10)) := fun e => hX.out _ _ _ _ _ (hx10 e) ((Turn.refl _ _).step hgs10 (.inl LT10.out.2))
                  have BbC_10 : Hid (C4 W10 bC (.int .i64 L9) (.int .i64 S9) (.slice p9 n9 c9) (.slice q9 k9 d9)) := (BbC_9.out.kept hg10).far hgs10 NE.out.symm
                  have X5_10 : Hid (y5 = 0 → X 5 wy.heap.size W10 (detV L9 S9 p9 n9 c9 q9 k9 d9)) := fun e => hX.out _ _ _ _ _ (hX.out _ _ _ _ _ (X5_9.out e) (Turn.of hg10)) ((Turn.refl _ _).step hgs10 (.inl LT9.out.2))
                  clear BbC_9 BbD_9 X5_9 hx10 hg10 hgs10 CC10 D10
                  by_cases h5 : y5 = 0
                  · have f5 : (y5 != 0) = false := by simpa using h5
                    by_cases h6 : y6 = 0
                    · have f6 : (y6 != 0) = false := by simpa using h6
                      obtain ⟨u0, u1, u2, u3⟩ := BbC_10.out.get
                      obtain ⟨v0, v1, v2, v3⟩ := BbD_10.out.get
                      rw [hW10] at u0 u1 u2 u3 v0 v1 v2 v3
                      clear hW10
                      go_wp2_with fail
                      rw [← HW10.out]
                      refine (HA2.out h0 h1 _ _ _ _ _ (X5_10.out h5) (X6_10.out h6)).mono ?_
                      rintro E wz ⟨rfl, hgz⟩
                      have GZ : Hid (w.grownBy wz none) := grown_trans G10.out hgz
                      clear hgz u0 u1 u2 u3 v0 v1 v2 v3 z0 z1 z2 z3 zf0 zf1 zf2 zf3 HW10
                      go_wp2_with fail
                      go_ret
                      exact ⟨rfl, GZ.out⟩
                    · have f6 : (y6 != 0) = true := by simpa using h6
                      clear hW10
                      go_wp2_with fail
                      go_ret
                      exact ⟨rfl, by rw [← HW10.out]; exact G10.out⟩
                  · have f5 : (y5 != 0) = true := by simpa using h5
                    clear hW10
                    go_wp2_with fail
                    go_ret
                    exact ⟨rfl, by rw [← HW10.out]; exact G10.out⟩
                · have f4 : (y4 == 0) = false := by simpa using h4
                  go_wp2_with fail
                  rw [← HW8.out]
                  clear HW8 hW8
                  refine (HD5.out h0 h1 _ G8.out).mono ?_
                  rintro E w9 ⟨L9, S9, p9, n9, c9, q9, k9, d9, rfl, hx9, hg9⟩
                  have LT9 : Hid (bC < W8.heap.size ∧ bD < W8.heap.size) := ⟨BbC_8.out.lt, BbD_8.out.lt⟩
                  have D9 : C4 w9 bC (.int .i64 L7) (.int .i64 S7) (.slice p7 n7 c7) (.slice q7 k7 d7) := BbC_8.out.kept hg9
                  obtain ⟨z0, z1, z2, z3⟩ := D9.get
                  have zf0 := D9.fz 0
                  have zf1 := D9.fz 1
                  have zf2 := D9.fz 2
                  have zf3 := D9.fz 3
                  obtain ⟨W9, hW9, hgs9, CC9⟩ := c4_store D9 (.int .i64 L9) (.int .i64 S9) (.slice p9 n9 c9) (.slice q9 k9 d9)
                  have HW9 : Hid (W9 = _) := hW9
                  have G9 : Hid (w.grownBy W9 none) := grown_new (grown_trans G8.out hg9) hgs9 LBbC.out
                  have BbC_9 : Hid (C4 W9 bC (.int .i64 L9) (.int .i64 S9) (.slice p9 n9 c9) (.slice q9 k9 d9)) := CC9
                  have X5_9 : Hid (y5 = 0 → X 5 W8.heap.size W9 (detV L9 S9 p9 n9 c9 q9 k9 d9)) := fun e => hX.out _ _ _ _ _ (hx9 e) ((Turn.refl _ _).step hgs9 (.inl LT9.out.1))
                  have BbD_9 : Hid (C4 W9 bD (.int .i64 L8) (.int .i64 S8) (.slice p8 n8 c8) (.slice q8 k8 d8)) := (BbD_8.out.kept hg9).far hgs9 NE.out
                  clear BbC_8 BbD_8 hx9 hg9 hgs9 CC9 D9
                  clear hW9
                  go_wp2_with fail
                  rw [← HW9.out]
                  clear HW9 z0 z1 z2 z3 zf0 zf1 zf2 zf3
                  refine (HD6.out h0 h1 _ G9.out).mono ?_
                  rintro E w10 ⟨L10, S10, p10, n10, c10, q10, k10, d10, rfl, hx10, hg10⟩
                  have LT10 : Hid (bC < W9.heap.size ∧ bD < W9.heap.size) := ⟨BbC_9.out.lt, BbD_9.out.lt⟩
                  have D10 : C4 w10 bD (.int .i64 L8) (.int .i64 S8) (.slice p8 n8 c8) (.slice q8 k8 d8) := BbD_9.out.kept hg10
                  obtain ⟨z0, z1, z2, z3⟩ := D10.get
                  have zf0 := D10.fz 0
                  have zf1 := D10.fz 1
                  have zf2 := D10.fz 2
                  have zf3 := D10.fz 3
                  obtain ⟨W10, hW10, hgs10, CC10⟩ := c4_store D10 (.int .i64 L10) (.int .i64 S10) (.slice p10 n10 c10) (.slice q10 k10 d10)
                  have HW10 : Hid (W10 = _) := hW10
                  have G10 : Hid (w.grownBy W10 none) := grown_new (grown_trans G9.out hg10) hgs10 LBbD.out
                  have BbD_10 : Hid (C4 W10 bD (.int .i64 L10) (.int .i64 S10) (.slice p10 n10 c10) (.slice q10 k10 d10)) := CC10
                  have X6_10 : Hid (y6 = 0 → X 6 W9.heap.size W10 (detV L10 S10 p10 n10 c10 q10 k10 d10)) := fun e => hX.out _ _ _ _ _ (hx10 e) ((Turn.refl _ _).step hgs10 (.inl LT10.out.2))
                  have BbC_10 : Hid (C4 W10 bC (.int .i64 L9) (.int .i64 S9) (.slice p9 n9 c9) (.slice q9 k9 d9)) := (BbC_9.out.kept hg10).far hgs10 NE.out.symm
                  have X5_10 : Hid (y5 = 0 → X 5 W8.heap.size W10 (detV L9 S9 p9 n9 c9 q9 k9 d9)) := fun e => hX.out _ _ _ _ _ (hX.out _ _ _ _ _ (X5_9.out e) (Turn.of hg10)) ((Turn.refl _ _).step hgs10 (.inl LT9.out.2))
                  clear BbC_9 BbD_9 X5_9 hx10 hg10 hgs10 CC10 D10
                  by_cases h5 : y5 = 0
                  · have f5 : (y5 != 0) = false := by simpa using h5
                    by_cases h6 : y6 = 0
                    · have f6 : (y6 != 0) = false := by simpa using h6
                      obtain ⟨u0, u1, u2, u3⟩ := BbC_10.out.get
                      obtain ⟨v0, v1, v2, v3⟩ := BbD_10.out.get
                      rw [hW10] at u0 u1 u2 u3 v0 v1 v2 v3
                      clear hW10
                      go_wp2_with fail
                      rw [← HW10.out]
                      refine (HA2.out h0 h1 _ _ _ _ _ (X5_10.out h5) (X6_10.out h6)).mono ?_
                      rintro E wz ⟨rfl, hgz⟩
                      have GZ : Hid (w.grownBy wz none) := grown_trans G10.out hgz
                      clear hgz u0 u1 u2 u3 v0 v1 v2 v3 z0 z1 z2 z3 zf0 zf1 zf2 zf3 HW10
                      go_wp2_with fail
                      go_ret
                      exact ⟨rfl, GZ.out⟩
                    · have f6 : (y6 != 0) = true := by simpa using h6
                      clear hW10
                      go_wp2_with fail
                      go_ret
                      exact ⟨rfl, by rw [← HW10.out]; exact G10.out⟩
                  · have f5 : (y5 != 0) = true := by simpa using h5
                    clear hW10
                    go_wp2_with fail
                    go_ret
                    exact ⟨rfl, by rw [← HW10.out]; exact G10.out⟩
              · have f3 : (y3 == 0) = false := by simpa using h3
                go_wp2_with fail
                rw [← HW8.out]
                clear HW8 hW8
                refine (HD5.out h0 h1 _ G8.out).mono ?_
                rintro E w9 ⟨L9, S9, p9, n9, c9, q9, k9, d9, rfl, hx9, hg9⟩
                have LT9 : Hid (bC < W8.heap.size ∧ bD < W8.heap.size) := ⟨BbC_8.out.lt, BbD_8.out.lt⟩
                have D9 : C4 w9 bC (.int .i64 L7) (.int .i64 S7) (.slice p7 n7 c7) (.slice q7 k7 d7) := BbC_8.out.kept hg9
                obtain ⟨z0, z1, z2, z3⟩ := D9.get
                have zf0 := D9.fz 0
                have zf1 := D9.fz 1
                have zf2 := D9.fz 2
                have zf3 := D9.fz 3
                obtain ⟨W9, hW9, hgs9, CC9⟩ := c4_store D9 (.int .i64 L9) (.int .i64 S9) (.slice p9 n9 c9) (.slice q9 k9 d9)
                have HW9 : Hid (W9 = _) := hW9
                have G9 : Hid (w.grownBy W9 none) := grown_new (grown_trans G8.out hg9) hgs9 LBbC.out
                have BbC_9 : Hid (C4 W9 bC (.int .i64 L9) (.int .i64 S9) (.slice p9 n9 c9) (.slice q9 k9 d9)) := CC9
                have X5_9 : Hid (y5 = 0 → X 5 W8.heap.size W9 (detV L9 S9 p9 n9 c9 q9 k9 d9)) := fun e => hX.out _ _ _ _ _ (hx9 e) ((Turn.refl _ _).step hgs9 (.inl LT9.out.1))
                have BbD_9 : Hid (C4 W9 bD (.int .i64 L8) (.int .i64 S8) (.slice p8 n8 c8) (.slice q8 k8 d8)) := (BbD_8.out.kept hg9).far hgs9 NE.out
                clear BbC_8 BbD_8 hx9 hg9 hgs9 CC9 D9
                clear hW9
                go_wp2_with fail
                rw [← HW9.out]
                clear HW9 z0 z1 z2 z3 zf0 zf1 zf2 zf3
                refine (HD6.out h0 h1 _ G9.out).mono ?_
                rintro E w10 ⟨L10, S10, p10, n10, c10, q10, k10, d10, rfl, hx10, hg10⟩
                have LT10 : Hid (bC < W9.heap.size ∧ bD < W9.heap.size) := ⟨BbC_9.out.lt, BbD_9.out.lt⟩
                have D10 : C4 w10 bD (.int .i64 L8) (.int .i64 S8) (.slice p8 n8 c8) (.slice q8 k8 d8) := BbD_9.out.kept hg10
                obtain ⟨z0, z1, z2, z3⟩ := D10.get
                have zf0 := D10.fz 0
                have zf1 := D10.fz 1
                have zf2 := D10.fz 2
                have zf3 := D10.fz 3
                obtain ⟨W10, hW10, hgs10, CC10⟩ := c4_store D10 (.int .i64 L10) (.int .i64 S10) (.slice p10 n10 c10) (.slice q10 k10 d10)
                have HW10 : Hid (W10 = _) := hW10
                have G10 : Hid (w.grownBy W10 none) := grown_new (grown_trans G9.out hg10) hgs10 LBbD.out
                have BbD_10 : Hid (C4 W10 bD (.int .i64 L10) (.int .i64 S10) (.slice p10 n10 c10) (.slice q10 k10 d10)) := CC10
                have X6_10 : Hid (y6 = 0 → X 6 W9.heap.size W10 (detV L10 S10 p10 n10 c10 q10 k10 d10)) := fun e => hX.out _ _ _ _ _ (hx10 e) ((Turn.refl _ _).step hgs10 (.inl LT10.out.2))
                have BbC_10 : Hid (C4 W10 bC (.int .i64 L9) (.int .i64 S9) (.slice p9 n9 c9) (.slice q9 k9 d9)) := (BbC_9.out.kept hg10).far hgs10 NE.out.symm
                have X5_10 : Hid (y5 = 0 → X 5 W8.heap.size W10 (detV L9 S9 p9 n9 c9 q9 k9 d9)) := fun e => hX.out _ _ _ _ _ (hX.out _ _ _ _ _ (X5_9.out e) (Turn.of hg10)) ((Turn.refl _ _).step hgs10 (.inl LT9.out.2))
                clear BbC_9 BbD_9 X5_9 hx10 hg10 hgs10 CC10 D10
                by_cases h5 : y5 = 0
                · have f5 : (y5 != 0) = false := by simpa using h5
                  by_cases h6 : y6 = 0
                  · have f6 : (y6 != 0) = false := by simpa using h6
                    obtain ⟨u0, u1, u2, u3⟩ := BbC_10.out.get
                    obtain ⟨v0, v1, v2, v3⟩ := BbD_10.out.get
                    rw [hW10] at u0 u1 u2 u3 v0 v1 v2 v3
                    clear hW10
                    go_wp2_with fail
                    rw [← HW10.out]
                    refine (HA2.out h0 h1 _ _ _ _ _ (X5_10.out h5) (X6_10.out h6)).mono ?_
                    rintro E wz ⟨rfl, hgz⟩
                    have GZ : Hid (w.grownBy wz none) := grown_trans G10.out hgz
                    clear hgz u0 u1 u2 u3 v0 v1 v2 v3 z0 z1 z2 z3 zf0 zf1 zf2 zf3 HW10
                    go_wp2_with fail
                    go_ret
                    exact ⟨rfl, GZ.out⟩
                  · have f6 : (y6 != 0) = true := by simpa using h6
                    clear hW10
                    go_wp2_with fail
                    go_ret
                    exact ⟨rfl, by rw [← HW10.out]; exact G10.out⟩
                · have f5 : (y5 != 0) = true := by simpa using h5
                  clear hW10
                  go_wp2_with fail
                  go_ret
                  exact ⟨rfl, by rw [← HW10.out]; exact G10.out⟩
          · have f2 : (y2 == 0) = false := by simpa using h2
            go_wp2_with fail
            rw [← HW4.out]
            clear HW4 hW4
            refine (HD3.out h0 h1 _ G4.out).mono ?_
            rintro E w7 ⟨L7, S7, p7, n7, c7, q7, k7, d7, rfl, hx7, hg7⟩
            have LT7 : Hid (bC < W4.heap.size) := BbC_4.out.lt
            have D7 : C4 w7 bC (.int .i64 L4) (.int .i64 S4) (.slice p4 n4 c4) (.slice q4 k4 d4) := BbC_4.out.kept hg7
            obtain ⟨z0, z1, z2, z3⟩ := D7.get
            have zf0 := D7.fz 0
            have zf1 := D7.fz 1
            have zf2 := D7.fz 2
            have zf3 := D7.fz 3
            obtain ⟨W7, hW7, hgs7, CC7⟩ := c4_store D7 (.int .i64 L7) (.int .i64 S7) (.slice p7 n7 c7) (.slice q7 k7 d7)
            have HW7 : Hid (W7 = _) := hW7
            have G7 : Hid (w.grownBy W7 none) := grown_new (grown_trans G4.out hg7) hgs7 LBbC.out
            have BbC_7 : Hid (C4 W7 bC (.int .i64 L7) (.int .i64 S7) (.slice p7 n7 c7) (.slice q7 k7 d7)) := CC7
            have X3_7 : Hid (y3 = 0 → X 3 W4.heap.size W7 (detV L7 S7 p7 n7 c7 q7 k7 d7)) := fun e => hX.out _ _ _ _ _ (hx7 e) ((Turn.refl _ _).step hgs7 (.inl LT7.out))
            clear BbC_4 hx7 hg7 hgs7 CC7 D7
            clear hW7
            go_wp2_with fail
            rw [← HW7.out]
            clear HW7 z0 z1 z2 z3 zf0 zf1 zf2 zf3
            have LTC : Hid (bC < W7.heap.size) := BbC_7.out.lt
            have SZ : Hid (∀ V, W7.grownBy V none → bC < V.heap.size) := fun V hV => Nat.lt_of_lt_of_le LTC.out hV.size
            refine (HD4.out h0 h1 _ G7.out).mono ?_
            rintro E w8 ⟨L8, S8, p8, n8, c8, q8, k8, d8, rfl, hx8, hg8⟩
            obtain ⟨W8, hW8, g8, s8, CC8⟩ := c4_new w8 (.int .i64 L8) (.int .i64 S8) (.slice p8 n8 c8) (.slice q8 k8 d8)
            have HW8 : Hid (W8 = w8.alloc (.cells #[.int .i64 L8, .int .i64 S8, .slice p8 n8 c8, .slice q8 k8 d8] 25)) := hW8
            have gg8 : W7.grownBy W8 none := grown_trans hg8 g8
            have G8 : Hid (w.grownBy W8 none) := grown_trans G7.out gg8
            obtain ⟨bD, hbD⟩ : ∃ bD, w8.heap.size = bD := ⟨_, rfl⟩
            have GB8 : Hid (W7.heap.size ≤ bD) := by show _ ≤ _; rw [← hbD]; exact hg8.size
            have LBbD : Hid (w.heap.size ≤ bD) := by show _ ≤ _; rw [← hbD]; exact (grown_trans G7.out hg8).size
            rw [hbD] at CC8
            have BbD_8 : Hid (C4 W8 bD (.int .i64 L8) (.int .i64 S8) (.slice p8 n8 c8) (.slice q8 k8 d8)) := CC8
            have X4_8 : Hid (y4 = 0 → X 4 W7.heap.size W8 (detV L8 S8 p8 n8 c8 q8 k8 d8)) := fun e => hX.out _ _ _ _ _ (hx8 e) (Turn.of g8)
            have BbC_8 : Hid (C4 W8 bC (.int .i64 L7) (.int .i64 S7) (.slice p7 n7 c7) (.slice q7 k7 d7)) := BbC_7.out.kept gg8
            have X3_8 : Hid (y3 = 0 → X 3 W4.heap.size W8 (detV L7 S7 p7 n7 c7 q7 k7 d7)) := fun e => hX.out _ _ _ _ _ (X3_7.out e) (Turn.of gg8)
            clear BbC_7 X3_7
            clear hx8 hg8 g8 s8 CC8 gg8
            have NE : Hid (bD ≠ bC) := by
              show bD ≠ bC
              have h1 := LTC.out
              have h2 := GB8.out
              omega
            by_cases h3 : y3 = 0
            · have f3 : (y3 == 0) = true := by simpa using h3
              by_cases h4 : y4 = 0
              · have f4 : (y4 == 0) = true := by simpa using h4
                obtain ⟨u0, u1, u2, u3⟩ := BbC_8.out.get
                obtain ⟨v0, v1, v2, v3⟩ := BbD_8.out.get
                rw [hW8] at u0 u1 u2 u3 v0 v1 v2 v3
                clear hW8
                go_wp2_with fail
                rw [← HW8.out]
                refine (HA1.out h0 h1 _ _ _ _ _ (X3_8.out h3) (X4_8.out h4)).mono ?_
                rintro E wy ⟨rfl, hgy⟩
                have GY : Hid (w.grownBy wy none) := grown_trans G8.out hgy
                have BbC_y : Hid (C4 wy bC (.int .i64 L7) (.int .i64 S7) (.slice p7 n7 c7) (.slice q7 k7 d7)) := BbC_8.out.kept hgy
                have BbD_y : Hid (C4 wy bD (.int .i64 L8) (.int .i64 S8) (.slice p8 n8 c8) (.slice q8 k8 d8)) := BbD_8.out.kept hgy
                clear BbC_8 BbD_8 X3_8 X4_8 hgy u0 u1 u2 u3 v0 v1 v2 v3 HW8
                go_wp2_with fail
                refine (HD5.out h0 h1 _ GY.out).mono ?_
                rintro E w9 ⟨L9, S9, p9, n9, c9, q9, k9, d9, rfl, hx9, hg9⟩
                have LT9 : Hid (bC < wy.heap.size ∧ bD < wy.heap.size) := ⟨BbC_y.out.lt, BbD_y.out.lt⟩
                have D9 : C4 w9 bC (.int .i64 L7) (.int .i64 S7) (.slice p7 n7 c7) (.slice q7 k7 d7) := BbC_y.out.kept hg9
                obtain ⟨z0, z1, z2, z3⟩ := D9.get
                have zf0 := D9.fz 0
                have zf1 := D9.fz 1
                have zf2 := D9.fz 2
                have zf3 := D9.fz 3
                obtain ⟨W9, hW9, hgs9, CC9⟩ := c4_store D9 (.int .i64 L9) (.int .i64 S9) (.slice p9 n9 c9) (.slice q9 k9 d9)
                have HW9 : Hid (W9 = _) := hW9
                have G9 : Hid (w.grownBy W9 none) := grown_new (grown_trans GY.out hg9) hgs9 LBbC.out
                have BbC_9 : Hid (C4 W9 bC (.int .i64 L9) (.int .i64 S9) (.slice p9 n9 c9) (.slice q9 k9 d9)) := CC9
                have X5_9 : Hid (y5 = 0 → X 5 wy.heap.size W9 (detV L9 S9 p9 n9 c9 q9 k9 d9)) := fun e => hX.out _ _ _ _ _ (hx9 e) ((Turn.refl _ _).step hgs9 (.inl LT9.out.1))
                have BbD_9 : Hid (C4 W9 bD (.int .i64 L8) (.int .i64 S8) (.slice p8 n8 c8) (.slice q8 k8 d8)) := (BbD_y.out.kept hg9).far hgs9 NE.out
                clear BbC_y BbD_y hx9 hg9 hgs9 CC9 D9
                clear hW9
                go_wp2_with fail
                rw [← HW9.out]
                clear HW9 z0 z1 z2 z3 zf0 zf1 zf2 zf3
                refine (HD6.out h0 h1 _ G9.out).mono ?_
                rintro E w10 ⟨L10, S10, p10, n10, c10, q10, k10, d10, rfl, hx10, hg10⟩
                have LT10 : Hid (bC < W9.heap.size ∧ bD < W9.heap.size) := ⟨BbC_9.out.lt, BbD_9.out.lt⟩
                have D10 : C4 w10 bD (.int .i64 L8) (.int .i64 S8) (.slice p8 n8 c8) (.slice q8 k8 d8) := BbD_9.out.kept hg10
                obtain ⟨z0, z1, z2, z3⟩ := D10.get
                have zf0 := D10.fz 0
                have zf1 := D10.fz 1
                have zf2 := D10.fz 2
                have zf3 := D10.fz 3
                obtain ⟨W10, hW10, hgs10, CC10⟩ := c4_store D10 (.int .i64 L10) (.int .i64 S10) (.slice p10 n10 c10) (.slice q10 k10 d10)
                have HW10 : Hid (W10 = _) := hW10
                have G10 : Hid (w.grownBy W10 none) := grown_new (grown_trans G9.out hg10) hgs10 LBbD.out
                have BbD_10 : Hid (C4 W10 bD (.int .i64 L10) (.int .i64 S10) (.slice p10 n10 c10) (.slice q10 k10 d10)) := CC10
                have X6_10 : Hid (y6 = 0 → X 6 W9.heap.size W10 (detV L10 S10 p10 n10 c10 q10 k10 d10)) := fun e => hX.out _ _ _ _ _ (hx10 e) ((Turn.refl _ _).step hgs10 (.inl LT10.out.2))
                have BbC_10 : Hid (C4 W10 bC (.int .i64 L9) (.int .i64 S9) (.slice p9 n9 c9) (.slice q9 k9 d9)) := (BbC_9.out.kept hg10).far hgs10 NE.out.symm
                have X5_10 : Hid (y5 = 0 → X 5 wy.heap.size W10 (detV L9 S9 p9 n9 c9 q9 k9 d9)) := fun e => hX.out _ _ _ _ _ (hX.out _ _ _ _ _ (X5_9.out e) (Turn.of hg10)) ((Turn.refl _ _).step hgs10 (.inl LT9.out.2))
                clear BbC_9 BbD_9 X5_9 hx10 hg10 hgs10 CC10 D10
                by_cases h5 : y5 = 0
                · have f5 : (y5 != 0) = false := by simpa using h5
                  by_cases h6 : y6 = 0
                  · have f6 : (y6 != 0) = false := by simpa using h6
                    obtain ⟨u0, u1, u2, u3⟩ := BbC_10.out.get
                    obtain ⟨v0, v1, v2, v3⟩ := BbD_10.out.get
                    rw [hW10] at u0 u1 u2 u3 v0 v1 v2 v3
                    clear hW10
                    go_wp2_with fail
                    rw [← HW10.out]
                    refine (HA2.out h0 h1 _ _ _ _ _ (X5_10.out h5) (X6_10.out h6)).mono ?_
                    rintro E wz ⟨rfl, hgz⟩
                    have GZ : Hid (w.grownBy wz none) := grown_trans G10.out hgz
                    clear hgz u0 u1 u2 u3 v0 v1 v2 v3 z0 z1 z2 z3 zf0 zf1 zf2 zf3 HW10
                    go_wp2_with fail
                    go_ret
                    exact ⟨rfl, GZ.out⟩
                  · have f6 : (y6 != 0) = true := by simpa using h6
                    clear hW10
                    go_wp2_with fail
                    go_ret
                    exact ⟨rfl, by rw [← HW10.out]; exact G10.out⟩
                · have f5 : (y5 != 0) = true := by simpa using h5
                  clear hW10
                  go_wp2_with fail
                  go_ret
                  exact ⟨rfl, by rw [← HW10.out]; exact G10.out⟩
              · have f4 : (y4 == 0) = false := by simpa using h4
                go_wp2_with fail
                rw [← HW8.out]
                clear HW8 hW8
                refine (HD5.out h0 h1 _ G8.out).mono ?_
                rintro E w9 ⟨L9, S9, p9, n9, c9, q9, k9, d9, rfl, hx9, hg9⟩
                have LT9 : Hid (bC < W8.heap.size ∧ bD < W8.heap.size) := ⟨BbC_8.out.lt, BbD_8.out.lt⟩
                have D9 : C4 w9 bC (.int .i64 L7) (.int .i64 S7) (.slice p7 n7 c7) (.slice q7 k7 d7) := BbC_8.out.kept hg9
                obtain ⟨z0, z1, z2, z3⟩ := D9.get
                have zf0 := D9.fz 0
                have zf1 := D9.fz 1
                have zf2 := D9.fz 2
                have zf3 := D9.fz 3
                obtain ⟨W9, hW9, hgs9, CC9⟩ := c4_store D9 (.int .i64 L9) (.int .i64 S9) (.slice p9 n9 c9) (.slice q9 k9 d9)
                have HW9 : Hid (W9 = _) := hW9
                have G9 : Hid (w.grownBy W9 none) := grown_new (grown_trans G8.out hg9) hgs9 LBbC.out
                have BbC_9 : Hid (C4 W9 bC (.int .i64 L9) (.int .i64 S9) (.slice p9 n9 c9) (.slice q9 k9 d9)) := CC9
                have X5_9 : Hid (y5 = 0 → X 5 W8.heap.size W9 (detV L9 S9 p9 n9 c9 q9 k9 d9)) := fun e => hX.out _ _ _ _ _ (hx9 e) ((Turn.refl _ _).step hgs9 (.inl LT9.out.1))
                have BbD_9 : Hid (C4 W9 bD (.int .i64 L8) (.int .i64 S8) (.slice p8 n8 c8) (.slice q8 k8 d8)) := (BbD_8.out.kept hg9).far hgs9 NE.out
                clear BbC_8 BbD_8 hx9 hg9 hgs9 CC9 D9
                clear hW9
                go_wp2_with fail
                rw [← HW9.out]
                clear HW9 z0 z1 z2 z3 zf0 zf1 zf2 zf3
                refine (HD6.out h0 h1 _ G9.out).mono ?_
                rintro E w10 ⟨L10, S10, p10, n10, c10, q10, k10, d10, rfl, hx10, hg10⟩
                have LT10 : Hid (bC < W9.heap.size ∧ bD < W9.heap.size) := ⟨BbC_9.out.lt, BbD_9.out.lt⟩
                have D10 : C4 w10 bD (.int .i64 L8) (.int .i64 S8) (.slice p8 n8 c8) (.slice q8 k8 d8) := BbD_9.out.kept hg10
                obtain ⟨z0, z1, z2, z3⟩ := D10.get
                have zf0 := D10.fz 0
                have zf1 := D10.fz 1
                have zf2 := D10.fz 2
                have zf3 := D10.fz 3
                obtain ⟨W10, hW10, hgs10, CC10⟩ := c4_store D10 (.int .i64 L10) (.int .i64 S10) (.slice p10 n10 c10) (.slice q10 k10 d10)
                have HW10 : Hid (W10 = _) := hW10
                have G10 : Hid (w.grownBy W10 none) := grown_new (grown_trans G9.out hg10) hgs10 LBbD.out
                have BbD_10 : Hid (C4 W10 bD (.int .i64 L10) (.int .i64 S10) (.slice p10 n10 c10) (.slice q10 k10 d10)) := CC10
                have X6_10 : Hid (y6 = 0 → X 6 W9.heap.size W10 (detV L10 S10 p10 n10 c10 q10 k10 d10)) := fun e => hX.out _ _ _ _ _ (hx10 e) ((Turn.refl _ _).step hgs10 (.inl LT10.out.2))
                have BbC_10 : Hid (C4 W10 bC (.int .i64 L9) (.int .i64 S9) (.slice p9 n9 c9) (.slice q9 k9 d9)) := (BbC_9.out.kept hg10).far hgs10 NE.out.symm
                have X5_10 : Hid (y5 = 0 → X 5 W8.heap.size W10 (detV L9 S9 p9 n9 c9 q9 k9 d9)) := fun e => hX.out _ _ _ _ _ (hX.out _ _ _ _ _ (X5_9.out e) (Turn.of hg10)) ((Turn.refl _ _).step hgs10 (.inl LT9.out.2))
                clear BbC_9 BbD_9 X5_9 hx10 hg10 hgs10 CC10 D10
                by_cases h5 : y5 = 0
                · have f5 : (y5 != 0) = false := by simpa using h5
                  by_cases h6 : y6 = 0
                  · have f6 : (y6 != 0) = false := by simpa using h6
                    obtain ⟨u0, u1, u2, u3⟩ := BbC_10.out.get
                    obtain ⟨v0, v1, v2, v3⟩ := BbD_10.out.get
                    rw [hW10] at u0 u1 u2 u3 v0 v1 v2 v3
                    clear hW10
                    go_wp2_with fail
                    rw [← HW10.out]
                    refine (HA2.out h0 h1 _ _ _ _ _ (X5_10.out h5) (X6_10.out h6)).mono ?_
                    rintro E wz ⟨rfl, hgz⟩
                    have GZ : Hid (w.grownBy wz none) := grown_trans G10.out hgz
                    clear hgz u0 u1 u2 u3 v0 v1 v2 v3 z0 z1 z2 z3 zf0 zf1 zf2 zf3 HW10
                    go_wp2_with fail
                    go_ret
                    exact ⟨rfl, GZ.out⟩
                  · have f6 : (y6 != 0) = true := by simpa using h6
                    clear hW10
                    go_wp2_with fail
                    go_ret
                    exact ⟨rfl, by rw [← HW10.out]; exact G10.out⟩
                · have f5 : (y5 != 0) = true := by simpa using h5
                  clear hW10
                  go_wp2_with fail
                  go_ret
                  exact ⟨rfl, by rw [← HW10.out]; exact G10.out⟩
            · have f3 : (y3 == 0) = false := by simpa using h3
              go_wp2_with fail
              rw [← HW8.out]
              clear HW8 hW8
              refine (HD5.out h0 h1 _ G8.out).mono ?_
              rintro E w9 ⟨L9, S9, p9, n9, c9, q9, k9, d9, rfl, hx9, hg9⟩
              have LT9 : Hid (bC < W8.heap.size ∧ bD < W8.heap.size) := ⟨BbC_8.out.lt, BbD_8.out.lt⟩
              have D9 : C4 w9 bC (.int .i64 L7) (.int .i64 S7) (.slice p7 n7 c7) (.slice q7 k7 d7) := BbC_8.out.kept hg9
              obtain ⟨z0, z1, z2, z3⟩ := D9.get
              have zf0 := D9.fz 0
              have zf1 := D9.fz 1
              have zf2 := D9.fz 2
              have zf3 := D9.fz 3
              obtain ⟨W9, hW9, hgs9, CC9⟩ := c4_store D9 (.int .i64 L9) (.int .i64 S9) (.slice p9 n9 c9) (.slice q9 k9 d9)
              have HW9 : Hid (W9 = _) := hW9
              have G9 : Hid (w.grownBy W9 none) := grown_new (grown_trans G8.out hg9) hgs9 LBbC.out
              have BbC_9 : Hid (C4 W9 bC (.int .i64 L9) (.int .i64 S9) (.slice p9 n9 c9) (.slice q9 k9 d9)) := CC9
              have X5_9 : Hid (y5 = 0 → X 5 W8.heap.size W9 (detV L9 S9 p9 n9 c9 q9 k9 d9)) := fun e => hX.out _ _ _ _ _ (hx9 e) ((Turn.refl _ _).step hgs9 (.inl LT9.out.1))
              have BbD_9 : Hid (C4 W9 bD (.int .i64 L8) (.int .i64 S8) (.slice p8 n8 c8) (.slice q8 k8 d8)) := (BbD_8.out.kept hg9).far hgs9 NE.out
              clear BbC_8 BbD_8 hx9 hg9 hgs9 CC9 D9
              clear hW9
              go_wp2_with fail
              rw [← HW9.out]
              clear HW9 z0 z1 z2 z3 zf0 zf1 zf2 zf3
              refine (HD6.out h0 h1 _ G9.out).mono ?_
              rintro E w10 ⟨L10, S10, p10, n10, c10, q10, k10, d10, rfl, hx10, hg10⟩
              have LT10 : Hid (bC < W9.heap.size ∧ bD < W9.heap.size) := ⟨BbC_9.out.lt, BbD_9.out.lt⟩
              have D10 : C4 w10 bD (.int .i64 L8) (.int .i64 S8) (.slice p8 n8 c8) (.slice q8 k8 d8) := BbD_9.out.kept hg10
              obtain ⟨z0, z1, z2, z3⟩ := D10.get
              have zf0 := D10.fz 0
              have zf1 := D10.fz 1
              have zf2 := D10.fz 2
              have zf3 := D10.fz 3
              obtain ⟨W10, hW10, hgs10, CC10⟩ := c4_store D10 (.int .i64 L10) (.int .i64 S10) (.slice p10 n10 c10) (.slice q10 k10 d10)
              have HW10 : Hid (W10 = _) := hW10
              have G10 : Hid (w.grownBy W10 none) := grown_new (grown_trans G9.out hg10) hgs10 LBbD.out
              have BbD_10 : Hid (C4 W10 bD (.int .i64 L10) (.int .i64 S10) (.slice p10 n10 c10) (.slice q10 k10 d10)) := CC10
              have X6_10 : Hid (y6 = 0 → X 6 W9.heap.size W10 (detV L10 S10 p10 n10 c10 q10 k10 d10)) := fun e => hX.out _ _ _ _ _ (hx10 e) ((Turn.refl _ _).step hgs10 (.inl LT10.out.2))
              have BbC_10 : Hid (C4 W10 bC (.int .i64 L9) (.int .i64 S9) (.slice p9 n9 c9) (.slice q9 k9 d9)) := (BbC_9.out.kept hg10).far hgs10 NE.out.symm
              have X5_10 : Hid (y5 = 0 → X 5 W8.heap.size W10 (detV L9 S9 p9 n9 c9 q9 k9 d9)) := fun e => hX.out _ _ _ _ _ (hX.out _ _ _ _ _ (X5_9.out e) (Turn.of hg10)) ((Turn.refl _ _).step hgs10 (.inl LT9.out.2))
              clear BbC_9 BbD_9 X5_9 hx10 hg10 hgs10 CC10 D10
              by_cases h5 : y5 = 0
              · have f5 : (y5 != 0) = false := by simpa using h5
                by_cases h6 : y6 = 0
                · have f6 : (y6 != 0) = false := by simpa using h6
                  obtain ⟨u0, u1, u2, u3⟩ := BbC_10.out.get
                  obtain ⟨v0, v1, v2, v3⟩ := BbD_10.out.get
                  rw [hW10] at u0 u1 u2 u3 v0 v1 v2 v3
                  clear hW10
                  go_wp2_with fail
                  rw [← HW10.out]
                  refine (HA2.out h0 h1 _ _ _ _ _ (X5_10.out h5) (X6_10.out h6)).mono ?_
                  rintro E wz ⟨rfl, hgz⟩
                  have GZ : Hid (w.grownBy wz none) := grown_trans G10.out hgz
                  clear hgz u0 u1 u2 u3 v0 v1 v2 v3 z0 z1 z2 z3 zf0 zf1 zf2 zf3 HW10
                  go_wp2_with fail
                  go_ret
                  exact ⟨rfl, GZ.out⟩
                · have f6 : (y6 != 0) = true := by simpa using h6
                  clear hW10
                  go_wp2_with fail
                  go_ret
                  exact ⟨rfl, by rw [← HW10.out]; exact G10.out⟩
              · have f5 : (y5 != 0) = true := by simpa using h5
                clear hW10
                go_wp2_with fail
                go_ret
                exact ⟨rfl, by rw [← HW10.out]; exact G10.out⟩
        · have f0 : (y0 != 0) = false := by simpa using h0
          have f1 : (y1 != 0) = false := by simpa using h1
          have i0 : decide ((100 : Int) < (s.size : Int)) = false := by simp; omega
          have i1 : decide ((100 : Int) < (t.size : Int)) = true := by simp; omega
          clear hW3
          go_wp2_with fail
          go_ret
          exact ⟨rfl, by rw [← HW3.out]; exact G3.out⟩
      · have f0 : (y0 != 0) = false := by simpa using h0
        have f1 : (y1 != 0) = false := by simpa using h1
        have i0 : decide ((100 : Int) < (s.size : Int)) = true := by simp; omega
        clear hW3
        go_wp2_with fail
        go_ret
        exact ⟨rfl, by rw [← HW3.out]; exact G3.out⟩
    · have f0 : (y0 != 0) = false := by simpa using h0
      have f1 : (y1 != 0) = true := by simpa using h1
      clear hW3
      go_wp2_with fail
      go_ret
      exact ⟨rfl, by rw [← HW3.out]; exact G3.out⟩
  · have f0 : (y0 != 0) = true := by simpa using h0
    clear hW3
    go_wp2_with fail
    go_ret
    exact ⟨rfl, by rw [← HW3.out]; exact G3.out⟩

end Go.Proofs.YtkkmdcnbifepjaaDoor
