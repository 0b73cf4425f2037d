/- The program's Sum and Product. -/
import Derived.Test.YtkmcbdjcolbknaaWeBsd
import Derived.Test.YtkmcbdjcolbknaaWeGood
namespace Go.Proofs.Ytkmcbdjcolbknaa
open Go.RowKit
set_option linter.unusedVariables false
set_option linter.unusedSimpArgs false

noncomputable def sumZ (x y : WgI) : Int := if checkB x y ≠ 0 then checkB x y else if 8 < x.F.length + y.F.length then 1 else 0
open Classical in
noncomputable def proZ (x y : WgI) : Int := if checkB x y ≠ 0 then checkB x y else if 8 < x.F.length * y.F.length then 1 else if InA x 3 ∧ InA y 3 then 0 else 2
noncomputable def sumX (x y : WgI) : WgI := if sumZ x y = 0 then besA x y else zeroW
noncomputable def proX (x y : WgI) : WgI := if proZ x y = 0 then kroA x y else zeroW
def JoiP (z : Int) (X : WgI) (w : World) (e : Ending) (w' : World) : Prop := ∃ a1 a2 a3 c1 c2 c3, e = .returned (.tuple #[wgV X.L a1 X.F.length c1 a2 X.S.length c2 a3 X.E.length c3, .int .i64 z]) ∧ WgAt w' X a1 a2 a3 ∧ w.grownBy w' none
theorem zero_at (w : World) : WgAt w zeroW none none none := ⟨.inl rfl, .inl rfl, .inl rfl, Nat.zero_le _, Nat.zero_le _, Nat.zero_le _⟩

set_option maxHeartbeats 3200000 in
set_option maxRecDepth 100000 in
theorem sum_any (x y : WgI) (a1 a2 a3 b1 b2 b3 : Option Addr) (c1 c2 c3 d1 d2 d3 : Nat) (w : World) (hx : WgAt w x a1 a2 a3) (hy : WgAt w y b1 b2 b3) :
    Calls Try.prog 4 #[wgV x.L a1 x.F.length c1 a2 x.S.length c2 a3 x.E.length c3, wgV y.L b1 y.F.length d1 b2 y.S.length d2 b3 y.E.length d3] w (JoiP (sumZ x y) (sumX x y) w) := by
  obtain ⟨A1, hA1, g1, s1, bx, by'⟩ := two_boxes4 w x y a1 a2 a3 b1 b2 b3 c1 c2 c3 d1 d2 d3
  obtain ⟨W1, hW1, g2, s2, bz⟩ := box4_new A1 0 none 0 0 none 0 0 none 0 0
  have HW1 : Hid (W1 = ((w.alloc (wgO x.L a1 x.F.length c1 a2 x.S.length c2 a3 x.E.length c3)).alloc (wgO y.L b1 y.F.length d1 b2 y.S.length d2 b3 y.E.length d3)).alloc (wgO 0 none 0 0 none 0 0 none 0 0)) := by show _ = _; rw [hW1, hA1]
  have G1 : Hid (w.grownBy W1 none) := grown_trans g1 g2
  have HS1 : Hid (W1.heap.size = w.heap.size + 1 + 1 + 1) := by show _ = _; omega
  have BX : Hid (∀ W, W1.grownBy W none → Box4 W w.heap.size x.L a1 x.F.length c1 a2 x.S.length c2 a3 x.E.length c3) := fun W hW => bx.grown (grown_trans g2 hW)
  have BY : Hid (∀ W, W1.grownBy W none → Box4 W (w.heap.size + 1) y.L b1 y.F.length d1 b2 y.S.length d2 b3 y.E.length d3) := fun W hW => by'.grown (grown_trans g2 hW)
  have HZ : Hid (∀ W, W1.grownBy W none → W.heap[w.heap.size + 1 + 1]? = some (.cells #[.int .i64 0, .slice none 0 0, .slice none 0 0, .slice none 0 0] 25)) := fun W hW => by
    have h1 := heap_alloc_new A1 (wgO 0 none 0 0 none 0 0 none 0 0)
    rw [← hW1, s1] at h1
    exact (hW.block _ (by omega) (by simp)).trans h1
  have HCB : Hid (Calls Try.prog 11 #[wgV x.L a1 x.F.length c1 a2 x.S.length c2 a3 x.E.length c3, wgV y.L b1 y.F.length d1 b2 y.S.length d2 b3 y.E.length d3] W1 (ErrP (checkB x y) W1)) := checkBothW_any x y a1 a2 a3 b1 b2 b3 c1 c2 c3 d1 d2 d3 W1 (hx.grown G1.out) (hy.grown G1.out)
  obtain ⟨Z, hZ⟩ : ∃ Z, Z = besA x y := ⟨_, rfl⟩
  have HBe : Hid (checkB x y = 0 → ∀ W, W1.grownBy W none → Calls Try.prog 12 #[wgV x.L a1 x.F.length c1 a2 x.S.length c2 a3 x.E.length c3, wgV y.L b1 y.F.length d1 b2 y.S.length d2 b3 y.E.length d3] W (MadeP Z W)) := fun hc W hW => by
    have g := checkB_good hc
    have e1 := g.1.shape.2.1
    have e2 := g.2.1.shape.2.1
    rw [hZ]
    exact beside_any x y g.1 g.2.1 (by have := g.2.2; omega) a1 a2 a3 b1 b2 b3 _ _ _ c1 c2 c3 _ _ _ d1 d2 d3 W (hx.grown (grown_trans G1.out hW)) (hy.grown (grown_trans G1.out hW)) rfl rfl rfl rfl rfl rfl
  obtain ⟨Po, hPo⟩ : ∃ P, P = JoiP (sumZ x y) (sumX x y) w := ⟨_, rfl⟩
  have HBad : Hid (∀ c W, (sumZ x y = c ∧ c ≠ 0) → w.grownBy W none → Po (.returned (.tuple #[wgV 0 none 0 0 none 0 0 none 0 0, .int .i64 c])) W) := fun c W hc hg => by
    rw [hPo]
    have e : sumX x y = zeroW := by unfold sumX; rw [if_neg (by rw [hc.1]; exact hc.2)]
    rw [e, hc.1]
    exact ⟨none, none, none, 0, 0, 0, rfl, zero_at W, hg⟩
  have HGood : Hid (∀ W r1 r2 r3 k1 k2 k3, sumZ x y = 0 → WgAt W Z r1 r2 r3 → w.grownBy W none → Po (.returned (.tuple #[wgV Z.L r1 Z.F.length k1 r2 Z.S.length k2 r3 Z.E.length k3, .int .i64 0])) W) := fun W r1 r2 r3 k1 k2 k3 hc hw hg => by
    rw [hPo]
    have e : sumX x y = Z := by unfold sumX; rw [if_pos hc, hZ]
    rw [e, hc]
    exact ⟨r1, r2, r3, k1, k2, k3, rfl, hw, hg⟩
  rw [← hPo]
  have hm1 := hx.m1
  have hm2 := hy.m1
  unfold maxLen at hm1 hm2
  clear hA1 hW1 g1 g2 s1 s2 bx by' bz hZ hPo hx hy
  obtain ⟨zb, hzb⟩ : ∃ z, checkB x y = z := ⟨_, rfl⟩
  have HB0 : Hid (checkB x y = zb) := hzb
  rw [hzb] at HCB
  clear hzb
  go_enter Try.func4, Try.ntmps4
  go_wp2_with fail
  rw [← HW1.out]
  refine HCB.out.mono ?_
  rintro E w2 ⟨rfl, hg⟩
  have HG : Hid (W1.grownBy w2 none) := hg
  clear hg HCB
  by_cases h0 : zb = 0
  · subst h0
    have q1 : ((0 : Int) != 0) = false := rfl
    have GD : Hid (GoodWg x ∧ GoodWg y ∧ x.L = y.L) := checkB_good HB0.out
    have x1 := (BX.out w2 HG.out).b1
    have y1 := (BY.out w2 HG.out).b1
    have hn8 := GD.out.1.size.2
    have hm8 := GD.out.2.1.size.2
    by_cases h1 : 8 < x.F.length + y.F.length
    · have i1 : (8 : Int) < (x.F.length : Int) + (y.F.length : Int) := by omega
      obtain ⟨⟨p0, p1, p2, p3⟩, fz, W9, hW9, g9, hb9⟩ := four_store (HZ.out w2 HG.out) (.int .i64 0) (.slice none 0 0) (.slice none 0 0) (.slice none 0 0)
      have HW9 : Hid (W9 = _) := hW9
      have b9 := (BxW.mk (L := 0) hb9).box.1
      have z0 := b9.b0
      have z1 := b9.b1
      have z2 := b9.b2
      have z3 := b9.b3
      have F : Hid (Po (.returned (.tuple #[wgV 0 none 0 0 none 0 0 none 0 0, .int .i64 1])) W9) := HBad.out 1 W9 (⟨by unfold sumZ; rw [HB0.out, if_neg (by omega), if_pos h1], by omega⟩) (grown_new (grown_trans G1.out HG.out) g9 (by omega))
      have f0 := fz 0
      have f1 := fz 1
      have f2 := fz 2
      have f3 := fz 3
      clear fz hW9 g9 hb9 b9
      go_wp2_with fail
      rw [← HW9.out]
      exact bodyPost_ret (v := .tuple #[wgV 0 none 0 0 none 0 0 none 0 0, .int .i64 1]) (by simp [results, Try.results4, go_sem, z0, z1, z2, z3]) rfl F.out
    · have i1 : ¬ (8 : Int) < (x.F.length : Int) + (y.F.length : Int) := by omega
      have HN : Hid (sumZ x y = 0) := by show _ = _; unfold sumZ; rw [HB0.out, if_neg (by omega), if_neg h1]
      have x0 := (BX.out w2 HG.out).b0
      have x2 := (BX.out w2 HG.out).b2
      have x3 := (BX.out w2 HG.out).b3
      have y0 := (BY.out w2 HG.out).b0
      have y2 := (BY.out w2 HG.out).b2
      have y3 := (BY.out w2 HG.out).b3
      have HB : Hid (∀ W, W1.grownBy W none → Calls Try.prog 12 #[wgV x.L a1 x.F.length c1 a2 x.S.length c2 a3 x.E.length c3, wgV y.L b1 y.F.length d1 b2 y.S.length d2 b3 y.E.length d3] W (MadeP Z W)) := HBe.out HB0.out
      clear h1 HBe
      go_wp2_with fail
      clear x0 x1 x2 x3 y0 y1 y2 y3
      refine (HB.out w2 HG.out).mono ?_
      rintro E w3 ⟨r1, r2, r3, k1, k2, k3, rfl, hwg, hg3, hfar⟩
      have G3 : Hid (W1.grownBy w3 none) := grown_trans HG.out hg3
      obtain ⟨⟨p0, p1, p2, p3⟩, fz, W9, hW9, g9, hb9⟩ := four_store (HZ.out w3 G3.out) (.int .i64 Z.L) (.slice r1 Z.F.length k1) (.slice r2 Z.S.length k2) (.slice r3 Z.E.length k3)
      have HW9 : Hid (W9 = _) := hW9
      have b9 := (BxW.mk (L := Z.L) hb9).box.1
      have z0 := b9.b0
      have z1 := b9.b1
      have z2 := b9.b2
      have z3 := b9.b3
      have F : Hid (Po (.returned (.tuple #[wgV Z.L r1 Z.F.length k1 r2 Z.S.length k2 r3 Z.E.length k3, .int .i64 0])) W9) := HGood.out W9 r1 r2 r3 k1 k2 k3 HN.out (hfar _ W9 (by have := (HG.out).size; have := HS1.out; omega) g9) (grown_new (grown_trans G1.out G3.out) g9 (by omega))
      have f0 := fz 0
      have f1 := fz 1
      have f2 := fz 2
      have f3 := fz 3
      clear fz hW9 g9 hb9 b9 hwg hg3 hfar
      go_wp2_with fail
      rw [← HW9.out]
      exact bodyPost_ret (v := .tuple #[wgV Z.L r1 Z.F.length k1 r2 Z.S.length k2 r3 Z.E.length k3, .int .i64 0]) (by simp [results, Try.results4, go_sem, z0, z1, z2, z3]) rfl F.out
  · have q1 : (zb != 0) = true := by simpa using h0
    have HN0 : Hid (zb ≠ 0) := h0
    clear h0
    obtain ⟨⟨p0, p1, p2, p3⟩, fz, W9, hW9, g9, hb9⟩ := four_store (HZ.out w2 HG.out) (.int .i64 0) (.slice none 0 0) (.slice none 0 0) (.slice none 0 0)
    have HW9 : Hid (W9 = _) := hW9
    have b9 := (BxW.mk (L := 0) hb9).box.1
    have z0 := b9.b0
    have z1 := b9.b1
    have z2 := b9.b2
    have z3 := b9.b3
    have F : Hid (Po (.returned (.tuple #[wgV 0 none 0 0 none 0 0 none 0 0, .int .i64 zb])) W9) := HBad.out zb W9 (⟨by unfold sumZ; rw [HB0.out, if_pos HN0.out], HN0.out⟩) (grown_new (grown_trans G1.out HG.out) g9 (by omega))
    have f0 := fz 0
    have f1 := fz 1
    have f2 := fz 2
    have f3 := fz 3
    clear fz hW9 g9 hb9 b9
    go_wp2_with fail
    rw [← HW9.out]
    exact bodyPost_ret (v := .tuple #[wgV 0 none 0 0 none 0 0 none 0 0, .int .i64 zb]) (by simp [results, Try.results4, go_sem, z0, z1, z2, z3]) rfl F.out

set_option maxHeartbeats 3200000 in
set_option maxRecDepth 100000 in
theorem product_any (x y : WgI) (a1 a2 a3 b1 b2 b3 : Option Addr) (c1 c2 c3 d1 d2 d3 : Nat) (w : World) (hx : WgAt w x a1 a2 a3) (hy : WgAt w y b1 b2 b3) :
    Calls Try.prog 5 #[wgV x.L a1 x.F.length c1 a2 x.S.length c2 a3 x.E.length c3, wgV y.L b1 y.F.length d1 b2 y.S.length d2 b3 y.E.length d3] w (JoiP (proZ x y) (proX x y) w) := by
  obtain ⟨A1, hA1, g1, s1, bx, by'⟩ := two_boxes4 w x y a1 a2 a3 b1 b2 b3 c1 c2 c3 d1 d2 d3
  obtain ⟨W1, hW1, g2, s2, bz⟩ := box4_new A1 0 none 0 0 none 0 0 none 0 0
  have HW1 : Hid (W1 = ((w.alloc (wgO x.L a1 x.F.length c1 a2 x.S.length c2 a3 x.E.length c3)).alloc (wgO y.L b1 y.F.length d1 b2 y.S.length d2 b3 y.E.length d3)).alloc (wgO 0 none 0 0 none 0 0 none 0 0)) := by show _ = _; rw [hW1, hA1]
  have G1 : Hid (w.grownBy W1 none) := grown_trans g1 g2
  have HS1 : Hid (W1.heap.size = w.heap.size + 1 + 1 + 1) := by show _ = _; omega
  have BX : Hid (∀ W, W1.grownBy W none → Box4 W w.heap.size x.L a1 x.F.length c1 a2 x.S.length c2 a3 x.E.length c3) := fun W hW => bx.grown (grown_trans g2 hW)
  have BY : Hid (∀ W, W1.grownBy W none → Box4 W (w.heap.size + 1) y.L b1 y.F.length d1 b2 y.S.length d2 b3 y.E.length d3) := fun W hW => by'.grown (grown_trans g2 hW)
  have HZ : Hid (∀ W, W1.grownBy W none → W.heap[w.heap.size + 1 + 1]? = some (.cells #[.int .i64 0, .slice none 0 0, .slice none 0 0, .slice none 0 0] 25)) := fun W hW => by
    have h1 := heap_alloc_new A1 (wgO 0 none 0 0 none 0 0 none 0 0)
    rw [← hW1, s1] at h1
    exact (hW.block _ (by omega) (by simp)).trans h1
  have HCB : Hid (Calls Try.prog 11 #[wgV x.L a1 x.F.length c1 a2 x.S.length c2 a3 x.E.length c3, wgV y.L b1 y.F.length d1 b2 y.S.length d2 b3 y.E.length d3] W1 (ErrP (checkB x y) W1)) := checkBothW_any x y a1 a2 a3 b1 b2 b3 c1 c2 c3 d1 d2 d3 W1 (hx.grown G1.out) (hy.grown G1.out)
  obtain ⟨Z, hZ⟩ : ∃ Z, Z = kroA x y := ⟨_, rfl⟩
  have HPa : Hid (checkB x y = 0 → ∀ W, W1.grownBy W none → Calls Try.prog 14 #[wgV x.L a1 x.F.length c1 a2 x.S.length c2 a3 x.E.length c3, wgV y.L b1 y.F.length d1 b2 y.S.length d2 b3 y.E.length d3] W (MadeP Z W)) := fun hc W hW => by
    have g := checkB_good hc
    have e1 := g.1.shape.2.1
    have e2 := g.2.1.shape.2.1
    rw [hZ]
    exact paired_any x y g.1 g.2.1 (by have := g.2.2; omega) a1 a2 a3 b1 b2 b3 _ _ _ c1 c2 c3 _ _ _ d1 d2 d3 W (hx.grown (grown_trans G1.out hW)) (hy.grown (grown_trans G1.out hW)) rfl rfl rfl rfl rfl rfl
  have HIX : Hid (∀ W, W1.grownBy W none → Calls Try.prog 13 #[wgV x.L a1 x.F.length c1 a2 x.S.length c2 a3 x.E.length c3, .int .i64 3] W (TellsB (InA x 3) W)) := fun W hW => within_any x a1 a2 a3 c1 c2 c3 3 W (hx.grown (grown_trans G1.out hW)) (by omega)
  have HIY : Hid (∀ W, W1.grownBy W none → Calls Try.prog 13 #[wgV y.L b1 y.F.length d1 b2 y.S.length d2 b3 y.E.length d3, .int .i64 3] W (TellsB (InA y 3) W)) := fun W hW => within_any y b1 b2 b3 d1 d2 d3 3 W (hy.grown (grown_trans G1.out hW)) (by omega)
  obtain ⟨Po, hPo⟩ : ∃ P, P = JoiP (proZ x y) (proX x y) w := ⟨_, rfl⟩
  have HBad : Hid (∀ c W, (proZ x y = c ∧ c ≠ 0) → w.grownBy W none → Po (.returned (.tuple #[wgV 0 none 0 0 none 0 0 none 0 0, .int .i64 c])) W) := fun c W hc hg => by
    rw [hPo]
    have e : proX x y = zeroW := by unfold proX; rw [if_neg (by rw [hc.1]; exact hc.2)]
    rw [e, hc.1]
    exact ⟨none, none, none, 0, 0, 0, rfl, zero_at W, hg⟩
  have HGood : Hid (∀ W r1 r2 r3 k1 k2 k3, proZ x y = 0 → WgAt W Z r1 r2 r3 → w.grownBy W none → Po (.returned (.tuple #[wgV Z.L r1 Z.F.length k1 r2 Z.S.length k2 r3 Z.E.length k3, .int .i64 0])) W) := fun W r1 r2 r3 k1 k2 k3 hc hw hg => by
    rw [hPo]
    have e : proX x y = Z := by unfold proX; rw [if_pos hc, hZ]
    rw [e, hc]
    exact ⟨r1, r2, r3, k1, k2, k3, rfl, hw, hg⟩
  rw [← hPo]
  have hm1 := hx.m1
  have hm2 := hy.m1
  unfold maxLen at hm1 hm2
  clear hA1 hW1 g1 g2 s1 s2 bx by' bz hZ hPo hx hy
  obtain ⟨zb, hzb⟩ : ∃ z, checkB x y = z := ⟨_, rfl⟩
  have HB0 : Hid (checkB x y = zb) := hzb
  rw [hzb] at HCB
  clear hzb
  go_enter Try.func5, Try.ntmps5
  go_wp2_with fail
  rw [← HW1.out]
  refine HCB.out.mono ?_
  rintro E w2 ⟨rfl, hg⟩
  have HG : Hid (W1.grownBy w2 none) := hg
  clear hg HCB
  by_cases h0 : zb = 0
  · subst h0
    have q1 : ((0 : Int) != 0) = false := rfl
    have GD : Hid (GoodWg x ∧ GoodWg y ∧ x.L = y.L) := checkB_good HB0.out
    have x1 := (BX.out w2 HG.out).b1
    have y1 := (BY.out w2 HG.out).b1
    have hn8 := GD.out.1.size.2
    have hm8 := GD.out.2.1.size.2
    have hp : x.F.length * y.F.length ≤ 64 := Nat.mul_le_mul hn8 hm8
    by_cases h1 : 8 < x.F.length * y.F.length
    · have i1 : (8 : Int) < (x.F.length : Int) * (y.F.length : Int) := by have e : ((x.F.length * y.F.length : Nat) : Int) = (x.F.length : Int) * (y.F.length : Int) := Int.natCast_mul _ _; omega
      have i2 : IntKind.i64.wrap ((x.F.length : Int) * (y.F.length : Int)) = (x.F.length : Int) * (y.F.length : Int) := by have e : ((x.F.length * y.F.length : Nat) : Int) = (x.F.length : Int) * (y.F.length : Int) := Int.natCast_mul _ _; rw [IntKind.wrap_i64]; omega
      obtain ⟨⟨p0, p1, p2, p3⟩, fz, W9, hW9, g9, hb9⟩ := four_store (HZ.out w2 HG.out) (.int .i64 0) (.slice none 0 0) (.slice none 0 0) (.slice none 0 0)
      have HW9 : Hid (W9 = _) := hW9
      have b9 := (BxW.mk (L := 0) hb9).box.1
      have z0 := b9.b0
      have z1 := b9.b1
      have z2 := b9.b2
      have z3 := b9.b3
      have F : Hid (Po (.returned (.tuple #[wgV 0 none 0 0 none 0 0 none 0 0, .int .i64 1])) W9) := HBad.out 1 W9 (⟨by unfold proZ; rw [HB0.out, if_neg (by omega), if_pos h1], by omega⟩) (grown_new (grown_trans G1.out HG.out) g9 (by omega))
      have f0 := fz 0
      have f1 := fz 1
      have f2 := fz 2
      have f3 := fz 3
      clear fz hW9 g9 hb9 b9
      go_wp2_with fail
      rw [← HW9.out]
      exact bodyPost_ret (v := .tuple #[wgV 0 none 0 0 none 0 0 none 0 0, .int .i64 1]) (by simp [results, Try.results5, go_sem, z0, z1, z2, z3]) rfl F.out
    · have i1 : ¬ (8 : Int) < (x.F.length : Int) * (y.F.length : Int) := by have e : ((x.F.length * y.F.length : Nat) : Int) = (x.F.length : Int) * (y.F.length : Int) := Int.natCast_mul _ _; omega
      have i2 : IntKind.i64.wrap ((x.F.length : Int) * (y.F.length : Int)) = (x.F.length : Int) * (y.F.length : Int) := by have e : ((x.F.length * y.F.length : Nat) : Int) = (x.F.length : Int) * (y.F.length : Int) := Int.natCast_mul _ _; rw [IntKind.wrap_i64]; omega
      have H1 : Hid (¬ 8 < x.F.length * y.F.length) := h1
      have x0 := (BX.out w2 HG.out).b0
      have x2 := (BX.out w2 HG.out).b2
      have x3 := (BX.out w2 HG.out).b3
      clear h1 hp
      go_wp2_with fail
      clear x0 x1 x2 x3 y1 i1 i2
      refine (HIX.out w2 HG.out).mono ?_
      rintro E w4 ⟨bb, rfl, hbb, hgbb⟩
      have Hbb : Hid (bb = true ↔ InA x 3) := hbb
      have Gw4 : Hid (W1.grownBy w4 none) := grown_trans HG.out hgbb
      clear hbb hgbb
      cases bb with
      | false =>
        obtain ⟨⟨p0, p1, p2, p3⟩, fz, W9, hW9, g9, hb9⟩ := four_store (HZ.out w4 Gw4.out) (.int .i64 0) (.slice none 0 0) (.slice none 0 0) (.slice none 0 0)
        have HW9 : Hid (W9 = _) := hW9
        have b9 := (BxW.mk (L := 0) hb9).box.1
        have z0 := b9.b0
        have z1 := b9.b1
        have z2 := b9.b2
        have z3 := b9.b3
        have F : Hid (Po (.returned (.tuple #[wgV 0 none 0 0 none 0 0 none 0 0, .int .i64 2])) W9) := HBad.out 2 W9 (⟨by unfold proZ; rw [HB0.out, if_neg (by omega), if_neg H1.out, if_neg (fun h => by have := Hbb.out.2 h.1; cases this)], by omega⟩) (grown_new (grown_trans G1.out Gw4.out) g9 (by omega))
        have f0 := fz 0
        have f1 := fz 1
        have f2 := fz 2
        have f3 := fz 3
        clear fz hW9 g9 hb9 b9
        go_wp2_with fail
        rw [← HW9.out]
        exact bodyPost_ret (v := .tuple #[wgV 0 none 0 0 none 0 0 none 0 0, .int .i64 2]) (by simp [results, Try.results5, go_sem, z0, z1, z2, z3]) rfl F.out
      | true =>
        have y0 := (BY.out w4 Gw4.out).b0
        have y1 := (BY.out w4 Gw4.out).b1
        have y2 := (BY.out w4 Gw4.out).b2
        have y3 := (BY.out w4 Gw4.out).b3
        go_wp2_with fail
        clear y0 y1 y2 y3
        refine (HIY.out w4 Gw4.out).mono ?_
        rintro E w5 ⟨bc, rfl, hbc, hgbc⟩
        have Hbc : Hid (bc = true ↔ InA y 3) := hbc
        have Gw5 : Hid (W1.grownBy w5 none) := grown_trans Gw4.out hgbc
        clear hbc hgbc
        cases bc with
        | false =>
          obtain ⟨⟨p0, p1, p2, p3⟩, fz, W9, hW9, g9, hb9⟩ := four_store (HZ.out w5 Gw5.out) (.int .i64 0) (.slice none 0 0) (.slice none 0 0) (.slice none 0 0)
          have HW9 : Hid (W9 = _) := hW9
          have b9 := (BxW.mk (L := 0) hb9).box.1
          have z0 := b9.b0
          have z1 := b9.b1
          have z2 := b9.b2
          have z3 := b9.b3
          have F : Hid (Po (.returned (.tuple #[wgV 0 none 0 0 none 0 0 none 0 0, .int .i64 2])) W9) := HBad.out 2 W9 (⟨by unfold proZ; rw [HB0.out, if_neg (by omega), if_neg H1.out, if_neg (fun h => by have := Hbc.out.2 h.2; cases this)], by omega⟩) (grown_new (grown_trans G1.out Gw5.out) g9 (by omega))
          have f0 := fz 0
          have f1 := fz 1
          have f2 := fz 2
          have f3 := fz 3
          clear fz hW9 g9 hb9 b9
          go_wp2_with fail
          rw [← HW9.out]
          exact bodyPost_ret (v := .tuple #[wgV 0 none 0 0 none 0 0 none 0 0, .int .i64 2]) (by simp [results, Try.results5, go_sem, z0, z1, z2, z3]) rfl F.out
        | true =>
          have HN : Hid (proZ x y = 0) := by show _ = _; unfold proZ; rw [HB0.out, if_neg (by omega), if_neg H1.out, if_pos ⟨Hbb.out.1 (by simp), Hbc.out.1 (by simp)⟩]
          have HB : Hid (∀ W, W1.grownBy W none → Calls Try.prog 14 #[wgV x.L a1 x.F.length c1 a2 x.S.length c2 a3 x.E.length c3, wgV y.L b1 y.F.length d1 b2 y.S.length d2 b3 y.E.length d3] W (MadeP Z W)) := HPa.out HB0.out
          have x0 := (BX.out w5 Gw5.out).b0
          have x1 := (BX.out w5 Gw5.out).b1
          have x2 := (BX.out w5 Gw5.out).b2
          have x3 := (BX.out w5 Gw5.out).b3
          have y0 := (BY.out w5 Gw5.out).b0
          have y1 := (BY.out w5 Gw5.out).b1
          have y2 := (BY.out w5 Gw5.out).b2
          have y3 := (BY.out w5 Gw5.out).b3
          clear HPa
          go_wp2_with fail
          clear x0 x1 x2 x3 y0 y1 y2 y3
          refine (HB.out w5 Gw5.out).mono ?_
          rintro E w3 ⟨r1, r2, r3, k1, k2, k3, rfl, hwg, hg3, hfar⟩
          have G3 : Hid (W1.grownBy w3 none) := grown_trans Gw5.out hg3
          obtain ⟨⟨p0, p1, p2, p3⟩, fz, W9, hW9, g9, hb9⟩ := four_store (HZ.out w3 G3.out) (.int .i64 Z.L) (.slice r1 Z.F.length k1) (.slice r2 Z.S.length k2) (.slice r3 Z.E.length k3)
          have HW9 : Hid (W9 = _) := hW9
          have b9 := (BxW.mk (L := Z.L) hb9).box.1
          have z0 := b9.b0
          have z1 := b9.b1
          have z2 := b9.b2
          have z3 := b9.b3
          have F : Hid (Po (.returned (.tuple #[wgV Z.L r1 Z.F.length k1 r2 Z.S.length k2 r3 Z.E.length k3, .int .i64 0])) W9) := HGood.out W9 r1 r2 r3 k1 k2 k3 HN.out (hfar _ W9 (by have := (Gw5.out).size; have := HS1.out; omega) g9) (grown_new (grown_trans G1.out G3.out) g9 (by omega))
          have f0 := fz 0
          have f1 := fz 1
          have f2 := fz 2
          have f3 := fz 3
          clear fz hW9 g9 hb9 b9 hwg hg3 hfar
          go_wp2_with fail
          rw [← HW9.out]
          exact bodyPost_ret (v := .tuple #[wgV Z.L r1 Z.F.length k1 r2 Z.S.length k2 r3 Z.E.length k3, .int .i64 0]) (by simp [results, Try.results5, go_sem, z0, z1, z2, z3]) rfl F.out
  · have q1 : (zb != 0) = true := by simpa using h0
    have HN0 : Hid (zb ≠ 0) := h0
    clear h0
    obtain ⟨⟨p0, p1, p2, p3⟩, fz, W9, hW9, g9, hb9⟩ := four_store (HZ.out w2 HG.out) (.int .i64 0) (.slice none 0 0) (.slice none 0 0) (.slice none 0 0)
    have HW9 : Hid (W9 = _) := hW9
    have b9 := (BxW.mk (L := 0) hb9).box.1
    have z0 := b9.b0
    have z1 := b9.b1
    have z2 := b9.b2
    have z3 := b9.b3
    have F : Hid (Po (.returned (.tuple #[wgV 0 none 0 0 none 0 0 none 0 0, .int .i64 zb])) W9) := HBad.out zb W9 (⟨by unfold proZ; rw [HB0.out, if_pos HN0.out], HN0.out⟩) (grown_new (grown_trans G1.out HG.out) g9 (by omega))
    have f0 := fz 0
    have f1 := fz 1
    have f2 := fz 2
    have f3 := fz 3
    clear fz hW9 g9 hb9 b9
    go_wp2_with fail
    rw [← HW9.out]
    exact bodyPost_ret (v := .tuple #[wgV 0 none 0 0 none 0 0 none 0 0, .int .i64 zb]) (by simp [results, Try.results5, go_sem, z0, z1, z2, z3]) rfl F.out

end Go.Proofs.Ytkmcbdjcolbknaa
