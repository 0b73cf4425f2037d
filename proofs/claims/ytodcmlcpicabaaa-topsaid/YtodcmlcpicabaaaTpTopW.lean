/- Who says what was said adds nothing: the law's walk. -/
import Derived.Test.YtodcmlcpicabaaaTpTopM
import Derived.BigRegion
import Derived.Deep.RegionWith
import Derived.Deep.RegionHeld3
import Derived.Deep.RegionLaw
import Derived.Deep.DeepCutAuto
namespace Go.Proofs.Ytodcmlcpicabaaa
open Go.RowKit
set_option linter.unusedVariables false
set_option linter.unusedSimpArgs false

def SId (b : Nat) (v : Value) (W : World) : Prop := W.cell? ⟨b, 1, none⟩ = some v
theorem SId.kept {b : Nat} {v : Value} {W W' : World} (h : SId b v W) (k : W.grownBy W' none) : SId b v W' := k.cell h (by simp)
theorem four_grown (W : World) (o0 o1 o2 o3 : Obj) : W.grownBy ((((W.alloc o0).alloc o1).alloc o2).alloc o3).drew none := grown_drew (grown_trans (grown_alloc _ _) (grown_trans (grown_alloc _ _) (grown_trans (grown_alloc _ _) (grown_alloc _ _))))
theorem four_alloc (W : World) (a0 a1 a2 a3 : Array Value) (t0 t1 t2 t3 : TypeId) (Wc : World) (h : Wc = ((((W.alloc (.cells a0 t0)).alloc (.cells a1 t1)).alloc (.cells a2 t2)).alloc (.cells a3 t3)).drew) :
    Wc.heap[W.heap.size]? = some (.cells a0 t0 (0, 0)) ∧ Wc.heap[W.heap.size + 1]? = some (.cells a1 t1 (0, 0)) ∧ Wc.heap[W.heap.size + 1 + 1]? = some (.cells a2 t2 (0, 0)) ∧ Wc.heap[W.heap.size + 1 + 1 + 1]? = some (.cells a3 t3 (0, 0)) ∧ W.grownBy Wc none := by
  have h0 := heap_alloc_new W (.cells a0 t0)
  have h1 := heap_alloc_new (W.alloc (.cells a0 t0)) (.cells a1 t1)
  have h2 := heap_alloc_new ((W.alloc (.cells a0 t0)).alloc (.cells a1 t1)) (.cells a2 t2)
  have h3 := heap_alloc_new (((W.alloc (.cells a0 t0)).alloc (.cells a1 t1)).alloc (.cells a2 t2)) (.cells a3 t3)
  have g4 : ((((W.alloc (.cells a0 t0)).alloc (.cells a1 t1)).alloc (.cells a2 t2)).alloc (.cells a3 t3)).grownBy Wc none := by rw [h]; exact grown_drew (grown_refl _ _)
  have g3 := grown_trans (grown_alloc (((W.alloc (.cells a0 t0)).alloc (.cells a1 t1)).alloc (.cells a2 t2)) (.cells a3 t3)) g4
  have g2 := grown_trans (grown_alloc ((W.alloc (.cells a0 t0)).alloc (.cells a1 t1)) (.cells a2 t2)) g3
  have g1 := grown_trans (grown_alloc (W.alloc (.cells a0 t0)) (.cells a1 t1)) g2
  simp only [World.size_alloc] at h1 h2 h3
  refine ⟨(g1.block _ (by simp) (by simp)).trans h0, (g2.block _ (by simp) (by simp)).trans h1, (g3.block _ (by simp) (by simp)).trans h2, (g4.block _ (by simp) (by simp)).trans h3, by rw [h]; exact four_grown _ _ _ _ _⟩
def IdSt (W0 : World) (O : Nat) (v : Value) (wc : World) : Prop := ∃ b b4 b6 bi, v = .pointer (some ⟨b, 0, none⟩) ∧ wc.heap[b]? = some (.cells #[.int .i64 (O : Int), .int .i64 (O : Int), .int .i64 0, .slice none 0 0, .slice (some ⟨b4, 0, none⟩) 1 1, .slice none 0 0, .slice (some ⟨b6, 0, none⟩) 1 1] 26 (0, 0)) ∧
  wc.heap[b4]? = some (.cells #[.slice (some ⟨bi, 0, none⟩) O O] 22 (0, 0)) ∧ wc.heap[b6]? = some (.cells #[.slice none 0 0] 22 (0, 0)) ∧ wc.heap[bi]? = some (.cells (Array.replicate O (.int .i64 0)) 3 (0, 0)) ∧ (b4 ≠ b ∧ b6 ≠ b ∧ bi ≠ b) ∧ W0.heap.size ≤ b ∧ W0.grownBy wc none

attribute [local go_sem ↓] appY_fold in
set_option maxHeartbeats 6400000 in
set_option maxRecDepth 100000 in
theorem tsaid_walk (x : TrI) (a3 a4 a5 a6 : Option Addr) (c3 c4 c5 c6 : Nat) (w : World) (hx : TnAt w x a3 a4 a5 a6) (hkx : CapsAt w a6 x.E) :
    Calls Try.prog 5 #[tnV x.I x.O x.S a3 x.F.length c3 a4 x.N.length c4 a5 x.Y.length c5 a6 x.E.length c6] w (Says (.bool true) w) := by
  obtain ⟨W1, hW1, g1, s1, bx⟩ := box7_new w x.I x.O x.S a3 x.F.length c3 a4 x.N.length c4 a5 x.Y.length c5 a6 x.E.length c6
  obtain ⟨A1, hA1⟩ : ∃ W, W = W1.alloc (.cells #[.int .i64 0] 3) := ⟨_, rfl⟩
  have gA1 : W1.grownBy A1 none := by rw [hA1]; exact grown_alloc _ _
  have sA1 : A1.heap.size = w.heap.size + 1 + 1 := by rw [hA1, World.size_alloc, s1]
  obtain ⟨A2, hA2⟩ : ∃ W, W = A1.alloc (.cells #[.slice (some ⟨w.heap.size + 1, 0, none⟩) 1 1] 22) := ⟨_, rfl⟩
  have gA2 : A1.grownBy A2 none := by rw [hA2]; exact grown_alloc _ _
  have sA2 : A2.heap.size = w.heap.size + 1 + 1 + 1 := by rw [hA2, World.size_alloc, sA1]
  obtain ⟨A3, hA3⟩ : ∃ W, W = A2.alloc (.cells #[.int .i64 0] 3) := ⟨_, rfl⟩
  have gA3 : A2.grownBy A3 none := by rw [hA3]; exact grown_alloc _ _
  have sA3 : A3.heap.size = w.heap.size + 1 + 1 + 1 + 1 := by rw [hA3, World.size_alloc, sA2]
  obtain ⟨A4, hA4⟩ : ∃ W, W = A3.alloc (.cells #[.slice (some ⟨w.heap.size + 1 + 1 + 1, 0, none⟩) 1 1] 22) := ⟨_, rfl⟩
  have gA4 : A3.grownBy A4 none := by rw [hA4]; exact grown_alloc _ _
  have sA4 : A4.heap.size = w.heap.size + 1 + 1 + 1 + 1 + 1 := by rw [hA4, World.size_alloc, sA3]
  obtain ⟨A5, hA5⟩ : ∃ W, W = A4.alloc (.cells #[.slice (some ⟨w.heap.size + 1 + 1 + 1 + 1, 0, none⟩) 1 1] 23) := ⟨_, rfl⟩
  have gA5 : A4.grownBy A5 none := by rw [hA5]; exact grown_alloc _ _
  have sA5 : A5.heap.size = w.heap.size + 1 + 1 + 1 + 1 + 1 + 1 := by rw [hA5, World.size_alloc, sA4]
  obtain ⟨A6, hA6⟩ : ∃ W, W = A5.alloc (.cells #[] 3) := ⟨_, rfl⟩
  have gA6 : A5.grownBy A6 none := by rw [hA6]; exact grown_alloc _ _
  have sA6 : A6.heap.size = w.heap.size + 1 + 1 + 1 + 1 + 1 + 1 + 1 := by rw [hA6, World.size_alloc, sA5]
  obtain ⟨A7, hA7⟩ : ∃ W, W = A6.alloc (.cells #[.slice (some ⟨w.heap.size + 1 + 1 + 1 + 1 + 1 + 1, 0, none⟩) 0 0] 22) := ⟨_, rfl⟩
  have gA7 : A6.grownBy A7 none := by rw [hA7]; exact grown_alloc _ _
  have sA7 : A7.heap.size = w.heap.size + 1 + 1 + 1 + 1 + 1 + 1 + 1 + 1 := by rw [hA7, World.size_alloc, sA6]
  have i1 : Ints A1 (some ⟨w.heap.size + 1, 0, none⟩) [0] := by have h := lit_int W1 0; rw [s1] at h; rw [hA1]; exact h
  have r2 : RowsAt A2 (some ⟨w.heap.size + 1 + 1, 0, none⟩) [[0]] := by have h := lit_row i1 1 1 rfl (by unfold maxLen; omega); rw [sA1] at h; rw [hA2]; exact h
  have i3 : Ints A3 (some ⟨w.heap.size + 1 + 1 + 1, 0, none⟩) [0] := by have h := lit_int A2 0; rw [sA2] at h; rw [hA3]; exact h
  have r4 : RowsAt A4 (some ⟨w.heap.size + 1 + 1 + 1 + 1, 0, none⟩) [[0]] := by have h := lit_row i3 1 1 rfl (by unfold maxLen; omega); rw [sA3] at h; rw [hA4]; exact h
  have t5 : TabAt A5 (some ⟨w.heap.size + 1 + 1 + 1 + 1 + 1, 0, none⟩) [[[0]]] := by have h := lit_tab r4 1 1 rfl (by unfold maxLen; omega); rw [sA4] at h; rw [hA5]; exact h
  have i6 : Ints A6 (some ⟨w.heap.size + 1 + 1 + 1 + 1 + 1 + 1, 0, none⟩) [] := .inl rfl
  have r7 : RowsAt A7 (some ⟨w.heap.size + 1 + 1 + 1 + 1 + 1 + 1 + 1, 0, none⟩) [[]] := by have h := lit_row i6 0 0 rfl (by unfold maxLen; omega); rw [sA6] at h; rw [hA7]; exact h
  have k7 : CapsAt A7 (some ⟨w.heap.size + 1 + 1 + 1 + 1 + 1 + 1 + 1, 0, none⟩) [[]] := by have h := lit_caps (W := A6) (a := (some ⟨w.heap.size + 1 + 1 + 1 + 1 + 1 + 1, 0, none⟩)) (u := []) 0 0 rfl (by omega); rw [sA6] at h; rw [hA7]; exact h
  have g27 : A2.grownBy A7 none := grown_trans gA3 (grown_trans gA4 (grown_trans gA5 (grown_trans gA6 gA7)))
  have g57 : A5.grownBy A7 none := grown_trans gA6 gA7
  have gW1 : W1.grownBy A7 none := grown_trans gA1 (grown_trans gA2 g27)
  have HA7 : Hid (A7 = (((((((w.alloc (tnO x.I x.O x.S a3 x.F.length c3 a4 x.N.length c4 a5 x.Y.length c5 a6 x.E.length c6)).alloc (.cells #[.int .i64 0] 3)).alloc (.cells #[.slice (some ⟨w.heap.size + 1, 0, none⟩) 1 1] 22)).alloc (.cells #[.int .i64 0] 3)).alloc (.cells #[.slice (some ⟨w.heap.size + 1 + 1 + 1, 0, none⟩) 1 1] 22)).alloc (.cells #[.slice (some ⟨w.heap.size + 1 + 1 + 1 + 1, 0, none⟩) 1 1] 23)).alloc (.cells #[] 3)).alloc (.cells #[.slice (some ⟨w.heap.size + 1 + 1 + 1 + 1 + 1 + 1, 0, none⟩) 0 0] 22)) := by show _ = _; rw [hA7, hA6, hA5, hA4, hA3, hA2, hA1, hW1]
  have hT1 : TnAt A7 (oneT []) none (some ⟨w.heap.size + 1 + 1, 0, none⟩) (some ⟨w.heap.size + 1 + 1 + 1 + 1 + 1, 0, none⟩) (some ⟨w.heap.size + 1 + 1 + 1 + 1 + 1 + 1 + 1, 0, none⟩) := ⟨.inl rfl, r2.grown g27, t5.grown g57, r7, by show (0 : Nat) ≤ maxLen; unfold maxLen; omega, by show (1 : Nat) ≤ maxLen; unfold maxLen; omega, by show (1 : Nat) ≤ maxLen; unfold maxLen; omega, by show (1 : Nat) ≤ maxLen; unfold maxLen; omega⟩
  have HL1 : Hid (Calls Try.prog 15 #[tnV 1 1 0 none 0 0 (some ⟨w.heap.size + 1 + 1, 0, none⟩) 1 1 (some ⟨w.heap.size + 1 + 1 + 1 + 1 + 1, 0, none⟩) 1 1 (some ⟨w.heap.size + 1 + 1 + 1 + 1 + 1 + 1 + 1, 0, none⟩) 1 1] A7 (LstA (oneT []) A7)) := leastA_any (oneT []) none (some ⟨w.heap.size + 1 + 1, 0, none⟩) (some ⟨w.heap.size + 1 + 1 + 1 + 1 + 1, 0, none⟩) (some ⟨w.heap.size + 1 + 1 + 1 + 1 + 1 + 1 + 1, 0, none⟩) 0 1 1 1 A7 hT1 k7
  have gw7 : w.grownBy A7 none := grown_trans g1 gW1
  have GA : Hid (w.grownBy A7 none) := gw7
  have GA7 : Hid (A7.grownBy A7 none) := grown_refl _ _
  have HSA : Hid (w.heap.size < A7.heap.size) := by show _ < _; rw [sA7]; omega
  have BX : Hid (∀ W, A7.grownBy W none → Box7 W w.heap.size x.I x.O x.S a3 x.F.length c3 a4 x.N.length c4 a5 x.Y.length c5 a6 x.E.length c6) := fun W hW => bx.grown (grown_trans gW1 hW)
  have HTX : Hid (∀ W, A7.grownBy W none → TnAt W x a3 a4 a5 a6) := fun W hW => hx.grown (grown_trans gw7 hW)
  have HLX : Hid (∀ W, A7.grownBy W none → Calls Try.prog 15 #[tnV x.I x.O x.S a3 x.F.length c3 a4 x.N.length c4 a5 x.Y.length c5 a6 x.E.length c6] W (LstA x W)) := fun W hW => leastA_any x a3 a4 a5 a6 c3 c4 c5 c6 W (hx.grown (grown_trans gw7 hW)) (hkx.grown (grown_trans gw7 hW))
  clear hA1 hA2 hA3 hA4 hA5 hA6 hA7 gA1 gA2 gA3 gA4 gA5 gA6 gA7 sA1 sA2 sA3 sA4 sA5 sA6 sA7 i1 r2 i3 r4 t5 i6 r7 k7 g27 g57 gW1 hT1 gw7 hW1 g1 s1 bx hx hkx
  go_enter Try.func5, Try.ntmps5
  go_wp2_with fail
  rw [← HA7.out]
  refine HL1.out.mono ?_
  rintro E w1 ⟨z1, R1, p1_3, p1_4, p1_5, p1_6, m1_3, m1_4, m1_5, m1_6, rfl, hg1, ht1, hc1, _, ho1, hb1⟩
  have Gw1 : Hid (A7.grownBy w1 none) := hg1
  have hz1 : z1 = 0 := by
    rcases Decidable.em (z1 = 0) with h | h
    · exact h
    · obtain ⟨L, h1, h2⟩ := hb1 (one_good (.inr rfl)) h
      have h3 := one_least (.inr rfl) h1
      subst h3
      exact absurd (oneL_little (.inr rfl)) h2
  subst hz1
  have hR1 : R1 = oneL [] := one_least (.inr rfl) (ho1 rfl).2.2.2.2
  subst hR1
  have l3 : (oneL []).F.length = 0 := rfl
  have l4 : (oneL []).N.length = 1 := rfl
  have l5 : (oneL []).Y.length = 1 := rfl
  have l6 : (oneL []).E.length = 1 := rfl
  have i0 : (oneL []).I = 1 := rfl
  have i1 : (oneL []).O = 1 := rfl
  have i2 : (oneL []).S = 0 := rfl
  rw [l3, l4, l5, l6, i0, i1, i2]
  obtain ⟨W1b, hW1b⟩ : ∃ W, W = w1.alloc (tnO 1 1 0 p1_3 0 m1_3 p1_4 1 m1_4 p1_5 1 m1_5 p1_6 1 m1_6) := ⟨_, rfl⟩
  have gW1b : w1.grownBy W1b none := by rw [hW1b]; exact grown_alloc _ _
  have HW1b : Hid (W1b = _) := hW1b
  have GW1b : Hid (A7.grownBy W1b none) := grown_trans hg1 gW1b
  have hbl : W1b.heap[w1.heap.size]? = some (.cells #[.int .i64 1, .int .i64 1, .int .i64 0, .slice p1_3 0 m1_3, .slice p1_4 1 m1_4, .slice p1_5 1 m1_5, .slice p1_6 1 m1_6] 26 (0, 0)) := by
    have := heap_alloc_new w1 (tnO 1 1 0 p1_3 0 m1_3 p1_4 1 m1_4 p1_5 1 m1_5 p1_6 1 m1_6)
    rw [← hW1b] at this
    exact this
  have hs1b : W1b.heap.size = w1.heap.size + 1 := by rw [hW1b, World.size_alloc]
  have HBL : Hid (∀ W, W1b.grownBy W none → W.heap[w1.heap.size]? = some (.cells #[.int .i64 1, .int .i64 1, .int .i64 0, .slice p1_3 0 m1_3, .slice p1_4 1 m1_4, .slice p1_5 1 m1_5, .slice p1_6 1 m1_6] 26 (0, 0))) := fun W hW => (hW.block _ (by omega) (by simp)).trans hbl
  have HS1 : Hid (w1.heap.size < W1b.heap.size ∧ A7.heap.size ≤ w1.heap.size) := ⟨by omega, hg1.size⟩
  have j4 : W1b.cell? ⟨w1.heap.size, 4, none⟩ = some (.slice p1_4 1 m1_4) := (box7_of hbl).1.b4
  have x0 := (BX.out W1b GW1b.out).b0
  have x1 := (BX.out W1b GW1b.out).b1
  have x2 := (BX.out W1b GW1b.out).b2
  have x3 := (BX.out W1b GW1b.out).b3
  have x4 := (BX.out W1b GW1b.out).b4
  have x5 := (BX.out W1b GW1b.out).b5
  have x6 := (BX.out W1b GW1b.out).b6
  rw [hW1b] at x0 x1 x2 x3 x4 x5 x6 j4
  clear l3 l4 l5 l6 i0 i1 i2 hg1 ht1 hc1 ho1 hb1 hW1b gW1b hbl hs1b HL1
  go_wp2_with fail
  rw [← HW1b.out]
  clear x0 x1 x2 x3 x4 x5 x6 j4
  refine (HLX.out W1b GW1b.out).mono ?_
  rintro E w2 ⟨z2, R2, p2_3, p2_4, p2_5, p2_6, m2_3, m2_4, m2_5, m2_6, rfl, hg2, ht2, hc2, hu2, ho2, hb2⟩
  have HO2 : Hid _ := ho2
  have HC2 : Hid (R2.F.length ≤ m2_3) := hc2
  obtain ⟨⟨p0, p1, p2, p3, p4, p5, p6⟩, fz, W3, hW3, g3, y0, y1, y2, y3, y4, y5, y6⟩ := seven_store (HBL.out w2 hg2) (.int .i64 R2.I) (.int .i64 R2.O) (.int .i64 R2.S) (.slice p2_3 R2.F.length m2_3) (.slice p2_4 R2.N.length m2_4) (.slice p2_5 R2.Y.length m2_5) (.slice p2_6 R2.E.length m2_6)
  have hbl3 := seven_heap (HBL.out w2 hg2) hW3
  have HW3 : Hid (W3 = _) := hW3
  have hA3 : A7.grownBy W3 none := grown_new (grown_trans GW1b.out hg2) g3 HS1.out.2
  have GW3 : Hid (A7.grownBy W3 none) := hA3
  have TR2 : Hid (∀ W, W3.grownBy W none → TnAt W R2 p2_3 p2_4 p2_5 p2_6) := fun W hW => (hu2 W3 _ HS1.out.1 g3).grown hW
  have BR2 : Hid (∀ W, W3.grownBy W none → Box7 W w1.heap.size R2.I R2.O R2.S p2_3 R2.F.length m2_3 p2_4 R2.N.length m2_4 p2_5 R2.Y.length m2_5 p2_6 R2.E.length m2_6) := fun W hW => (box7_of hbl3).1.grown hW
  have HS3 : Hid (w1.heap.size < W3.heap.size) := by have h1 := HS1.out.1; have h2 := hg2.size; have h3 := g3.size; show _ < _; omega
  have f0 := fz 0
  have f1 := fz 1
  have f2 := fz 2
  have f3 := fz 3
  have f4 := fz 4
  have f5 := fz 5
  have f6 := fz 6
  by_cases q2 : z2 = 0
  case neg =>
    have u2 : (z2 != 0) = true := by simpa using q2
    have GF : Hid (w.grownBy W3 none) := grown_trans GA.out hA3
    clear q2 hg2 ht2 hc2 hu2 ho2 hb2 fz hW3 g3 hbl3 hA3 y0 y1 y2 y3 y4 y5 y6
    go_wp2_with fail
    rw [← HW3.out]
    go_ret
    exact ⟨rfl, GF.out⟩
  have u2 : (z2 != 0) = false := by simpa using q2
  have o2 := ho2 q2
  have HGx : Hid (GoodT x) := o2.1
  have HGR : Hid (GoodT R2) := o2.2.1
  have HIO : Hid (R2.I = x.I ∧ R2.O = x.O) := ⟨o2.2.2.1, o2.2.2.2.1⟩
  have HLs : Hid (LeastIs x x.I.toNat R2) := o2.2.2.2.2
  have hO4 := o2.1.many.2
  unfold ManyT at hO4
  obtain ⟨O, hO⟩ : ∃ O : Nat, x.O = (O : Int) := ⟨x.O.toNat, by omega⟩
  have HXO : Hid (x.O = (O : Int)) := hO
  have hO1 : 1 ≤ O ∧ O ≤ 4 := by omega
  have bb := BX.out W3 hA3
  have x1 := bb.b1
  rw [hO] at x1
  have hmk := fun W => make_intsT W O (by omega)
  rw [hW3] at x1
  clear q2 hg2 ht2 hc2 hu2 ho2 hb2 fz hW3 g3 hbl3 hA3 y0 y1 y2 y3 y4 y5 y6 o2 hO4 hO HO2 HBL
  go_wp2_with fail
  rw [← HW3.out]
  clear p0 p1 p2 p3 p4 p5 p6 f0 f1 f2 f3 f4 f5 f6
  have x1' := bb.b1
  rw [HXO.out] at x1'
  have S7 : Hid (SId w.heap.size (.int .i64 (O : Int)) W3) := x1'
  clear x1'
  clear x1 bb
  go_cut [5] (fun v wc => IdSt W3 O v wc)
  case first =>
    refine wp_region_held_drew (S := SId w.heap.size (.int .i64 (O : Int))) (by kernel_rfl) (S7.out.kept (grown_drew (grown_refl _ _))) (fun hHeld => ?_)
    refine wpAnyH_take (i := 0) (v := ?_) rfl (by kernel_rfl) (by kernel_rfl) (by kernel_rfl) (fun _ _ _ h => h) (Or.inl ⟨by rfl, ?_⟩) (by assumption) ?_
    rotate_left
    · intro W hSw
      have q1 : W.cell? ⟨w.heap.size, 1, none⟩ = some (.int .i64 (O : Int)) := hSw
      go_simp
      with_reducible rfl
    try simp only [Act.put, List.getElem_toArray, List.getElem_cons_succ, List.getElem_cons_zero, List.setIfInBounds_toArray, List.set_cons_zero, List.set_cons_succ]
    refine wpAnyH_take (i := 1) (v := ?_) rfl (by kernel_rfl) (by kernel_rfl) (by kernel_rfl) (fun _ _ _ h => h) (Or.inl ⟨by rfl, ?_⟩) (by assumption) ?_
    rotate_left
    · intro W hSw
      have q1 : W.cell? ⟨w.heap.size, 1, none⟩ = some (.int .i64 (O : Int)) := hSw
      go_simp
      with_reducible rfl
    try simp only [Act.put, List.getElem_toArray, List.getElem_cons_succ, List.getElem_cons_zero, List.setIfInBounds_toArray, List.set_cons_zero, List.set_cons_succ]
    refine wpAnyH_take (i := 2) (v := ?_) rfl (by kernel_rfl) (by kernel_rfl) (by kernel_rfl) (fun _ _ _ h => h) (Or.inl ⟨by rfl, ?_⟩) (by assumption) ?_
    rotate_left
    · intro W hSw
      have q1 : W.cell? ⟨w.heap.size, 1, none⟩ = some (.int .i64 (O : Int)) := hSw
      go_simp
      with_reducible rfl
    try simp only [Act.put, List.getElem_toArray, List.getElem_cons_succ, List.getElem_cons_zero, List.setIfInBounds_toArray, List.set_cons_zero, List.set_cons_succ]
    refine wpAnyH_take (i := 3) (v := ?_) rfl (by kernel_rfl) (by kernel_rfl) (by kernel_rfl) (fun _ _ _ h => h) (Or.inl ⟨by rfl, ?_⟩) (by assumption) ?_
    rotate_left
    · intro W hSw
      have q1 : W.cell? ⟨w.heap.size, 1, none⟩ = some (.int .i64 (O : Int)) := hSw
      go_simp
      with_reducible rfl
    try simp only [Act.put, List.getElem_toArray, List.getElem_cons_succ, List.getElem_cons_zero, List.setIfInBounds_toArray, List.set_cons_zero, List.set_cons_succ]
    refine wpAnyH_take (i := 4) (v := ?_) rfl (by kernel_rfl) (by kernel_rfl) (by kernel_rfl) (fun _ _ _ h => h) (Or.inl ⟨by rfl, ?_⟩) (by assumption) ?_
    rotate_left
    · intro W hSw
      have q1 : W.cell? ⟨w.heap.size, 1, none⟩ = some (.int .i64 (O : Int)) := hSw
      go_simp
      with_reducible rfl
    try simp only [Act.put, List.getElem_toArray, List.getElem_cons_succ, List.getElem_cons_zero, List.setIfInBounds_toArray, List.set_cons_zero, List.set_cons_succ]
    refine wpAnyH_take (i := 5) (v := ?_) rfl (by kernel_rfl) (by kernel_rfl) (by kernel_rfl) (fun _ _ _ h => h) (Or.inl ⟨by rfl, ?_⟩) (by assumption) ?_
    rotate_left
    · intro W hSw
      have q1 : W.cell? ⟨w.heap.size, 1, none⟩ = some (.int .i64 (O : Int)) := hSw
      go_simp
      with_reducible rfl
    try simp only [Act.put, List.getElem_toArray, List.getElem_cons_succ, List.getElem_cons_zero, List.setIfInBounds_toArray, List.set_cons_zero, List.set_cons_succ]
    refine wpAnyH_ready (rs := [6, 8, 10]) (by kernel_rfl) (by simp) ?_
    refine AllReadyH.cons (o := _) rfl (fun K' hK => ?_) ?_
    · go_simp
      refine hK.out _ _ (hHeld.kept (grown_alloc _ _)) (fun hHeld => ?_)
      clear hK K'
      try simp only [Act.put, List.getElem_toArray, List.getElem_cons_succ, List.getElem_cons_zero, List.setIfInBounds_toArray, List.set_cons_zero, List.set_cons_succ]
      refine wpAnyH_ready (rs := [7, 8, 10]) (by kernel_rfl) (by simp) ?_
      refine AllReadyH.cons (o := _) rfl (fun K' hK => ?_) ?_
      · go_simp
        refine hK.out _ _ (hHeld.kept (grown_alloc _ _)) (fun hHeld => ?_)
        clear hK K'
        try simp only [Act.put, List.getElem_toArray, List.getElem_cons_succ, List.getElem_cons_zero, List.setIfInBounds_toArray, List.set_cons_zero, List.set_cons_succ]
        refine wpAnyH_ready (rs := [8, 10]) (by kernel_rfl) (by simp) ?_
        refine AllReadyH.cons (o := _) rfl (fun K' hK => ?_) ?_
        · go_simp
          refine hK.out _ _ (hHeld.kept (grown_alloc _ _)) (fun hHeld => ?_)
          clear hK K'
          try simp only [Act.put, List.getElem_toArray, List.getElem_cons_succ, List.getElem_cons_zero, List.setIfInBounds_toArray, List.set_cons_zero, List.set_cons_succ]
          refine wpAnyH_take (i := 9) (v := ?_) rfl (by kernel_rfl) (by kernel_rfl) (by kernel_rfl) (fun _ _ _ h => h) (Or.inl ⟨by rfl, ?_⟩) (by assumption) ?_
          rotate_left
          · intro W hSw
            have q1 : W.cell? ⟨w.heap.size, 1, none⟩ = some (.int .i64 (O : Int)) := hSw
            go_simp
            with_reducible rfl
          try simp only [Act.put, List.getElem_toArray, List.getElem_cons_succ, List.getElem_cons_zero, List.setIfInBounds_toArray, List.set_cons_zero, List.set_cons_succ]
          refine wpAnyH_ready (rs := [10]) (by kernel_rfl) (by simp) ?_
          refine AllReadyH.cons (o := _) rfl (fun K' hK => ?_) ?_
          · go_simp
            refine hK.out _ _ (hHeld.kept (grown_alloc _ _)) (fun hHeld => ?_)
            clear hK K'
            try simp only [Act.put, List.getElem_toArray, List.getElem_cons_succ, List.getElem_cons_zero, List.setIfInBounds_toArray, List.set_cons_zero, List.set_cons_succ]
            refine wpAnyH_ready (rs := [11]) (by kernel_rfl) (by simp) ?_
            refine AllReadyH.cons (o := _) rfl (fun K' hK => ?_) ?_
            · go_simp
              refine hK.out _ _ (S7.out.kept (four_grown W3 _ _ _ _)) (fun hHeld => ?_)
              clear hK K'
              try simp only [Act.put, List.getElem_toArray, List.getElem_cons_succ, List.getElem_cons_zero, List.setIfInBounds_toArray, List.set_cons_zero, List.set_cons_succ]
              refine wpAnyH_done (by kernel_rfl) ?_ _
              go_wp2_with fail
              go_meet
              case rel =>
                obtain ⟨h0, h1, h2, h3, hg⟩ := four_alloc W3 _ _ _ _ _ _ _ _ _ rfl
                exact ⟨_, _, _, _, rfl, by first | exact h0 | exact h1 | exact h2 | exact h3, by first | exact h0 | exact h1 | exact h2 | exact h3, by first | exact h0 | exact h1 | exact h2 | exact h3, by first | exact h0 | exact h1 | exact h2 | exact h3, by omega, by omega, hg⟩
            exact AllReadyH.nil
          exact AllReadyH.nil
        refine AllReadyH.cons (o := _) rfl (fun K' hK => ?_) ?_
        · go_simp
          refine hK.out _ _ (hHeld.kept (grown_alloc _ _)) (fun hHeld => ?_)
          clear hK K'
          try simp only [Act.put, List.getElem_toArray, List.getElem_cons_succ, List.getElem_cons_zero, List.setIfInBounds_toArray, List.set_cons_zero, List.set_cons_succ]
          refine wpAnyH_ready (rs := [8]) (by kernel_rfl) (by simp) ?_
          refine AllReadyH.cons (o := _) rfl (fun K' hK => ?_) ?_
          · go_simp
            refine hK.out _ _ (hHeld.kept (grown_alloc _ _)) (fun hHeld => ?_)
            clear hK K'
            try simp only [Act.put, List.getElem_toArray, List.getElem_cons_succ, List.getElem_cons_zero, List.setIfInBounds_toArray, List.set_cons_zero, List.set_cons_succ]
            refine wpAnyH_take (i := 9) (v := ?_) rfl (by kernel_rfl) (by kernel_rfl) (by kernel_rfl) (fun _ _ _ h => h) (Or.inl ⟨by rfl, ?_⟩) (by assumption) ?_
            rotate_left
            · intro W hSw
              have q1 : W.cell? ⟨w.heap.size, 1, none⟩ = some (.int .i64 (O : Int)) := hSw
              go_simp
              with_reducible rfl
            try simp only [Act.put, List.getElem_toArray, List.getElem_cons_succ, List.getElem_cons_zero, List.setIfInBounds_toArray, List.set_cons_zero, List.set_cons_succ]
            refine wpAnyH_ready (rs := [11]) (by kernel_rfl) (by simp) ?_
            refine AllReadyH.cons (o := _) rfl (fun K' hK => ?_) ?_
            · go_simp
              refine hK.out _ _ (S7.out.kept (four_grown W3 _ _ _ _)) (fun hHeld => ?_)
              clear hK K'
              try simp only [Act.put, List.getElem_toArray, List.getElem_cons_succ, List.getElem_cons_zero, List.setIfInBounds_toArray, List.set_cons_zero, List.set_cons_succ]
              refine wpAnyH_done (by kernel_rfl) ?_ _
              go_wp2_with fail
              go_meet
              case rel =>
                obtain ⟨h0, h1, h2, h3, hg⟩ := four_alloc W3 _ _ _ _ _ _ _ _ _ rfl
                exact ⟨_, _, _, _, rfl, by first | exact h0 | exact h1 | exact h2 | exact h3, by first | exact h0 | exact h1 | exact h2 | exact h3, by first | exact h0 | exact h1 | exact h2 | exact h3, by first | exact h0 | exact h1 | exact h2 | exact h3, by omega, by omega, hg⟩
            exact AllReadyH.nil
          exact AllReadyH.nil
        exact AllReadyH.nil
      refine AllReadyH.cons (o := _) rfl (fun K' hK => ?_) ?_
      · go_simp
        refine hK.out _ _ (hHeld.kept (grown_alloc _ _)) (fun hHeld => ?_)
        clear hK K'
        try simp only [Act.put, List.getElem_toArray, List.getElem_cons_succ, List.getElem_cons_zero, List.setIfInBounds_toArray, List.set_cons_zero, List.set_cons_succ]
        refine wpAnyH_ready (rs := [7, 10]) (by kernel_rfl) (by simp) ?_
        refine AllReadyH.cons (o := _) rfl (fun K' hK => ?_) ?_
        · go_simp
          refine hK.out _ _ (hHeld.kept (grown_alloc _ _)) (fun hHeld => ?_)
          clear hK K'
          try simp only [Act.put, List.getElem_toArray, List.getElem_cons_succ, List.getElem_cons_zero, List.setIfInBounds_toArray, List.set_cons_zero, List.set_cons_succ]
          refine wpAnyH_take (i := 9) (v := ?_) rfl (by kernel_rfl) (by kernel_rfl) (by kernel_rfl) (fun _ _ _ h => h) (Or.inl ⟨by rfl, ?_⟩) (by assumption) ?_
          rotate_left
          · intro W hSw
            have q1 : W.cell? ⟨w.heap.size, 1, none⟩ = some (.int .i64 (O : Int)) := hSw
            go_simp
            with_reducible rfl
          try simp only [Act.put, List.getElem_toArray, List.getElem_cons_succ, List.getElem_cons_zero, List.setIfInBounds_toArray, List.set_cons_zero, List.set_cons_succ]
          refine wpAnyH_ready (rs := [10]) (by kernel_rfl) (by simp) ?_
          refine AllReadyH.cons (o := _) rfl (fun K' hK => ?_) ?_
          · go_simp
            refine hK.out _ _ (hHeld.kept (grown_alloc _ _)) (fun hHeld => ?_)
            clear hK K'
            try simp only [Act.put, List.getElem_toArray, List.getElem_cons_succ, List.getElem_cons_zero, List.setIfInBounds_toArray, List.set_cons_zero, List.set_cons_succ]
            refine wpAnyH_ready (rs := [11]) (by kernel_rfl) (by simp) ?_
            refine AllReadyH.cons (o := _) rfl (fun K' hK => ?_) ?_
            · go_simp
              refine hK.out _ _ (S7.out.kept (four_grown W3 _ _ _ _)) (fun hHeld => ?_)
              clear hK K'
              try simp only [Act.put, List.getElem_toArray, List.getElem_cons_succ, List.getElem_cons_zero, List.setIfInBounds_toArray, List.set_cons_zero, List.set_cons_succ]
              refine wpAnyH_done (by kernel_rfl) ?_ _
              go_wp2_with fail
              go_meet
              case rel =>
                obtain ⟨h0, h1, h2, h3, hg⟩ := four_alloc W3 _ _ _ _ _ _ _ _ _ rfl
                exact ⟨_, _, _, _, rfl, by first | exact h0 | exact h1 | exact h2 | exact h3, by first | exact h0 | exact h1 | exact h2 | exact h3, by first | exact h0 | exact h1 | exact h2 | exact h3, by first | exact h0 | exact h1 | exact h2 | exact h3, by omega, by omega, hg⟩
            exact AllReadyH.nil
          exact AllReadyH.nil
        refine AllReadyH.cons (o := _) rfl (fun K' hK => ?_) ?_
        · go_simp
          refine hK.out _ _ (hHeld.kept (grown_alloc _ _)) (fun hHeld => ?_)
          clear hK K'
          try simp only [Act.put, List.getElem_toArray, List.getElem_cons_succ, List.getElem_cons_zero, List.setIfInBounds_toArray, List.set_cons_zero, List.set_cons_succ]
          refine wpAnyH_ready (rs := [7]) (by kernel_rfl) (by simp) ?_
          refine AllReadyH.cons (o := _) rfl (fun K' hK => ?_) ?_
          · go_simp
            refine hK.out _ _ (hHeld.kept (grown_alloc _ _)) (fun hHeld => ?_)
            clear hK K'
            try simp only [Act.put, List.getElem_toArray, List.getElem_cons_succ, List.getElem_cons_zero, List.setIfInBounds_toArray, List.set_cons_zero, List.set_cons_succ]
            refine wpAnyH_take (i := 9) (v := ?_) rfl (by kernel_rfl) (by kernel_rfl) (by kernel_rfl) (fun _ _ _ h => h) (Or.inl ⟨by rfl, ?_⟩) (by assumption) ?_
            rotate_left
            · intro W hSw
              have q1 : W.cell? ⟨w.heap.size, 1, none⟩ = some (.int .i64 (O : Int)) := hSw
              go_simp
              with_reducible rfl
            try simp only [Act.put, List.getElem_toArray, List.getElem_cons_succ, List.getElem_cons_zero, List.setIfInBounds_toArray, List.set_cons_zero, List.set_cons_succ]
            refine wpAnyH_ready (rs := [11]) (by kernel_rfl) (by simp) ?_
            refine AllReadyH.cons (o := _) rfl (fun K' hK => ?_) ?_
            · go_simp
              refine hK.out _ _ (S7.out.kept (four_grown W3 _ _ _ _)) (fun hHeld => ?_)
              clear hK K'
              try simp only [Act.put, List.getElem_toArray, List.getElem_cons_succ, List.getElem_cons_zero, List.setIfInBounds_toArray, List.set_cons_zero, List.set_cons_succ]
              refine wpAnyH_done (by kernel_rfl) ?_ _
              go_wp2_with fail
              go_meet
              case rel =>
                obtain ⟨h0, h1, h2, h3, hg⟩ := four_alloc W3 _ _ _ _ _ _ _ _ _ rfl
                exact ⟨_, _, _, _, rfl, by first | exact h0 | exact h1 | exact h2 | exact h3, by first | exact h0 | exact h1 | exact h2 | exact h3, by first | exact h0 | exact h1 | exact h2 | exact h3, by first | exact h0 | exact h1 | exact h2 | exact h3, by omega, by omega, hg⟩
            exact AllReadyH.nil
          exact AllReadyH.nil
        exact AllReadyH.nil
      refine AllReadyH.cons (o := _) rfl (fun K' hK => ?_) ?_
      · go_simp
        refine hK.out _ _ (hHeld.kept (grown_alloc _ _)) (fun hHeld => ?_)
        clear hK K'
        try simp only [Act.put, List.getElem_toArray, List.getElem_cons_succ, List.getElem_cons_zero, List.setIfInBounds_toArray, List.set_cons_zero, List.set_cons_succ]
        refine wpAnyH_ready (rs := [7, 8]) (by kernel_rfl) (by simp) ?_
        refine AllReadyH.cons (o := _) rfl (fun K' hK => ?_) ?_
        · go_simp
          refine hK.out _ _ (hHeld.kept (grown_alloc _ _)) (fun hHeld => ?_)
          clear hK K'
          try simp only [Act.put, List.getElem_toArray, List.getElem_cons_succ, List.getElem_cons_zero, List.setIfInBounds_toArray, List.set_cons_zero, List.set_cons_succ]
          refine wpAnyH_ready (rs := [8]) (by kernel_rfl) (by simp) ?_
          refine AllReadyH.cons (o := _) rfl (fun K' hK => ?_) ?_
          · go_simp
            refine hK.out _ _ (hHeld.kept (grown_alloc _ _)) (fun hHeld => ?_)
            clear hK K'
            try simp only [Act.put, List.getElem_toArray, List.getElem_cons_succ, List.getElem_cons_zero, List.setIfInBounds_toArray, List.set_cons_zero, List.set_cons_succ]
            refine wpAnyH_take (i := 9) (v := ?_) rfl (by kernel_rfl) (by kernel_rfl) (by kernel_rfl) (fun _ _ _ h => h) (Or.inl ⟨by rfl, ?_⟩) (by assumption) ?_
            rotate_left
            · intro W hSw
              have q1 : W.cell? ⟨w.heap.size, 1, none⟩ = some (.int .i64 (O : Int)) := hSw
              go_simp
              with_reducible rfl
            try simp only [Act.put, List.getElem_toArray, List.getElem_cons_succ, List.getElem_cons_zero, List.setIfInBounds_toArray, List.set_cons_zero, List.set_cons_succ]
            refine wpAnyH_ready (rs := [11]) (by kernel_rfl) (by simp) ?_
            refine AllReadyH.cons (o := _) rfl (fun K' hK => ?_) ?_
            · go_simp
              refine hK.out _ _ (S7.out.kept (four_grown W3 _ _ _ _)) (fun hHeld => ?_)
              clear hK K'
              try simp only [Act.put, List.getElem_toArray, List.getElem_cons_succ, List.getElem_cons_zero, List.setIfInBounds_toArray, List.set_cons_zero, List.set_cons_succ]
              refine wpAnyH_done (by kernel_rfl) ?_ _
              go_wp2_with fail
              go_meet
              case rel =>
                obtain ⟨h0, h1, h2, h3, hg⟩ := four_alloc W3 _ _ _ _ _ _ _ _ _ rfl
                exact ⟨_, _, _, _, rfl, by first | exact h0 | exact h1 | exact h2 | exact h3, by first | exact h0 | exact h1 | exact h2 | exact h3, by first | exact h0 | exact h1 | exact h2 | exact h3, by first | exact h0 | exact h1 | exact h2 | exact h3, by omega, by omega, hg⟩
            exact AllReadyH.nil
          exact AllReadyH.nil
        refine AllReadyH.cons (o := _) rfl (fun K' hK => ?_) ?_
        · go_simp
          refine hK.out _ _ (hHeld.kept (grown_alloc _ _)) (fun hHeld => ?_)
          clear hK K'
          try simp only [Act.put, List.getElem_toArray, List.getElem_cons_succ, List.getElem_cons_zero, List.setIfInBounds_toArray, List.set_cons_zero, List.set_cons_succ]
          refine wpAnyH_ready (rs := [7]) (by kernel_rfl) (by simp) ?_
          refine AllReadyH.cons (o := _) rfl (fun K' hK => ?_) ?_
          · go_simp
            refine hK.out _ _ (hHeld.kept (grown_alloc _ _)) (fun hHeld => ?_)
            clear hK K'
            try simp only [Act.put, List.getElem_toArray, List.getElem_cons_succ, List.getElem_cons_zero, List.setIfInBounds_toArray, List.set_cons_zero, List.set_cons_succ]
            refine wpAnyH_take (i := 9) (v := ?_) rfl (by kernel_rfl) (by kernel_rfl) (by kernel_rfl) (fun _ _ _ h => h) (Or.inl ⟨by rfl, ?_⟩) (by assumption) ?_
            rotate_left
            · intro W hSw
              have q1 : W.cell? ⟨w.heap.size, 1, none⟩ = some (.int .i64 (O : Int)) := hSw
              go_simp
              with_reducible rfl
            try simp only [Act.put, List.getElem_toArray, List.getElem_cons_succ, List.getElem_cons_zero, List.setIfInBounds_toArray, List.set_cons_zero, List.set_cons_succ]
            refine wpAnyH_ready (rs := [11]) (by kernel_rfl) (by simp) ?_
            refine AllReadyH.cons (o := _) rfl (fun K' hK => ?_) ?_
            · go_simp
              refine hK.out _ _ (S7.out.kept (four_grown W3 _ _ _ _)) (fun hHeld => ?_)
              clear hK K'
              try simp only [Act.put, List.getElem_toArray, List.getElem_cons_succ, List.getElem_cons_zero, List.setIfInBounds_toArray, List.set_cons_zero, List.set_cons_succ]
              refine wpAnyH_done (by kernel_rfl) ?_ _
              go_wp2_with fail
              go_meet
              case rel =>
                obtain ⟨h0, h1, h2, h3, hg⟩ := four_alloc W3 _ _ _ _ _ _ _ _ _ rfl
                exact ⟨_, _, _, _, rfl, by first | exact h0 | exact h1 | exact h2 | exact h3, by first | exact h0 | exact h1 | exact h2 | exact h3, by first | exact h0 | exact h1 | exact h2 | exact h3, by first | exact h0 | exact h1 | exact h2 | exact h3, by omega, by omega, hg⟩
            exact AllReadyH.nil
          exact AllReadyH.nil
        exact AllReadyH.nil
      exact AllReadyH.nil
    refine AllReadyH.cons (o := _) rfl (fun K' hK => ?_) ?_
    · go_simp
      refine hK.out _ _ (hHeld.kept (grown_alloc _ _)) (fun hHeld => ?_)
      clear hK K'
      try simp only [Act.put, List.getElem_toArray, List.getElem_cons_succ, List.getElem_cons_zero, List.setIfInBounds_toArray, List.set_cons_zero, List.set_cons_succ]
      refine wpAnyH_ready (rs := [6, 10]) (by kernel_rfl) (by simp) ?_
      refine AllReadyH.cons (o := _) rfl (fun K' hK => ?_) ?_
      · go_simp
        refine hK.out _ _ (hHeld.kept (grown_alloc _ _)) (fun hHeld => ?_)
        clear hK K'
        try simp only [Act.put, List.getElem_toArray, List.getElem_cons_succ, List.getElem_cons_zero, List.setIfInBounds_toArray, List.set_cons_zero, List.set_cons_succ]
        refine wpAnyH_ready (rs := [7, 10]) (by kernel_rfl) (by simp) ?_
        refine AllReadyH.cons (o := _) rfl (fun K' hK => ?_) ?_
        · go_simp
          refine hK.out _ _ (hHeld.kept (grown_alloc _ _)) (fun hHeld => ?_)
          clear hK K'
          try simp only [Act.put, List.getElem_toArray, List.getElem_cons_succ, List.getElem_cons_zero, List.setIfInBounds_toArray, List.set_cons_zero, List.set_cons_succ]
          refine wpAnyH_take (i := 9) (v := ?_) rfl (by kernel_rfl) (by kernel_rfl) (by kernel_rfl) (fun _ _ _ h => h) (Or.inl ⟨by rfl, ?_⟩) (by assumption) ?_
          rotate_left
          · intro W hSw
            have q1 : W.cell? ⟨w.heap.size, 1, none⟩ = some (.int .i64 (O : Int)) := hSw
            go_simp
            with_reducible rfl
          try simp only [Act.put, List.getElem_toArray, List.getElem_cons_succ, List.getElem_cons_zero, List.setIfInBounds_toArray, List.set_cons_zero, List.set_cons_succ]
          refine wpAnyH_ready (rs := [10]) (by kernel_rfl) (by simp) ?_
          refine AllReadyH.cons (o := _) rfl (fun K' hK => ?_) ?_
          · go_simp
            refine hK.out _ _ (hHeld.kept (grown_alloc _ _)) (fun hHeld => ?_)
            clear hK K'
            try simp only [Act.put, List.getElem_toArray, List.getElem_cons_succ, List.getElem_cons_zero, List.setIfInBounds_toArray, List.set_cons_zero, List.set_cons_succ]
            refine wpAnyH_ready (rs := [11]) (by kernel_rfl) (by simp) ?_
            refine AllReadyH.cons (o := _) rfl (fun K' hK => ?_) ?_
            · go_simp
              refine hK.out _ _ (S7.out.kept (four_grown W3 _ _ _ _)) (fun hHeld => ?_)
              clear hK K'
              try simp only [Act.put, List.getElem_toArray, List.getElem_cons_succ, List.getElem_cons_zero, List.setIfInBounds_toArray, List.set_cons_zero, List.set_cons_succ]
              refine wpAnyH_done (by kernel_rfl) ?_ _
              go_wp2_with fail
              go_meet
              case rel =>
                obtain ⟨h0, h1, h2, h3, hg⟩ := four_alloc W3 _ _ _ _ _ _ _ _ _ rfl
                exact ⟨_, _, _, _, rfl, by first | exact h0 | exact h1 | exact h2 | exact h3, by first | exact h0 | exact h1 | exact h2 | exact h3, by first | exact h0 | exact h1 | exact h2 | exact h3, by first | exact h0 | exact h1 | exact h2 | exact h3, by omega, by omega, hg⟩
            exact AllReadyH.nil
          exact AllReadyH.nil
        refine AllReadyH.cons (o := _) rfl (fun K' hK => ?_) ?_
        · go_simp
          refine hK.out _ _ (hHeld.kept (grown_alloc _ _)) (fun hHeld => ?_)
          clear hK K'
          try simp only [Act.put, List.getElem_toArray, List.getElem_cons_succ, List.getElem_cons_zero, List.setIfInBounds_toArray, List.set_cons_zero, List.set_cons_succ]
          refine wpAnyH_ready (rs := [7]) (by kernel_rfl) (by simp) ?_
          refine AllReadyH.cons (o := _) rfl (fun K' hK => ?_) ?_
          · go_simp
            refine hK.out _ _ (hHeld.kept (grown_alloc _ _)) (fun hHeld => ?_)
            clear hK K'
            try simp only [Act.put, List.getElem_toArray, List.getElem_cons_succ, List.getElem_cons_zero, List.setIfInBounds_toArray, List.set_cons_zero, List.set_cons_succ]
            refine wpAnyH_take (i := 9) (v := ?_) rfl (by kernel_rfl) (by kernel_rfl) (by kernel_rfl) (fun _ _ _ h => h) (Or.inl ⟨by rfl, ?_⟩) (by assumption) ?_
            rotate_left
            · intro W hSw
              have q1 : W.cell? ⟨w.heap.size, 1, none⟩ = some (.int .i64 (O : Int)) := hSw
              go_simp
              with_reducible rfl
            try simp only [Act.put, List.getElem_toArray, List.getElem_cons_succ, List.getElem_cons_zero, List.setIfInBounds_toArray, List.set_cons_zero, List.set_cons_succ]
            refine wpAnyH_ready (rs := [11]) (by kernel_rfl) (by simp) ?_
            refine AllReadyH.cons (o := _) rfl (fun K' hK => ?_) ?_
            · go_simp
              refine hK.out _ _ (S7.out.kept (four_grown W3 _ _ _ _)) (fun hHeld => ?_)
              clear hK K'
              try simp only [Act.put, List.getElem_toArray, List.getElem_cons_succ, List.getElem_cons_zero, List.setIfInBounds_toArray, List.set_cons_zero, List.set_cons_succ]
              refine wpAnyH_done (by kernel_rfl) ?_ _
              go_wp2_with fail
              go_meet
              case rel =>
                obtain ⟨h0, h1, h2, h3, hg⟩ := four_alloc W3 _ _ _ _ _ _ _ _ _ rfl
                exact ⟨_, _, _, _, rfl, by first | exact h0 | exact h1 | exact h2 | exact h3, by first | exact h0 | exact h1 | exact h2 | exact h3, by first | exact h0 | exact h1 | exact h2 | exact h3, by first | exact h0 | exact h1 | exact h2 | exact h3, by omega, by omega, hg⟩
            exact AllReadyH.nil
          exact AllReadyH.nil
        exact AllReadyH.nil
      refine AllReadyH.cons (o := _) rfl (fun K' hK => ?_) ?_
      · go_simp
        refine hK.out _ _ (hHeld.kept (grown_alloc _ _)) (fun hHeld => ?_)
        clear hK K'
        try simp only [Act.put, List.getElem_toArray, List.getElem_cons_succ, List.getElem_cons_zero, List.setIfInBounds_toArray, List.set_cons_zero, List.set_cons_succ]
        refine wpAnyH_ready (rs := [6]) (by kernel_rfl) (by simp) ?_
        refine AllReadyH.cons (o := _) rfl (fun K' hK => ?_) ?_
        · go_simp
          refine hK.out _ _ (hHeld.kept (grown_alloc _ _)) (fun hHeld => ?_)
          clear hK K'
          try simp only [Act.put, List.getElem_toArray, List.getElem_cons_succ, List.getElem_cons_zero, List.setIfInBounds_toArray, List.set_cons_zero, List.set_cons_succ]
          refine wpAnyH_ready (rs := [7]) (by kernel_rfl) (by simp) ?_
          refine AllReadyH.cons (o := _) rfl (fun K' hK => ?_) ?_
          · go_simp
            refine hK.out _ _ (hHeld.kept (grown_alloc _ _)) (fun hHeld => ?_)
            clear hK K'
            try simp only [Act.put, List.getElem_toArray, List.getElem_cons_succ, List.getElem_cons_zero, List.setIfInBounds_toArray, List.set_cons_zero, List.set_cons_succ]
            refine wpAnyH_take (i := 9) (v := ?_) rfl (by kernel_rfl) (by kernel_rfl) (by kernel_rfl) (fun _ _ _ h => h) (Or.inl ⟨by rfl, ?_⟩) (by assumption) ?_
            rotate_left
            · intro W hSw
              have q1 : W.cell? ⟨w.heap.size, 1, none⟩ = some (.int .i64 (O : Int)) := hSw
              go_simp
              with_reducible rfl
            try simp only [Act.put, List.getElem_toArray, List.getElem_cons_succ, List.getElem_cons_zero, List.setIfInBounds_toArray, List.set_cons_zero, List.set_cons_succ]
            refine wpAnyH_ready (rs := [11]) (by kernel_rfl) (by simp) ?_
            refine AllReadyH.cons (o := _) rfl (fun K' hK => ?_) ?_
            · go_simp
              refine hK.out _ _ (S7.out.kept (four_grown W3 _ _ _ _)) (fun hHeld => ?_)
              clear hK K'
              try simp only [Act.put, List.getElem_toArray, List.getElem_cons_succ, List.getElem_cons_zero, List.setIfInBounds_toArray, List.set_cons_zero, List.set_cons_succ]
              refine wpAnyH_done (by kernel_rfl) ?_ _
              go_wp2_with fail
              go_meet
              case rel =>
                obtain ⟨h0, h1, h2, h3, hg⟩ := four_alloc W3 _ _ _ _ _ _ _ _ _ rfl
                exact ⟨_, _, _, _, rfl, by first | exact h0 | exact h1 | exact h2 | exact h3, by first | exact h0 | exact h1 | exact h2 | exact h3, by first | exact h0 | exact h1 | exact h2 | exact h3, by first | exact h0 | exact h1 | exact h2 | exact h3, by omega, by omega, hg⟩
            exact AllReadyH.nil
          exact AllReadyH.nil
        exact AllReadyH.nil
      exact AllReadyH.nil
    refine AllReadyH.cons (o := _) rfl (fun K' hK => ?_) ?_
    · go_simp
      refine hK.out _ _ (hHeld.kept (grown_alloc _ _)) (fun hHeld => ?_)
      clear hK K'
      try simp only [Act.put, List.getElem_toArray, List.getElem_cons_succ, List.getElem_cons_zero, List.setIfInBounds_toArray, List.set_cons_zero, List.set_cons_succ]
      refine wpAnyH_ready (rs := [6, 8]) (by kernel_rfl) (by simp) ?_
      refine AllReadyH.cons (o := _) rfl (fun K' hK => ?_) ?_
      · go_simp
        refine hK.out _ _ (hHeld.kept (grown_alloc _ _)) (fun hHeld => ?_)
        clear hK K'
        try simp only [Act.put, List.getElem_toArray, List.getElem_cons_succ, List.getElem_cons_zero, List.setIfInBounds_toArray, List.set_cons_zero, List.set_cons_succ]
        refine wpAnyH_ready (rs := [7, 8]) (by kernel_rfl) (by simp) ?_
        refine AllReadyH.cons (o := _) rfl (fun K' hK => ?_) ?_
        · go_simp
          refine hK.out _ _ (hHeld.kept (grown_alloc _ _)) (fun hHeld => ?_)
          clear hK K'
          try simp only [Act.put, List.getElem_toArray, List.getElem_cons_succ, List.getElem_cons_zero, List.setIfInBounds_toArray, List.set_cons_zero, List.set_cons_succ]
          refine wpAnyH_ready (rs := [8]) (by kernel_rfl) (by simp) ?_
          refine AllReadyH.cons (o := _) rfl (fun K' hK => ?_) ?_
          · go_simp
            refine hK.out _ _ (hHeld.kept (grown_alloc _ _)) (fun hHeld => ?_)
            clear hK K'
            try simp only [Act.put, List.getElem_toArray, List.getElem_cons_succ, List.getElem_cons_zero, List.setIfInBounds_toArray, List.set_cons_zero, List.set_cons_succ]
            refine wpAnyH_take (i := 9) (v := ?_) rfl (by kernel_rfl) (by kernel_rfl) (by kernel_rfl) (fun _ _ _ h => h) (Or.inl ⟨by rfl, ?_⟩) (by assumption) ?_
            rotate_left
            · intro W hSw
              have q1 : W.cell? ⟨w.heap.size, 1, none⟩ = some (.int .i64 (O : Int)) := hSw
              go_simp
              with_reducible rfl
            try simp only [Act.put, List.getElem_toArray, List.getElem_cons_succ, List.getElem_cons_zero, List.setIfInBounds_toArray, List.set_cons_zero, List.set_cons_succ]
            refine wpAnyH_ready (rs := [11]) (by kernel_rfl) (by simp) ?_
            refine AllReadyH.cons (o := _) rfl (fun K' hK => ?_) ?_
            · go_simp
              refine hK.out _ _ (S7.out.kept (four_grown W3 _ _ _ _)) (fun hHeld => ?_)
              clear hK K'
              try simp only [Act.put, List.getElem_toArray, List.getElem_cons_succ, List.getElem_cons_zero, List.setIfInBounds_toArray, List.set_cons_zero, List.set_cons_succ]
              refine wpAnyH_done (by kernel_rfl) ?_ _
              go_wp2_with fail
              go_meet
              case rel =>
                obtain ⟨h0, h1, h2, h3, hg⟩ := four_alloc W3 _ _ _ _ _ _ _ _ _ rfl
                exact ⟨_, _, _, _, rfl, by first | exact h0 | exact h1 | exact h2 | exact h3, by first | exact h0 | exact h1 | exact h2 | exact h3, by first | exact h0 | exact h1 | exact h2 | exact h3, by first | exact h0 | exact h1 | exact h2 | exact h3, by omega, by omega, hg⟩
            exact AllReadyH.nil
          exact AllReadyH.nil
        refine AllReadyH.cons (o := _) rfl (fun K' hK => ?_) ?_
        · go_simp
          refine hK.out _ _ (hHeld.kept (grown_alloc _ _)) (fun hHeld => ?_)
          clear hK K'
          try simp only [Act.put, List.getElem_toArray, List.getElem_cons_succ, List.getElem_cons_zero, List.setIfInBounds_toArray, List.set_cons_zero, List.set_cons_succ]
          refine wpAnyH_ready (rs := [7]) (by kernel_rfl) (by simp) ?_
          refine AllReadyH.cons (o := _) rfl (fun K' hK => ?_) ?_
          · go_simp
            refine hK.out _ _ (hHeld.kept (grown_alloc _ _)) (fun hHeld => ?_)
            clear hK K'
            try simp only [Act.put, List.getElem_toArray, List.getElem_cons_succ, List.getElem_cons_zero, List.setIfInBounds_toArray, List.set_cons_zero, List.set_cons_succ]
            refine wpAnyH_take (i := 9) (v := ?_) rfl (by kernel_rfl) (by kernel_rfl) (by kernel_rfl) (fun _ _ _ h => h) (Or.inl ⟨by rfl, ?_⟩) (by assumption) ?_
            rotate_left
            · intro W hSw
              have q1 : W.cell? ⟨w.heap.size, 1, none⟩ = some (.int .i64 (O : Int)) := hSw
              go_simp
              with_reducible rfl
            try simp only [Act.put, List.getElem_toArray, List.getElem_cons_succ, List.getElem_cons_zero, List.setIfInBounds_toArray, List.set_cons_zero, List.set_cons_succ]
            refine wpAnyH_ready (rs := [11]) (by kernel_rfl) (by simp) ?_
            refine AllReadyH.cons (o := _) rfl (fun K' hK => ?_) ?_
            · go_simp
              refine hK.out _ _ (S7.out.kept (four_grown W3 _ _ _ _)) (fun hHeld => ?_)
              clear hK K'
              try simp only [Act.put, List.getElem_toArray, List.getElem_cons_succ, List.getElem_cons_zero, List.setIfInBounds_toArray, List.set_cons_zero, List.set_cons_succ]
              refine wpAnyH_done (by kernel_rfl) ?_ _
              go_wp2_with fail
              go_meet
              case rel =>
                obtain ⟨h0, h1, h2, h3, hg⟩ := four_alloc W3 _ _ _ _ _ _ _ _ _ rfl
                exact ⟨_, _, _, _, rfl, by first | exact h0 | exact h1 | exact h2 | exact h3, by first | exact h0 | exact h1 | exact h2 | exact h3, by first | exact h0 | exact h1 | exact h2 | exact h3, by first | exact h0 | exact h1 | exact h2 | exact h3, by omega, by omega, hg⟩
            exact AllReadyH.nil
          exact AllReadyH.nil
        exact AllReadyH.nil
      refine AllReadyH.cons (o := _) rfl (fun K' hK => ?_) ?_
      · go_simp
        refine hK.out _ _ (hHeld.kept (grown_alloc _ _)) (fun hHeld => ?_)
        clear hK K'
        try simp only [Act.put, List.getElem_toArray, List.getElem_cons_succ, List.getElem_cons_zero, List.setIfInBounds_toArray, List.set_cons_zero, List.set_cons_succ]
        refine wpAnyH_ready (rs := [6]) (by kernel_rfl) (by simp) ?_
        refine AllReadyH.cons (o := _) rfl (fun K' hK => ?_) ?_
        · go_simp
          refine hK.out _ _ (hHeld.kept (grown_alloc _ _)) (fun hHeld => ?_)
          clear hK K'
          try simp only [Act.put, List.getElem_toArray, List.getElem_cons_succ, List.getElem_cons_zero, List.setIfInBounds_toArray, List.set_cons_zero, List.set_cons_succ]
          refine wpAnyH_ready (rs := [7]) (by kernel_rfl) (by simp) ?_
          refine AllReadyH.cons (o := _) rfl (fun K' hK => ?_) ?_
          · go_simp
            refine hK.out _ _ (hHeld.kept (grown_alloc _ _)) (fun hHeld => ?_)
            clear hK K'
            try simp only [Act.put, List.getElem_toArray, List.getElem_cons_succ, List.getElem_cons_zero, List.setIfInBounds_toArray, List.set_cons_zero, List.set_cons_succ]
            refine wpAnyH_take (i := 9) (v := ?_) rfl (by kernel_rfl) (by kernel_rfl) (by kernel_rfl) (fun _ _ _ h => h) (Or.inl ⟨by rfl, ?_⟩) (by assumption) ?_
            rotate_left
            · intro W hSw
              have q1 : W.cell? ⟨w.heap.size, 1, none⟩ = some (.int .i64 (O : Int)) := hSw
              go_simp
              with_reducible rfl
            try simp only [Act.put, List.getElem_toArray, List.getElem_cons_succ, List.getElem_cons_zero, List.setIfInBounds_toArray, List.set_cons_zero, List.set_cons_succ]
            refine wpAnyH_ready (rs := [11]) (by kernel_rfl) (by simp) ?_
            refine AllReadyH.cons (o := _) rfl (fun K' hK => ?_) ?_
            · go_simp
              refine hK.out _ _ (S7.out.kept (four_grown W3 _ _ _ _)) (fun hHeld => ?_)
              clear hK K'
              try simp only [Act.put, List.getElem_toArray, List.getElem_cons_succ, List.getElem_cons_zero, List.setIfInBounds_toArray, List.set_cons_zero, List.set_cons_succ]
              refine wpAnyH_done (by kernel_rfl) ?_ _
              go_wp2_with fail
              go_meet
              case rel =>
                obtain ⟨h0, h1, h2, h3, hg⟩ := four_alloc W3 _ _ _ _ _ _ _ _ _ rfl
                exact ⟨_, _, _, _, rfl, by first | exact h0 | exact h1 | exact h2 | exact h3, by first | exact h0 | exact h1 | exact h2 | exact h3, by first | exact h0 | exact h1 | exact h2 | exact h3, by first | exact h0 | exact h1 | exact h2 | exact h3, by omega, by omega, hg⟩
            exact AllReadyH.nil
          exact AllReadyH.nil
        exact AllReadyH.nil
      exact AllReadyH.nil
    exact AllReadyH.nil
  case rest =>
    obtain ⟨b, b4, b6, bi, rfl, hb, h4, h6, hi, hne, hB, hg⟩ := hcut
    have HNe : Hid (b4 ≠ b ∧ b6 ≠ b ∧ bi ≠ b) := hne
    have HBb : Hid (W3.heap.size ≤ b) := hB
    have hbs : b < wc.heap.size := (Array.getElem?_eq_some_iff.1 hb).1
    have HBs : Hid (b < wc.heap.size) := hbs
    have G3c : Hid (W3.grownBy wc none) := hg
    have HBo : Hid (∀ W, wc.grownBy W none → W.heap[b]? = some (.cells #[.int .i64 (O : Int), .int .i64 (O : Int), .int .i64 0, .slice none 0 0, .slice (some ⟨b4, 0, none⟩) 1 1, .slice none 0 0, .slice (some ⟨b6, 0, none⟩) 1 1] 26 (0, 0))) := fun W hW => (hW.block _ hbs (by simp)).trans hb
    have HC4 : Hid (∀ W, wc.grownBy W none → W.cell? ⟨b4, 0, none⟩ = some (.slice (some ⟨bi, 0, none⟩) O O)) := fun W hW => hW.cell (by rw [cell_of_row _ _ _ _ _ (0, 0) h4]; rfl) (by simp)
    have HC6 : Hid (∀ W, wc.grownBy W none → W.cell? ⟨b6, 0, none⟩ = some (.slice none 0 0)) := fun W hW => hW.cell (by rw [cell_of_row _ _ _ _ _ (0, 0) h6]; rfl) (by simp)
    have HCi : Hid (∀ W, wc.grownBy W none → ∀ i, i < O → W.cell? ⟨bi, i, none⟩ = some (.int .i64 0)) := fun W hW i hi' => hW.cell (by rw [cell_of_row _ _ _ _ _ (0, 0) hi]; simp [hi']) (by simp)
    have O0 : Hid (OwnsP wc.heap.size 0 wc.heap.size wc [(22, .slice none 0 0, valsT [])] []) := OwnsP.no.empty _
    clear hb h4 h6 hi hne hB hg hbs hmk S7
    go_wp2_with fail
    go_loopw [7, 6] (fun v7 v6 W => ∃ (a : Nat) (aS : Option Addr) (cS : Nat) (qs : List Trip), v7 = .int .i64 (a : Int) ∧ v6 = .slice aS a cS ∧ a ≤ O ∧ OwnsP wc.heap.size 0 wc.heap.size W [(22, .slice aS a cS, valsT qs)] qs ∧ qs.length = a ∧ wordsT qs = (List.range a).map (fun i => [((i : Nat) : Int)]) ∧ wc.grownBy W none) (fun v _ _ => O - (intOf v).toNat)
    case atStart => exact ⟨0, none, 0, [], rfl, rfl, Nat.zero_le _, O0.out, rfl, rfl, grown_refl _ _⟩
    case round =>
      clear O0
      obtain ⟨wa, hwa⟩ : ∃ W, W = wr := ⟨_, rfl⟩
      subst hwa
      obtain ⟨a, aS, cS, qs, rfl, rfl, ha, ho, hq, hqw, hg⟩ := hrel
      have HOw : Hid (OwnsP wc.heap.size 0 wc.heap.size wa [(22, .slice aS a cS, valsT qs)] qs) := ho
      have HQ : Hid (qs.length = a ∧ wordsT qs = (List.range a).map (fun i => [((i : Nat) : Int)])) := ⟨hq, hqw⟩
      have Gca : Hid (wc.grownBy wa none) := hg
      have G3a : Hid (W3.grownBy wa none) := grown_trans G3c.out hg
      have GAa : Hid (A7.grownBy wa none) := grown_trans GW3.out G3a.out
      have x1 := (BX.out wa GAa.out).b1
      rw [HXO.out] at x1
      clear ho hq hqw hg
      by_cases hao : a < O
      · have il : (a : Int) < (O : Int) := by omega
        obtain ⟨Wa, hWa⟩ : ∃ W, W = wa.alloc (.cells #[.int .i64 (a : Int)] 3) := ⟨_, rfl⟩
        have gWa : wa.grownBy Wa none := by rw [hWa]; exact grown_alloc _ _
        have sWa : Wa.heap.size = wa.heap.size + 1 := by rw [hWa, World.size_alloc]
        have iWa : Ints Wa (some ⟨wa.heap.size, 0, none⟩) [(a : Int)] := by rw [hWa]; exact lit_int wa a
        have h1 := HOw.out.word (w' := Wa) (Nat.zero_le _) Gca.out.size gWa iWa (fun _ z hz => by cases hz; exact .inr (Nat.le_refl _)) 1
        obtain ⟨gR, cR, w2, hr, h3, h4, h5⟩ := h1.pushS (n := a) (by simp [valsT, HQ.out.1]) (Nat.le_trans Gca.out.size gWa.size) sWa (by omega) (.slice (some ⟨wa.heap.size, 0, none⟩) 1 1) rfl
        have e : valsT qs ++ [Value.slice (some ⟨wa.heap.size, 0, none⟩) 1 1] = valsT (qs ++ [((some ⟨wa.heap.size, 0, none⟩ : Option Addr), 1, [(a : Int)])]) := by simp [valsT, valT]
        rw [e] at h3
        have HOw2 : Hid (OwnsP wc.heap.size 0 wc.heap.size w2 [(22, .slice (some ⟨gR, 0, none⟩) (a + 1) cR, valsT (qs ++ [((some ⟨wa.heap.size, 0, none⟩ : Option Addr), 1, [(a : Int)])]))] (qs ++ [((some ⟨wa.heap.size, 0, none⟩ : Option Addr), 1, [(a : Int)])])) := h3.sub (fun p hp => by
          rcases List.mem_append.1 hp with hp | hp
          · exact List.mem_cons_of_mem _ hp
          · rw [List.mem_singleton.1 hp]; exact List.mem_cons_self)
        have HG2 : Hid (wc.grownBy w2 none) := h4 wc (Nat.le_refl _) (grown_trans Gca.out gWa)
        have HQ2 : Hid ((qs ++ [((some ⟨wa.heap.size, 0, none⟩ : Option Addr), 1, [(a : Int)])]).length = a + 1 ∧ wordsT (qs ++ [((some ⟨wa.heap.size, 0, none⟩ : Option Addr), 1, [(a : Int)])]) = (List.range (a + 1)).map (fun i => [((i : Nat) : Int)])) := by
          refine ⟨by rw [List.length_append, HQ.out.1]; rfl, ?_⟩
          rw [List.range_succ, List.map_append, ← HQ.out.2, List.map_cons, List.map_nil]
          simp [wordsT]
        rw [hWa] at hr
        have ha4 : a < 4 := by omega
        clear h1 h3 h4 h5 e hWa gWa sWa iWa
        go_wp2_with fail
        go_roundw
        case rel => exact ⟨a + 1, _, _, _, by go_num, rfl, by omega, HOw2.out, HQ2.out.1, HQ2.out.2, HG2.out⟩
        case measure => simp [intOf]; omega
      · have il : ¬ (a : Int) < (O : Int) := by omega
        have hae : a = O := by omega
        subst hae
        obtain ⟨Wy, hWy⟩ : ∃ W, W = wa.alloc (.cells #[.slice aS a cS] 23) := ⟨_, rfl⟩
        have gWy : wa.grownBy Wy none := by rw [hWy]; exact grown_alloc _ _
        have gcy : wc.grownBy Wy none := grown_trans Gca.out gWy
        have hby := HBo.out Wy gcy
        obtain ⟨W6, hW6⟩ : ∃ W, W = Wy.setCell ⟨b, 5, none⟩ (.slice (some ⟨wa.heap.size, 0, none⟩) 1 1) := ⟨_, rfl⟩
        have g6 : Wy.grownBy W6 (some b) := by rw [hW6]; exact grown_set _ _ _
        have hb6 := heap_setCell_same Wy b 5 _ _ (.slice (some ⟨wa.heap.size, 0, none⟩) 1 1) hby
        rw [← hW6] at hb6
        have HW6 : Hid (W6 = (wa.alloc (.cells #[.slice aS a cS] 23)).setCell ⟨b, 5, none⟩ (.slice (some ⟨wa.heap.size, 0, none⟩) 1 1)) := by show _ = _; rw [hW6, hWy]
        have g36 : W3.grownBy W6 none := grown_new (grown_trans G3a.out gWy) g6 HBb.out
        have GW6 : Hid (A7.grownBy W6 none) := grown_trans GW3.out g36
        have G36 : Hid (W3.grownBy W6 none) := g36
        have far : ∀ k i v, k ≠ b → Wy.cell? ⟨k, i, none⟩ = some v → W6.cell? ⟨k, i, none⟩ = some v := fun k i v hk hv => g6.cell hv (by simpa using hk)
        have hY0 : Wy.cell? ⟨wa.heap.size, 0, none⟩ = some (.slice aS a cS) := by
          have h := heap_alloc_new wa (.cells #[.slice aS a cS] 23)
          rw [hWy, cell_of_row _ _ _ _ _ (0, 0) h]; rfl
        have hTI : TnAt W6 (idT a) none (some ⟨b4, 0, none⟩) (some ⟨wa.heap.size, 0, none⟩) (some ⟨b6, 0, none⟩) := by
          refine ⟨.inl rfl, .inr ⟨b4, 0, rfl, fun i hi => ?_⟩, .inr ⟨wa.heap.size, 0, rfl, fun i hi => ?_⟩, .inr ⟨b6, 0, rfl, fun i hi => ?_⟩, by show (0 : Nat) ≤ maxLen; unfold maxLen; omega, by show (1 : Nat) ≤ maxLen; unfold maxLen; omega, by show (1 : Nat) ≤ maxLen; unfold maxLen; omega, by show (1 : Nat) ≤ maxLen; unfold maxLen; omega⟩
          · have : i = 0 := by have : i < 1 := hi; omega
            subst this
            have hl : ((idT a).N.getD 0 []).length = a := by show (List.replicate a (0 : Int)).length = a; simp
            rw [hl]
            refine ⟨some ⟨bi, 0, none⟩, a, far _ _ _ HNe.out.1 (HC4.out Wy gcy), .inr ⟨bi, 0, rfl, fun j hj => ?_⟩, by unfold maxLen; omega⟩
            rw [hl] at hj
            have : ((idT a).N.getD 0 []).getD j 0 = 0 := by show (List.replicate a (0 : Int)).getD j 0 = 0; simp [List.getD, hj]
            rw [this, Nat.zero_add]
            exact far _ _ _ HNe.out.2.2 (HCi.out Wy gcy j hj)
          · have : i = 0 := by have : i < 1 := hi; omega
            subst this
            have hl : ((idT a).Y.getD 0 []).length = a := by show ((List.range a).map fun k => [((k : Nat) : Int)]).length = a; simp
            rw [hl]
            refine ⟨aS, cS, far _ _ _ (by have h7 := HBs.out; have h8 := Gca.out.size; omega) hY0, ?_, by unfold maxLen; omega⟩
            have ho6 := (HOw.out.kept gWy).below g6 HBs.out (Nat.zero_le _) HBs.out
            obtain ⟨ay, cy, ey, ty, _⟩ := item_trip (ho6.own.1 (22, .slice aS a cS, valsT qs) (by simp))
            simp only [Value.slice.injEq] at ey
            have e2 : (idT a).Y.getD 0 [] = wordsT qs := by rw [HQ.out.2]; rfl
            rw [e2, ey.1]
            refine ty.rows (fun p hp => ⟨ho6.lie p hp, ?_⟩)
            have h9 : p.2.2 ∈ wordsT qs := List.mem_map.2 ⟨p, hp, rfl⟩
            rw [HQ.out.2] at h9
            obtain ⟨k, _, ek⟩ := List.mem_map.1 h9
            rw [← ek]
            show (1 : Nat) ≤ maxLen
            unfold maxLen
            omega
          · have : i = 0 := by have : i < 1 := hi; omega
            subst this
            exact ⟨none, 0, far _ _ _ HNe.out.2.1 (HC6.out Wy gcy), .inl rfl, by show (0 : Nat) ≤ maxLen; unfold maxLen; omega⟩
        have HBh : Hid (Calls Try.prog 6 #[tnV x.I x.O x.S a3 x.F.length c3 a4 x.N.length c4 a5 x.Y.length c5 a6 x.E.length c6, tnV (a : Int) (a : Int) 0 none 0 0 (some ⟨b4, 0, none⟩) 1 1 (some ⟨wa.heap.size, 0, none⟩) 1 1 (some ⟨b6, 0, none⟩) 1 1] W6 (BehA x (idT a) W6)) := behA_any x (idT a) a3 a4 a5 a6 c3 c4 c5 c6 none (some ⟨b4, 0, none⟩) (some ⟨wa.heap.size, 0, none⟩) (some ⟨b6, 0, none⟩) 0 1 1 1 W6 (HTX.out W6 GW6.out) hTI
        have p5 := (box7_of hby).1.b5
        have f5 := (box7_of hby).2 5
        have bid := (box7_of hb6).1
        have y0 := (BX.out W6 GW6.out).b0
        have y1 := (BX.out W6 GW6.out).b1
        have y2 := (BX.out W6 GW6.out).b2
        have y3 := (BX.out W6 GW6.out).b3
        have y4 := (BX.out W6 GW6.out).b4
        have y5 := (BX.out W6 GW6.out).b5
        have y6 := (BX.out W6 GW6.out).b6
        have v0 := (bid).b0
        have v1 := (bid).b1
        have v2 := (bid).b2
        have v3 := (bid).b3
        have v4 := (bid).b4
        have v5 := (bid).b5
        have v6 := (bid).b6
        rw [hW6, hWy] at y0 y1 y2 y3 y4 y5 y6 v0 v1 v2 v3 v4 v5 v6
        rw [hWy] at p5 f5
        clear hWy gWy gcy hby hW6 g6 hb6 g36 far hY0 hTI bid HBo HC4 HC6 HCi HOw HQ
        go_wp2_with fail
        rw [← HW6.out]
        clear y0 y1 y2 y3 y4 y5 y6 v0 v1 v2 v3 v4 v5 v6 p5 f5 x1
        refine HBh.out.mono ?_
        rintro E w7 ⟨z3, R3, p3_3, p3_4, p3_5, p3_6, m3_3, m3_4, m3_5, m3_6, rfl, hg7, ht3, hc3, ho3, hb3⟩
        have hz3 : z3 = 0 := by
          rcases Decidable.em (z3 = 0) with h | h
          · exact h
          · obtain ⟨L, h1, h2, h3, h4⟩ := hb3 HGx.out (id_good hO1.1 hO1.2) HXO.out h
            have h5 := top_same HGx.out HXO.out HLs.out h1 h2 h3
            subst h5
            exact absurd ⟨HGR.out.size.2, HGR.out.little⟩ h4
        subst hz3
        have o3 := ho3 rfl
        have hR3 : R3 = R2 := top_same HGx.out HXO.out HLs.out o3.2.2.2.2.2.2.1 o3.2.2.2.2.2.1 o3.2.2.2.2.2.2.2
        subst hR3
        obtain ⟨W8, hW8, gW8, sW8, bW8⟩ := box7_new w7 R3.I R3.O R3.S p3_3 R3.F.length m3_3 p3_4 R3.N.length m3_4 p3_5 R3.Y.length m3_5 p3_6 R3.E.length m3_6
        have HW8 : Hid (W8 = _) := hW8
        have G38 : Hid (W3.grownBy W8 none) := grown_trans G36.out (grown_trans hg7 gW8)
        have GW8 : Hid (A7.grownBy W8 none) := grown_trans GW3.out G38.out
        have HDf : Hid (Calls Try.prog 17 #[tnV R3.I R3.O R3.S p3_3 R3.F.length m3_3 p3_4 R3.N.length m3_4 p3_5 R3.Y.length m3_5 p3_6 R3.E.length m3_6, tnV R3.I R3.O R3.S p2_3 R3.F.length m2_3 p2_4 R3.N.length m2_4 p2_5 R3.Y.length m2_5 p2_6 R3.E.length m2_6] W8 (DifA R3 R3 W8)) := difA_any R3 R3 p3_3 p3_4 p3_5 p3_6 m3_3 m3_4 m3_5 m3_6 p2_3 p2_4 p2_5 p2_6 m2_3 m2_4 m2_5 m2_6 W8 (ht3.grown gW8) (TR2.out W8 G38.out) hc3 HC2.out
        have unn : ((R3.N.length : Int) != (R3.N.length : Int)) = false := by simp
        have y0 := (bW8).b0
        have y1 := (bW8).b1
        have y2 := (bW8).b2
        have y3 := (bW8).b3
        have y4 := (bW8).b4
        have y5 := (bW8).b5
        have y6 := (bW8).b6
        have v0 := (BR2.out W8 G38.out).b0
        have v1 := (BR2.out W8 G38.out).b1
        have v2 := (BR2.out W8 G38.out).b2
        have v3 := (BR2.out W8 G38.out).b3
        have v4 := (BR2.out W8 G38.out).b4
        have v5 := (BR2.out W8 G38.out).b5
        have v6 := (BR2.out W8 G38.out).b6
        rw [hW8] at y0 y1 y2 y3 y4 y5 y6 v0 v1 v2 v3 v4 v5 v6
        clear hg7 ht3 hc3 ho3 hb3 o3 hW8 gW8 sW8 bW8
        go_wp2_with fail
        rw [← HW8.out]
        clear y0 y1 y2 y3 y4 y5 y6 v0 v1 v2 v3 v4 v5 v6 unn
        refine HDf.out.mono ?_
        rintro E w9 ⟨z4, b9, a9, n9, c9, rfl, hg9, ho9, hz9⟩
        obtain rfl : z4 = 0 := hz9 HGR.out HGR.out rfl rfl
        obtain rfl : b9 = false := by
          cases b9 with
          | false => rfl
          | true =>
            obtain ⟨us, _, hn⟩ := (ho9 rfl).2.2.2.2.1 rfl
            exact absurd rfl hn
        have GF : Hid (w.grownBy w9 none) := grown_trans GA.out (grown_trans GW8.out hg9)
        clear hg9 ho9 hz9
        go_wp2_with fail
        go_ret
        exact ⟨rfl, GF.out⟩

end Go.Proofs.Ytodcmlcpicabaaa
