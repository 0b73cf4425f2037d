/- The config behind a rule: the program's Step. -/
import Derived.Test.YthnbiiipfcogeaaSkChk
import Derived.Test.YthnbiiipfcogeaaSkCat
import Derived.Deep.RegionHeld3
namespace Go.Proofs.Ythnbiiipfcogeaa
open Go.RowKit
set_option linter.unusedVariables false

/-- Two boxes: a config, and a result. -/
theorem step_boxes (w : World) (c : Int) (v : Value) (t : TypeId) : ∃ W, W = ((w.alloc (.cells #[.int .i64 c, v] t)).alloc (.cells #[.int .i64 0, .slice none 0 0] t)).alloc (.cells #[.int .i64 c, v] t) ∧ w.grownBy W none ∧ W.heap.size = w.heap.size + 3 ∧ W.heap[w.heap.size + 1]? = some (.cells #[.int .i64 0, .slice none 0 0] t (0, 0)) ∧ ∀ W', W.grownBy W' none → W'.cell? ⟨w.heap.size, 0, none⟩ = some (.int .i64 c) ∧ W'.cell? ⟨w.heap.size, 1, none⟩ = some v ∧ W'.cell? ⟨w.heap.size + 2, 0, none⟩ = some (.int .i64 c) ∧ W'.cell? ⟨w.heap.size + 2, 1, none⟩ = some v := by
  obtain ⟨W0, hW0, g0, s0, bx0⟩ := box2_new w (.int .i64 c) v t
  obtain ⟨W1, hW1, g1, s1, bx1⟩ := box2_new W0 (.int .i64 0) (.slice none 0 0) t
  obtain ⟨W2, hW2, g2, s2, bx2⟩ := box2_new W1 (.int .i64 c) v t
  have hrb := heap_alloc_new W0 (.cells #[.int .i64 0, .slice none 0 0] t)
  rw [← hW1, s0] at hrb
  have hr2 : W2.heap[w.heap.size + 1]? = some (.cells #[.int .i64 0, .slice none 0 0] t (0, 0)) := (g2.block _ (by omega) (by simp)).trans hrb
  refine ⟨W2, by rw [hW2, hW1, hW0], grown_trans g0 (grown_trans g1 g2), by omega, hr2, fun W' hW' => ?_⟩
  obtain ⟨a0, a1⟩ := bx0 W' (grown_trans g1 (grown_trans g2 hW'))
  obtain ⟨b0, b1⟩ := bx2 W' hW'
  have e : W1.heap.size = w.heap.size + 2 := by omega
  rw [e] at b0 b1
  exact ⟨a0, a1, b0, b1⟩
/-- The box of a result is written. -/
theorem cfg_store {W : World} {B : Nat} {t : TypeId} (h : W.heap[B]? = some (.cells #[.int .i64 0, .slice none 0 0] t (0, 0))) (c : Int) (v : Value) :
    W.cell? ⟨B, 0, none⟩ = some (.int .i64 0) ∧ W.cell? ⟨B, 1, none⟩ = some (.slice none 0 0) ∧ W.frozen? ⟨B, 0, none⟩ = false ∧ W.frozen? ⟨B, 1, none⟩ = false ∧ ∃ W', W' = (W.setCell ⟨B, 0, none⟩ (.int .i64 c)).setCell ⟨B, 1, none⟩ v ∧ W.grownBy W' (some B) ∧ W'.cell? ⟨B, 0, none⟩ = some (.int .i64 c) ∧ W'.cell? ⟨B, 1, none⟩ = some v := by
  have h1 := heap_setCell_same W B 0 _ _ (.int .i64 c) h
  have h2 := heap_setCell_same _ B 1 _ _ v h1
  refine ⟨by rw [cell_of_row _ _ 0 _ _ (0, 0) h]; rfl, by rw [cell_of_row _ _ 1 _ _ (0, 0) h]; rfl, frozen_of_row _ _ _ _ _ h, frozen_of_row _ _ _ _ _ h, _, rfl, grown_trans (grown_set _ _ _) (grown_set _ _ _), ?_, ?_⟩
  · rw [cell_of_row _ _ 0 _ _ (0, 0) h2]; simp
  · rw [cell_of_row _ _ 1 _ _ (0, 0) h2]; simp

set_option maxHeartbeats 3200000 in
set_option maxRecDepth 100000 in
theorem step_bad (L : List Psh) (c : Cfg) (a b : Option Addr) (d k : Nat) (rule : Int) (w : World) (h : PushAt w a L) (hm : L.length ≤ maxLen) (hc : Ints w b c.2) (hcm : c.2.length ≤ maxLen) (hy : allSk L [c] ≠ 0) :
    Calls Try.prog 5 #[.slice a L.length d, cfgV c.1 b c.2.length k, .int .i64 rule] w (Says (.tuple #[cfgV 0 none 0 0, .int .i64 (allSk L [c])]) w) := by
  obtain ⟨W3, hW3, g3, s3, hr3, bx3⟩ := step_boxes w c.1 (.slice b c.2.length k) 25
  have HK : Hid (Calls Try.prog 6 #[.slice a L.length d, .slice (some ⟨w.heap.size + 2, 0, none⟩) 1 1] W3 (Says (.int .i64 (allSk L [c])) W3)) :=
    checkAll_any a d (w.heap.size + 2) L [c] W3 (h.grown g3) hm (fun i hi => by
      have e : i = 0 := by simpa using hi
      subst e
      obtain ⟨_, _, b0, b1⟩ := bx3 W3 (grown_refl _ _)
      exact ⟨b0, b, k, b1, hc.grown g3, hcm⟩) (by simp)
  obtain ⟨x0, x1, _, _⟩ := bx3 W3 (grown_refl _ _)
  have HW3 : Hid (W3 = _) := hW3
  have G3 : Hid (w.grownBy W3 none) := g3
  have HR : Hid (W3.heap[w.heap.size + 1]? = some (.cells #[.int .i64 0, .slice none 0 0] 25 (0, 0)) ∧ W3.heap.size = w.heap.size + 3) := ⟨hr3, s3⟩
  rw [hW3] at x0 x1
  obtain ⟨c0, cs⟩ := c
  simp only at *
  generalize allSk L [(c0, cs)] = y at *
  have e1 : (y != 0) = true := by simpa using hy
  generalize cs.length = n at *
  clear h hm hc hcm hy hW3 g3 s3 hr3 bx3
  go_enter Try.func5, Try.ntmps5
  go_wp2_with fail
  rw [← HW3.out]
  refine HK.out.mono ?_
  rintro E w2 ⟨rfl, hg2⟩
  have hr2 : w2.heap[w.heap.size + 1]? = some (.cells #[.int .i64 0, .slice none 0 0] 25 (0, 0)) := (hg2.block _ (by have := HR.out.2; omega) (by simp)).trans HR.out.1
  obtain ⟨xr0, xr1, fr0, fr1, W5, hW5, g5, xw0, xw1⟩ := cfg_store hr2 0 (.slice none 0 0)
  have HW5 : Hid (W5 = _) := hW5
  have GF : Hid (w.grownBy W5 none) := grown_new (grown_trans G3.out hg2) g5 (by omega)
  clear hg2 hr2 hW5 g5
  go_wp2_with fail
  rw [← HW5.out]
  exact bodyPost_ret (v := .tuple #[cfgV 0 none 0 0, .int .i64 y]) (by simp [results, Try.results5, go_sem, xw0, xw1]) rfl ⟨rfl, GF.out⟩

/-! Behind the check. -/

set_option maxHeartbeats 3200000 in
set_option maxRecDepth 100000 in
theorem step_name (L : List Psh) (c : Cfg) (a b : Option Addr) (d k : Nat) (rule : Int) (w : World) (h : PushAt w a L) (hm : L.length ≤ maxLen) (hc : Ints w b c.2) (hcm : c.2.length ≤ maxLen) (hy : allSk L [c] = 0) (hn : rule < 0 ∨ (L.length : Int) ≤ rule) :
    Calls Try.prog 5 #[.slice a L.length d, cfgV c.1 b c.2.length k, .int .i64 rule] w (Says (.tuple #[cfgV 0 none 0 0, .int .i64 5]) w) := by
  obtain ⟨W3, hW3, g3, s3, hr3, bx3⟩ := step_boxes w c.1 (.slice b c.2.length k) 25
  have HK : Hid (Calls Try.prog 6 #[.slice a L.length d, .slice (some ⟨w.heap.size + 2, 0, none⟩) 1 1] W3 (Says (.int .i64 0) W3)) := by
    have := checkAll_any a d (w.heap.size + 2) L [c] W3 (h.grown g3) hm (fun i hi => by
      have e : i = 0 := by simpa using hi
      subst e
      obtain ⟨_, _, b0, b1⟩ := bx3 W3 (grown_refl _ _)
      exact ⟨b0, b, k, b1, hc.grown g3, hcm⟩) (by simp)
    rw [hy] at this
    exact this
  obtain ⟨x0, x1, _, _⟩ := bx3 W3 (grown_refl _ _)
  have HW3 : Hid (W3 = _) := hW3
  have G3 : Hid (w.grownBy W3 none) := g3
  have HR : Hid (W3.heap[w.heap.size + 1]? = some (.cells #[.int .i64 0, .slice none 0 0] 25 (0, 0)) ∧ W3.heap.size = w.heap.size + 3) := ⟨hr3, s3⟩
  have BX : Hid (∀ W', W3.grownBy W' none → W'.cell? ⟨w.heap.size, 0, none⟩ = some (.int .i64 c.1) ∧ W'.cell? ⟨w.heap.size, 1, none⟩ = some (.slice b c.2.length k)) := fun W' hW' => ⟨(bx3 W' hW').1, (bx3 W' hW').2.1⟩
  rw [hW3] at x0 x1
  unfold maxLen at hm
  generalize L.length = nL at *
  clear h hc hcm hy hW3 g3 s3 hr3 bx3
  by_cases h0 : rule < 0
  · have e0 : decide (rule < 0) = true := by simpa using h0
    clear h0 hn
    go_enter Try.func5, Try.ntmps5
    go_wp2_with fail
    rw [← HW3.out]
    clear x0 x1
    refine HK.out.mono ?_
    rintro E w2 ⟨rfl, hg2⟩
    have G2 : Hid (W3.grownBy w2 none) := hg2
    have GZ := hg2
    have hr2 : w2.heap[w.heap.size + 1]? = some (.cells #[.int .i64 0, .slice none 0 0] 25 (0, 0)) := (GZ.block _ (by have := HR.out.2; omega) (by simp)).trans HR.out.1
    obtain ⟨xr0, xr1, fr0, fr1, W5, hW5, g5, xw0, xw1⟩ := cfg_store hr2 0 (.slice none 0 0)
    have HW5 : Hid (W5 = _) := hW5
    have GF : Hid (w.grownBy W5 none) := grown_new (grown_trans G3.out GZ) g5 (by omega)
    clear hg2 hr2 hW5 g5 GZ
    go_wp2_with fail
    rw [← HW5.out]
    exact bodyPost_ret (v := .tuple #[cfgV 0 none 0 0, .int .i64 5]) (by simp [results, Try.results5, go_sem, xw0, xw1]) rfl ⟨rfl, GF.out⟩
  · have e0 : decide (rule < 0) = false := by simpa using h0
    have e1 : decide ((nL : Int) ≤ rule) = true := by simp; omega
    clear h0 hn
    go_enter Try.func5, Try.ntmps5
    go_wp2_with fail
    rw [← HW3.out]
    clear x0 x1
    refine HK.out.mono ?_
    rintro E w2 ⟨rfl, hg2⟩
    have G2 : Hid (W3.grownBy w2 none) := hg2
    have GZ := hg2
    have hr2 : w2.heap[w.heap.size + 1]? = some (.cells #[.int .i64 0, .slice none 0 0] 25 (0, 0)) := (GZ.block _ (by have := HR.out.2; omega) (by simp)).trans HR.out.1
    obtain ⟨xr0, xr1, fr0, fr1, W5, hW5, g5, xw0, xw1⟩ := cfg_store hr2 0 (.slice none 0 0)
    have HW5 : Hid (W5 = _) := hW5
    have GF : Hid (w.grownBy W5 none) := grown_new (grown_trans G3.out GZ) g5 (by omega)
    clear hg2 hr2 hW5 g5 GZ
    go_wp2_with fail
    rw [← HW5.out]
    exact bodyPost_ret (v := .tuple #[cfgV 0 none 0 0, .int .i64 5]) (by simp [results, Try.results5, go_sem, xw0, xw1]) rfl ⟨rfl, GF.out⟩

/-- A rule's box, and a config's, while they are read. -/
structure SkBx (B cb : Nat) (W0 W : World) (r : Psh) (c : Cfg) (ap b : Option Addr) (cp k : Nat) : Prop where
  g : W0.grownBy W none
  r0 : W.cell? ⟨B, 0, none⟩ = some (.int .i64 r.F)
  r1 : W.cell? ⟨B, 1, none⟩ = some (.int .i64 r.T)
  r2 : W.cell? ⟨B, 2, none⟩ = some (.int .i64 r.O)
  r3 : W.cell? ⟨B, 3, none⟩ = some (.slice ap r.P.length cp)
  c0 : W.cell? ⟨cb, 0, none⟩ = some (.int .i64 c.1)
  c1 : W.cell? ⟨cb, 1, none⟩ = some (.slice b c.2.length k)
theorem SkBx.kept {B cb : Nat} {W0 W W' : World} {r : Psh} {c : Cfg} {ap b : Option Addr} {cp k : Nat} (h : SkBx B cb W0 W r c ap b cp k) (hg : W.grownBy W' none) : SkBx B cb W0 W' r c ap b cp k :=
  ⟨grown_trans h.g hg, hg.cell h.r0 (by simp), hg.cell h.r1 (by simp), hg.cell h.r2 (by simp), hg.cell h.r3 (by simp), hg.cell h.c0 (by simp), hg.cell h.c1 (by simp)⟩

set_option maxHeartbeats 6400000 in
set_option maxRecDepth 100000 in
theorem step_none (L : List Psh) (c : Cfg) (a b : Option Addr) (d k r : Nat) (w : World) (h : PushAt w a L) (hm : L.length ≤ maxLen) (hc : Ints w b c.2) (hcm : c.2.length ≤ maxLen) (hy : allSk L [c] = 0) (hr : r < L.length) (hno : ¬ CanSk (L.getD r pu0) c) :
    Calls Try.prog 5 #[.slice a L.length d, cfgV c.1 b c.2.length k, .int .i64 (r : Int)] w (Says (.tuple #[cfgV 0 none 0 0, .int .i64 6]) w) := by
  obtain ⟨W3, hW3, g3, s3, hr3, bx3⟩ := step_boxes w c.1 (.slice b c.2.length k) 25
  have HK : Hid (Calls Try.prog 6 #[.slice a L.length d, .slice (some ⟨w.heap.size + 2, 0, none⟩) 1 1] W3 (Says (.int .i64 0) W3)) := by
    have := checkAll_any a d (w.heap.size + 2) L [c] W3 (h.grown g3) hm (fun i hi => by
      have e : i = 0 := by simpa using hi
      subst e
      obtain ⟨_, _, b0, b1⟩ := bx3 W3 (grown_refl _ _)
      exact ⟨b0, b, k, b1, hc.grown g3, hcm⟩) (by simp)
    rw [hy] at this
    exact this
  obtain ⟨x0, x1, _, _⟩ := bx3 W3 (grown_refl _ _)
  have HW3 : Hid (W3 = _) := hW3
  have G3 : Hid (w.grownBy W3 none) := g3
  have HR : Hid (W3.heap[w.heap.size + 1]? = some (.cells #[.int .i64 0, .slice none 0 0] 25 (0, 0)) ∧ W3.heap.size = w.heap.size + 3) := ⟨hr3, s3⟩
  have BX : Hid (∀ W', W3.grownBy W' none → W'.cell? ⟨w.heap.size, 0, none⟩ = some (.int .i64 c.1) ∧ W'.cell? ⟨w.heap.size, 1, none⟩ = some (.slice b c.2.length k)) := fun W' hW' => ⟨(bx3 W' hW').1, (bx3 W' hW').2.1⟩
  rw [hW3] at x0 x1
  unfold maxLen at hm hcm
  have e0 : decide ((r : Int) < 0) = false := by simp
  have e1 : decide ((L.length : Int) ≤ (r : Int)) = false := by simp; omega
  have e2 : (r : Int) < (L.length : Int) := by omega
  have HL : Hid (∀ W, w.grownBy W none → PushAt W a L) := fun W hW => h.grown hW
  have HI : Hid (∀ W, w.grownBy W none → Ints W b c.2) := fun W hW => hc.grown hW
  have HN : Hid (¬ CanSk (L.getD r pu0) c) := hno
  clear h hc hy hW3 g3 s3 hr3 bx3 hno
  go_enter Try.func5, Try.ntmps5
  go_wp2_with fail
  rw [← HW3.out]
  clear x0 x1
  refine HK.out.mono ?_
  rintro E w2 ⟨rfl, hg2⟩
  have G2 : Hid (W3.grownBy w2 none) := hg2
  have hlt' : r < L.length := hr
  obtain ⟨bb, off, rfl, hcl⟩ := (HL.out w2 (grown_trans G3.out hg2)).at hlt'
  obtain ⟨y0, y1, y2, ap, cp, y3, y4, y5⟩ := hcl r hlt'
  obtain ⟨Wb, hWb, gb, sb, bx⟩ := box4s_new w2 (.int .i64 (L.getD r pu0).F) (.int .i64 (L.getD r pu0).T) (.int .i64 (L.getD r pu0).O) (.slice ap (L.getD r pu0).P.length cp) 27
  obtain ⟨t0, t1, t2, t3⟩ := bx Wb (grown_refl _ _)
  obtain ⟨v0, v1⟩ := BX.out Wb (grown_trans hg2 gb)
  have HWb : Hid (Wb = _) := hWb
  have SB : Hid (SkBx w2.heap.size w.heap.size W3 Wb (L.getD r pu0) c ap b cp k) := ⟨grown_trans hg2 gb, t0, t1, t2, t3, v0, v1⟩
  have IP : Hid (Ints Wb ap (L.getD r pu0).P) := y4.grown gb
  have IC : Hid (Ints Wb b c.2) := HI.out Wb (grown_trans G3.out (grown_trans hg2 gb))
  clear hcl y4 sb bx hg2 gb
  rw [hWb] at t0 t1 t2 t3 v0 v1
  unfold CanSk at HN
  clear hWb IP
  have GY : Hid (∀ q, W3.grownBy (Wb.drewN q) none) := fun q => grown_drewN SB.out.g q
  obtain ⟨c0, cs⟩ := c
  simp only at *
  generalize L.getD r pu0 = x at *
  obtain ⟨xF, xT, xO, xP⟩ := x
  simp only at *
  have HCs : Hid (∀ (q : Nat) (z : Int), cs.length = q → cs.getD 0 0 = z → ¬ (c0 = xF ∧ 0 < q ∧ z = xT)) := fun q z hq hz e => HN.out (by rw [hq, hz]; exact e)
  obtain ⟨nc, hnc⟩ : ∃ q, cs.length = q := ⟨_, rfl⟩
  obtain ⟨z0, hz0⟩ : ∃ q, cs.getD 0 0 = q := ⟨_, rfl⟩
  have HC : Hid (¬ (c0 = xF ∧ 0 < nc ∧ z0 = xT)) := HCs.out nc z0 hnc hz0
  have IC0 : Hid (0 < nc → ∃ bs os, b = some ⟨bs, os, none⟩ ∧ Wb.cell? ⟨bs, os, none⟩ = some (.int .i64 z0)) := fun hq => by
    obtain ⟨bs, os, e, hcc⟩ := IC.out.at (k := 0) (by omega)
    have := hcc 0 (by omega)
    rw [hz0, Nat.add_zero] at this
    exact ⟨bs, os, e, this⟩
  have SB : Hid (SkBx w2.heap.size w.heap.size W3 Wb ⟨xF, xT, xO, xP⟩ (c0, cs) ap b cp k) := SB.out
  rw [hnc] at v1 hcm BX
  have SB : Hid (W3.grownBy Wb none ∧ Wb.cell? ⟨w2.heap.size, 0, none⟩ = some (.int .i64 xF) ∧ Wb.cell? ⟨w2.heap.size, 1, none⟩ = some (.int .i64 xT) ∧ Wb.cell? ⟨w2.heap.size, 2, none⟩ = some (.int .i64 xO) ∧ Wb.cell? ⟨w2.heap.size, 3, none⟩ = some (.slice ap xP.length cp) ∧ Wb.cell? ⟨w.heap.size, 0, none⟩ = some (.int .i64 c0) ∧ Wb.cell? ⟨w.heap.size, 1, none⟩ = some (.slice b nc k)) := ⟨SB.out.g, SB.out.r0, SB.out.r1, SB.out.r2, SB.out.r3, SB.out.c0, by have := SB.out.c1; rw [hnc] at this; exact this⟩
  clear HN HCs IC hnc hz0 HI HL
  generalize xP.length = np at *
  by_cases n0 : nc = 0
  · have d0 : ((nc : Int) == 0) = true := by rw [n0]; rfl
    clear n0 IC0
    go_wp2_with fail
    rw [← HWb.out]
    obtain ⟨_, t0, t1, t2, t3, v0, v1⟩ := SB.out
    go_wp2_with fail
    go_quiet (fail)
    have GZ := GY.out nq
    have hr2 : (Wb.drewN nq).heap[w.heap.size + 1]? = some (.cells #[.int .i64 0, .slice none 0 0] 25 (0, 0)) := (GZ.block _ (by have := HR.out.2; omega) (by simp)).trans HR.out.1
    obtain ⟨xr0, xr1, fr0, fr1, W5, hW5, g5, xw0, xw1⟩ := cfg_store hr2 0 (.slice none 0 0)
    have HW5 : Hid (W5 = _) := hW5
    have GF : Hid (w.grownBy W5 none) := grown_new (grown_trans G3.out GZ) g5 (by omega)
    clear hr2 hW5 g5 GZ t0 t1 t2 t3 v0 v1
    go_wp2_with fail
    rw [← HW5.out]
    exact bodyPost_ret (v := .tuple #[cfgV 0 none 0 0, .int .i64 6]) (by simp [results, Try.results5, go_sem, xw0, xw1]) rfl ⟨rfl, GF.out⟩
  have d0 : ((nc : Int) == 0) = false := by simpa using n0
  by_cases nF : c0 = xF
  case neg =>
    have d1 : (c0 != xF) = true := by simpa using nF
    clear n0 IC0 nF
    go_wp2_with fail
    rw [← HWb.out]
    obtain ⟨_, t0, t1, t2, t3, v0, v1⟩ := SB.out
    go_wp2_with fail
    go_quiet (fail)
    have GZ := GY.out nq
    have hr2 : (Wb.drewN nq).heap[w.heap.size + 1]? = some (.cells #[.int .i64 0, .slice none 0 0] 25 (0, 0)) := (GZ.block _ (by have := HR.out.2; omega) (by simp)).trans HR.out.1
    obtain ⟨xr0, xr1, fr0, fr1, W5, hW5, g5, xw0, xw1⟩ := cfg_store hr2 0 (.slice none 0 0)
    have HW5 : Hid (W5 = _) := hW5
    have GF : Hid (w.grownBy W5 none) := grown_new (grown_trans G3.out GZ) g5 (by omega)
    clear hr2 hW5 g5 GZ t0 t1 t2 t3 v0 v1
    go_wp2_with fail
    rw [← HW5.out]
    exact bodyPost_ret (v := .tuple #[cfgV 0 none 0 0, .int .i64 6]) (by simp [results, Try.results5, go_sem, xw0, xw1]) rfl ⟨rfl, GF.out⟩
  have d1 : (c0 != xF) = false := by simpa using nF
  have d2 : (z0 != xT) = true := by
    have := HC.out
    simp only [bne_iff_ne]
    intro e
    exact this ⟨nF, by omega, e⟩
  obtain ⟨bs, os, rfl, hcz⟩ := IC0.out (by omega)
  have hi0 : (0 : Int) < (nc : Int) := by omega
  clear n0 IC0 nF HC
  go_wp2_with fail
  rw [← HWb.out]
  obtain ⟨_, t0, t1, t2, t3, v0, v1⟩ := SB.out
  go_wp2_with fail
  go_quiet (fail)
  have GZ := GY.out nq
  have hr2 : (Wb.drewN nq).heap[w.heap.size + 1]? = some (.cells #[.int .i64 0, .slice none 0 0] 25 (0, 0)) := (GZ.block _ (by have := HR.out.2; omega) (by simp)).trans HR.out.1
  obtain ⟨xr0, xr1, fr0, fr1, W5, hW5, g5, xw0, xw1⟩ := cfg_store hr2 0 (.slice none 0 0)
  have HW5 : Hid (W5 = _) := hW5
  have GF : Hid (w.grownBy W5 none) := grown_new (grown_trans G3.out GZ) g5 (by omega)
  clear hr2 hW5 g5 GZ t0 t1 t2 t3 v0 v1
  go_wp2_with fail
  rw [← HW5.out]
  exact bodyPost_ret (v := .tuple #[cfgV 0 none 0 0, .int .i64 6]) (by simp [results, Try.results5, go_sem, xw0, xw1]) rfl ⟨rfl, GF.out⟩

def StepPost (r : Psh) (c : Cfg) (w : World) (E : Ending) (w' : World) : Prop := ∃ a k, E = .returned (.tuple #[cfgV (behSk r c).1 a (behSk r c).2.length k, .int .i64 0]) ∧ Ints w' a (behSk r c).2 ∧ w.grownBy w' none

set_option maxHeartbeats 6400000 in
set_option maxRecDepth 100000 in
theorem step_good (L : List Psh) (c : Cfg) (a b : Option Addr) (d k r : Nat) (w : World) (h : PushAt w a L) (hm : L.length ≤ maxLen) (hc : Ints w b c.2) (hck : c.2.length ≤ k) (hy : allSk L [c] = 0) (hr : r < L.length) (hcan : CanSk (L.getD r pu0) c) (hcl : c.2.length ≤ 20) (hpl : (L.getD r pu0).P.length ≤ 2) :
    Calls Try.prog 5 #[.slice a L.length d, cfgV c.1 b c.2.length k, .int .i64 (r : Int)] w (StepPost (L.getD r pu0) c w) := by
  have hcm : c.2.length ≤ maxLen := by unfold maxLen; omega
  obtain ⟨W3, hW3, g3, s3, hr3, bx3⟩ := step_boxes w c.1 (.slice b c.2.length k) 25
  have HK : Hid (Calls Try.prog 6 #[.slice a L.length d, .slice (some ⟨w.heap.size + 2, 0, none⟩) 1 1] W3 (Says (.int .i64 0) W3)) := by
    have := checkAll_any a d (w.heap.size + 2) L [c] W3 (h.grown g3) hm (fun i hi => by
      have e : i = 0 := by simpa using hi
      subst e
      obtain ⟨_, _, b0, b1⟩ := bx3 W3 (grown_refl _ _)
      exact ⟨b0, b, k, b1, hc.grown g3, hcm⟩) (by simp)
    rw [hy] at this
    exact this
  obtain ⟨x0, x1, _, _⟩ := bx3 W3 (grown_refl _ _)
  have HW3 : Hid (W3 = _) := hW3
  have G3 : Hid (w.grownBy W3 none) := g3
  have HR : Hid (W3.heap[w.heap.size + 1]? = some (.cells #[.int .i64 0, .slice none 0 0] 25 (0, 0)) ∧ W3.heap.size = w.heap.size + 3) := ⟨hr3, s3⟩
  have BX : Hid (∀ W', W3.grownBy W' none → W'.cell? ⟨w.heap.size, 0, none⟩ = some (.int .i64 c.1) ∧ W'.cell? ⟨w.heap.size, 1, none⟩ = some (.slice b c.2.length k)) := fun W' hW' => ⟨(bx3 W' hW').1, (bx3 W' hW').2.1⟩
  rw [hW3] at x0 x1
  unfold maxLen at hm
  have e0 : decide ((r : Int) < 0) = false := by simp
  have e1 : decide ((L.length : Int) ≤ (r : Int)) = false := by simp; omega
  have e2 : (r : Int) < (L.length : Int) := by omega
  have HL : Hid (∀ W, w.grownBy W none → PushAt W a L) := fun W hW => h.grown hW
  have HI : Hid (∀ W, w.grownBy W none → Ints W b c.2) := fun W hW => hc.grown hW
  obtain ⟨Po, hPo⟩ : ∃ P, P = StepPost (L.getD r pu0) c w := ⟨_, rfl⟩
  have HP : Hid (∀ aa kk n W, n = (behSk (L.getD r pu0) c).2.length → Ints W aa (behSk (L.getD r pu0) c).2 → w.grownBy W none → Po (.returned (.tuple #[cfgV (behSk (L.getD r pu0) c).1 aa n kk, .int .i64 0])) W) := fun aa kk n W h0 h1 h2 => by rw [hPo, h0]; exact ⟨aa, kk, rfl, h1, h2⟩
  rw [← hPo]
  have h2 : 0 < c.2.length := hcan.2.1
  have HCan : Hid (CanSk (L.getD r pu0) c) := hcan
  obtain ⟨at', kt, htl, hkt, hti⟩ := tail_run b c.2.length k (by omega) hck
  have HTl : Hid (∀ W, Ints W b c.2 → Ints W at' (c.2.drop 1)) := fun W hW => hti W c.2 rfl hW
  clear h hc hy hW3 g3 s3 hr3 bx3 hPo hti hck hcan
  go_enter Try.func5, Try.ntmps5
  go_wp2_with fail
  rw [← HW3.out]
  clear x0 x1
  refine HK.out.mono ?_
  rintro E w2 ⟨rfl, hg2⟩
  have G2 : Hid (W3.grownBy w2 none) := hg2
  have hlt' : r < L.length := hr
  obtain ⟨bb, off, rfl, hcl⟩ := (HL.out w2 (grown_trans G3.out hg2)).at hlt'
  obtain ⟨y0, y1, y2, ap, cp, y3, y4, y5⟩ := hcl r hlt'
  obtain ⟨Wb, hWb, gb, sb, bx⟩ := box4s_new w2 (.int .i64 (L.getD r pu0).F) (.int .i64 (L.getD r pu0).T) (.int .i64 (L.getD r pu0).O) (.slice ap (L.getD r pu0).P.length cp) 27
  obtain ⟨t0, t1, t2, t3⟩ := bx Wb (grown_refl _ _)
  obtain ⟨v0, v1⟩ := BX.out Wb (grown_trans hg2 gb)
  have HWb : Hid (Wb = _) := hWb
  have SB : Hid (SkBx w2.heap.size w.heap.size W3 Wb (L.getD r pu0) c ap b cp k) := ⟨grown_trans hg2 gb, t0, t1, t2, t3, v0, v1⟩
  have IP : Hid (Ints Wb ap (L.getD r pu0).P) := y4.grown gb
  have IC : Hid (Ints Wb b c.2) := HI.out Wb (grown_trans G3.out (grown_trans hg2 gb))
  clear hcl y4 sb bx hg2 gb
  rw [hWb] at t0 t1 t2 t3 v0 v1
  clear hWb HL
  have CT : Hid (∀ (W : World) (g2 : Nat), Wb.grownBy W none → W.cell? ⟨g2, 0, none⟩ = some (.slice ap (L.getD r pu0).P.length cp) → W.cell? ⟨g2, 1, none⟩ = some (.slice at' (c.2.length - 1) kt) → Calls Try.prog 11 #[.slice (some ⟨g2, 0, none⟩) 2 2] W (CatPost (L.getD r pu0).P (c.2.drop 1) W)) := fun W g2 hW q1 q2 => by
    have e : (c.2.drop 1).length = c.2.length - 1 := by simp
    exact cat_any _ _ ap at' cp kt g2 W (IP.out.grown hW) (HTl.out W (IC.out.grown hW)) (by omega) (by rw [e]; omega) q1 (by rw [e]; exact q2)
  have GY : Hid (∀ q, W3.grownBy (Wb.drewN q) none) := fun q => grown_drewN SB.out.g q
  obtain ⟨z0, hz0⟩ : ∃ q, c.2.getD 0 0 = q := ⟨_, rfl⟩
  obtain ⟨bs, os, rfl, hcc⟩ := IC.out.at (k := 0) (by omega)
  have hcz := hcc 0 (by omega)
  rw [hz0, Nat.add_zero] at hcz
  obtain ⟨h1, _, h3⟩ := HCan.out
  rw [hz0] at h3
  obtain ⟨c0, cs⟩ := c
  simp only at *
  generalize L.getD r pu0 = x at *
  obtain ⟨xF, xT, xO, xP⟩ := x
  simp only at *
  have SB : Hid (W3.grownBy Wb none ∧ Wb.cell? ⟨w2.heap.size, 0, none⟩ = some (.int .i64 xF) ∧ Wb.cell? ⟨w2.heap.size, 1, none⟩ = some (.int .i64 xT) ∧ Wb.cell? ⟨w2.heap.size, 2, none⟩ = some (.int .i64 xO) ∧ Wb.cell? ⟨w2.heap.size, 3, none⟩ = some (.slice ap xP.length cp) ∧ Wb.cell? ⟨w.heap.size, 0, none⟩ = some (.int .i64 c0) ∧ Wb.cell? ⟨w.heap.size, 1, none⟩ = some (.slice (some ⟨bs, os, none⟩) cs.length k)) := ⟨SB.out.g, SB.out.r0, SB.out.r1, SB.out.r2, SB.out.r3, SB.out.c0, SB.out.c1⟩
  have d0 : ((cs.length : Int) == 0) = false := by simp; intro e; rw [e] at h2; simp at h2
  have d1 : (c0 != xF) = false := by simpa using h1
  have d2 : (z0 != xT) = false := by simpa using h3
  have hi0 : (0 : Int) < (cs.length : Int) := by omega
  have HP2 : Hid (∀ aa kk n W, n = (xP ++ cs.drop 1).length → Ints W aa (xP ++ cs.drop 1) → w.grownBy W none → Po (.returned (.tuple #[cfgV xO aa n kk, .int .i64 0])) W) := HP.out
  clear h1 h3 HCan HI HP hcc IC IP HTl hz0
  obtain ⟨tl, htd⟩ : ∃ tl, cs.drop 1 = tl := ⟨_, rfl⟩
  rw [htd] at CT HP2
  generalize cs.length = nc at *
  generalize hnp : xP.length = np at *
  have HNp : Hid (xP.length = np) := hnp
  clear htd hnp
  go_wp2_with fail
  rw [← HWb.out]
  clear t0 t1 t2 t3 v0 v1
  obtain ⟨_, t0, t1, t2, t3, v0, v1⟩ := SB.out
  go_wp2_with fail
  go_quiet (fail)
  clear t0 t1 t2 t3 v0 v1 hcz d0 d1 d2 y0 y1 y2 y3
  go_wp2_with fail
  have GZ := GY.out nq
  obtain ⟨Wq, hWq⟩ : ∃ Wq, Wq = Wb.drewN nq := ⟨_, rfl⟩
  have GQ : Hid (Wb.grownBy Wq none) := by rw [hWq]; exact grown_drewN (grown_refl _ _) _
  rw [← hWq] at GZ ⊢
  have KK : Hid (∀ W, Wq.grownBy W none → W.cell? ⟨w2.heap.size, 2, none⟩ = some (.int .i64 xO) ∧ W.cell? ⟨w2.heap.size, 3, none⟩ = some (.slice ap np cp) ∧ W.cell? ⟨w.heap.size, 1, none⟩ = some (.slice (some ⟨bs, os, none⟩) nc k)) := fun W hW => by
    obtain ⟨_, t0, t1, t2, t3, v0, v1⟩ := SB.out
    have gg := grown_trans GQ.out hW
    exact ⟨gg.cell t2 (by simp), gg.cell t3 (by simp), gg.cell v1 (by simp)⟩
  have GC : Hid (∀ o, Wb.grownBy ((Wq.alloc o).drew) none) := fun o => grown_trans GQ.out (grown_drew (grown_alloc _ _))
  have CX : Hid (∀ v0 v1 t, ((Wq.alloc (.cells #[v0, v1] t)).drew).cell? ⟨Wq.heap.size, 0, none⟩ = some v0 ∧ ((Wq.alloc (.cells #[v0, v1] t)).drew).cell? ⟨Wq.heap.size, 1, none⟩ = some v1) := fun v0 v1 t => by
    have hb := heap_alloc_new Wq (.cells #[v0, v1] t)
    exact ⟨(grown_drew (grown_refl _ _)).cell (row := none) (by rw [cell_of_row _ _ 0 _ _ (0, 0) hb]; rfl) (by simp), (grown_drew (grown_refl _ _)).cell (row := none) (by rw [cell_of_row _ _ 1 _ _ (0, 0) hb]; rfl) (by simp)⟩
  have GZ2 : Hid (W3.grownBy Wq none) := GZ
  have KS : Hid (∀ (W : World) v0 v1, (W.cell? ⟨w2.heap.size, 2, none⟩ = some (.int .i64 xO) ∧ W.cell? ⟨w2.heap.size, 3, none⟩ = some (.slice ap np cp) ∧ W.cell? ⟨w.heap.size, 1, none⟩ = some (.slice (some ⟨bs, os, none⟩) nc k)) → (((W.setCell ⟨w.heap.size + 1, 0, none⟩ v0).setCell ⟨w.heap.size + 1, 1, none⟩ v1).cell? ⟨w2.heap.size, 2, none⟩ = some (.int .i64 xO) ∧ ((W.setCell ⟨w.heap.size + 1, 0, none⟩ v0).setCell ⟨w.heap.size + 1, 1, none⟩ v1).cell? ⟨w2.heap.size, 3, none⟩ = some (.slice ap np cp) ∧ ((W.setCell ⟨w.heap.size + 1, 0, none⟩ v0).setCell ⟨w.heap.size + 1, 1, none⟩ v1).cell? ⟨w.heap.size, 1, none⟩ = some (.slice (some ⟨bs, os, none⟩) nc k))) := fun W v0 v1 ⟨q1, q2, q3⟩ => by
    have hg : W.grownBy ((W.setCell ⟨w.heap.size + 1, 0, none⟩ v0).setCell ⟨w.heap.size + 1, 1, none⟩ v1) (some (w.heap.size + 1)) := grown_trans (grown_set _ _ _) (grown_set _ _ _)
    have e1 := G2.out.size
    have e2 := HR.out.2
    exact ⟨hg.cell q1 (by simp; omega), hg.cell q2 (by simp; omega), hg.cell q3 (by simp)⟩
  clear hWq GY SB GZ
  go_region_held3 (fun W => W.cell? ⟨w2.heap.size, 2, none⟩ = some (.int .i64 xO) ∧ W.cell? ⟨w2.heap.size, 3, none⟩ = some (.slice ap np cp) ∧ W.cell? ⟨w.heap.size, 1, none⟩ = some (.slice (some ⟨bs, os, none⟩) nc k))
    (first | (with_reducible exact KK.out _ (grown_drew (grown_refl _ _))) | (with_reducible exact KK.out _ (grown_drew (grown_alloc _ _))) | (with_reducible exact KS.out _ _ _ (by assumption)) | assumption)
    (first | (go_at_call 11; refine (CT.out _ _ (GC.out _) (CX.out _ _ _).1 (CX.out _ _ _).2).mono ?_; rintro E w6 ⟨a6, k6, rfl, hi6, hg6, hn6⟩; have kk6 := KK.out w6 (grown_trans (grown_drew (grown_alloc _ _)) hg6); have GZ : W3.grownBy w6 none := grown_trans GZ2.out (grown_trans (grown_drew (grown_alloc _ _)) hg6); have hr2 : w6.heap[w.heap.size + 1]? = some (.cells #[.int .i64 0, .slice none 0 0] 25 (0, 0)) := (GZ.block _ (by have := HR.out.2; omega) (by simp)).trans HR.out.1; have hst := cfg_store hr2 xO (.slice a6 (xP ++ tl).length k6); obtain ⟨xr0, xr1, fr0, fr1, W5, hW5, g5, xw0, xw1⟩ := hst; have HW5 : Hid (W5 = _) := hW5; have Fin : Hid (Po (.returned (.tuple #[cfgV xO a6 (xP ++ tl).length k6, .int .i64 0])) W5) := HP2.out a6 k6 _ W5 rfl (hi6.far (B := w.heap.size + 1) (fun y hy => by have := hn6 y hy; have := GZ2.out.size; have := HR.out.2; simp at *; omega) g5) (grown_new (grown_trans G3.out GZ) g5 (by omega)); clear hi6 hg6 hr2 GZ g5 hW5 hn6; generalize (xP ++ tl).length = n6 at *))
  all_goals
    go_wp2_with fail
    rw [← HW5.out]
    exact bodyPost_ret (v := .tuple #[cfgV xO a6 n6 k6, .int .i64 0]) (by simp [results, Try.results5, go_sem, xw0, xw1]) rfl Fin.out

end Go.Proofs.Ythnbiiipfcogeaa
