/- The law GrowBoth, out of what its callees answer. -/
import Derived.Test.YtnlkdihfoekjmaaGwGws
import Derived.Test.YtnlkdihfoekjmaaGwBrs
import Derived.Test.YtnlkdihfoekjmaaGwBarE
import Derived.Test.YtnlkdihfoekjmaaGwOne
import Derived.Test.YtnlkdihfoekjmaaGwChkR
import Derived.Test.YtnlkdihfoekjmaaTrCopy
namespace Go.Proofs.Ytnlkdihfoekjmaa
open Go.RowKit
set_option linter.unusedVariables false

theorem box4_newL (w : World) (v0 v1 v2 v3 : Value) (t : TypeId) : ∃ W, W = w.alloc (.cells #[v0, v1, v2, v3] t) ∧ w.grownBy W none ∧ W.heap.size = w.heap.size + 1 ∧ ∀ W', W.grownBy W' none → W'.cell? ⟨w.heap.size, 0, none⟩ = some v0 ∧ W'.cell? ⟨w.heap.size, 1, none⟩ = some v1 ∧ W'.cell? ⟨w.heap.size, 2, none⟩ = some v2 ∧ W'.cell? ⟨w.heap.size, 3, none⟩ = some v3 := by
  refine ⟨_, rfl, grown_alloc _ _, by simp, fun W' h => ?_⟩
  have hb := heap_alloc_new w (.cells #[v0, v1, v2, v3] t)
  have hc : ∀ k v, #[v0, v1, v2, v3][k]? = some v → W'.cell? ⟨w.heap.size, k, none⟩ = some v := fun k v hv => h.cell (by rw [cell_of_row _ _ k _ _ (0, 0) hb]; exact hv) (by simp)
  exact ⟨hc 0 _ rfl, hc 1 _ rfl, hc 2 _ rfl, hc 3 _ rfl⟩

set_option maxHeartbeats 6400000 in
set_option maxRecDepth 100000 in
theorem glaw_bad (x : Trs) (b e : Option Addr) (d f : Nat) (w : World) (h : TrsAt w x b e) (hR : x.R.length * 32 ≤ 140737488355328) (hM : x.M.length ≤ 17592186044416) (hn : b = none → d = 0) (hc : checkW x ≠ 0) :
    Calls Try.prog 3 #[trsV x.L x.N b x.R.length d x.S e x.M.length f] w (Says (.bool true) w) := by
  have HT : Hid (∀ W, w.grownBy W none → Calls Try.prog 4 #[trsV x.L x.N b x.R.length d x.S e x.M.length f] W (TreesPost x W)) := fun W hW => trees_any x b e d f W (h.grown hW) hR hM hn
  have HCk : Hid (∀ W, w.grownBy W none → Calls Try.prog 8 #[trsV x.L x.N b x.R.length d x.S e x.M.length f] W (Says (.int .i64 (checkW x)) W)) := fun W hW => checkWR_any x b e d f W (h.grown hW)
  have HGr : Hid (∀ (b' e' : Option Addr) (d' f' : Nat) V, TrsAt V x b' e' → Calls Try.prog 5 #[trsV x.L x.N b' x.R.length d' x.S e' x.M.length f'] V (Says (.tuple #[grnN, .bool false, .int .i64 (checkW x)]) V)) := fun b' e' d' f' V hV => growE_bad x b' e' d' f' V hV hc
  have HBr : Hid (∀ (b' e' : Option Addr) (d' f' : Nat) V, TrsAt V x b' e' → Calls Try.prog 6 #[trsV x.L x.N b' x.R.length d' x.S e' x.M.length f'] V (Says (.tuple #[.slice none 0 0, .bool false, .int .i64 (checkW x)]) V)) := fun b' e' d' f' V hV => bar_bad x b' e' d' f' V hV hc
  have HCh : Hid (∀ (b' e' : Option Addr) (d' f' : Nat) V, TrsAt V x b' e' → Calls Try.prog 7 #[trsV x.L x.N b' x.R.length d' x.S e' x.M.length f'] V (Says (.int .i64 (checkW x)) V)) := fun b' e' d' f' V hV => checkW_any x b' e' d' f' V hV
  obtain ⟨W1, hW1, g1, s1, bx1⟩ := box5_new w (.int .i64 x.L) (.int .i64 x.N) (.slice b x.R.length d) (.int .i64 x.S) (.slice e x.M.length f) 25
  have BX : Hid (∀ W', W1.grownBy W' none → W'.cell? ⟨w.heap.size, 0, none⟩ = some (.int .i64 x.L) ∧ W'.cell? ⟨w.heap.size, 1, none⟩ = some (.int .i64 x.N) ∧ W'.cell? ⟨w.heap.size, 2, none⟩ = some (.slice b x.R.length d) ∧ W'.cell? ⟨w.heap.size, 3, none⟩ = some (.int .i64 x.S) ∧ W'.cell? ⟨w.heap.size, 4, none⟩ = some (.slice e x.M.length f)) := bx1
  obtain ⟨x0, x1, x2, x3, x4⟩ := BX.out W1 (grown_refl _ _)
  have HW1 : Hid (W1 = _) := hW1
  have G1 : Hid (w.grownBy W1 none) := g1
  rw [hW1] at x0 x1 x2 x3 x4
  generalize checkW x = ce at *
  have d1 : (ce != 0) = true := by simpa using hc
  have d2 : (ce != ce) = false := by simp
  clear h hR hM hn hc hW1 g1 s1 bx1
  go_enter Try.func3, Try.ntmps3
  go_wp2_with fail
  rw [← HW1.out]
  clear x0 x1 x2 x3 x4
  refine (HT.out _ G1.out).mono ?_
  rintro E w2 ⟨b', e', d', f', rfl, ht2, hg2⟩
  obtain ⟨W3, hW3, g3, s3, bx3⟩ := box5_new w2 (.int .i64 x.L) (.int .i64 x.N) (.slice b' x.R.length d') (.int .i64 x.S) (.slice e' x.M.length f') 25
  have BX3 : Hid (∀ W', W3.grownBy W' none → W'.cell? ⟨w2.heap.size, 0, none⟩ = some (.int .i64 x.L) ∧ W'.cell? ⟨w2.heap.size, 1, none⟩ = some (.int .i64 x.N) ∧ W'.cell? ⟨w2.heap.size, 2, none⟩ = some (.slice b' x.R.length d') ∧ W'.cell? ⟨w2.heap.size, 3, none⟩ = some (.int .i64 x.S) ∧ W'.cell? ⟨w2.heap.size, 4, none⟩ = some (.slice e' x.M.length f')) := bx3
  have HW3 : Hid (W3 = _) := hW3
  have G3 : Hid (W1.grownBy W3 none) := grown_trans hg2 g3
  have T3 : Hid (∀ V, W3.grownBy V none → TrsAt V x b' e') := fun V hV => ht2.grown (grown_trans g3 hV)
  obtain ⟨z0, z1, z2, z3, z4⟩ := BX3.out W3 (grown_refl _ _)
  rw [hW3] at z0 z1 z2 z3 z4
  clear hg2 g3 s3 bx3 hW3 ht2 HT
  go_wp2_with fail
  rw [← HW3.out]
  clear z0 z1 z2 z3 z4
  refine (HGr.out b' e' d' f' W3 (T3.out _ (grown_refl _ _))).mono ?_
  rintro E w4 ⟨rfl, hg4⟩
  obtain ⟨W5, hW5, g5, s5, bx5⟩ := box4_newL w4 (.slice none 0 0) (.slice none 0 0) (.slice none 0 0) (.slice none 0 0) 28
  have HW5 : Hid (W5 = _) := hW5
  have G5 : Hid (W3.grownBy W5 none) := grown_trans hg4 g5
  have BX5 : Hid (∀ W', W5.grownBy W' none → W'.cell? ⟨w4.heap.size, 0, none⟩ = some (.slice none 0 0) ∧ W'.cell? ⟨w4.heap.size, 1, none⟩ = some (.slice none 0 0) ∧ W'.cell? ⟨w4.heap.size, 2, none⟩ = some (.slice none 0 0) ∧ W'.cell? ⟨w4.heap.size, 3, none⟩ = some (.slice none 0 0)) := bx5
  obtain ⟨z0, z1, z2, z3, z4⟩ := BX3.out W5 G5.out
  rw [hW5] at z0 z1 z2 z3 z4
  clear hg4 g5 s5 bx5 hW5 HGr
  go_wp2_with fail
  rw [← HW5.out]
  clear z0 z1 z2 z3 z4
  refine (HBr.out b' e' d' f' W5 (T3.out _ G5.out)).mono ?_
  rintro E w6 ⟨rfl, hg6⟩
  have G6 : Hid (W5.grownBy w6 none) := hg6
  obtain ⟨z0, z1, z2, z3, z4⟩ := BX3.out w6 (grown_trans G5.out hg6)
  clear hg6 HBr
  go_wp2_with fail
  clear z0 z1 z2 z3 z4
  refine (HCh.out b' e' d' f' w6 (T3.out _ (grown_trans G5.out G6.out))).mono ?_
  rintro E w7 ⟨rfl, hg7⟩
  have G7 : Hid (W5.grownBy w7 none) := grown_trans G6.out hg7
  have GA : Hid (W1.grownBy w7 none) := grown_trans G3.out (grown_trans G5.out G7.out)
  obtain ⟨x0, x1, x2, x3, x4⟩ := BX.out w7 GA.out
  clear hg7 HCh G6
  go_wp2_with fail
  clear x0 x1 x2 x3 x4
  refine (HCk.out _ (grown_trans G1.out GA.out)).mono ?_
  rintro E w8 ⟨rfl, hg8⟩
  obtain ⟨y0, y1, y2, y3⟩ := BX5.out w8 (grown_trans G7.out hg8)
  have GF : Hid (w.grownBy w8 none) := grown_trans G1.out (grown_trans GA.out hg8)
  clear hg8
  go_wp2_with fail
  go_ret
  exact ⟨rfl, GF.out⟩

set_option maxHeartbeats 12800000 in
set_option maxRecDepth 100000 in
theorem glaw_good (x : Trs) (b e : Option Addr) (d f N : Nat) (w : World) (h : TrsAt w x b e) (hR : x.R.length * 32 ≤ 140737488355328) (hM : x.M.length ≤ 17592186044416) (hn : b = none → d = 0) (hc : checkW x = 0) (hN : x.N = N) :
    Calls Try.prog 3 #[trsV x.L x.N b x.R.length d x.S e x.M.length f] w (Says (.bool true) w) := by
  have hG := goodW_of hc
  have hGG := gw_good hG hN
  have hst := hG.st
  have HT : Hid (∀ W, w.grownBy W none → Calls Try.prog 4 #[trsV x.L x.N b x.R.length d x.S e x.M.length f] W (TreesPost x W)) := fun W hW => trees_any x b e d f W (h.grown hW) hR hM hn
  have HCk : Hid (∀ W, w.grownBy W none → Calls Try.prog 8 #[trsV x.L x.N b x.R.length d x.S e x.M.length f] W (Says (.int .i64 0) W)) := fun W hW => hc ▸ checkWR_any x b e d f W (h.grown hW)
  have HGr : Hid (∀ (b' e' : Option Addr) (d' f' : Nat) V, TrsAt V x b' e' → Calls Try.prog 5 #[trsV x.L x.N b' x.R.length d' x.S e' x.M.length f'] V (GrowEPost x N V)) := fun b' e' d' f' V hV => growE_good x b' e' d' f' N V hV hc hN
  have HBr : Hid (∀ (b' e' : Option Addr) (d' f' : Nat) V, TrsAt V x b' e' → Calls Try.prog 6 #[trsV x.L x.N b' x.R.length d' x.S e' x.M.length f'] V (BarEPost x N V)) := fun b' e' d' f' V hV => bar_good x b' e' d' f' N V hV hc hN
  have HCh : Hid (∀ (b' e' : Option Addr) (d' f' : Nat) V, TrsAt V x b' e' → Calls Try.prog 7 #[trsV x.L x.N b' x.R.length d' x.S e' x.M.length f'] V (Says (.int .i64 0) V)) := fun b' e' d' f' V hV => hc ▸ checkW_any x b' e' d' f' V hV
  have HGs : Hid (∀ (a0 a1 a2 a3 : Option Addr) (c0 c1 c2 c3 : Nat) (W M : Nat → Int) (X : List Nat) (Lt : List Int) (Lf Rg : List Nat) V, w.grownBy V none → GwS x N W M → GrwI x N W M X Lt Lf Rg X.length → Ints V a0 Lt → Ints V a1 (castN X) → Ints V a2 (castN Lf) → Ints V a3 (castN Rg) → Calls Try.prog 9 #[trsV x.L x.N b x.R.length d x.S e x.M.length f, grnV a0 a1 a2 a3 X.length X.length X.length X.length c0 c1 c2 c3] V (Says (.bool true) V)) := fun a0 a1 a2 a3 c0 c1 c2 c3 W M X Lt Lf Rg V hV h1 h2 i0 i1 i2 i3 => growsR_any x b e a0 a1 a2 a3 d f N c0 c1 c2 c3 W M X Lt Lf Rg V (h.grown hV) hG hN h1 h2 i0 i1 i2 i3
  have HBs : Hid (∀ (g : Nat) (W M : Nat → Int) V, w.grownBy V none → GwS x N W M → W x.S.toNat = 1 → IRow V g x.R.length x.R.length (wayW x N (mvW x N W M)) → Calls Try.prog 10 #[trsV x.L x.N b x.R.length d x.S e x.M.length f, .slice (some ⟨g, 0, none⟩) x.R.length x.R.length] V (Says (.bool true) V)) := fun g W M V hV h1 h2 h3 => barsR_any x b e d f N g W M V (h.grown hV) hG hN h1 h2 h3
  have HOne : Hid (∀ W M W' M' : Nat → Int, GwS x N W M → GwS x N W' M' → W x.S.toNat = 0 → W' x.S.toNat = 0) := fun W M W' M' h1 h2 h3 => Solved.one hGG h1 h2 (p := x.S.toNat) (by show x.S.toNat < N + x.R.length; omega) h3
  have HGl : Hid (∀ (W M : Nat → Int) (X : List Nat) (Lt : List Int) (Lf Rg : List Nat), GrwI x N W M X Lt Lf Rg X.length → 1 ≤ X.length ∧ X.length ≤ 6) := fun W M X Lt Lf Rg hI => ⟨hI.pos, by have := hI.len; have := hG.n6; omega⟩
  have hr6 := hG.r6
  obtain ⟨W1, hW1, g1, s1, bx1⟩ := box5_new w (.int .i64 x.L) (.int .i64 x.N) (.slice b x.R.length d) (.int .i64 x.S) (.slice e x.M.length f) 25
  have BX : Hid (∀ W', W1.grownBy W' none → W'.cell? ⟨w.heap.size, 0, none⟩ = some (.int .i64 x.L) ∧ W'.cell? ⟨w.heap.size, 1, none⟩ = some (.int .i64 x.N) ∧ W'.cell? ⟨w.heap.size, 2, none⟩ = some (.slice b x.R.length d) ∧ W'.cell? ⟨w.heap.size, 3, none⟩ = some (.int .i64 x.S) ∧ W'.cell? ⟨w.heap.size, 4, none⟩ = some (.slice e x.M.length f)) := bx1
  obtain ⟨x0, x1, x2, x3, x4⟩ := BX.out W1 (grown_refl _ _)
  have HW1 : Hid (W1 = _) := hW1
  have G1 : Hid (w.grownBy W1 none) := g1
  rw [hW1] at x0 x1 x2 x3 x4
  clear h hR hM hn hc hW1 g1 s1 bx1 hG hGG hst hN
  go_enter Try.func3, Try.ntmps3
  go_wp2_with fail
  rw [← HW1.out]
  clear x0 x1 x2 x3 x4
  refine (HT.out _ G1.out).mono ?_
  rintro E w2 ⟨b', e', d', f', rfl, ht2, hg2⟩
  obtain ⟨W3, hW3, g3, s3, bx3⟩ := box5_new w2 (.int .i64 x.L) (.int .i64 x.N) (.slice b' x.R.length d') (.int .i64 x.S) (.slice e' x.M.length f') 25
  have BX3 : Hid (∀ W', W3.grownBy W' none → W'.cell? ⟨w2.heap.size, 0, none⟩ = some (.int .i64 x.L) ∧ W'.cell? ⟨w2.heap.size, 1, none⟩ = some (.int .i64 x.N) ∧ W'.cell? ⟨w2.heap.size, 2, none⟩ = some (.slice b' x.R.length d') ∧ W'.cell? ⟨w2.heap.size, 3, none⟩ = some (.int .i64 x.S) ∧ W'.cell? ⟨w2.heap.size, 4, none⟩ = some (.slice e' x.M.length f')) := bx3
  have HW3 : Hid (W3 = _) := hW3
  have G3 : Hid (W1.grownBy W3 none) := grown_trans hg2 g3
  have T3 : Hid (∀ V, W3.grownBy V none → TrsAt V x b' e') := fun V hV => ht2.grown (grown_trans g3 hV)
  obtain ⟨z0, z1, z2, z3, z4⟩ := BX3.out W3 (grown_refl _ _)
  rw [hW3] at z0 z1 z2 z3 z4
  clear hg2 g3 s3 bx3 hW3 ht2 HT
  go_wp2_with fail
  rw [← HW3.out]
  clear z0 z1 z2 z3 z4
  refine (HGr.out b' e' d' f' W3 (T3.out _ (grown_refl _ _))).mono ?_
  rintro E w4 ⟨Wf, Mf, hsol, hg4, hcase⟩
  have HSo : Hid (GwS x N Wf Mf) := hsol
  clear hsol HGr
  rcases hcase with ⟨hw0, X, Lt, Lf, Rg, a0, a1, a2, a3, c0, c1, c2, c3, rfl, hgi, i0, i1, i2, i3⟩ | ⟨hw1, rfl⟩
  · obtain ⟨hX1, hX6⟩ := HGl.out _ _ _ _ _ _ hgi
    have HGw : Hid (∀ V, w4.grownBy V none → w.grownBy V none → Calls Try.prog 9 #[trsV x.L x.N b x.R.length d x.S e x.M.length f, grnV a0 a1 a2 a3 X.length X.length X.length X.length c0 c1 c2 c3] V (Says (.bool true) V)) := fun V h4 hV => HGs.out a0 a1 a2 a3 c0 c1 c2 c3 Wf Mf X Lt Lf Rg V hV HSo.out hgi (i0.grown h4) (i1.grown h4) (i2.grown h4) (i3.grown h4)
    have Hw0 : Hid (Wf x.S.toNat = 0) := hw0
    clear hw0 hgi i0 i1 i2 i3 HGs HBs HGl
    generalize X.length = n at *
    obtain ⟨W5, hW5, g5, s5, bx5⟩ := box4_newL w4 (.slice a0 n c0) (.slice a1 n c1) (.slice a2 n c2) (.slice a3 n c3) 28
    have HW5 : Hid (W5 = _) := hW5
    have G5 : Hid (W3.grownBy W5 none) := grown_trans hg4 g5
    have G45 : Hid (w4.grownBy W5 none) := g5
    have BX5 : Hid (∀ W', W5.grownBy W' none → W'.cell? ⟨w4.heap.size, 0, none⟩ = some (.slice a0 n c0) ∧ W'.cell? ⟨w4.heap.size, 1, none⟩ = some (.slice a1 n c1) ∧ W'.cell? ⟨w4.heap.size, 2, none⟩ = some (.slice a2 n c2) ∧ W'.cell? ⟨w4.heap.size, 3, none⟩ = some (.slice a3 n c3)) := bx5
    obtain ⟨z0, z1, z2, z3, z4⟩ := BX3.out W5 G5.out
    rw [hW5] at z0 z1 z2 z3 z4
    clear hg4 g5 s5 bx5 hW5
    go_wp2_with fail
    rw [← HW5.out]
    clear z0 z1 z2 z3 z4
    refine (HBr.out b' e' d' f' W5 (T3.out _ G5.out)).mono ?_
    rintro E w6 ⟨Wg, Mg, hsol2, hg6, hcase2⟩
    have hg0 : Wg x.S.toNat = 0 := HOne.out Wf Mf Wg Mg HSo.out hsol2 Hw0.out
    have hE : E = .returned (.tuple #[.slice none 0 0, .bool false, .int .i64 0]) := by
      rcases hcase2 with ⟨h1, _⟩ | ⟨_, h1⟩
      · rw [hg0] at h1; cases h1
      · exact h1
    subst hE
    have G6 : Hid (W5.grownBy w6 none) := hg6
    obtain ⟨z0, z1, z2, z3, z4⟩ := BX3.out w6 (grown_trans G5.out hg6)
    clear hg6 HBr hsol2 hcase2 hg0
    go_wp2_with fail
    clear z0 z1 z2 z3 z4
    refine (HCh.out b' e' d' f' w6 (T3.out _ (grown_trans G5.out G6.out))).mono ?_
    rintro E w7 ⟨rfl, hg7⟩
    have G7 : Hid (W5.grownBy w7 none) := grown_trans G6.out hg7
    have GA : Hid (W1.grownBy w7 none) := grown_trans G3.out (grown_trans G5.out G7.out)
    obtain ⟨x0, x1, x2, x3, x4⟩ := BX.out w7 GA.out
    clear hg7 HCh G6
    go_wp2_with fail
    clear x0 x1 x2 x3 x4
    refine (HCk.out _ (grown_trans G1.out GA.out)).mono ?_
    rintro E w8 ⟨rfl, hg8⟩
    have G8 : Hid (W5.grownBy w8 none) := grown_trans G7.out hg8
    have GB : Hid (W1.grownBy w8 none) := grown_trans GA.out hg8
    obtain ⟨y0, y1, y2, y3⟩ := BX5.out w8 G8.out
    obtain ⟨x0, x1, x2, x3, x4⟩ := BX.out w8 GB.out
    clear hg8
    go_wp2_with fail
    clear x0 x1 x2 x3 x4 y0 y1 y2 y3
    refine (HGw.out _ (grown_trans G45.out G8.out) (grown_trans G1.out GB.out)).mono ?_
    rintro E w9 ⟨rfl, hg9⟩
    have GF : Hid (w.grownBy w9 none) := grown_trans G1.out (grown_trans GB.out hg9)
    clear hg9
    go_wp2_with fail
    go_ret
    exact ⟨rfl, GF.out⟩
  · have Hw1 : Hid (Wf x.S.toNat = 1) := hw1
    clear hw1 HGs HGl
    obtain ⟨W5, hW5, g5, s5, bx5⟩ := box4_newL w4 (.slice none 0 0) (.slice none 0 0) (.slice none 0 0) (.slice none 0 0) 28
    have HW5 : Hid (W5 = _) := hW5
    have G5 : Hid (W3.grownBy W5 none) := grown_trans hg4 g5
    have BX5 : Hid (∀ W', W5.grownBy W' none → W'.cell? ⟨w4.heap.size, 0, none⟩ = some (.slice none 0 0) ∧ W'.cell? ⟨w4.heap.size, 1, none⟩ = some (.slice none 0 0) ∧ W'.cell? ⟨w4.heap.size, 2, none⟩ = some (.slice none 0 0) ∧ W'.cell? ⟨w4.heap.size, 3, none⟩ = some (.slice none 0 0)) := bx5
    obtain ⟨z0, z1, z2, z3, z4⟩ := BX3.out W5 G5.out
    rw [hW5] at z0 z1 z2 z3 z4
    clear hg4 g5 s5 bx5 hW5
    go_wp2_with fail
    rw [← HW5.out]
    clear z0 z1 z2 z3 z4
    refine (HBr.out b' e' d' f' W5 (T3.out _ G5.out)).mono ?_
    rintro E w6 ⟨Wg, Mg, hsol2, hg6, hcase2⟩
    rcases hcase2 with ⟨h1, g, rfl, hrow⟩ | ⟨h1, _⟩
    case inr => exact absurd (HOne.out Wg Mg Wf Mf hsol2 HSo.out h1) (by rw [Hw1.out]; decide)
    have HBw : Hid (∀ V, w6.grownBy V none → w.grownBy V none → Calls Try.prog 10 #[trsV x.L x.N b x.R.length d x.S e x.M.length f, .slice (some ⟨g, 0, none⟩) x.R.length x.R.length] V (Says (.bool true) V)) := fun V h6 hV => HBs.out g Wg Mg V hV hsol2 h1 (hrow.kept h6)
    have G6 : Hid (W5.grownBy w6 none) := hg6
    obtain ⟨z0, z1, z2, z3, z4⟩ := BX3.out w6 (grown_trans G5.out hg6)
    clear hg6 HBr hsol2 hrow h1 HBs
    go_wp2_with fail
    clear z0 z1 z2 z3 z4
    refine (HCh.out b' e' d' f' w6 (T3.out _ (grown_trans G5.out G6.out))).mono ?_
    rintro E w7 ⟨rfl, hg7⟩
    have G67 : Hid (w6.grownBy w7 none) := hg7
    have G7 : Hid (W5.grownBy w7 none) := grown_trans G6.out hg7
    have GA : Hid (W1.grownBy w7 none) := grown_trans G3.out (grown_trans G5.out G7.out)
    obtain ⟨x0, x1, x2, x3, x4⟩ := BX.out w7 GA.out
    clear hg7 HCh
    go_wp2_with fail
    clear x0 x1 x2 x3 x4
    refine (HCk.out _ (grown_trans G1.out GA.out)).mono ?_
    rintro E w8 ⟨rfl, hg8⟩
    have G8 : Hid (W5.grownBy w8 none) := grown_trans G7.out hg8
    have G68 : Hid (w6.grownBy w8 none) := grown_trans G67.out hg8
    have GB : Hid (W1.grownBy w8 none) := grown_trans GA.out hg8
    obtain ⟨y0, y1, y2, y3⟩ := BX5.out w8 G8.out
    obtain ⟨x0, x1, x2, x3, x4⟩ := BX.out w8 GB.out
    clear hg8
    go_wp2_with fail
    clear x0 x1 x2 x3 x4 y0 y1 y2 y3
    refine (HBw.out _ G68.out (grown_trans G1.out GB.out)).mono ?_
    rintro E w9 ⟨rfl, hg9⟩
    have GF : Hid (w.grownBy w9 none) := grown_trans G1.out (grown_trans GB.out hg9)
    clear hg9
    go_wp2_with fail
    go_ret
    exact ⟨rfl, GF.out⟩

end Go.Proofs.Ytnlkdihfoekjmaa
