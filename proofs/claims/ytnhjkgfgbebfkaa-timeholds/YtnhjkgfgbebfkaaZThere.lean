/- The reference's there: what a node says of a place, given what the nodes before it say. -/
import Derived.Test.YtnhjkgfgbebfkaaZAt
import Derived.Test.YtnhjkgfgbebfkaaWRow
import Derived.Deep.RegionHeld3
namespace Go.Proofs.Ytnhjkgfgbebfkaa
open Go.RowKit Go.Shelf
set_option linter.unusedVariables false
set_option linter.unusedSimpArgs false

/-- What the reference has written of the nodes before. -/
def RowsR (W : World) (a : Option Addr) (k n : Nat) (S : Nat → Nat → Bool) : Prop := ∀ j, j < k → ∃ gs gj, a = some ⟨gs, 0, none⟩ ∧ W.cell? ⟨gs, j, none⟩ = some (.slice (some ⟨gj, 0, none⟩) n n) ∧ BRow W gj n (S j)
theorem RowsR.kept {W W' : World} {a : Option Addr} {k n : Nat} {S : Nat → Nat → Bool} (h : RowsR W a k n S) (hg : W.grownBy W' none) : RowsR W' a k n S := fun j hj => by
  obtain ⟨gs, gj, h1, h2, h3⟩ := h j hj
  exact ⟨gs, gj, h1, hg.cell h2 (by simp), h3.kept hg⟩
theorem fourR {x : Nat} (h : x < 4) : x = 0 ∨ x = 1 ∨ x = 2 ∨ x = 3 := by omega
/-- The box of the lasso, and that of the node. -/
theorem there_two (w : World) (u v : Value) (c x y : Nat) : ∃ W, W = (w.alloc (.cells #[u, v] 32)).alloc (.cells #[.int .u8 (c : Int), .int .i64 (x : Int), .int .i64 (y : Int)] 72) ∧ w.grownBy W none ∧ ∀ W', W.grownBy W' none → W'.cell? ⟨w.heap.size, 0, none⟩ = some u ∧ W'.cell? ⟨w.heap.size, 1, none⟩ = some v ∧ W'.cell? ⟨w.heap.size + 1, 0, none⟩ = some (.int .u8 (c : Int)) ∧ W'.cell? ⟨w.heap.size + 1, 1, none⟩ = some (.int .i64 (x : Int)) ∧ W'.cell? ⟨w.heap.size + 1, 2, none⟩ = some (.int .i64 (y : Int)) := by
  refine ⟨_, rfl, grown_trans (grown_alloc _ _) (grown_alloc _ _), fun W' h => ?_⟩
  have hb := heap_alloc_new w (.cells #[u, v] 32)
  have hn := heap_alloc_new (w.alloc (.cells #[u, v] 32)) (.cells #[.int .u8 (c : Int), .int .i64 (x : Int), .int .i64 (y : Int)] 72)
  rw [World.size_alloc] at hn
  have hc : ∀ k z, #[u, v][k]? = some z → W'.cell? ⟨w.heap.size, k, none⟩ = some z := fun k z hz => (grown_trans (grown_alloc _ _) h).cell (by rw [cell_of_row _ _ k _ _ (0, 0) hb]; exact hz) (by simp)
  have hd : ∀ k z, #[Value.int .u8 (c : Int), .int .i64 (x : Int), .int .i64 (y : Int)][k]? = some z → W'.cell? ⟨w.heap.size + 1, k, none⟩ = some z := fun k z hz => h.cell (by rw [cell_of_row _ _ k _ _ (0, 0) hn]; exact hz) (by simp)
  exact ⟨hc 0 _ rfl, hc 1 _ rfl, hd 0 _ rfl, hd 1 _ rfl, hd 2 _ rfl⟩
/-- What there does for a node. -/
def DoesR (us vs : List Int) (lt : Nat → Nat) (c x y k : Nat) (S : Nat → Nat → Bool) (V : Nat → Bool) : Prop :=
  ∀ (W : World) (g N cap i : Nat) (aS ah al : Option Addr) (cs ch cl : Nat), Ints W ah us → Ints W al vs → us.length ≤ 60 → vs.length ≤ 60 → 0 < vs.length → i < us.length + vs.length → (∀ j, j < us.length + vs.length → (us ++ vs).getD j 0 = ((lt j : Nat) : Int) ∧ lt j < 4) →
    k < N → N ≤ 31 → W.cell? ⟨g, k * 3, none⟩ = some (.int .u8 (c : Int)) → W.cell? ⟨g, k * 3 + 1, none⟩ = some (.int .i64 (x : Int)) → W.cell? ⟨g, k * 3 + 2, none⟩ = some (.int .i64 (y : Int)) → RowsR W aS k (us.length + vs.length) S →
    Calls Try.prog 17 #[.slice (some ⟨g, 0, none⟩) N cap, .slice aS k cs, .int .i64 (k : Int), .int .i64 (i : Int), lasV ah us.length ch al vs.length cl] W (Says (.bool (V i)) W)

set_option maxHeartbeats 3200000 in
set_option maxRecDepth 100000 in
theorem there_one (us vs : List Int) (lt : Nat → Nat) (k : Nat) (S : Nat → Nat → Bool) : DoesR us vs lt 49 0 0 k S (fun _ => true) := by
  intro W g N cap i aS ah al cs ch cl hu hv h1 h2 h0 hi hlt hkN hN c0 c1 c2 hR
  obtain ⟨W2, hW2, g2, bx⟩ := there_two W (.slice ah us.length ch) (.slice al vs.length cl) 49 0 0
  have HW2 : Hid (W2 = (W.alloc (.cells #[.slice ah us.length ch, .slice al vs.length cl] 32)).alloc (.cells #[.int .u8 (49 : Int), .int .i64 (0 : Int), .int .i64 (0 : Int)] 72)) := hW2
  have G2 : Hid (W.grownBy W2 none) := g2
  have SK : Hid (∀ W', W2.grownBy W' none → W'.cell? ⟨W.heap.size, 0, none⟩ = some (.slice ah us.length ch) ∧ W'.cell? ⟨W.heap.size, 1, none⟩ = some (.slice al vs.length cl) ∧ W'.cell? ⟨W.heap.size + 1, 0, none⟩ = some (.int .u8 (49 : Int)) ∧ W'.cell? ⟨W.heap.size + 1, 1, none⟩ = some (.int .i64 (0 : Int)) ∧ W'.cell? ⟨W.heap.size + 1, 2, none⟩ = some (.int .i64 (0 : Int))) := bx
  obtain ⟨hle, hl4⟩ := hlt i hi
  have HA : Hid (Calls Try.prog 32 #[lasV ah us.length ch al vs.length cl, .int .i64 (i : Int)] W2 (Says (.int .i64 ((lt i : Nat) : Int)) W2)) := by
    have := atR_any us vs ch cl i ah al W2 (hu.grown g2) (hv.grown g2) h1 h2 hi
    rwa [hle] at this
  have c0 : W.cell? ⟨g, k * 3, none⟩ = some (.int .u8 (49 : Int)) := c0
  have c1 : W.cell? ⟨g, k * 3 + 1, none⟩ = some (.int .i64 (0 : Int)) := c1
  have c2 : W.cell? ⟨g, k * 3 + 2, none⟩ = some (.int .i64 (0 : Int)) := c2
  have i0 : (k : Int) < (N : Int) := by omega
  have q0 : (0 : Int) ≤ (i : Int) := by omega
  have d0 := fun o => (grown_alloc W o).cell c0 (by simp)
  have d1 := fun o => (grown_alloc W o).cell c1 (by simp)
  have d2 := fun o => (grown_alloc W o).cell c2 (by simp)
  have hF : Hid (∀ W' p, p < us.length + vs.length → W2.grownBy W' none → Calls Try.prog 33 #[lasV ah us.length ch al vs.length cl, .int .i64 (p : Int)] W' (Says (.int .i64 ((aft (us.length + vs.length) us.length p : Nat) : Int)) W')) := fun W' p hp _ => afterR_any us.length vs.length ch cl p ah al W' h1 h2 h0 hp
  clear hu hv hlt hR hle bx hW2 g2
  go_enter Try.func17, Try.ntmps17
  go_wp2_with fail
  rw [← HW2.out]
  refine HA.out.mono ?_
  rintro e w3 ⟨rfl, hg3⟩
  have G3 : Hid (W2.grownBy w3 none) := hg3
  obtain ⟨b0, b1, n0, n1, n2⟩ := SK.out w3 G3.out
  clear hg3 c0 c1 c2 d0 d1 d2
  go_wp2_with fail
  go_ret
  exact ⟨rfl, grown_trans G2.out G3.out⟩

set_option maxHeartbeats 3200000 in
set_option maxRecDepth 100000 in
theorem there_zero (us vs : List Int) (lt : Nat → Nat) (k : Nat) (S : Nat → Nat → Bool) : DoesR us vs lt 48 0 0 k S (fun _ => false) := by
  intro W g N cap i aS ah al cs ch cl hu hv h1 h2 h0 hi hlt hkN hN c0 c1 c2 hR
  obtain ⟨W2, hW2, g2, bx⟩ := there_two W (.slice ah us.length ch) (.slice al vs.length cl) 48 0 0
  have HW2 : Hid (W2 = (W.alloc (.cells #[.slice ah us.length ch, .slice al vs.length cl] 32)).alloc (.cells #[.int .u8 (48 : Int), .int .i64 (0 : Int), .int .i64 (0 : Int)] 72)) := hW2
  have G2 : Hid (W.grownBy W2 none) := g2
  have SK : Hid (∀ W', W2.grownBy W' none → W'.cell? ⟨W.heap.size, 0, none⟩ = some (.slice ah us.length ch) ∧ W'.cell? ⟨W.heap.size, 1, none⟩ = some (.slice al vs.length cl) ∧ W'.cell? ⟨W.heap.size + 1, 0, none⟩ = some (.int .u8 (48 : Int)) ∧ W'.cell? ⟨W.heap.size + 1, 1, none⟩ = some (.int .i64 (0 : Int)) ∧ W'.cell? ⟨W.heap.size + 1, 2, none⟩ = some (.int .i64 (0 : Int))) := bx
  obtain ⟨hle, hl4⟩ := hlt i hi
  have HA : Hid (Calls Try.prog 32 #[lasV ah us.length ch al vs.length cl, .int .i64 (i : Int)] W2 (Says (.int .i64 ((lt i : Nat) : Int)) W2)) := by
    have := atR_any us vs ch cl i ah al W2 (hu.grown g2) (hv.grown g2) h1 h2 hi
    rwa [hle] at this
  have c0 : W.cell? ⟨g, k * 3, none⟩ = some (.int .u8 (48 : Int)) := c0
  have c1 : W.cell? ⟨g, k * 3 + 1, none⟩ = some (.int .i64 (0 : Int)) := c1
  have c2 : W.cell? ⟨g, k * 3 + 2, none⟩ = some (.int .i64 (0 : Int)) := c2
  have i0 : (k : Int) < (N : Int) := by omega
  have q0 : (0 : Int) ≤ (i : Int) := by omega
  have d0 := fun o => (grown_alloc W o).cell c0 (by simp)
  have d1 := fun o => (grown_alloc W o).cell c1 (by simp)
  have d2 := fun o => (grown_alloc W o).cell c2 (by simp)
  have hF : Hid (∀ W' p, p < us.length + vs.length → W2.grownBy W' none → Calls Try.prog 33 #[lasV ah us.length ch al vs.length cl, .int .i64 (p : Int)] W' (Says (.int .i64 ((aft (us.length + vs.length) us.length p : Nat) : Int)) W')) := fun W' p hp _ => afterR_any us.length vs.length ch cl p ah al W' h1 h2 h0 hp
  clear hu hv hlt hR hle bx hW2 g2
  go_enter Try.func17, Try.ntmps17
  go_wp2_with fail
  rw [← HW2.out]
  refine HA.out.mono ?_
  rintro e w3 ⟨rfl, hg3⟩
  have G3 : Hid (W2.grownBy w3 none) := hg3
  obtain ⟨b0, b1, n0, n1, n2⟩ := SK.out w3 G3.out
  clear hg3 c0 c1 c2 d0 d1 d2
  go_wp2_with fail
  go_ret
  exact ⟨rfl, grown_trans G2.out G3.out⟩

set_option maxHeartbeats 3200000 in
set_option maxRecDepth 100000 in
theorem there_p (us vs : List Int) (lt : Nat → Nat) (k : Nat) (S : Nat → Nat → Bool) : DoesR us vs lt 112 0 0 k S (fun i => lt i % 2 == 1) := by
  intro W g N cap i aS ah al cs ch cl hu hv h1 h2 h0 hi hlt hkN hN c0 c1 c2 hR
  obtain ⟨W2, hW2, g2, bx⟩ := there_two W (.slice ah us.length ch) (.slice al vs.length cl) 112 0 0
  have HW2 : Hid (W2 = (W.alloc (.cells #[.slice ah us.length ch, .slice al vs.length cl] 32)).alloc (.cells #[.int .u8 (112 : Int), .int .i64 (0 : Int), .int .i64 (0 : Int)] 72)) := hW2
  have G2 : Hid (W.grownBy W2 none) := g2
  have SK : Hid (∀ W', W2.grownBy W' none → W'.cell? ⟨W.heap.size, 0, none⟩ = some (.slice ah us.length ch) ∧ W'.cell? ⟨W.heap.size, 1, none⟩ = some (.slice al vs.length cl) ∧ W'.cell? ⟨W.heap.size + 1, 0, none⟩ = some (.int .u8 (112 : Int)) ∧ W'.cell? ⟨W.heap.size + 1, 1, none⟩ = some (.int .i64 (0 : Int)) ∧ W'.cell? ⟨W.heap.size + 1, 2, none⟩ = some (.int .i64 (0 : Int))) := bx
  obtain ⟨hle, hl4⟩ := hlt i hi
  have HA : Hid (Calls Try.prog 32 #[lasV ah us.length ch al vs.length cl, .int .i64 (i : Int)] W2 (Says (.int .i64 ((lt i : Nat) : Int)) W2)) := by
    have := atR_any us vs ch cl i ah al W2 (hu.grown g2) (hv.grown g2) h1 h2 hi
    rwa [hle] at this
  have c0 : W.cell? ⟨g, k * 3, none⟩ = some (.int .u8 (112 : Int)) := c0
  have c1 : W.cell? ⟨g, k * 3 + 1, none⟩ = some (.int .i64 (0 : Int)) := c1
  have c2 : W.cell? ⟨g, k * 3 + 2, none⟩ = some (.int .i64 (0 : Int)) := c2
  have i0 : (k : Int) < (N : Int) := by omega
  have q0 : (0 : Int) ≤ (i : Int) := by omega
  have d0 := fun o => (grown_alloc W o).cell c0 (by simp)
  have d1 := fun o => (grown_alloc W o).cell c1 (by simp)
  have d2 := fun o => (grown_alloc W o).cell c2 (by simp)
  have hF : Hid (∀ W' p, p < us.length + vs.length → W2.grownBy W' none → Calls Try.prog 33 #[lasV ah us.length ch al vs.length cl, .int .i64 (p : Int)] W' (Says (.int .i64 ((aft (us.length + vs.length) us.length p : Nat) : Int)) W')) := fun W' p hp _ => afterR_any us.length vs.length ch cl p ah al W' h1 h2 h0 hp
  clear hu hv hlt hR hle bx hW2 g2
  show Calls _ _ _ _ (Says (.bool (lt i % 2 == 1)) W)
  generalize lt i = z at *
  rcases fourR hl4 with rfl | rfl | rfl | rfl
  all_goals
    go_enter Try.func17, Try.ntmps17
    go_wp2_with fail
    rw [← HW2.out]
    refine HA.out.mono ?_
    rintro e w3 ⟨rfl, hg3⟩
    have G3 : Hid (W2.grownBy w3 none) := hg3
    obtain ⟨b0, b1, n0, n1, n2⟩ := SK.out w3 G3.out
    clear hg3 c0 c1 c2 d0 d1 d2
    go_wp2_with fail
    go_ret
    exact ⟨by rfl, grown_trans G2.out G3.out⟩

set_option maxHeartbeats 3200000 in
set_option maxRecDepth 100000 in
theorem there_q (us vs : List Int) (lt : Nat → Nat) (k : Nat) (S : Nat → Nat → Bool) : DoesR us vs lt 113 0 0 k S (fun i => decide (2 ≤ lt i)) := by
  intro W g N cap i aS ah al cs ch cl hu hv h1 h2 h0 hi hlt hkN hN c0 c1 c2 hR
  obtain ⟨W2, hW2, g2, bx⟩ := there_two W (.slice ah us.length ch) (.slice al vs.length cl) 113 0 0
  have HW2 : Hid (W2 = (W.alloc (.cells #[.slice ah us.length ch, .slice al vs.length cl] 32)).alloc (.cells #[.int .u8 (113 : Int), .int .i64 (0 : Int), .int .i64 (0 : Int)] 72)) := hW2
  have G2 : Hid (W.grownBy W2 none) := g2
  have SK : Hid (∀ W', W2.grownBy W' none → W'.cell? ⟨W.heap.size, 0, none⟩ = some (.slice ah us.length ch) ∧ W'.cell? ⟨W.heap.size, 1, none⟩ = some (.slice al vs.length cl) ∧ W'.cell? ⟨W.heap.size + 1, 0, none⟩ = some (.int .u8 (113 : Int)) ∧ W'.cell? ⟨W.heap.size + 1, 1, none⟩ = some (.int .i64 (0 : Int)) ∧ W'.cell? ⟨W.heap.size + 1, 2, none⟩ = some (.int .i64 (0 : Int))) := bx
  obtain ⟨hle, hl4⟩ := hlt i hi
  have HA : Hid (Calls Try.prog 32 #[lasV ah us.length ch al vs.length cl, .int .i64 (i : Int)] W2 (Says (.int .i64 ((lt i : Nat) : Int)) W2)) := by
    have := atR_any us vs ch cl i ah al W2 (hu.grown g2) (hv.grown g2) h1 h2 hi
    rwa [hle] at this
  have c0 : W.cell? ⟨g, k * 3, none⟩ = some (.int .u8 (113 : Int)) := c0
  have c1 : W.cell? ⟨g, k * 3 + 1, none⟩ = some (.int .i64 (0 : Int)) := c1
  have c2 : W.cell? ⟨g, k * 3 + 2, none⟩ = some (.int .i64 (0 : Int)) := c2
  have i0 : (k : Int) < (N : Int) := by omega
  have q0 : (0 : Int) ≤ (i : Int) := by omega
  have d0 := fun o => (grown_alloc W o).cell c0 (by simp)
  have d1 := fun o => (grown_alloc W o).cell c1 (by simp)
  have d2 := fun o => (grown_alloc W o).cell c2 (by simp)
  have hF : Hid (∀ W' p, p < us.length + vs.length → W2.grownBy W' none → Calls Try.prog 33 #[lasV ah us.length ch al vs.length cl, .int .i64 (p : Int)] W' (Says (.int .i64 ((aft (us.length + vs.length) us.length p : Nat) : Int)) W')) := fun W' p hp _ => afterR_any us.length vs.length ch cl p ah al W' h1 h2 h0 hp
  clear hu hv hlt hR hle bx hW2 g2
  show Calls _ _ _ _ (Says (.bool (decide (2 ≤ lt i))) W)
  generalize lt i = z at *
  rcases fourR hl4 with rfl | rfl | rfl | rfl
  all_goals
    go_enter Try.func17, Try.ntmps17
    go_wp2_with fail
    rw [← HW2.out]
    refine HA.out.mono ?_
    rintro e w3 ⟨rfl, hg3⟩
    have G3 : Hid (W2.grownBy w3 none) := hg3
    obtain ⟨b0, b1, n0, n1, n2⟩ := SK.out w3 G3.out
    clear hg3 c0 c1 c2 d0 d1 d2
    go_wp2_with fail
    go_ret
    exact ⟨by rfl, grown_trans G2.out G3.out⟩

set_option maxHeartbeats 3200000 in
set_option maxRecDepth 100000 in
theorem there_not (us vs : List Int) (lt : Nat → Nat) (k : Nat) (S : Nat → Nat → Bool) (x : Nat) (hx : x < k) : DoesR us vs lt 33 x 0 k S (fun i => !S x i) := by
  intro W g N cap i aS ah al cs ch cl hu hv h1 h2 h0 hi hlt hkN hN c0 c1 c2 hR
  obtain ⟨W2, hW2, g2, bx⟩ := there_two W (.slice ah us.length ch) (.slice al vs.length cl) 33 x 0
  have HW2 : Hid (W2 = (W.alloc (.cells #[.slice ah us.length ch, .slice al vs.length cl] 32)).alloc (.cells #[.int .u8 (33 : Int), .int .i64 (x : Int), .int .i64 (0 : Int)] 72)) := hW2
  have G2 : Hid (W.grownBy W2 none) := g2
  have SK : Hid (∀ W', W2.grownBy W' none → W'.cell? ⟨W.heap.size, 0, none⟩ = some (.slice ah us.length ch) ∧ W'.cell? ⟨W.heap.size, 1, none⟩ = some (.slice al vs.length cl) ∧ W'.cell? ⟨W.heap.size + 1, 0, none⟩ = some (.int .u8 (33 : Int)) ∧ W'.cell? ⟨W.heap.size + 1, 1, none⟩ = some (.int .i64 (x : Int)) ∧ W'.cell? ⟨W.heap.size + 1, 2, none⟩ = some (.int .i64 (0 : Int))) := bx
  obtain ⟨hle, hl4⟩ := hlt i hi
  have HA : Hid (Calls Try.prog 32 #[lasV ah us.length ch al vs.length cl, .int .i64 (i : Int)] W2 (Says (.int .i64 ((lt i : Nat) : Int)) W2)) := by
    have := atR_any us vs ch cl i ah al W2 (hu.grown g2) (hv.grown g2) h1 h2 hi
    rwa [hle] at this
  have c0 : W.cell? ⟨g, k * 3, none⟩ = some (.int .u8 (33 : Int)) := c0
  have c1 : W.cell? ⟨g, k * 3 + 1, none⟩ = some (.int .i64 (x : Int)) := c1
  have c2 : W.cell? ⟨g, k * 3 + 2, none⟩ = some (.int .i64 (0 : Int)) := c2
  have i0 : (k : Int) < (N : Int) := by omega
  have q0 : (0 : Int) ≤ (i : Int) := by omega
  have d0 := fun o => (grown_alloc W o).cell c0 (by simp)
  have d1 := fun o => (grown_alloc W o).cell c1 (by simp)
  have d2 := fun o => (grown_alloc W o).cell c2 (by simp)
  obtain ⟨gsx, gx, ex, sx, Rx⟩ := hR x hx
  have jx : (x : Int) < (k : Int) := by omega
  have Kx : Hid (∀ W', W2.grownBy W' none → W'.cell? ⟨gsx, x, none⟩ = some (.slice (some ⟨gx, 0, none⟩) (us.length + vs.length) (us.length + vs.length)) ∧ ∀ q, q < us.length + vs.length → W'.cell? ⟨gx, q, none⟩ = some (.bool (S x q))) := fun W' h => ⟨(grown_trans g2 h).cell sx (by simp), fun q hq => (Rx.kept (grown_trans g2 h)).cell hq⟩
  subst ex
  have hF : Hid (∀ W' p, p < us.length + vs.length → W2.grownBy W' none → Calls Try.prog 33 #[lasV ah us.length ch al vs.length cl, .int .i64 (p : Int)] W' (Says (.int .i64 ((aft (us.length + vs.length) us.length p : Nat) : Int)) W')) := fun W' p hp _ => afterR_any us.length vs.length ch cl p ah al W' h1 h2 h0 hp
  clear hu hv hlt hR hle bx hW2 g2 sx Rx
  go_enter Try.func17, Try.ntmps17
  go_wp2_with fail
  rw [← HW2.out]
  refine HA.out.mono ?_
  rintro e w3 ⟨rfl, hg3⟩
  have G3 : Hid (W2.grownBy w3 none) := hg3
  obtain ⟨b0, b1, n0, n1, n2⟩ := SK.out w3 G3.out
  clear hg3 c0 c1 c2 d0 d1 d2
  have ax := (Kx.out w3 G3.out).1
  have bx := (Kx.out w3 G3.out).2 i hi
  have qi : (i : Int) < ((us.length + vs.length : Nat) : Int) := by omega
  go_wp2_with fail
  go_ret
  exact ⟨rfl, grown_trans G2.out G3.out⟩

set_option maxHeartbeats 3200000 in
set_option maxRecDepth 100000 in
theorem there_and (us vs : List Int) (lt : Nat → Nat) (k : Nat) (S : Nat → Nat → Bool) (x y : Nat) (hx : x < k) (hy : y < k) : DoesR us vs lt 38 x y k S (fun i => S x i && S y i) := by
  intro W g N cap i aS ah al cs ch cl hu hv h1 h2 h0 hi hlt hkN hN c0 c1 c2 hR
  obtain ⟨W2, hW2, g2, bx⟩ := there_two W (.slice ah us.length ch) (.slice al vs.length cl) 38 x y
  have HW2 : Hid (W2 = (W.alloc (.cells #[.slice ah us.length ch, .slice al vs.length cl] 32)).alloc (.cells #[.int .u8 (38 : Int), .int .i64 (x : Int), .int .i64 (y : Int)] 72)) := hW2
  have G2 : Hid (W.grownBy W2 none) := g2
  have SK : Hid (∀ W', W2.grownBy W' none → W'.cell? ⟨W.heap.size, 0, none⟩ = some (.slice ah us.length ch) ∧ W'.cell? ⟨W.heap.size, 1, none⟩ = some (.slice al vs.length cl) ∧ W'.cell? ⟨W.heap.size + 1, 0, none⟩ = some (.int .u8 (38 : Int)) ∧ W'.cell? ⟨W.heap.size + 1, 1, none⟩ = some (.int .i64 (x : Int)) ∧ W'.cell? ⟨W.heap.size + 1, 2, none⟩ = some (.int .i64 (y : Int))) := bx
  obtain ⟨hle, hl4⟩ := hlt i hi
  have HA : Hid (Calls Try.prog 32 #[lasV ah us.length ch al vs.length cl, .int .i64 (i : Int)] W2 (Says (.int .i64 ((lt i : Nat) : Int)) W2)) := by
    have := atR_any us vs ch cl i ah al W2 (hu.grown g2) (hv.grown g2) h1 h2 hi
    rwa [hle] at this
  have c0 : W.cell? ⟨g, k * 3, none⟩ = some (.int .u8 (38 : Int)) := c0
  have c1 : W.cell? ⟨g, k * 3 + 1, none⟩ = some (.int .i64 (x : Int)) := c1
  have c2 : W.cell? ⟨g, k * 3 + 2, none⟩ = some (.int .i64 (y : Int)) := c2
  have i0 : (k : Int) < (N : Int) := by omega
  have q0 : (0 : Int) ≤ (i : Int) := by omega
  have d0 := fun o => (grown_alloc W o).cell c0 (by simp)
  have d1 := fun o => (grown_alloc W o).cell c1 (by simp)
  have d2 := fun o => (grown_alloc W o).cell c2 (by simp)
  obtain ⟨gsx, gx, ex, sx, Rx⟩ := hR x hx
  have jx : (x : Int) < (k : Int) := by omega
  have Kx : Hid (∀ W', W2.grownBy W' none → W'.cell? ⟨gsx, x, none⟩ = some (.slice (some ⟨gx, 0, none⟩) (us.length + vs.length) (us.length + vs.length)) ∧ ∀ q, q < us.length + vs.length → W'.cell? ⟨gx, q, none⟩ = some (.bool (S x q))) := fun W' h => ⟨(grown_trans g2 h).cell sx (by simp), fun q hq => (Rx.kept (grown_trans g2 h)).cell hq⟩
  obtain ⟨gsy, gy, ey, sy, Ry⟩ := hR y hy
  have jy : (y : Int) < (k : Int) := by omega
  have Ky : Hid (∀ W', W2.grownBy W' none → W'.cell? ⟨gsy, y, none⟩ = some (.slice (some ⟨gy, 0, none⟩) (us.length + vs.length) (us.length + vs.length)) ∧ ∀ q, q < us.length + vs.length → W'.cell? ⟨gy, q, none⟩ = some (.bool (S y q))) := fun W' h => ⟨(grown_trans g2 h).cell sy (by simp), fun q hq => (Ry.kept (grown_trans g2 h)).cell hq⟩
  subst ex
  obtain rfl : gsx = gsy := by cases ey; rfl
  clear ey
  have hF : Hid (∀ W' p, p < us.length + vs.length → W2.grownBy W' none → Calls Try.prog 33 #[lasV ah us.length ch al vs.length cl, .int .i64 (p : Int)] W' (Says (.int .i64 ((aft (us.length + vs.length) us.length p : Nat) : Int)) W')) := fun W' p hp _ => afterR_any us.length vs.length ch cl p ah al W' h1 h2 h0 hp
  clear hu hv hlt hR hle bx hW2 g2 sx Rx sy Ry
  go_enter Try.func17, Try.ntmps17
  go_wp2_with fail
  rw [← HW2.out]
  refine HA.out.mono ?_
  rintro e w3 ⟨rfl, hg3⟩
  have G3 : Hid (W2.grownBy w3 none) := hg3
  obtain ⟨b0, b1, n0, n1, n2⟩ := SK.out w3 G3.out
  clear hg3 c0 c1 c2 d0 d1 d2
  have ax := (Kx.out w3 G3.out).1
  have bx := (Kx.out w3 G3.out).2 i hi
  have ay := (Ky.out w3 G3.out).1
  have byy := (Ky.out w3 G3.out).2 i hi
  have qi : (i : Int) < ((us.length + vs.length : Nat) : Int) := by omega
  generalize S x i = bX at *
  generalize S y i = bY at *
  cases bX
  all_goals
    go_wp2_with fail
    go_ret
    exact ⟨rfl, grown_trans G2.out G3.out⟩

set_option maxHeartbeats 3200000 in
set_option maxRecDepth 100000 in
theorem there_or (us vs : List Int) (lt : Nat → Nat) (k : Nat) (S : Nat → Nat → Bool) (x y : Nat) (hx : x < k) (hy : y < k) : DoesR us vs lt 124 x y k S (fun i => S x i || S y i) := by
  intro W g N cap i aS ah al cs ch cl hu hv h1 h2 h0 hi hlt hkN hN c0 c1 c2 hR
  obtain ⟨W2, hW2, g2, bx⟩ := there_two W (.slice ah us.length ch) (.slice al vs.length cl) 124 x y
  have HW2 : Hid (W2 = (W.alloc (.cells #[.slice ah us.length ch, .slice al vs.length cl] 32)).alloc (.cells #[.int .u8 (124 : Int), .int .i64 (x : Int), .int .i64 (y : Int)] 72)) := hW2
  have G2 : Hid (W.grownBy W2 none) := g2
  have SK : Hid (∀ W', W2.grownBy W' none → W'.cell? ⟨W.heap.size, 0, none⟩ = some (.slice ah us.length ch) ∧ W'.cell? ⟨W.heap.size, 1, none⟩ = some (.slice al vs.length cl) ∧ W'.cell? ⟨W.heap.size + 1, 0, none⟩ = some (.int .u8 (124 : Int)) ∧ W'.cell? ⟨W.heap.size + 1, 1, none⟩ = some (.int .i64 (x : Int)) ∧ W'.cell? ⟨W.heap.size + 1, 2, none⟩ = some (.int .i64 (y : Int))) := bx
  obtain ⟨hle, hl4⟩ := hlt i hi
  have HA : Hid (Calls Try.prog 32 #[lasV ah us.length ch al vs.length cl, .int .i64 (i : Int)] W2 (Says (.int .i64 ((lt i : Nat) : Int)) W2)) := by
    have := atR_any us vs ch cl i ah al W2 (hu.grown g2) (hv.grown g2) h1 h2 hi
    rwa [hle] at this
  have c0 : W.cell? ⟨g, k * 3, none⟩ = some (.int .u8 (124 : Int)) := c0
  have c1 : W.cell? ⟨g, k * 3 + 1, none⟩ = some (.int .i64 (x : Int)) := c1
  have c2 : W.cell? ⟨g, k * 3 + 2, none⟩ = some (.int .i64 (y : Int)) := c2
  have i0 : (k : Int) < (N : Int) := by omega
  have q0 : (0 : Int) ≤ (i : Int) := by omega
  have d0 := fun o => (grown_alloc W o).cell c0 (by simp)
  have d1 := fun o => (grown_alloc W o).cell c1 (by simp)
  have d2 := fun o => (grown_alloc W o).cell c2 (by simp)
  obtain ⟨gsx, gx, ex, sx, Rx⟩ := hR x hx
  have jx : (x : Int) < (k : Int) := by omega
  have Kx : Hid (∀ W', W2.grownBy W' none → W'.cell? ⟨gsx, x, none⟩ = some (.slice (some ⟨gx, 0, none⟩) (us.length + vs.length) (us.length + vs.length)) ∧ ∀ q, q < us.length + vs.length → W'.cell? ⟨gx, q, none⟩ = some (.bool (S x q))) := fun W' h => ⟨(grown_trans g2 h).cell sx (by simp), fun q hq => (Rx.kept (grown_trans g2 h)).cell hq⟩
  obtain ⟨gsy, gy, ey, sy, Ry⟩ := hR y hy
  have jy : (y : Int) < (k : Int) := by omega
  have Ky : Hid (∀ W', W2.grownBy W' none → W'.cell? ⟨gsy, y, none⟩ = some (.slice (some ⟨gy, 0, none⟩) (us.length + vs.length) (us.length + vs.length)) ∧ ∀ q, q < us.length + vs.length → W'.cell? ⟨gy, q, none⟩ = some (.bool (S y q))) := fun W' h => ⟨(grown_trans g2 h).cell sy (by simp), fun q hq => (Ry.kept (grown_trans g2 h)).cell hq⟩
  subst ex
  obtain rfl : gsx = gsy := by cases ey; rfl
  clear ey
  have hF : Hid (∀ W' p, p < us.length + vs.length → W2.grownBy W' none → Calls Try.prog 33 #[lasV ah us.length ch al vs.length cl, .int .i64 (p : Int)] W' (Says (.int .i64 ((aft (us.length + vs.length) us.length p : Nat) : Int)) W')) := fun W' p hp _ => afterR_any us.length vs.length ch cl p ah al W' h1 h2 h0 hp
  clear hu hv hlt hR hle bx hW2 g2 sx Rx sy Ry
  go_enter Try.func17, Try.ntmps17
  go_wp2_with fail
  rw [← HW2.out]
  refine HA.out.mono ?_
  rintro e w3 ⟨rfl, hg3⟩
  have G3 : Hid (W2.grownBy w3 none) := hg3
  obtain ⟨b0, b1, n0, n1, n2⟩ := SK.out w3 G3.out
  clear hg3 c0 c1 c2 d0 d1 d2
  have ax := (Kx.out w3 G3.out).1
  have bx := (Kx.out w3 G3.out).2 i hi
  have ay := (Ky.out w3 G3.out).1
  have byy := (Ky.out w3 G3.out).2 i hi
  have qi : (i : Int) < ((us.length + vs.length : Nat) : Int) := by omega
  generalize S x i = bX at *
  generalize S y i = bY at *
  cases bX
  all_goals
    go_wp2_with fail
    go_ret
    exact ⟨rfl, grown_trans G2.out G3.out⟩

set_option maxHeartbeats 3200000 in
set_option maxRecDepth 100000 in
theorem there_next (us vs : List Int) (lt : Nat → Nat) (k : Nat) (S : Nat → Nat → Bool) (x : Nat) (hx : x < k) : DoesR us vs lt 88 x 0 k S (fun i => S x (aft (us.length + vs.length) us.length i)) := by
  intro W g N cap i aS ah al cs ch cl hu hv h1 h2 h0 hi hlt hkN hN c0 c1 c2 hR
  obtain ⟨W2, hW2, g2, bx⟩ := there_two W (.slice ah us.length ch) (.slice al vs.length cl) 88 x 0
  have HW2 : Hid (W2 = (W.alloc (.cells #[.slice ah us.length ch, .slice al vs.length cl] 32)).alloc (.cells #[.int .u8 (88 : Int), .int .i64 (x : Int), .int .i64 (0 : Int)] 72)) := hW2
  have G2 : Hid (W.grownBy W2 none) := g2
  have SK : Hid (∀ W', W2.grownBy W' none → W'.cell? ⟨W.heap.size, 0, none⟩ = some (.slice ah us.length ch) ∧ W'.cell? ⟨W.heap.size, 1, none⟩ = some (.slice al vs.length cl) ∧ W'.cell? ⟨W.heap.size + 1, 0, none⟩ = some (.int .u8 (88 : Int)) ∧ W'.cell? ⟨W.heap.size + 1, 1, none⟩ = some (.int .i64 (x : Int)) ∧ W'.cell? ⟨W.heap.size + 1, 2, none⟩ = some (.int .i64 (0 : Int))) := bx
  obtain ⟨hle, hl4⟩ := hlt i hi
  have HA : Hid (Calls Try.prog 32 #[lasV ah us.length ch al vs.length cl, .int .i64 (i : Int)] W2 (Says (.int .i64 ((lt i : Nat) : Int)) W2)) := by
    have := atR_any us vs ch cl i ah al W2 (hu.grown g2) (hv.grown g2) h1 h2 hi
    rwa [hle] at this
  have c0 : W.cell? ⟨g, k * 3, none⟩ = some (.int .u8 (88 : Int)) := c0
  have c1 : W.cell? ⟨g, k * 3 + 1, none⟩ = some (.int .i64 (x : Int)) := c1
  have c2 : W.cell? ⟨g, k * 3 + 2, none⟩ = some (.int .i64 (0 : Int)) := c2
  have i0 : (k : Int) < (N : Int) := by omega
  have q0 : (0 : Int) ≤ (i : Int) := by omega
  have d0 := fun o => (grown_alloc W o).cell c0 (by simp)
  have d1 := fun o => (grown_alloc W o).cell c1 (by simp)
  have d2 := fun o => (grown_alloc W o).cell c2 (by simp)
  obtain ⟨gsx, gx, ex, sx, Rx⟩ := hR x hx
  have jx : (x : Int) < (k : Int) := by omega
  have Kx : Hid (∀ W', W2.grownBy W' none → W'.cell? ⟨gsx, x, none⟩ = some (.slice (some ⟨gx, 0, none⟩) (us.length + vs.length) (us.length + vs.length)) ∧ ∀ q, q < us.length + vs.length → W'.cell? ⟨gx, q, none⟩ = some (.bool (S x q))) := fun W' h => ⟨(grown_trans g2 h).cell sx (by simp), fun q hq => (Rx.kept (grown_trans g2 h)).cell hq⟩
  subst ex
  have hF : Hid (∀ W' p, p < us.length + vs.length → W2.grownBy W' none → Calls Try.prog 33 #[lasV ah us.length ch al vs.length cl, .int .i64 (p : Int)] W' (Says (.int .i64 ((aft (us.length + vs.length) us.length p : Nat) : Int)) W')) := fun W' p hp _ => afterR_any us.length vs.length ch cl p ah al W' h1 h2 h0 hp
  clear hu hv hlt hR hle bx hW2 g2 sx Rx
  go_enter Try.func17, Try.ntmps17
  go_wp2_with fail
  rw [← HW2.out]
  refine HA.out.mono ?_
  rintro e w3 ⟨rfl, hg3⟩
  have G3 : Hid (W2.grownBy w3 none) := hg3
  obtain ⟨b0, b1, n0, n1, n2⟩ := SK.out w3 G3.out
  clear hg3 c0 c1 c2 d0 d1 d2
  have ha : aft (us.length + vs.length) us.length i < us.length + vs.length := aft_lt (by omega)
  have hA : Hid (∀ W', W2.grownBy W' none → Calls Try.prog 33 #[lasV ah us.length ch al vs.length cl, .int .i64 (i : Int)] W' (Says (.int .i64 ((aft (us.length + vs.length) us.length i : Nat) : Int)) W')) := fun W' h => hF.out W' i hi h
  generalize aft (us.length + vs.length) us.length i = p at *
  have qp : (p : Int) < (us.length : Int) + (vs.length : Int) := by omega
  have qp0 : (0 : Int) ≤ (p : Int) := by omega
  have SX : Hid (∀ W', W2.grownBy W' none → W'.cell? ⟨W.heap.size, 0, none⟩ = some (.slice ah us.length ch) ∧ W'.cell? ⟨W.heap.size, 1, none⟩ = some (.slice al vs.length cl) ∧ W'.cell? ⟨W.heap.size + 1, 1, none⟩ = some (.int .i64 (x : Int)) ∧ W'.cell? ⟨gsx, x, none⟩ = some (.slice (some ⟨gx, 0, none⟩) (us.length + vs.length) (us.length + vs.length)) ∧ W'.cell? ⟨gx, p, none⟩ = some (.bool (S x p))) := fun W' h => ⟨(SK.out W' h).1, (SK.out W' h).2.1, (SK.out W' h).2.2.2.1, (Kx.out W' h).1, (Kx.out W' h).2 p ha⟩
  clear hF
  go_wp2_with fail
  clear b0 b1 n0 n1 n2
  go_region_held3 (fun W' => W'.cell? ⟨W.heap.size, 0, none⟩ = some (.slice ah us.length ch) ∧ W'.cell? ⟨W.heap.size, 1, none⟩ = some (.slice al vs.length cl) ∧ W'.cell? ⟨W.heap.size + 1, 1, none⟩ = some (.int .i64 (x : Int)) ∧ W'.cell? ⟨gsx, x, none⟩ = some (.slice (some ⟨gx, 0, none⟩) (us.length + vs.length) (us.length + vs.length)) ∧ W'.cell? ⟨gx, p, none⟩ = some (.bool (S x p))) (first | with_reducible exact SX.out _ (grown_trans G3.out (grown_drew (grown_refl _ _))) | with_reducible exact SX.out _ G5.out)
    (first
    | (go_at_call 33; refine (hA.out _ (grown_trans G3.out (grown_drew (grown_refl _ _)))).mono ?_; rintro e w5 ⟨rfl, hg5⟩; have G5 : Hid (W2.grownBy w5 none) := grown_trans (grown_trans G3.out (grown_drew (grown_refl _ _))) hg5; clear hg5))
  go_wp2_with fail
  go_ret
  exact ⟨rfl, grown_trans G2.out G5.out⟩

end Go.Proofs.Ytnhjkgfgbebfkaa
