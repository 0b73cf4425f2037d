/- The reference's there, at the words that look along the places. -/
import Derived.Test.YtnhjkgfgbebfkaaZThere
namespace Go.Proofs.Ytnhjkgfgbebfkaa
open Go.RowKit Go.Shelf
set_option linter.unusedVariables false
set_option linter.unusedSimpArgs false

set_option maxHeartbeats 3200000 in
set_option maxRecDepth 100000 in
theorem there_ev (us vs : List Int) (lt : Nat → Nat) (k : Nat) (S : Nat → Nat → Bool) (x : Nat) (hx : x < k) : DoesR us vs lt 70 x 0 k S (fun i => srch (us.length + vs.length) us.length (fun _ => true) (S x) (us.length + vs.length) i) := by
  intro W g N cap i aS ah al cs ch cl hu hv h1 h2 h0 hi hlt hkN hN c0 c1 c2 hR
  obtain ⟨W2, hW2, g2, bx⟩ := there_two W (.slice ah us.length ch) (.slice al vs.length cl) 70 x 0
  have HW2 : Hid (W2 = (W.alloc (.cells #[.slice ah us.length ch, .slice al vs.length cl] 32)).alloc (.cells #[.int .u8 (70 : Int), .int .i64 (x : Int), .int .i64 (0 : Int)] 72)) := hW2
  have G2 : Hid (W.grownBy W2 none) := g2
  have SK : Hid (∀ W', W2.grownBy W' none → W'.cell? ⟨W.heap.size, 0, none⟩ = some (.slice ah us.length ch) ∧ W'.cell? ⟨W.heap.size, 1, none⟩ = some (.slice al vs.length cl) ∧ W'.cell? ⟨W.heap.size + 1, 0, none⟩ = some (.int .u8 (70 : Int)) ∧ W'.cell? ⟨W.heap.size + 1, 1, none⟩ = some (.int .i64 (x : Int)) ∧ W'.cell? ⟨W.heap.size + 1, 2, none⟩ = some (.int .i64 (0 : Int))) := bx
  obtain ⟨hle, hl4⟩ := hlt i hi
  have HA : Hid (Calls Try.prog 32 #[lasV ah us.length ch al vs.length cl, .int .i64 (i : Int)] W2 (Says (.int .i64 ((lt i : Nat) : Int)) W2)) := by
    have := atR_any us vs ch cl i ah al W2 (hu.grown g2) (hv.grown g2) h1 h2 hi
    rwa [hle] at this
  have c0 : W.cell? ⟨g, k * 3, none⟩ = some (.int .u8 (70 : Int)) := c0
  have c1 : W.cell? ⟨g, k * 3 + 1, none⟩ = some (.int .i64 (x : Int)) := c1
  have c2 : W.cell? ⟨g, k * 3 + 2, none⟩ = some (.int .i64 (0 : Int)) := c2
  have i0 : (k : Int) < (N : Int) := by omega
  have q0 : (0 : Int) ≤ (i : Int) := by omega
  have d0 := fun o => (grown_alloc W o).cell c0 (by simp)
  have d1 := fun o => (grown_alloc W o).cell c1 (by simp)
  have d2 := fun o => (grown_alloc W o).cell c2 (by simp)
  obtain ⟨gsx, gx, ex, sx, Rx⟩ := hR x hx
  have jx : (x : Int) < (k : Int) := by omega
  have Kx : Hid (∀ W', W2.grownBy W' none → W'.cell? ⟨gsx, x, none⟩ = some (.slice (some ⟨gx, 0, none⟩) (us.length + vs.length) (us.length + vs.length)) ∧ ∀ q, q < us.length + vs.length → W'.cell? ⟨gx, q, none⟩ = some (.bool (S x q))) := fun W' h => ⟨(grown_trans g2 h).cell sx (by simp), fun q hq => (Rx.kept (grown_trans g2 h)).cell hq⟩
  subst ex
  have hF : Hid (∀ W' p, p < us.length + vs.length → W2.grownBy W' none → Calls Try.prog 33 #[lasV ah us.length ch al vs.length cl, .int .i64 (p : Int)] W' (Says (.int .i64 ((aft (us.length + vs.length) us.length p : Nat) : Int)) W')) := fun W' p hp _ => afterR_any us.length vs.length ch cl p ah al W' h1 h2 h0 hp
  clear hu hv hlt hR hle bx hW2 g2 sx Rx
  obtain ⟨n, hn⟩ : ∃ n, n = us.length + vs.length := ⟨_, rfl⟩
  obtain ⟨V, hV⟩ : ∃ V, srch n us.length (fun _ => true) (S x) n i = V := ⟨_, rfl⟩
  show Calls _ _ _ _ (Says (.bool (srch (us.length + vs.length) us.length (fun _ => true) (S x) (us.length + vs.length) i)) W)
  rw [← hn, hV]
  have hi' : i < n := by omega
  go_enter Try.func17, Try.ntmps17
  go_wp2_with fail
  rw [← HW2.out]
  refine HA.out.mono ?_
  rintro e w3 ⟨rfl, hg3⟩
  have G3 : Hid (W2.grownBy w3 none) := hg3
  obtain ⟨b0, b1, n0, n1, n2⟩ := SK.out w3 G3.out
  clear hg3 c0 c1 c2 d0 d1 d2
  go_wp2_with fail
  clear b0 b1 n0 n1 n2
  go_loopw [3, 14] (fun v3 v14 wr => ∃ (j p : Nat), v3 = .int .i64 (p : Int) ∧ v14 = .int .i64 (j : Int) ∧ j ≤ n ∧ p < n ∧ srch n us.length (fun _ => true) (S x) (n - j) p = V ∧ W2.grownBy wr none) (fun _ v14 _ => n - (intOf v14).toNat)
  case atStart => exact ⟨0, i, rfl, rfl, by omega, hi', by rw [Nat.sub_zero]; exact hV, G3.out⟩
  case round =>
    rename World => wr
    obtain ⟨j, p, rfl, rfl, hj, hp, hs, hg⟩ := hrel
    have GR : Hid (W2.grownBy wr none) := hg
    clear hg
    obtain ⟨b0, b1, n0, n1, n2⟩ := SK.out wr GR.out
    by_cases hjn : j < n
    · have qj : (j : Int) < (us.length : Int) + (vs.length : Int) := by omega
      have qp : (p : Int) < (us.length : Int) + (vs.length : Int) := by omega
      have qp0 : (0 : Int) ≤ (p : Int) := by omega
      have hpn : p < us.length + vs.length := by omega
      rw [show n - j = (n - (j + 1)) + 1 by omega] at hs
      unfold srch at hs
      have hA : Hid (∀ W', W2.grownBy W' none → Calls Try.prog 33 #[lasV ah us.length ch al vs.length cl, .int .i64 (p : Int)] W' (Says (.int .i64 ((aft n us.length p : Nat) : Int)) W')) := fun W' h => by rw [hn]; exact hF.out W' p hpn h
      have ha : aft n us.length p < n := aft_lt (by omega)
      have ax := (Kx.out wr GR.out).1
      have bx := (Kx.out wr GR.out).2 p hpn
      cases hbx : S x p
      · rw [hbx] at bx
        simp [hbx] at hs
        have HS : Hid (srch n us.length (fun _ => true) (S x) (n - (j + 1)) (aft n us.length p) = V) := hs
        clear hs
        go_wp2_with fail
        refine (hA.out _ GR.out).mono ?_
        rintro e w7 ⟨rfl, hg7⟩
        have G7 : Hid (W2.grownBy w7 none) := grown_trans GR.out hg7
        obtain ⟨b0', b1', n0', n1', n2'⟩ := SK.out w7 G7.out
        clear hg7
        go_wp2_with fail
        go_roundw
        case rel => exact ⟨j + 1, aft n us.length p, by rw [hn], by go_num, by omega, ha, HS.out, G7.out⟩
        case measure => simp [intOf]; omega
      · rw [hbx] at bx
        simp [hbx] at hs
        subst hs
        go_wp2_with fail
        go_ret
        exact ⟨rfl, grown_trans G2.out GR.out⟩
    · have qj : ¬ (j : Int) < (us.length : Int) + (vs.length : Int) := by omega
      obtain rfl : j = n := by omega
      rw [Nat.sub_self] at hs
      unfold srch at hs
      subst hs
      go_wp2_with fail
      go_ret
      exact ⟨rfl, grown_trans G2.out GR.out⟩

set_option maxHeartbeats 3200000 in
set_option maxRecDepth 100000 in
theorem there_glob (us vs : List Int) (lt : Nat → Nat) (k : Nat) (S : Nat → Nat → Bool) (x : Nat) (hx : x < k) : DoesR us vs lt 71 x 0 k S (fun i => !srch (us.length + vs.length) us.length (fun _ => true) (fun q => !S x q) (us.length + vs.length) i) := by
  intro W g N cap i aS ah al cs ch cl hu hv h1 h2 h0 hi hlt hkN hN c0 c1 c2 hR
  obtain ⟨W2, hW2, g2, bx⟩ := there_two W (.slice ah us.length ch) (.slice al vs.length cl) 71 x 0
  have HW2 : Hid (W2 = (W.alloc (.cells #[.slice ah us.length ch, .slice al vs.length cl] 32)).alloc (.cells #[.int .u8 (71 : Int), .int .i64 (x : Int), .int .i64 (0 : Int)] 72)) := hW2
  have G2 : Hid (W.grownBy W2 none) := g2
  have SK : Hid (∀ W', W2.grownBy W' none → W'.cell? ⟨W.heap.size, 0, none⟩ = some (.slice ah us.length ch) ∧ W'.cell? ⟨W.heap.size, 1, none⟩ = some (.slice al vs.length cl) ∧ W'.cell? ⟨W.heap.size + 1, 0, none⟩ = some (.int .u8 (71 : Int)) ∧ W'.cell? ⟨W.heap.size + 1, 1, none⟩ = some (.int .i64 (x : Int)) ∧ W'.cell? ⟨W.heap.size + 1, 2, none⟩ = some (.int .i64 (0 : Int))) := bx
  obtain ⟨hle, hl4⟩ := hlt i hi
  have HA : Hid (Calls Try.prog 32 #[lasV ah us.length ch al vs.length cl, .int .i64 (i : Int)] W2 (Says (.int .i64 ((lt i : Nat) : Int)) W2)) := by
    have := atR_any us vs ch cl i ah al W2 (hu.grown g2) (hv.grown g2) h1 h2 hi
    rwa [hle] at this
  have c0 : W.cell? ⟨g, k * 3, none⟩ = some (.int .u8 (71 : Int)) := c0
  have c1 : W.cell? ⟨g, k * 3 + 1, none⟩ = some (.int .i64 (x : Int)) := c1
  have c2 : W.cell? ⟨g, k * 3 + 2, none⟩ = some (.int .i64 (0 : Int)) := c2
  have i0 : (k : Int) < (N : Int) := by omega
  have q0 : (0 : Int) ≤ (i : Int) := by omega
  have d0 := fun o => (grown_alloc W o).cell c0 (by simp)
  have d1 := fun o => (grown_alloc W o).cell c1 (by simp)
  have d2 := fun o => (grown_alloc W o).cell c2 (by simp)
  obtain ⟨gsx, gx, ex, sx, Rx⟩ := hR x hx
  have jx : (x : Int) < (k : Int) := by omega
  have Kx : Hid (∀ W', W2.grownBy W' none → W'.cell? ⟨gsx, x, none⟩ = some (.slice (some ⟨gx, 0, none⟩) (us.length + vs.length) (us.length + vs.length)) ∧ ∀ q, q < us.length + vs.length → W'.cell? ⟨gx, q, none⟩ = some (.bool (S x q))) := fun W' h => ⟨(grown_trans g2 h).cell sx (by simp), fun q hq => (Rx.kept (grown_trans g2 h)).cell hq⟩
  subst ex
  have hF : Hid (∀ W' p, p < us.length + vs.length → W2.grownBy W' none → Calls Try.prog 33 #[lasV ah us.length ch al vs.length cl, .int .i64 (p : Int)] W' (Says (.int .i64 ((aft (us.length + vs.length) us.length p : Nat) : Int)) W')) := fun W' p hp _ => afterR_any us.length vs.length ch cl p ah al W' h1 h2 h0 hp
  clear hu hv hlt hR hle bx hW2 g2 sx Rx
  obtain ⟨n, hn⟩ : ∃ n, n = us.length + vs.length := ⟨_, rfl⟩
  obtain ⟨V, hV⟩ : ∃ V, srch n us.length (fun _ => true) (fun q => !S x q) n i = V := ⟨_, rfl⟩
  show Calls _ _ _ _ (Says (.bool (!srch (us.length + vs.length) us.length (fun _ => true) (fun q => !S x q) (us.length + vs.length) i)) W)
  rw [← hn, hV]
  have hi' : i < n := by omega
  go_enter Try.func17, Try.ntmps17
  go_wp2_with fail
  rw [← HW2.out]
  refine HA.out.mono ?_
  rintro e w3 ⟨rfl, hg3⟩
  have G3 : Hid (W2.grownBy w3 none) := hg3
  obtain ⟨b0, b1, n0, n1, n2⟩ := SK.out w3 G3.out
  clear hg3 c0 c1 c2 d0 d1 d2
  go_wp2_with fail
  clear b0 b1 n0 n1 n2
  go_loopw [3, 14] (fun v3 v14 wr => ∃ (j p : Nat), v3 = .int .i64 (p : Int) ∧ v14 = .int .i64 (j : Int) ∧ j ≤ n ∧ p < n ∧ srch n us.length (fun _ => true) (fun q => !S x q) (n - j) p = V ∧ W2.grownBy wr none) (fun _ v14 _ => n - (intOf v14).toNat)
  case atStart => exact ⟨0, i, rfl, rfl, by omega, hi', by rw [Nat.sub_zero]; exact hV, G3.out⟩
  case round =>
    rename World => wr
    obtain ⟨j, p, rfl, rfl, hj, hp, hs, hg⟩ := hrel
    have GR : Hid (W2.grownBy wr none) := hg
    clear hg
    obtain ⟨b0, b1, n0, n1, n2⟩ := SK.out wr GR.out
    by_cases hjn : j < n
    · have qj : (j : Int) < (us.length : Int) + (vs.length : Int) := by omega
      have qp : (p : Int) < (us.length : Int) + (vs.length : Int) := by omega
      have qp0 : (0 : Int) ≤ (p : Int) := by omega
      have hpn : p < us.length + vs.length := by omega
      rw [show n - j = (n - (j + 1)) + 1 by omega] at hs
      unfold srch at hs
      have hA : Hid (∀ W', W2.grownBy W' none → Calls Try.prog 33 #[lasV ah us.length ch al vs.length cl, .int .i64 (p : Int)] W' (Says (.int .i64 ((aft n us.length p : Nat) : Int)) W')) := fun W' h => by rw [hn]; exact hF.out W' p hpn h
      have ha : aft n us.length p < n := aft_lt (by omega)
      have ax := (Kx.out wr GR.out).1
      have bx := (Kx.out wr GR.out).2 p hpn
      cases hbx : S x p
      · rw [hbx] at bx
        simp [hbx] at hs
        subst hs
        go_wp2_with fail
        go_ret
        exact ⟨rfl, grown_trans G2.out GR.out⟩
      · rw [hbx] at bx
        simp [hbx] at hs
        have HS : Hid (srch n us.length (fun _ => true) (fun q => !S x q) (n - (j + 1)) (aft n us.length p) = V) := hs
        clear hs
        go_wp2_with fail
        refine (hA.out _ GR.out).mono ?_
        rintro e w7 ⟨rfl, hg7⟩
        have G7 : Hid (W2.grownBy w7 none) := grown_trans GR.out hg7
        obtain ⟨b0', b1', n0', n1', n2'⟩ := SK.out w7 G7.out
        clear hg7
        go_wp2_with fail
        go_roundw
        case rel => exact ⟨j + 1, aft n us.length p, by rw [hn], by go_num, by omega, ha, HS.out, G7.out⟩
        case measure => simp [intOf]; omega
    · have qj : ¬ (j : Int) < (us.length : Int) + (vs.length : Int) := by omega
      obtain rfl : j = n := by omega
      rw [Nat.sub_self] at hs
      unfold srch at hs
      subst hs
      go_wp2_with fail
      go_ret
      exact ⟨rfl, grown_trans G2.out GR.out⟩

set_option maxHeartbeats 3200000 in
set_option maxRecDepth 100000 in
theorem there_til (us vs : List Int) (lt : Nat → Nat) (k : Nat) (S : Nat → Nat → Bool) (x y : Nat) (hx : x < k) (hy : y < k) : DoesR us vs lt 85 x y k S (fun i => srch (us.length + vs.length) us.length (S x) (S y) (us.length + vs.length) i) := by
  intro W g N cap i aS ah al cs ch cl hu hv h1 h2 h0 hi hlt hkN hN c0 c1 c2 hR
  obtain ⟨W2, hW2, g2, bx⟩ := there_two W (.slice ah us.length ch) (.slice al vs.length cl) 85 x y
  have HW2 : Hid (W2 = (W.alloc (.cells #[.slice ah us.length ch, .slice al vs.length cl] 32)).alloc (.cells #[.int .u8 (85 : Int), .int .i64 (x : Int), .int .i64 (y : Int)] 72)) := hW2
  have G2 : Hid (W.grownBy W2 none) := g2
  have SK : Hid (∀ W', W2.grownBy W' none → W'.cell? ⟨W.heap.size, 0, none⟩ = some (.slice ah us.length ch) ∧ W'.cell? ⟨W.heap.size, 1, none⟩ = some (.slice al vs.length cl) ∧ W'.cell? ⟨W.heap.size + 1, 0, none⟩ = some (.int .u8 (85 : Int)) ∧ W'.cell? ⟨W.heap.size + 1, 1, none⟩ = some (.int .i64 (x : Int)) ∧ W'.cell? ⟨W.heap.size + 1, 2, none⟩ = some (.int .i64 (y : Int))) := bx
  obtain ⟨hle, hl4⟩ := hlt i hi
  have HA : Hid (Calls Try.prog 32 #[lasV ah us.length ch al vs.length cl, .int .i64 (i : Int)] W2 (Says (.int .i64 ((lt i : Nat) : Int)) W2)) := by
    have := atR_any us vs ch cl i ah al W2 (hu.grown g2) (hv.grown g2) h1 h2 hi
    rwa [hle] at this
  have c0 : W.cell? ⟨g, k * 3, none⟩ = some (.int .u8 (85 : Int)) := c0
  have c1 : W.cell? ⟨g, k * 3 + 1, none⟩ = some (.int .i64 (x : Int)) := c1
  have c2 : W.cell? ⟨g, k * 3 + 2, none⟩ = some (.int .i64 (y : Int)) := c2
  have i0 : (k : Int) < (N : Int) := by omega
  have q0 : (0 : Int) ≤ (i : Int) := by omega
  have d0 := fun o => (grown_alloc W o).cell c0 (by simp)
  have d1 := fun o => (grown_alloc W o).cell c1 (by simp)
  have d2 := fun o => (grown_alloc W o).cell c2 (by simp)
  obtain ⟨gsx, gx, ex, sx, Rx⟩ := hR x hx
  have jx : (x : Int) < (k : Int) := by omega
  have Kx : Hid (∀ W', W2.grownBy W' none → W'.cell? ⟨gsx, x, none⟩ = some (.slice (some ⟨gx, 0, none⟩) (us.length + vs.length) (us.length + vs.length)) ∧ ∀ q, q < us.length + vs.length → W'.cell? ⟨gx, q, none⟩ = some (.bool (S x q))) := fun W' h => ⟨(grown_trans g2 h).cell sx (by simp), fun q hq => (Rx.kept (grown_trans g2 h)).cell hq⟩
  obtain ⟨gsy, gy, ey, sy, Ry⟩ := hR y hy
  have jy : (y : Int) < (k : Int) := by omega
  have Ky : Hid (∀ W', W2.grownBy W' none → W'.cell? ⟨gsy, y, none⟩ = some (.slice (some ⟨gy, 0, none⟩) (us.length + vs.length) (us.length + vs.length)) ∧ ∀ q, q < us.length + vs.length → W'.cell? ⟨gy, q, none⟩ = some (.bool (S y q))) := fun W' h => ⟨(grown_trans g2 h).cell sy (by simp), fun q hq => (Ry.kept (grown_trans g2 h)).cell hq⟩
  subst ex
  obtain rfl : gsx = gsy := by cases ey; rfl
  clear ey
  have hF : Hid (∀ W' p, p < us.length + vs.length → W2.grownBy W' none → Calls Try.prog 33 #[lasV ah us.length ch al vs.length cl, .int .i64 (p : Int)] W' (Says (.int .i64 ((aft (us.length + vs.length) us.length p : Nat) : Int)) W')) := fun W' p hp _ => afterR_any us.length vs.length ch cl p ah al W' h1 h2 h0 hp
  clear hu hv hlt hR hle bx hW2 g2 sx Rx sy Ry
  obtain ⟨n, hn⟩ : ∃ n, n = us.length + vs.length := ⟨_, rfl⟩
  obtain ⟨V, hV⟩ : ∃ V, srch n us.length (S x) (S y) n i = V := ⟨_, rfl⟩
  show Calls _ _ _ _ (Says (.bool (srch (us.length + vs.length) us.length (S x) (S y) (us.length + vs.length) i)) W)
  rw [← hn, hV]
  have hi' : i < n := by omega
  go_enter Try.func17, Try.ntmps17
  go_wp2_with fail
  rw [← HW2.out]
  refine HA.out.mono ?_
  rintro e w3 ⟨rfl, hg3⟩
  have G3 : Hid (W2.grownBy w3 none) := hg3
  obtain ⟨b0, b1, n0, n1, n2⟩ := SK.out w3 G3.out
  clear hg3 c0 c1 c2 d0 d1 d2
  go_wp2_with fail
  clear b0 b1 n0 n1 n2
  go_loopw [3, 14] (fun v3 v14 wr => ∃ (j p : Nat), v3 = .int .i64 (p : Int) ∧ v14 = .int .i64 (j : Int) ∧ j ≤ n ∧ p < n ∧ srch n us.length (S x) (S y) (n - j) p = V ∧ W2.grownBy wr none) (fun _ v14 _ => n - (intOf v14).toNat)
  case atStart => exact ⟨0, i, rfl, rfl, by omega, hi', by rw [Nat.sub_zero]; exact hV, G3.out⟩
  case round =>
    rename World => wr
    obtain ⟨j, p, rfl, rfl, hj, hp, hs, hg⟩ := hrel
    have GR : Hid (W2.grownBy wr none) := hg
    clear hg
    obtain ⟨b0, b1, n0, n1, n2⟩ := SK.out wr GR.out
    by_cases hjn : j < n
    · have qj : (j : Int) < (us.length : Int) + (vs.length : Int) := by omega
      have qp : (p : Int) < (us.length : Int) + (vs.length : Int) := by omega
      have qp0 : (0 : Int) ≤ (p : Int) := by omega
      have hpn : p < us.length + vs.length := by omega
      rw [show n - j = (n - (j + 1)) + 1 by omega] at hs
      unfold srch at hs
      have hA : Hid (∀ W', W2.grownBy W' none → Calls Try.prog 33 #[lasV ah us.length ch al vs.length cl, .int .i64 (p : Int)] W' (Says (.int .i64 ((aft n us.length p : Nat) : Int)) W')) := fun W' h => by rw [hn]; exact hF.out W' p hpn h
      have ha : aft n us.length p < n := aft_lt (by omega)
      have ax := (Kx.out wr GR.out).1
      have bx := (Kx.out wr GR.out).2 p hpn
      have ay := (Ky.out wr GR.out).1
      have byy := (Ky.out wr GR.out).2 p hpn
      cases hby : S y p
      · rw [hby] at byy
        simp [hby] at hs
        cases hbx : S x p
        · rw [hbx] at bx
          simp [hbx] at hs
          subst hs
          go_wp2_with fail
          go_ret
          exact ⟨rfl, grown_trans G2.out GR.out⟩
        · rw [hbx] at bx
          simp [hbx] at hs
          have HS : Hid (srch n us.length (S x) (S y) (n - (j + 1)) (aft n us.length p) = V) := hs
          clear hs
          go_wp2_with fail
          refine (hA.out _ GR.out).mono ?_
          rintro e w7 ⟨rfl, hg7⟩
          have G7 : Hid (W2.grownBy w7 none) := grown_trans GR.out hg7
          obtain ⟨b0', b1', n0', n1', n2'⟩ := SK.out w7 G7.out
          clear hg7
          go_wp2_with fail
          go_roundw
          case rel => exact ⟨j + 1, aft n us.length p, by rw [hn], by go_num, by omega, ha, HS.out, G7.out⟩
          case measure => simp [intOf]; omega
      · rw [hby] at byy
        simp [hby] at hs
        subst hs
        go_wp2_with fail
        go_ret
        exact ⟨rfl, grown_trans G2.out GR.out⟩
    · have qj : ¬ (j : Int) < (us.length : Int) + (vs.length : Int) := by omega
      obtain rfl : j = n := by omega
      rw [Nat.sub_self] at hs
      unfold srch at hs
      subst hs
      go_wp2_with fail
      go_ret
      exact ⟨rfl, grown_trans G2.out GR.out⟩

set_option maxHeartbeats 3200000 in
set_option maxRecDepth 100000 in
theorem there_rel (us vs : List Int) (lt : Nat → Nat) (k : Nat) (S : Nat → Nat → Bool) (x y : Nat) (hx : x < k) (hy : y < k) : DoesR us vs lt 82 x y k S (fun i => !srch (us.length + vs.length) us.length (fun q => !S x q) (fun q => !S y q) (us.length + vs.length) i) := by
  intro W g N cap i aS ah al cs ch cl hu hv h1 h2 h0 hi hlt hkN hN c0 c1 c2 hR
  obtain ⟨W2, hW2, g2, bx⟩ := there_two W (.slice ah us.length ch) (.slice al vs.length cl) 82 x y
  have HW2 : Hid (W2 = (W.alloc (.cells #[.slice ah us.length ch, .slice al vs.length cl] 32)).alloc (.cells #[.int .u8 (82 : Int), .int .i64 (x : Int), .int .i64 (y : Int)] 72)) := hW2
  have G2 : Hid (W.grownBy W2 none) := g2
  have SK : Hid (∀ W', W2.grownBy W' none → W'.cell? ⟨W.heap.size, 0, none⟩ = some (.slice ah us.length ch) ∧ W'.cell? ⟨W.heap.size, 1, none⟩ = some (.slice al vs.length cl) ∧ W'.cell? ⟨W.heap.size + 1, 0, none⟩ = some (.int .u8 (82 : Int)) ∧ W'.cell? ⟨W.heap.size + 1, 1, none⟩ = some (.int .i64 (x : Int)) ∧ W'.cell? ⟨W.heap.size + 1, 2, none⟩ = some (.int .i64 (y : Int))) := bx
  obtain ⟨hle, hl4⟩ := hlt i hi
  have HA : Hid (Calls Try.prog 32 #[lasV ah us.length ch al vs.length cl, .int .i64 (i : Int)] W2 (Says (.int .i64 ((lt i : Nat) : Int)) W2)) := by
    have := atR_any us vs ch cl i ah al W2 (hu.grown g2) (hv.grown g2) h1 h2 hi
    rwa [hle] at this
  have c0 : W.cell? ⟨g, k * 3, none⟩ = some (.int .u8 (82 : Int)) := c0
  have c1 : W.cell? ⟨g, k * 3 + 1, none⟩ = some (.int .i64 (x : Int)) := c1
  have c2 : W.cell? ⟨g, k * 3 + 2, none⟩ = some (.int .i64 (y : Int)) := c2
  have i0 : (k : Int) < (N : Int) := by omega
  have q0 : (0 : Int) ≤ (i : Int) := by omega
  have d0 := fun o => (grown_alloc W o).cell c0 (by simp)
  have d1 := fun o => (grown_alloc W o).cell c1 (by simp)
  have d2 := fun o => (grown_alloc W o).cell c2 (by simp)
  obtain ⟨gsx, gx, ex, sx, Rx⟩ := hR x hx
  have jx : (x : Int) < (k : Int) := by omega
  have Kx : Hid (∀ W', W2.grownBy W' none → W'.cell? ⟨gsx, x, none⟩ = some (.slice (some ⟨gx, 0, none⟩) (us.length + vs.length) (us.length + vs.length)) ∧ ∀ q, q < us.length + vs.length → W'.cell? ⟨gx, q, none⟩ = some (.bool (S x q))) := fun W' h => ⟨(grown_trans g2 h).cell sx (by simp), fun q hq => (Rx.kept (grown_trans g2 h)).cell hq⟩
  obtain ⟨gsy, gy, ey, sy, Ry⟩ := hR y hy
  have jy : (y : Int) < (k : Int) := by omega
  have Ky : Hid (∀ W', W2.grownBy W' none → W'.cell? ⟨gsy, y, none⟩ = some (.slice (some ⟨gy, 0, none⟩) (us.length + vs.length) (us.length + vs.length)) ∧ ∀ q, q < us.length + vs.length → W'.cell? ⟨gy, q, none⟩ = some (.bool (S y q))) := fun W' h => ⟨(grown_trans g2 h).cell sy (by simp), fun q hq => (Ry.kept (grown_trans g2 h)).cell hq⟩
  subst ex
  obtain rfl : gsx = gsy := by cases ey; rfl
  clear ey
  have hF : Hid (∀ W' p, p < us.length + vs.length → W2.grownBy W' none → Calls Try.prog 33 #[lasV ah us.length ch al vs.length cl, .int .i64 (p : Int)] W' (Says (.int .i64 ((aft (us.length + vs.length) us.length p : Nat) : Int)) W')) := fun W' p hp _ => afterR_any us.length vs.length ch cl p ah al W' h1 h2 h0 hp
  clear hu hv hlt hR hle bx hW2 g2 sx Rx sy Ry
  obtain ⟨n, hn⟩ : ∃ n, n = us.length + vs.length := ⟨_, rfl⟩
  obtain ⟨V, hV⟩ : ∃ V, srch n us.length (fun q => !S x q) (fun q => !S y q) n i = V := ⟨_, rfl⟩
  show Calls _ _ _ _ (Says (.bool (!srch (us.length + vs.length) us.length (fun q => !S x q) (fun q => !S y q) (us.length + vs.length) i)) W)
  rw [← hn, hV]
  have hi' : i < n := by omega
  go_enter Try.func17, Try.ntmps17
  go_wp2_with fail
  rw [← HW2.out]
  refine HA.out.mono ?_
  rintro e w3 ⟨rfl, hg3⟩
  have G3 : Hid (W2.grownBy w3 none) := hg3
  obtain ⟨b0, b1, n0, n1, n2⟩ := SK.out w3 G3.out
  clear hg3 c0 c1 c2 d0 d1 d2
  go_wp2_with fail
  clear b0 b1 n0 n1 n2
  go_loopw [3, 14] (fun v3 v14 wr => ∃ (j p : Nat), v3 = .int .i64 (p : Int) ∧ v14 = .int .i64 (j : Int) ∧ j ≤ n ∧ p < n ∧ srch n us.length (fun q => !S x q) (fun q => !S y q) (n - j) p = V ∧ W2.grownBy wr none) (fun _ v14 _ => n - (intOf v14).toNat)
  case atStart => exact ⟨0, i, rfl, rfl, by omega, hi', by rw [Nat.sub_zero]; exact hV, G3.out⟩
  case round =>
    rename World => wr
    obtain ⟨j, p, rfl, rfl, hj, hp, hs, hg⟩ := hrel
    have GR : Hid (W2.grownBy wr none) := hg
    clear hg
    obtain ⟨b0, b1, n0, n1, n2⟩ := SK.out wr GR.out
    by_cases hjn : j < n
    · have qj : (j : Int) < (us.length : Int) + (vs.length : Int) := by omega
      have qp : (p : Int) < (us.length : Int) + (vs.length : Int) := by omega
      have qp0 : (0 : Int) ≤ (p : Int) := by omega
      have hpn : p < us.length + vs.length := by omega
      rw [show n - j = (n - (j + 1)) + 1 by omega] at hs
      unfold srch at hs
      have hA : Hid (∀ W', W2.grownBy W' none → Calls Try.prog 33 #[lasV ah us.length ch al vs.length cl, .int .i64 (p : Int)] W' (Says (.int .i64 ((aft n us.length p : Nat) : Int)) W')) := fun W' h => by rw [hn]; exact hF.out W' p hpn h
      have ha : aft n us.length p < n := aft_lt (by omega)
      have ax := (Kx.out wr GR.out).1
      have bx := (Kx.out wr GR.out).2 p hpn
      have ay := (Ky.out wr GR.out).1
      have byy := (Ky.out wr GR.out).2 p hpn
      cases hby : S y p
      · rw [hby] at byy
        simp [hby] at hs
        subst hs
        go_wp2_with fail
        go_ret
        exact ⟨rfl, grown_trans G2.out GR.out⟩
      · rw [hby] at byy
        simp [hby] at hs
        cases hbx : S x p
        · rw [hbx] at bx
          simp [hbx] at hs
          have HS : Hid (srch n us.length (fun q => !S x q) (fun q => !S y q) (n - (j + 1)) (aft n us.length p) = V) := hs
          clear hs
          go_wp2_with fail
          refine (hA.out _ GR.out).mono ?_
          rintro e w7 ⟨rfl, hg7⟩
          have G7 : Hid (W2.grownBy w7 none) := grown_trans GR.out hg7
          obtain ⟨b0', b1', n0', n1', n2'⟩ := SK.out w7 G7.out
          clear hg7
          go_wp2_with fail
          go_roundw
          case rel => exact ⟨j + 1, aft n us.length p, by rw [hn], by go_num, by omega, ha, HS.out, G7.out⟩
          case measure => simp [intOf]; omega
        · rw [hbx] at bx
          simp [hbx] at hs
          subst hs
          go_wp2_with fail
          go_ret
          exact ⟨rfl, grown_trans G2.out GR.out⟩
    · have qj : ¬ (j : Int) < (us.length : Int) + (vs.length : Int) := by omega
      obtain rfl : j = n := by omega
      rw [Nat.sub_self] at hs
      unfold srch at hs
      subst hs
      go_wp2_with fail
      go_ret
      exact ⟨rfl, grown_trans G2.out GR.out⟩

end Go.Proofs.Ytnhjkgfgbebfkaa
