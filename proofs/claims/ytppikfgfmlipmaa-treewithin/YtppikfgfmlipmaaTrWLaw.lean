/- TreeWithin's walk, out of what its calls answer. -/
import Derived.Test.YtppikfgfmlipmaaTrChkB
import Derived.Test.YtppikfgfmlipmaaTrStore
namespace Go.Proofs.Ytppikfgfmlipmaa
open Go.RowKit
set_option linter.unusedVariables false

set_option maxHeartbeats 3200000 in
set_option maxRecDepth 100000 in
theorem wlaw_bad (L N S0 L' N' S0' : Int) (b e b' e' a : Option Addr) (nR d nM f nR' d' nM' f' nT c : Nat) (w : World)
    (ca cb re : Int) (hre : re ≠ 0) (hk : (ca ≠ 0 ∧ re = ca) ∨ (ca = 0 ∧ cb ≠ 0 ∧ re = cb) ∨ (ca = 0 ∧ cb = 0 ∧ L ≠ L' ∧ re = 3) ∨ (ca = 0 ∧ cb = 0 ∧ L = L' ∧ ((3 < N ∨ 3 < N') ∨ 2 < L) ∧ re = 1))
    (HW : Hid (∀ W, w.grownBy W none → Calls Try.prog 4 #[trsV L N b nR d S0 e nM f, trsV L' N' b' nR' d' S0' e' nM' f'] W (Says (.tuple #[treeV none 0 0, .bool false, .int .i64 re]) W)))
    (HCa : Hid (∀ W, w.grownBy W none → Calls Try.prog 5 #[trsV L N b nR d S0 e nM f] W (Says (.int .i64 ca) W)))
    (HCb : Hid (∀ W, w.grownBy W none → Calls Try.prog 5 #[trsV L' N' b' nR' d' S0' e' nM' f'] W (Says (.int .i64 cb) W))) :
    Calls Try.prog 3 #[trsV L N b nR d S0 e nM f, trsV L' N' b' nR' d' S0' e' nM' f', treeV a nT c] w (Says (.bool true) w) := by
  obtain ⟨Wb, hWb, gb, sb, bx, by1⟩ := two_boxW w (.int .i64 L) (.int .i64 N) (.slice b nR d) (.int .i64 S0) (.slice e nM f) (.int .i64 L') (.int .i64 N') (.slice b' nR' d') (.int .i64 S0') (.slice e' nM' f')
  obtain ⟨W1, hW1, g1, s1, bx1⟩ := box1_new Wb (.slice a nT c) 28
  have HW1 : Hid (W1 = _) := hW1.trans (by rw [hWb])
  have G1 : Hid (w.grownBy W1 none) := grown_trans gb g1
  rw [sb] at bx1
  have BX : Hid (∀ W', W1.grownBy W' none → W'.cell? ⟨w.heap.size, 0, none⟩ = some (.int .i64 L) ∧ W'.cell? ⟨w.heap.size, 1, none⟩ = some (.int .i64 N) ∧ W'.cell? ⟨w.heap.size, 2, none⟩ = some (.slice b nR d) ∧ W'.cell? ⟨w.heap.size, 3, none⟩ = some (.int .i64 S0) ∧ W'.cell? ⟨w.heap.size, 4, none⟩ = some (.slice e nM f)) := fun W' h => bx W' (grown_trans g1 h)
  have BY : Hid (∀ W', W1.grownBy W' none → W'.cell? ⟨w.heap.size + 1, 0, none⟩ = some (.int .i64 L') ∧ W'.cell? ⟨w.heap.size + 1, 1, none⟩ = some (.int .i64 N') ∧ W'.cell? ⟨w.heap.size + 1, 2, none⟩ = some (.slice b' nR' d') ∧ W'.cell? ⟨w.heap.size + 1, 3, none⟩ = some (.int .i64 S0') ∧ W'.cell? ⟨w.heap.size + 1, 4, none⟩ = some (.slice e' nM' f')) := fun W' h => by1 W' (grown_trans g1 h)
  have BT : Hid (∀ W', W1.grownBy W' none → W'.cell? ⟨w.heap.size + 1 + 1, 0, none⟩ = some (.slice a nT c)) := bx1
  obtain ⟨x0, x1, x2, x3, x4⟩ := BX.out W1 (grown_refl _ _)
  obtain ⟨z0, z1, z2, z3, z4⟩ := BY.out W1 (grown_refl _ _)
  rw [HW1.out] at x0 x1 x2 x3 x4 z0 z1 z2 z3 z4
  clear hWb gb sb bx by1 hW1 g1 s1 bx1
  have HK : Hid ((ca ≠ 0 ∧ re = ca) ∨ (ca = 0 ∧ cb ≠ 0 ∧ re = cb) ∨ (ca = 0 ∧ cb = 0 ∧ L ≠ L' ∧ re = 3) ∨ (ca = 0 ∧ cb = 0 ∧ L = L' ∧ ((3 < N ∨ 3 < N') ∨ 2 < L) ∧ re = 1)) := hk
  have HRe : Hid (re ≠ 0) := hre
  clear hk hre
  go_enter Try.func3, Try.ntmps3
  go_wp2_with fail
  rw [← HW1.out]
  clear x0 x1 x2 x3 x4 z0 z1 z2 z3 z4
  refine (HW.out _ G1.out).mono ?_
  rintro E w2 ⟨rfl, hg2⟩
  obtain ⟨W3, hW3, g3, s3, bx3⟩ := box1_new w2 (.slice none 0 0) 28
  have HW3 : Hid (W3 = _) := hW3
  have G3 : Hid (W1.grownBy W3 none) := grown_trans hg2 g3
  have G23 : Hid (w2.grownBy W3 none) := g3
  have BS : Hid (∀ W', W3.grownBy W' none → W'.cell? ⟨w2.heap.size, 0, none⟩ = some (.slice none 0 0)) := bx3
  obtain ⟨x0, x1, x2, x3, x4⟩ := BX.out W3 G3.out
  obtain ⟨z0, z1, z2, z3, z4⟩ := BY.out W3 G3.out
  rw [hW3] at x0 x1 x2 x3 x4 z0 z1 z2 z3 z4
  clear hg2 hW3 g3 s3 bx3 HW
  go_wp2_with fail
  rw [← HW3.out]
  clear x0 x1 x2 x3 x4 z0 z1 z2 z3 z4
  refine (HCa.out _ (grown_trans G1.out G3.out)).mono ?_
  rintro E w4 ⟨rfl, hg4⟩
  have G4 : Hid (W3.grownBy w4 none) := hg4
  obtain ⟨x0, x1, x2, x3, x4⟩ := BX.out w4 (grown_trans G3.out hg4)
  obtain ⟨z0, z1, z2, z3, z4⟩ := BY.out w4 (grown_trans G3.out hg4)
  have ys := BS.out w4 hg4
  clear hg4 HCa
  have GF4 : Hid (w.grownBy w4 none) := grown_trans G1.out (grown_trans G3.out G4.out)
  by_cases hca : ca = 0
  case neg =>
    have d0 : (ca == 0) = false := by simpa using hca
    have d1 : (ca != 0) = true := by simpa using hca
    have h1 : re = ca := by rcases HK.out with h | h | h | h <;> first | exact h.2 | exact absurd h.1 hca
    subst h1
    have d2 : (re == re) = true := by simp
    clear hca
    go_wp2_with fail
    go_ret
    exact ⟨rfl, GF4.out⟩
  have d0 : (ca == 0) = true := by simpa using hca
  have HK2 : Hid ((cb ≠ 0 ∧ re = cb) ∨ (cb = 0 ∧ L ≠ L' ∧ re = 3) ∨ (cb = 0 ∧ L = L' ∧ ((3 < N ∨ 3 < N') ∨ 2 < L) ∧ re = 1)) := by
    rcases HK.out with h | h | h | h
    · exact absurd hca h.1
    · exact .inl h.2
    · exact .inr (.inl h.2)
    · exact .inr (.inr h.2)
  clear hca HK
  go_wp2_with fail
  clear x0 x1 x2 x3 x4 z0 z1 z2 z3 z4 ys
  refine (HCb.out _ (grown_trans G1.out (grown_trans G3.out G4.out))).mono ?_
  rintro E w5 ⟨rfl, hg5⟩
  have G5 : Hid (W3.grownBy w5 none) := grown_trans G4.out hg5
  obtain ⟨x0, x1, x2, x3, x4⟩ := BX.out w5 (grown_trans G3.out G5.out)
  obtain ⟨z0, z1, z2, z3, z4⟩ := BY.out w5 (grown_trans G3.out G5.out)
  have ys := BS.out w5 G5.out
  clear hg5 HCb G4
  have GF : Hid (w.grownBy w5 none) := grown_trans G1.out (grown_trans G3.out G5.out)
  by_cases hcb : cb = 0
  case neg =>
    have d3 : (cb == 0) = false := by simpa using hcb
    have d1 : (cb != 0) = true := by simpa using hcb
    have h1 : re = cb := by rcases HK2.out with h | h | h <;> first | exact h.2 | exact absurd h.1 hcb
    subst h1
    have d2 : (re == re) = true := by simp
    clear hcb
    go_wp2_with fail
    go_ret
    exact ⟨rfl, GF.out⟩
  have d3 : (cb == 0) = true := by simpa using hcb
  by_cases hL : L = L'
  case neg =>
    have d4 : (L != L') = true := by simpa using hL
    have h1 : re = 3 := by rcases HK2.out with h | h | h <;> first | exact absurd hcb h.1 | exact h.2.2 | exact absurd h.2.1 hL
    subst h1
    clear hcb hL
    go_wp2_with fail
    go_ret
    exact ⟨rfl, GF.out⟩
  have d4 : (L != L') = false := by simpa using hL
  have h1 : re = 1 ∧ ((3 < N ∨ 3 < N') ∨ 2 < L) := by rcases HK2.out with h | h | h <;> first | exact absurd hcb h.1 | exact ⟨h.2.2.2, h.2.2.1⟩ | exact absurd hL h.2.1
  obtain ⟨h1, h2⟩ := h1
  subst h1
  have HH : Hid ((3 < N ∨ 3 < N') ∨ 2 < L) := h2
  clear hcb hL h2
  obtain ⟨bN, hbN⟩ : ∃ bN, decide (3 < N) = bN := ⟨_, rfl⟩
  obtain ⟨bM, hbM⟩ : ∃ bM, decide (3 < N') = bM := ⟨_, rfl⟩
  have hbL : bN = false → bM = false → decide (2 < L) = true := fun e1 e2 => by
    rw [e1, decide_eq_false_iff_not] at hbN
    rw [e2, decide_eq_false_iff_not] at hbM
    exact decide_eq_true (HH.out.resolve_left (fun e => e.elim hbN hbM))
  cases bN <;> cases bM
  all_goals
    try have hbL' := hbL rfl rfl
    clear hbL
    go_wp2_with fail
    go_ret
    exact ⟨rfl, GF.out⟩

set_option maxHeartbeats 3200000 in
set_option maxRecDepth 100000 in
theorem wlaw_full (L N S0 N' S0' : Int) (b e b' e' a : Option Addr) (nR d nM f nR' d' nM' f' nT c : Nat) (w : World)
    (hN : N ≤ 3) (hN' : N' ≤ 3) (hL : L ≤ 2)
    (HW : Hid (∀ W, w.grownBy W none → Calls Try.prog 4 #[trsV L N b nR d S0 e nM f, trsV L N' b' nR' d' S0' e' nM' f'] W (fun E W' => ∃ (a2 : Option Addr) (c2 : Nat), E = .returned (.tuple #[treeV a2 0 c2, .bool false, .int .i64 7]) ∧ W.grownBy W' none)))
    (HA : Hid (∀ W, w.grownBy W none → Calls Try.prog 6 #[trsV L N b nR d S0 e nM f, trsV L N' b' nR' d' S0' e' nM' f'] W (fun E W' => ∃ r : Nat, E = .returned (.int .i64 (r : Int)) ∧ 60 < r ∧ W.grownBy W' none)))
    (HCa : Hid (∀ W, w.grownBy W none → Calls Try.prog 5 #[trsV L N b nR d S0 e nM f] W (Says (.int .i64 0) W)))
    (HCb : Hid (∀ W, w.grownBy W none → Calls Try.prog 5 #[trsV L N' b' nR' d' S0' e' nM' f'] W (Says (.int .i64 0) W))) :
    Calls Try.prog 3 #[trsV L N b nR d S0 e nM f, trsV L N' b' nR' d' S0' e' nM' f', treeV a nT c] w (Says (.bool true) w) := by
  obtain ⟨Wb, hWb, gb, sb, bx, by1⟩ := two_boxW w (.int .i64 L) (.int .i64 N) (.slice b nR d) (.int .i64 S0) (.slice e nM f) (.int .i64 L) (.int .i64 N') (.slice b' nR' d') (.int .i64 S0') (.slice e' nM' f')
  obtain ⟨W1, hW1, g1, s1, bx1⟩ := box1_new Wb (.slice a nT c) 28
  have HW1 : Hid (W1 = _) := hW1.trans (by rw [hWb])
  have G1 : Hid (w.grownBy W1 none) := grown_trans gb g1
  rw [sb] at bx1
  have BX : Hid (∀ W', W1.grownBy W' none → W'.cell? ⟨w.heap.size, 0, none⟩ = some (.int .i64 L) ∧ W'.cell? ⟨w.heap.size, 1, none⟩ = some (.int .i64 N) ∧ W'.cell? ⟨w.heap.size, 2, none⟩ = some (.slice b nR d) ∧ W'.cell? ⟨w.heap.size, 3, none⟩ = some (.int .i64 S0) ∧ W'.cell? ⟨w.heap.size, 4, none⟩ = some (.slice e nM f)) := fun W' h => bx W' (grown_trans g1 h)
  have BY : Hid (∀ W', W1.grownBy W' none → W'.cell? ⟨w.heap.size + 1, 0, none⟩ = some (.int .i64 L) ∧ W'.cell? ⟨w.heap.size + 1, 1, none⟩ = some (.int .i64 N') ∧ W'.cell? ⟨w.heap.size + 1, 2, none⟩ = some (.slice b' nR' d') ∧ W'.cell? ⟨w.heap.size + 1, 3, none⟩ = some (.int .i64 S0') ∧ W'.cell? ⟨w.heap.size + 1, 4, none⟩ = some (.slice e' nM' f')) := fun W' h => by1 W' (grown_trans g1 h)
  have BT : Hid (∀ W', W1.grownBy W' none → W'.cell? ⟨w.heap.size + 1 + 1, 0, none⟩ = some (.slice a nT c)) := bx1
  obtain ⟨x0, x1, x2, x3, x4⟩ := BX.out W1 (grown_refl _ _)
  obtain ⟨z0, z1, z2, z3, z4⟩ := BY.out W1 (grown_refl _ _)
  rw [HW1.out] at x0 x1 x2 x3 x4 z0 z1 z2 z3 z4
  clear hWb gb sb bx by1 hW1 g1 s1 bx1
  have dN : decide (3 < N) = false := by simp; omega
  have dN' : decide (3 < N') = false := by simp; omega
  have dL : decide (2 < L) = false := by simp; omega
  have dLL : (L != L) = false := by simp
  clear hN hN' hL
  go_enter Try.func3, Try.ntmps3
  go_wp2_with fail
  rw [← HW1.out]
  clear x0 x1 x2 x3 x4 z0 z1 z2 z3 z4
  refine (HW.out _ G1.out).mono ?_
  rintro E w2 ⟨a2, c2, rfl, hg2⟩
  obtain ⟨W3, hW3, g3, s3, bx3⟩ := box1_new w2 (.slice a2 0 c2) 28
  have HW3 : Hid (W3 = _) := hW3
  have G3 : Hid (W1.grownBy W3 none) := grown_trans hg2 g3
  have G23 : Hid (w2.grownBy W3 none) := g3
  have BS : Hid (∀ W', W3.grownBy W' none → W'.cell? ⟨w2.heap.size, 0, none⟩ = some (.slice a2 0 c2)) := bx3
  obtain ⟨x0, x1, x2, x3, x4⟩ := BX.out W3 G3.out
  obtain ⟨z0, z1, z2, z3, z4⟩ := BY.out W3 G3.out
  rw [hW3] at x0 x1 x2 x3 x4 z0 z1 z2 z3 z4
  clear hg2 hW3 g3 s3 bx3 HW
  go_wp2_with fail
  rw [← HW3.out]
  clear x0 x1 x2 x3 x4 z0 z1 z2 z3 z4
  refine (HCa.out _ (grown_trans G1.out G3.out)).mono ?_
  rintro E w4 ⟨rfl, hg4⟩
  have G4 : Hid (W3.grownBy w4 none) := hg4
  obtain ⟨x0, x1, x2, x3, x4⟩ := BX.out w4 (grown_trans G3.out hg4)
  obtain ⟨z0, z1, z2, z3, z4⟩ := BY.out w4 (grown_trans G3.out hg4)
  have ys := BS.out w4 hg4
  clear hg4 HCa
  go_wp2_with fail
  clear x0 x1 x2 x3 x4 z0 z1 z2 z3 z4 ys
  refine (HCb.out _ (grown_trans G1.out (grown_trans G3.out G4.out))).mono ?_
  rintro E w5 ⟨rfl, hg5⟩
  have G5 : Hid (W3.grownBy w5 none) := grown_trans G4.out hg5
  obtain ⟨x0, x1, x2, x3, x4⟩ := BX.out w5 (grown_trans G3.out G5.out)
  obtain ⟨z0, z1, z2, z3, z4⟩ := BY.out w5 (grown_trans G3.out G5.out)
  have ys := BS.out w5 G5.out
  clear hg5 HCb G4
  go_wp2_with fail
  clear x0 x1 x2 x3 x4 z0 z1 z2 z3 z4 ys
  refine (HA.out _ (grown_trans G1.out (grown_trans G3.out G5.out))).mono ?_
  rintro E w6 ⟨r, rfl, hr, hg6⟩
  have G6 : Hid (W3.grownBy w6 none) := grown_trans G5.out hg6
  clear hg6 HA G5
  have GF : Hid (w.grownBy w6 none) := grown_trans G1.out (grown_trans G3.out G6.out)
  have d6 : (60 : Int) < (r : Int) := by omega
  have ys := BS.out w6 G6.out
  clear hr
  go_wp2_with fail
  go_ret
  exact ⟨rfl, GF.out⟩

set_option maxHeartbeats 3200000 in
set_option maxRecDepth 100000 in
theorem wlaw_within (L N S0 N' S0' : Int) (b e b' e' a : Option Addr) (nR d nM f nR' d' nM' f' nT c : Nat) (w : World)
    (hN : N ≤ 3) (hN' : N' ≤ 3) (hL : L ≤ 2)
    (te : Int)
    (HW : Hid (∀ W, w.grownBy W none → Calls Try.prog 4 #[trsV L N b nR d S0 e nM f, trsV L N' b' nR' d' S0' e' nM' f'] W (fun E W' => ∃ (a2 : Option Addr) (c2 : Nat), E = .returned (.tuple #[treeV a2 0 c2, .bool true, .int .i64 0]) ∧ W.grownBy W' none)))
    (HA : Hid (∀ W, w.grownBy W none → Calls Try.prog 6 #[trsV L N b nR d S0 e nM f, trsV L N' b' nR' d' S0' e' nM' f'] W (fun E W' => ∃ r : Nat, E = .returned (.int .i64 (r : Int)) ∧ r = 0 ∧ W.grownBy W' none)))
    (HT : Hid (∀ W, w.grownBy W none → Calls Try.prog 7 #[.int .i64 L, treeV a nT c] W (Says (.int .i64 te) W)))
    (HAc : Hid (te = 0 → ∃ p q : Bool, (p = true → q = true) ∧ (∀ W, w.grownBy W none → Calls Try.prog 8 #[trsV L N b nR d S0 e nM f, treeV a nT c] W (Says (.bool p) W)) ∧ (∀ W, w.grownBy W none → Calls Try.prog 8 #[trsV L N' b' nR' d' S0' e' nM' f', treeV a nT c] W (Says (.bool q) W))))
    (HCa : Hid (∀ W, w.grownBy W none → Calls Try.prog 5 #[trsV L N b nR d S0 e nM f] W (Says (.int .i64 0) W)))
    (HCb : Hid (∀ W, w.grownBy W none → Calls Try.prog 5 #[trsV L N' b' nR' d' S0' e' nM' f'] W (Says (.int .i64 0) W))) :
    Calls Try.prog 3 #[trsV L N b nR d S0 e nM f, trsV L N' b' nR' d' S0' e' nM' f', treeV a nT c] w (Says (.bool true) w) := by
  obtain ⟨Wb, hWb, gb, sb, bx, by1⟩ := two_boxW w (.int .i64 L) (.int .i64 N) (.slice b nR d) (.int .i64 S0) (.slice e nM f) (.int .i64 L) (.int .i64 N') (.slice b' nR' d') (.int .i64 S0') (.slice e' nM' f')
  obtain ⟨W1, hW1, g1, s1, bx1⟩ := box1_new Wb (.slice a nT c) 28
  have HW1 : Hid (W1 = _) := hW1.trans (by rw [hWb])
  have G1 : Hid (w.grownBy W1 none) := grown_trans gb g1
  rw [sb] at bx1
  have BX : Hid (∀ W', W1.grownBy W' none → W'.cell? ⟨w.heap.size, 0, none⟩ = some (.int .i64 L) ∧ W'.cell? ⟨w.heap.size, 1, none⟩ = some (.int .i64 N) ∧ W'.cell? ⟨w.heap.size, 2, none⟩ = some (.slice b nR d) ∧ W'.cell? ⟨w.heap.size, 3, none⟩ = some (.int .i64 S0) ∧ W'.cell? ⟨w.heap.size, 4, none⟩ = some (.slice e nM f)) := fun W' h => bx W' (grown_trans g1 h)
  have BY : Hid (∀ W', W1.grownBy W' none → W'.cell? ⟨w.heap.size + 1, 0, none⟩ = some (.int .i64 L) ∧ W'.cell? ⟨w.heap.size + 1, 1, none⟩ = some (.int .i64 N') ∧ W'.cell? ⟨w.heap.size + 1, 2, none⟩ = some (.slice b' nR' d') ∧ W'.cell? ⟨w.heap.size + 1, 3, none⟩ = some (.int .i64 S0') ∧ W'.cell? ⟨w.heap.size + 1, 4, none⟩ = some (.slice e' nM' f')) := fun W' h => by1 W' (grown_trans g1 h)
  have BT : Hid (∀ W', W1.grownBy W' none → W'.cell? ⟨w.heap.size + 1 + 1, 0, none⟩ = some (.slice a nT c)) := bx1
  obtain ⟨x0, x1, x2, x3, x4⟩ := BX.out W1 (grown_refl _ _)
  obtain ⟨z0, z1, z2, z3, z4⟩ := BY.out W1 (grown_refl _ _)
  rw [HW1.out] at x0 x1 x2 x3 x4 z0 z1 z2 z3 z4
  clear hWb gb sb bx by1 hW1 g1 s1 bx1
  have dN : decide (3 < N) = false := by simp; omega
  have dN' : decide (3 < N') = false := by simp; omega
  have dL : decide (2 < L) = false := by simp; omega
  have dLL : (L != L) = false := by simp
  clear hN hN' hL
  go_enter Try.func3, Try.ntmps3
  go_wp2_with fail
  rw [← HW1.out]
  clear x0 x1 x2 x3 x4 z0 z1 z2 z3 z4
  refine (HW.out _ G1.out).mono ?_
  rintro E w2 ⟨a2, c2, rfl, hg2⟩
  obtain ⟨W3, hW3, g3, s3, bx3⟩ := box1_new w2 (.slice a2 0 c2) 28
  have HW3 : Hid (W3 = _) := hW3
  have G3 : Hid (W1.grownBy W3 none) := grown_trans hg2 g3
  have G23 : Hid (w2.grownBy W3 none) := g3
  have BS : Hid (∀ W', W3.grownBy W' none → W'.cell? ⟨w2.heap.size, 0, none⟩ = some (.slice a2 0 c2)) := bx3
  obtain ⟨x0, x1, x2, x3, x4⟩ := BX.out W3 G3.out
  obtain ⟨z0, z1, z2, z3, z4⟩ := BY.out W3 G3.out
  rw [hW3] at x0 x1 x2 x3 x4 z0 z1 z2 z3 z4
  clear hg2 hW3 g3 s3 bx3 HW
  go_wp2_with fail
  rw [← HW3.out]
  clear x0 x1 x2 x3 x4 z0 z1 z2 z3 z4
  refine (HCa.out _ (grown_trans G1.out G3.out)).mono ?_
  rintro E w4 ⟨rfl, hg4⟩
  have G4 : Hid (W3.grownBy w4 none) := hg4
  obtain ⟨x0, x1, x2, x3, x4⟩ := BX.out w4 (grown_trans G3.out hg4)
  obtain ⟨z0, z1, z2, z3, z4⟩ := BY.out w4 (grown_trans G3.out hg4)
  have ys := BS.out w4 hg4
  clear hg4 HCa
  go_wp2_with fail
  clear x0 x1 x2 x3 x4 z0 z1 z2 z3 z4 ys
  refine (HCb.out _ (grown_trans G1.out (grown_trans G3.out G4.out))).mono ?_
  rintro E w5 ⟨rfl, hg5⟩
  have G5 : Hid (W3.grownBy w5 none) := grown_trans G4.out hg5
  obtain ⟨x0, x1, x2, x3, x4⟩ := BX.out w5 (grown_trans G3.out G5.out)
  obtain ⟨z0, z1, z2, z3, z4⟩ := BY.out w5 (grown_trans G3.out G5.out)
  have ys := BS.out w5 G5.out
  clear hg5 HCb G4
  go_wp2_with fail
  clear x0 x1 x2 x3 x4 z0 z1 z2 z3 z4 ys
  refine (HA.out _ (grown_trans G1.out (grown_trans G3.out G5.out))).mono ?_
  rintro E w6 ⟨r, rfl, hr, hg6⟩
  have G6 : Hid (W3.grownBy w6 none) := grown_trans G5.out hg6
  clear hg6 HA G5
  have GF : Hid (w.grownBy w6 none) := grown_trans G1.out (grown_trans G3.out G6.out)
  obtain ⟨x0, x1, x2, x3, x4⟩ := BX.out w6 (grown_trans G3.out G6.out)
  obtain ⟨z0, z1, z2, z3, z4⟩ := BY.out w6 (grown_trans G3.out G6.out)
  have ys := BS.out w6 G6.out
  subst hr
  have bt := BT.out w6 (grown_trans G3.out G6.out)
  go_wp2_with fail
  clear x0 x1 x2 x3 x4 z0 z1 z2 z3 z4 ys bt
  refine (HT.out _ GF.out).mono ?_
  rintro E w7 ⟨rfl, hg7⟩
  have G7 : Hid (W3.grownBy w7 none) := grown_trans G6.out hg7
  have GF7 : Hid (w.grownBy w7 none) := grown_trans G1.out (grown_trans G3.out G7.out)
  obtain ⟨x0, x1, x2, x3, x4⟩ := BX.out w7 (grown_trans G3.out G7.out)
  obtain ⟨z0, z1, z2, z3, z4⟩ := BY.out w7 (grown_trans G3.out G7.out)
  have ys := BS.out w7 G7.out
  have bt := BT.out w7 (grown_trans G3.out G7.out)
  clear hg7 HT
  by_cases h0 : te = 0
  case neg =>
    have d0 : (te != 0) = true := by simpa using h0
    clear h0 HAc
    go_wp2_with fail
    go_ret
    exact ⟨rfl, GF7.out⟩
  have d0 : (te != 0) = false := by simpa using h0
  obtain ⟨p, q, hpq, hA1, hA2⟩ := HAc.out h0
  have A1 : Hid (Calls Try.prog 8 #[trsV L N b nR d S0 e nM f, treeV a nT c] w7 (Says (.bool p) w7)) := hA1 w7 GF7.out
  have A2 : Hid (∀ W, w.grownBy W none → Calls Try.prog 8 #[trsV L N' b' nR' d' S0' e' nM' f', treeV a nT c] W (Says (.bool q) W)) := hA2
  clear h0 hA1 hA2 HAc
  go_wp2_with fail
  clear x0 x1 x2 x3 x4 z0 z1 z2 z3 z4 ys bt
  refine A1.out.mono ?_
  rintro E w8 ⟨rfl, hg8⟩
  have G8 : Hid (W3.grownBy w8 none) := grown_trans G7.out hg8
  obtain ⟨x0, x1, x2, x3, x4⟩ := BX.out w8 (grown_trans G3.out G8.out)
  obtain ⟨z0, z1, z2, z3, z4⟩ := BY.out w8 (grown_trans G3.out G8.out)
  have ys := BS.out w8 G8.out
  have bt := BT.out w8 (grown_trans G3.out G8.out)
  clear hg8 A1
  go_wp2_with fail
  clear x0 x1 x2 x3 x4 z0 z1 z2 z3 z4 ys bt
  refine (A2.out _ (grown_trans G1.out (grown_trans G3.out G8.out))).mono ?_
  rintro E w9 ⟨rfl, hg9⟩
  have GF9 : Hid (w.grownBy w9 none) := grown_trans G1.out (grown_trans G3.out (grown_trans G8.out hg9))
  have ys := BS.out w9 (grown_trans G8.out hg9)
  clear hg9 A2
  cases p
  case false =>
    go_wp2_with fail
    go_ret
    exact ⟨rfl, GF9.out⟩
  have hq := hpq rfl
  subst hq
  clear hpq
  go_wp2_with fail
  go_ret
  exact ⟨rfl, GF9.out⟩

set_option maxHeartbeats 3200000 in
set_option maxRecDepth 100000 in
theorem wlaw_apart (L N S0 N' S0' : Int) (b e b' e' a : Option Addr) (nR d nM f nR' d' nM' f' nT c : Nat) (w : World)
    (hN : N ≤ 3) (hN' : N' ≤ 3) (hL : L ≤ 2)
    (HW : Hid (∀ W, w.grownBy W none → Calls Try.prog 4 #[trsV L N b nR d S0 e nM f, trsV L N' b' nR' d' S0' e' nM' f'] W (fun E W' => ∃ (a2 : Option Addr) (n2 c2 : Nat), E = .returned (.tuple #[treeV a2 n2 c2, .bool false, .int .i64 0]) ∧ Hid (∀ U, w.grownBy U none → W'.grownBy U none → Calls Try.prog 7 #[.int .i64 L, treeV a2 n2 c2] U (Says (.int .i64 0) U)) ∧ Hid (∀ U, w.grownBy U none → W'.grownBy U none → Calls Try.prog 8 #[trsV L N b nR d S0 e nM f, treeV a2 n2 c2] U (Says (.bool true) U)) ∧ Hid (∀ U, w.grownBy U none → W'.grownBy U none → Calls Try.prog 8 #[trsV L N' b' nR' d' S0' e' nM' f', treeV a2 n2 c2] U (Says (.bool false) U)) ∧ W.grownBy W' none)))
    (HA : Hid (∀ W, w.grownBy W none → Calls Try.prog 6 #[trsV L N b nR d S0 e nM f, trsV L N' b' nR' d' S0' e' nM' f'] W (fun E W' => ∃ r : Nat, E = .returned (.int .i64 (r : Int)) ∧ (r ≠ 0 ∧ r ≤ 60) ∧ W.grownBy W' none)))
    (HCa : Hid (∀ W, w.grownBy W none → Calls Try.prog 5 #[trsV L N b nR d S0 e nM f] W (Says (.int .i64 0) W)))
    (HCb : Hid (∀ W, w.grownBy W none → Calls Try.prog 5 #[trsV L N' b' nR' d' S0' e' nM' f'] W (Says (.int .i64 0) W))) :
    Calls Try.prog 3 #[trsV L N b nR d S0 e nM f, trsV L N' b' nR' d' S0' e' nM' f', treeV a nT c] w (Says (.bool true) w) := by
  obtain ⟨Wb, hWb, gb, sb, bx, by1⟩ := two_boxW w (.int .i64 L) (.int .i64 N) (.slice b nR d) (.int .i64 S0) (.slice e nM f) (.int .i64 L) (.int .i64 N') (.slice b' nR' d') (.int .i64 S0') (.slice e' nM' f')
  obtain ⟨W1, hW1, g1, s1, bx1⟩ := box1_new Wb (.slice a nT c) 28
  have HW1 : Hid (W1 = _) := hW1.trans (by rw [hWb])
  have G1 : Hid (w.grownBy W1 none) := grown_trans gb g1
  rw [sb] at bx1
  have BX : Hid (∀ W', W1.grownBy W' none → W'.cell? ⟨w.heap.size, 0, none⟩ = some (.int .i64 L) ∧ W'.cell? ⟨w.heap.size, 1, none⟩ = some (.int .i64 N) ∧ W'.cell? ⟨w.heap.size, 2, none⟩ = some (.slice b nR d) ∧ W'.cell? ⟨w.heap.size, 3, none⟩ = some (.int .i64 S0) ∧ W'.cell? ⟨w.heap.size, 4, none⟩ = some (.slice e nM f)) := fun W' h => bx W' (grown_trans g1 h)
  have BY : Hid (∀ W', W1.grownBy W' none → W'.cell? ⟨w.heap.size + 1, 0, none⟩ = some (.int .i64 L) ∧ W'.cell? ⟨w.heap.size + 1, 1, none⟩ = some (.int .i64 N') ∧ W'.cell? ⟨w.heap.size + 1, 2, none⟩ = some (.slice b' nR' d') ∧ W'.cell? ⟨w.heap.size + 1, 3, none⟩ = some (.int .i64 S0') ∧ W'.cell? ⟨w.heap.size + 1, 4, none⟩ = some (.slice e' nM' f')) := fun W' h => by1 W' (grown_trans g1 h)
  have BT : Hid (∀ W', W1.grownBy W' none → W'.cell? ⟨w.heap.size + 1 + 1, 0, none⟩ = some (.slice a nT c)) := bx1
  obtain ⟨x0, x1, x2, x3, x4⟩ := BX.out W1 (grown_refl _ _)
  obtain ⟨z0, z1, z2, z3, z4⟩ := BY.out W1 (grown_refl _ _)
  rw [HW1.out] at x0 x1 x2 x3 x4 z0 z1 z2 z3 z4
  clear hWb gb sb bx by1 hW1 g1 s1 bx1
  have dN : decide (3 < N) = false := by simp; omega
  have dN' : decide (3 < N') = false := by simp; omega
  have dL : decide (2 < L) = false := by simp; omega
  have dLL : (L != L) = false := by simp
  clear hN hN' hL
  go_enter Try.func3, Try.ntmps3
  go_wp2_with fail
  rw [← HW1.out]
  clear x0 x1 x2 x3 x4 z0 z1 z2 z3 z4
  refine (HW.out _ G1.out).mono ?_
  rintro E w2 ⟨a2, n2, c2, rfl, KT, KA, KB, hg2⟩
  obtain ⟨W3, hW3, g3, s3, bx3⟩ := box1_new w2 (.slice a2 n2 c2) 28
  have HW3 : Hid (W3 = _) := hW3
  have G3 : Hid (W1.grownBy W3 none) := grown_trans hg2 g3
  have G23 : Hid (w2.grownBy W3 none) := g3
  have BS : Hid (∀ W', W3.grownBy W' none → W'.cell? ⟨w2.heap.size, 0, none⟩ = some (.slice a2 n2 c2)) := bx3
  obtain ⟨x0, x1, x2, x3, x4⟩ := BX.out W3 G3.out
  obtain ⟨z0, z1, z2, z3, z4⟩ := BY.out W3 G3.out
  rw [hW3] at x0 x1 x2 x3 x4 z0 z1 z2 z3 z4
  clear hg2 hW3 g3 s3 bx3 HW
  go_wp2_with fail
  rw [← HW3.out]
  clear x0 x1 x2 x3 x4 z0 z1 z2 z3 z4
  refine (HCa.out _ (grown_trans G1.out G3.out)).mono ?_
  rintro E w4 ⟨rfl, hg4⟩
  have G4 : Hid (W3.grownBy w4 none) := hg4
  obtain ⟨x0, x1, x2, x3, x4⟩ := BX.out w4 (grown_trans G3.out hg4)
  obtain ⟨z0, z1, z2, z3, z4⟩ := BY.out w4 (grown_trans G3.out hg4)
  have ys := BS.out w4 hg4
  clear hg4 HCa
  go_wp2_with fail
  clear x0 x1 x2 x3 x4 z0 z1 z2 z3 z4 ys
  refine (HCb.out _ (grown_trans G1.out (grown_trans G3.out G4.out))).mono ?_
  rintro E w5 ⟨rfl, hg5⟩
  have G5 : Hid (W3.grownBy w5 none) := grown_trans G4.out hg5
  obtain ⟨x0, x1, x2, x3, x4⟩ := BX.out w5 (grown_trans G3.out G5.out)
  obtain ⟨z0, z1, z2, z3, z4⟩ := BY.out w5 (grown_trans G3.out G5.out)
  have ys := BS.out w5 G5.out
  clear hg5 HCb G4
  go_wp2_with fail
  clear x0 x1 x2 x3 x4 z0 z1 z2 z3 z4 ys
  refine (HA.out _ (grown_trans G1.out (grown_trans G3.out G5.out))).mono ?_
  rintro E w6 ⟨r, rfl, hr, hg6⟩
  have G6 : Hid (W3.grownBy w6 none) := grown_trans G5.out hg6
  clear hg6 HA G5
  have GF : Hid (w.grownBy w6 none) := grown_trans G1.out (grown_trans G3.out G6.out)
  obtain ⟨x0, x1, x2, x3, x4⟩ := BX.out w6 (grown_trans G3.out G6.out)
  obtain ⟨z0, z1, z2, z3, z4⟩ := BY.out w6 (grown_trans G3.out G6.out)
  have ys := BS.out w6 G6.out
  have d6 : ¬ (60 : Int) < (r : Int) := by omega
  have d7 : ((r : Int) == 0) = false := by simp; omega
  clear hr
  go_wp2_with fail
  clear x0 x1 x2 x3 x4 z0 z1 z2 z3 z4 ys
  refine (KT.out _ GF.out (grown_trans G23.out G6.out)).mono ?_
  rintro E w7 ⟨rfl, hg7⟩
  have G7 : Hid (W3.grownBy w7 none) := grown_trans G6.out hg7
  obtain ⟨x0, x1, x2, x3, x4⟩ := BX.out w7 (grown_trans G3.out G7.out)
  obtain ⟨z0, z1, z2, z3, z4⟩ := BY.out w7 (grown_trans G3.out G7.out)
  have ys := BS.out w7 G7.out
  clear hg7 KT
  go_wp2_with fail
  clear x0 x1 x2 x3 x4 z0 z1 z2 z3 z4 ys
  refine (KA.out _ (grown_trans G1.out (grown_trans G3.out G7.out)) (grown_trans G23.out G7.out)).mono ?_
  rintro E w8 ⟨rfl, hg8⟩
  have G8 : Hid (W3.grownBy w8 none) := grown_trans G7.out hg8
  obtain ⟨x0, x1, x2, x3, x4⟩ := BX.out w8 (grown_trans G3.out G8.out)
  obtain ⟨z0, z1, z2, z3, z4⟩ := BY.out w8 (grown_trans G3.out G8.out)
  have ys := BS.out w8 G8.out
  clear hg8 KA
  go_wp2_with fail
  clear x0 x1 x2 x3 x4 z0 z1 z2 z3 z4 ys
  refine (KB.out _ (grown_trans G1.out (grown_trans G3.out G8.out)) (grown_trans G23.out G8.out)).mono ?_
  rintro E w9 ⟨rfl, hg9⟩
  have GF9 : Hid (w.grownBy w9 none) := grown_trans G1.out (grown_trans G3.out (grown_trans G8.out hg9))
  clear hg9 KB
  go_wp2_with fail
  go_ret
  exact ⟨rfl, GF9.out⟩

end Go.Proofs.Ytppikfgfmlipmaa
