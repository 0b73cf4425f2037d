/- The walk of the law BuchiSome, case by case, out of the contracts of what it calls. -/
import Derived.Test.YteodlmgaemfiiaaUAu
import Derived.Test.YteodlmgaemfiiaaUFt
import Derived.Test.YteodlmgaemfiiaaUSomeE
import Derived.Test.YteodlmgaemfiiaaDCk
namespace Go.Proofs.Yteodlmgaemfiiaa
open Go.RowKit
set_option linter.unusedVariables false

theorem law_boxes (w : World) (L N : Int) (a : Option Addr) (n c : Nat) (b : Option Addr) (k d : Nat) (e : Option Addr) (m f : Nat) (ah : Option Addr) (nh ch : Nat) (al : Option Addr) (nl cl : Nat) : ∃ W, W = (w.alloc (.cells #[.int .i64 L, .int .i64 N, .slice a n c, .slice b k d, .slice e m f] 25)).alloc (.cells #[.slice ah nh ch, .slice al nl cl] 42) ∧ w.grownBy W none ∧ (∀ W', W.grownBy W' none → W'.cell? ⟨w.heap.size, 0, none⟩ = some (.int .i64 L) ∧ W'.cell? ⟨w.heap.size, 1, none⟩ = some (.int .i64 N) ∧ W'.cell? ⟨w.heap.size, 2, none⟩ = some (.slice a n c) ∧ W'.cell? ⟨w.heap.size, 3, none⟩ = some (.slice b k d) ∧ W'.cell? ⟨w.heap.size, 4, none⟩ = some (.slice e m f)) ∧ (∀ W', W.grownBy W' none → W'.cell? ⟨w.heap.size + 1, 0, none⟩ = some (.slice ah nh ch) ∧ W'.cell? ⟨w.heap.size + 1, 1, none⟩ = some (.slice al nl cl)) := by
  obtain ⟨W1, hW1, g1, s1, bx1⟩ := boxA_new w L N a n c b k d e m f
  obtain ⟨W2, hW2, g2, bx2⟩ := boxL2 W1 (.slice ah nh ch) (.slice al nl cl)
  rw [s1] at bx2
  exact ⟨W2, by rw [hW2, hW1], grown_trans g1 g2, fun W' h => bx1 W' (grown_trans g2 h), bx2⟩

set_option maxHeartbeats 1600000 in
set_option maxRecDepth 100000 in
theorem some_A (x : Aut) (ck : Int) (a b e ah al : Option Addr) (c d f nh ch nl cl : Nat) (w : World) (hy : ck ≠ 0)
    (HAu : Hid (∀ W, w.grownBy W none → Calls Try.prog 7 #[autV x.L x.N a x.S.length c b x.T.length d e x.F.length f] W fun E w' => ∃ (a b e : Option Addr) (c d f : Nat), E = .returned (autV x.L x.N a x.S.length c b x.T.length d e x.F.length f) ∧ AutAt w' x a b e ∧ W.grownBy w' none))
    (HSa : Hid (∀ W a' b' e' c' d' f', w.grownBy W none → AutAt W x a' b' e' → Calls Try.prog 9 #[autV x.L x.N a' x.S.length c' b' x.T.length d' e' x.F.length f', autV x.L x.N a x.S.length c b x.T.length d e x.F.length f] W (Says (.bool true) W)))
    (HSm : Hid (∀ W a' b' e' c' d' f', AutAt W x a' b' e' → Calls Try.prog 21 #[autV x.L x.N a' x.S.length c' b' x.T.length d' e' x.F.length f'] W (Says (.tuple #[lasV none 0 0 none 0 0, .bool false, .int .i64 ck]) W)))
    (HNo : Hid (∀ W, Calls Try.prog 22 #[lasV none 0 0 none 0 0] W (Says (.bool true) W)))
    (HCk : Hid (∀ W, w.grownBy W none → Calls Try.prog 11 #[autV x.L x.N a x.S.length c b x.T.length d e x.F.length f] W (Says (.int .i64 ck) W)))
    : Calls Try.prog 5 #[autV x.L x.N a x.S.length c b x.T.length d e x.F.length f, lasV ah nh ch al nl cl] w (Says (.bool true) w) := by
  have f1 : (ck != 0) = true := by simpa using hy
  have f2 : (ck == 0) = false := by simpa using hy
  have f3 : (ck == ck) = true := by simp
  obtain ⟨W1, hW1, g1, bx1, bl1⟩ := law_boxes w x.L x.N a x.S.length c b x.T.length d e x.F.length f ah nh ch al nl cl
  have HW1 : Hid (W1 = _) := hW1
  have G1 : Hid (w.grownBy W1 none) := g1
  have Ba : Hid (∀ W', W1.grownBy W' none → W'.cell? ⟨w.heap.size, 0, none⟩ = some (.int .i64 x.L) ∧ W'.cell? ⟨w.heap.size, 1, none⟩ = some (.int .i64 x.N) ∧ W'.cell? ⟨w.heap.size, 2, none⟩ = some (.slice a x.S.length c) ∧ W'.cell? ⟨w.heap.size, 3, none⟩ = some (.slice b x.T.length d) ∧ W'.cell? ⟨w.heap.size, 4, none⟩ = some (.slice e x.F.length f)) := bx1
  have Bl : Hid (∀ W', W1.grownBy W' none → W'.cell? ⟨w.heap.size + 1, 0, none⟩ = some (.slice ah nh ch) ∧ W'.cell? ⟨w.heap.size + 1, 1, none⟩ = some (.slice al nl cl)) := bl1
  obtain ⟨a0, a1, a2, a3, a4⟩ := Ba.out W1 (grown_refl _ _)
  rw [hW1] at a0 a1 a2 a3 a4
  clear hW1 g1 bx1 bl1
  go_enter Try.func5, Try.ntmps5
  go_wp2_with fail
  rw [← HW1.out]
  refine (HAu.out _ G1.out).mono ?_
  rintro E w2 ⟨a', b', e', c', d', f', rfl, hx2, hg2⟩
  obtain ⟨W2, hW2, g2, s2, bx2⟩ := boxA_new w2 x.L x.N a' x.S.length c' b' x.T.length d' e' x.F.length f'
  have HW2 : Hid (W2 = _) := hW2
  have G2 : Hid (W1.grownBy W2 none) := grown_trans hg2 g2
  have X2 : Hid (AutAt W2 x a' b' e') := hx2.grown g2
  have Bb : Hid (∀ W', W2.grownBy W' none → W'.cell? ⟨w2.heap.size, 0, none⟩ = some (.int .i64 x.L) ∧ W'.cell? ⟨w2.heap.size, 1, none⟩ = some (.int .i64 x.N) ∧ W'.cell? ⟨w2.heap.size, 2, none⟩ = some (.slice a' x.S.length c') ∧ W'.cell? ⟨w2.heap.size, 3, none⟩ = some (.slice b' x.T.length d') ∧ W'.cell? ⟨w2.heap.size, 4, none⟩ = some (.slice e' x.F.length f')) := bx2
  clear a0 a1 a2 a3 a4
  obtain ⟨b0, b1, b2, b3, b4⟩ := Bb.out W2 (grown_refl _ _)
  rw [hW2] at b0 b1 b2 b3 b4
  clear hW2 g2 s2 bx2 hx2 hg2 HAu HW1
  go_wp2_with fail
  rw [← HW2.out]
  refine (HSm.out _ _ _ _ _ _ _ X2.out).mono ?_
  rintro E w3 ⟨rfl, hg3⟩
  obtain ⟨W3, hW3, g3, bx3⟩ := boxL2 w3 (.slice none 0 0) (.slice none 0 0)
  have HW3 : Hid (W3 = _) := hW3
  have G3 : Hid (W2.grownBy W3 none) := grown_trans hg3 g3
  have Bd : Hid (∀ W', W3.grownBy W' none → W'.cell? ⟨w3.heap.size, 0, none⟩ = some (.slice none 0 0) ∧ W'.cell? ⟨w3.heap.size, 1, none⟩ = some (.slice none 0 0)) := bx3
  clear b0 b1 b2 b3 b4
  obtain ⟨b0, b1, b2, b3, b4⟩ := Bb.out W3 G3.out
  obtain ⟨a0, a1, a2, a3, a4⟩ := Ba.out W3 (grown_trans G2.out G3.out)
  rw [hW3] at b0 b1 b2 b3 b4 a0 a1 a2 a3 a4
  clear hW3 g3 bx3 hg3 HW2
  go_wp2_with fail
  rw [← HW3.out]
  refine (HSa.out _ _ _ _ _ _ _ (grown_trans G1.out (grown_trans G2.out G3.out)) (X2.out.grown G3.out)).mono ?_
  rintro E w4 ⟨rfl, hg4⟩
  have G4 : Hid (W3.grownBy w4 none) := hg4
  clear b0 b1 b2 b3 b4 a0 a1 a2 a3 a4 hg4 HSa HW3
  obtain ⟨d0, d1⟩ := Bd.out w4 G4.out
  go_wp2_with fail
  refine (HNo.out _).mono ?_
  rintro E w5 ⟨rfl, hg5⟩
  have G5 : Hid (W1.grownBy w5 none) := grown_trans G2.out (grown_trans G3.out (grown_trans G4.out hg5))
  have G53 : Hid (W3.grownBy w5 none) := grown_trans G4.out hg5
  clear d0 d1 hg5
  obtain ⟨a0, a1, a2, a3, a4⟩ := Ba.out w5 G5.out
  go_wp2_with fail
  refine (HCk.out _ (grown_trans G1.out G5.out)).mono ?_
  rintro E w6 ⟨rfl, hg6⟩
  have G6 : Hid (W1.grownBy w6 none) := grown_trans G5.out hg6
  have G63 : Hid (W3.grownBy w6 none) := grown_trans G53.out hg6
  clear a0 a1 a2 a3 a4 hg6 HCk
  obtain ⟨a0, a1, a2, a3, a4⟩ := Ba.out w6 G6.out
  have GF : Hid (w.grownBy w6 none) := grown_trans G1.out G6.out
  go_wp2_with fail
  go_ret
  exact ⟨rfl, GF.out⟩

set_option maxHeartbeats 3200000 in
set_option maxRecDepth 100000 in
theorem some_B (x : Aut) (l nS ss fs : Nat) (bad : Int) (a b e ah al : Option Addr) (c d f nh ch nl cl : Nat) (w : World)
    (HAu : Hid (∀ W, w.grownBy W none → Calls Try.prog 7 #[autV l nS a x.S.length c b x.T.length d e x.F.length f] W fun E w' => ∃ (a b e : Option Addr) (c d f : Nat), E = .returned (autV l nS a x.S.length c b x.T.length d e x.F.length f) ∧ AutAt w' x a b e ∧ W.grownBy w' none))
    (HSa : Hid (∀ W a' b' e' c' d' f', w.grownBy W none → AutAt W x a' b' e' → Calls Try.prog 9 #[autV l nS a' x.S.length c' b' x.T.length d' e' x.F.length f', autV l nS a x.S.length c b x.T.length d e x.F.length f] W (Says (.bool true) W)))
    (HSm : Hid (∀ W a' b' e' c' d' f', AutAt W x a' b' e' → Calls Try.prog 21 #[autV l nS a' x.S.length c' b' x.T.length d' e' x.F.length f'] W (SomePost x.T ss fs l W)))
    (HNo : Hid (∀ W aa ab n1 n2 ca cb, n1 ≤ 1000 → n2 ≤ 1000 → Calls Try.prog 22 #[lasV aa n1 ca ab n2 cb] W (TellsAny W)))
    (HNy : Hid (∀ W aa ab ca cb, Calls Try.prog 22 #[lasV aa 0 ca ab 0 cb] W (Says (.bool true) W)))
    (HCk : Hid (∀ W, w.grownBy W none → Calls Try.prog 11 #[autV l nS a x.S.length c b x.T.length d e x.F.length f] W (Says (.int .i64 0) W)))
    (HFt : Hid (∀ W hd lp n1 n2 aa ca ab cb, hd.length = n1 → lp.length = n2 → Best x.T ss fs l hd lp → Ints W aa (natInts hd) → Ints W ab (natInts lp) → Calls Try.prog 23 #[lasV aa n1 ca ab n2 cb, .int .i64 l, .int .i64 300] W (Says (.bool true) W)))
    (HAc : Hid (∀ W hd lp n1 n2 aa ca ab cb, hd.length = n1 → lp.length = n2 → Best x.T ss fs l hd lp → w.grownBy W none → Ints W aa (natInts hd) → Ints W ab (natInts lp) → Calls Try.prog 20 #[autV l nS a x.S.length c b x.T.length d e x.F.length f, lasV aa n1 ca ab n2 cb] W (Says (.bool true) W)))
    (HLs : Hid (∀ W, w.grownBy W none → Calls Try.prog 19 #[autV l nS a x.S.length c b x.T.length d e x.F.length f, lasV ah nh ch al nl cl] W (Says (.int .i64 bad) W)))
    (HAn : Hid (bad = 0 → (∀ h' l', ¬ AccL x.T ss fs h' l') → ∀ W, w.grownBy W none → Calls Try.prog 20 #[autV l nS a x.S.length c b x.T.length d e x.F.length f, lasV ah nh ch al nl cl] W (Says (.bool false) W)))
    : Calls Try.prog 5 #[autV l nS a x.S.length c b x.T.length d e x.F.length f, lasV ah nh ch al nl cl] w (Says (.bool true) w) := by
  obtain ⟨W1, hW1, g1, bx1, bl1⟩ := law_boxes w l nS a x.S.length c b x.T.length d e x.F.length f ah nh ch al nl cl
  have HW1 : Hid (W1 = _) := hW1
  have G1 : Hid (w.grownBy W1 none) := g1
  have Ba : Hid (∀ W', W1.grownBy W' none → W'.cell? ⟨w.heap.size, 0, none⟩ = some (.int .i64 l) ∧ W'.cell? ⟨w.heap.size, 1, none⟩ = some (.int .i64 nS) ∧ W'.cell? ⟨w.heap.size, 2, none⟩ = some (.slice a x.S.length c) ∧ W'.cell? ⟨w.heap.size, 3, none⟩ = some (.slice b x.T.length d) ∧ W'.cell? ⟨w.heap.size, 4, none⟩ = some (.slice e x.F.length f)) := bx1
  have Bl : Hid (∀ W', W1.grownBy W' none → W'.cell? ⟨w.heap.size + 1, 0, none⟩ = some (.slice ah nh ch) ∧ W'.cell? ⟨w.heap.size + 1, 1, none⟩ = some (.slice al nl cl)) := bl1
  obtain ⟨a0, a1, a2, a3, a4⟩ := Ba.out W1 (grown_refl _ _)
  rw [hW1] at a0 a1 a2 a3 a4
  clear hW1 g1 bx1 bl1
  go_enter Try.func5, Try.ntmps5
  go_wp2_with fail
  rw [← HW1.out]
  refine (HAu.out _ G1.out).mono ?_
  rintro E w2 ⟨a', b', e', c', d', f', rfl, hx2, hg2⟩
  obtain ⟨W2, hW2, g2, s2, bx2⟩ := boxA_new w2 l nS a' x.S.length c' b' x.T.length d' e' x.F.length f'
  have HW2 : Hid (W2 = _) := hW2
  have G2 : Hid (W1.grownBy W2 none) := grown_trans hg2 g2
  have X2 : Hid (AutAt W2 x a' b' e') := hx2.grown g2
  have Bb : Hid (∀ W', W2.grownBy W' none → W'.cell? ⟨w2.heap.size, 0, none⟩ = some (.int .i64 l) ∧ W'.cell? ⟨w2.heap.size, 1, none⟩ = some (.int .i64 nS) ∧ W'.cell? ⟨w2.heap.size, 2, none⟩ = some (.slice a' x.S.length c') ∧ W'.cell? ⟨w2.heap.size, 3, none⟩ = some (.slice b' x.T.length d') ∧ W'.cell? ⟨w2.heap.size, 4, none⟩ = some (.slice e' x.F.length f')) := bx2
  clear a0 a1 a2 a3 a4
  obtain ⟨b0, b1, b2, b3, b4⟩ := Bb.out W2 (grown_refl _ _)
  rw [hW2] at b0 b1 b2 b3 b4
  clear hW2 g2 s2 bx2 hx2 hg2 HAu HW1
  go_wp2_with fail
  rw [← HW2.out]
  refine (HSm.out _ _ _ _ _ _ _ X2.out).mono ?_
  rintro E w3 ⟨fo, hd, lp, aa, ca, ab, cb, rfl, hi, hl, hg3, hlog⟩
  rcases hlog with ⟨rfl, hB⟩ | ⟨rfl, rfl, rfl, hno⟩
  · have BS : Hid (Best x.T ss fs l hd lp) := hB
    obtain ⟨n1, e1⟩ : ∃ n1, hd.length = n1 := ⟨_, rfl⟩
    obtain ⟨n2, e2⟩ : ∃ n2, lp.length = n2 := ⟨_, rfl⟩
    have E1 : Hid (hd.length = n1) := e1
    have E2 : Hid (lp.length = n2) := e2
    have hn1 : n1 ≤ 1000 := by have := hB.h3; omega
    have hn2 : n2 ≤ 1000 := by have := hB.l3; omega
    rw [e1, e2]
    clear hB e1 e2
    obtain ⟨W3, hW3, g3, bx3⟩ := boxL2 w3 (.slice aa n1 ca) (.slice ab n2 cb)
    have HW3 : Hid (W3 = _) := hW3
    have G3 : Hid (W2.grownBy W3 none) := grown_trans hg3 g3
    have Bd : Hid (∀ W', W3.grownBy W' none → W'.cell? ⟨w3.heap.size, 0, none⟩ = some (.slice aa n1 ca) ∧ W'.cell? ⟨w3.heap.size, 1, none⟩ = some (.slice ab n2 cb)) := bx3
    have IA : Hid (∀ X, W3.grownBy X none → Ints X aa (natInts hd) ∧ Ints X ab (natInts lp)) := fun X hX => ⟨hi.grown (grown_trans g3 hX), hl.grown (grown_trans g3 hX)⟩
    clear hi hl
    clear b0 b1 b2 b3 b4
    obtain ⟨b0, b1, b2, b3, b4⟩ := Bb.out W3 G3.out
    obtain ⟨a0, a1, a2, a3, a4⟩ := Ba.out W3 (grown_trans G2.out G3.out)
    rw [hW3] at b0 b1 b2 b3 b4 a0 a1 a2 a3 a4
    clear hW3 g3 bx3 hg3 HW2
    go_wp2_with fail
    rw [← HW3.out]
    refine (HSa.out _ _ _ _ _ _ _ (grown_trans G1.out (grown_trans G2.out G3.out)) (X2.out.grown G3.out)).mono ?_
    rintro E w4 ⟨rfl, hg4⟩
    have G4 : Hid (W3.grownBy w4 none) := hg4
    clear b0 b1 b2 b3 b4 a0 a1 a2 a3 a4 hg4 HSa HW3
    obtain ⟨d0, d1⟩ := Bd.out w4 G4.out
    go_wp2_with fail
    refine (HNo.out _ aa ab n1 n2 ca cb hn1 hn2).mono ?_
    rintro E w5 ⟨bN, rfl, hg5⟩
    have G5 : Hid (W1.grownBy w5 none) := grown_trans G2.out (grown_trans G3.out (grown_trans G4.out hg5))
    have G53 : Hid (W3.grownBy w5 none) := grown_trans G4.out hg5
    clear d0 d1 hg5
    obtain ⟨a0, a1, a2, a3, a4⟩ := Ba.out w5 G5.out
    go_wp2_with fail
    refine (HCk.out _ (grown_trans G1.out G5.out)).mono ?_
    rintro E w6 ⟨rfl, hg6⟩
    have G6 : Hid (W1.grownBy w6 none) := grown_trans G5.out hg6
    have G63 : Hid (W3.grownBy w6 none) := grown_trans G53.out hg6
    clear a0 a1 a2 a3 a4 hg6 HCk
    obtain ⟨a0, a1, a2, a3, a4⟩ := Ba.out w6 G6.out
    have GF : Hid (w.grownBy w6 none) := grown_trans G1.out G6.out
    obtain ⟨d0, d1⟩ := Bd.out w6 G63.out
    go_wp2_with fail
    refine (HFt.out w6 hd lp n1 n2 aa ca ab cb E1.out E2.out BS.out (IA.out _ G63.out).1 (IA.out _ G63.out).2).mono ?_
    rintro E w7 ⟨rfl, hg7⟩
    have G7 : Hid (W1.grownBy w7 none) := grown_trans G6.out hg7
    have G73 : Hid (W3.grownBy w7 none) := grown_trans G63.out hg7
    clear a0 a1 a2 a3 a4 d0 d1 hg7
    obtain ⟨a0, a1, a2, a3, a4⟩ := Ba.out w7 G7.out
    obtain ⟨d0, d1⟩ := Bd.out w7 G73.out
    go_wp2_with fail
    refine (HAc.out w7 hd lp n1 n2 aa ca ab cb E1.out E2.out BS.out (grown_trans G1.out G7.out) (IA.out _ G73.out).1 (IA.out _ G73.out).2).mono ?_
    rintro E w8 ⟨rfl, hg8⟩
    have GE : Hid (w.grownBy w8 none) := grown_trans G1.out (grown_trans G7.out hg8)
    clear a0 a1 a2 a3 a4 d0 d1 hg8
    go_wp2_with fail
    go_ret
    exact ⟨rfl, GE.out⟩
  · have NO : Hid (∀ h' l', ¬ AccL x.T ss fs h' l') := hno
    simp only [List.length_nil]
    clear hno hi hl
    obtain ⟨W3, hW3, g3, bx3⟩ := boxL2 w3 (.slice aa 0 ca) (.slice ab 0 cb)
    have HW3 : Hid (W3 = _) := hW3
    have G3 : Hid (W2.grownBy W3 none) := grown_trans hg3 g3
    have Bd : Hid (∀ W', W3.grownBy W' none → W'.cell? ⟨w3.heap.size, 0, none⟩ = some (.slice aa 0 ca) ∧ W'.cell? ⟨w3.heap.size, 1, none⟩ = some (.slice ab 0 cb)) := bx3
    clear b0 b1 b2 b3 b4
    obtain ⟨b0, b1, b2, b3, b4⟩ := Bb.out W3 G3.out
    obtain ⟨a0, a1, a2, a3, a4⟩ := Ba.out W3 (grown_trans G2.out G3.out)
    rw [hW3] at b0 b1 b2 b3 b4 a0 a1 a2 a3 a4
    clear hW3 g3 bx3 hg3 HW2
    go_wp2_with fail
    rw [← HW3.out]
    refine (HSa.out _ _ _ _ _ _ _ (grown_trans G1.out (grown_trans G2.out G3.out)) (X2.out.grown G3.out)).mono ?_
    rintro E w4 ⟨rfl, hg4⟩
    have G4 : Hid (W3.grownBy w4 none) := hg4
    clear b0 b1 b2 b3 b4 a0 a1 a2 a3 a4 hg4 HSa HW3
    obtain ⟨d0, d1⟩ := Bd.out w4 G4.out
    go_wp2_with fail
    refine (HNy.out _ aa ab ca cb).mono ?_
    rintro E w5 ⟨rfl, hg5⟩
    have G5 : Hid (W1.grownBy w5 none) := grown_trans G2.out (grown_trans G3.out (grown_trans G4.out hg5))
    have G53 : Hid (W3.grownBy w5 none) := grown_trans G4.out hg5
    clear d0 d1 hg5
    obtain ⟨a0, a1, a2, a3, a4⟩ := Ba.out w5 G5.out
    go_wp2_with fail
    refine (HCk.out _ (grown_trans G1.out G5.out)).mono ?_
    rintro E w6 ⟨rfl, hg6⟩
    have G6 : Hid (W1.grownBy w6 none) := grown_trans G5.out hg6
    have G63 : Hid (W3.grownBy w6 none) := grown_trans G53.out hg6
    clear a0 a1 a2 a3 a4 hg6 HCk
    obtain ⟨a0, a1, a2, a3, a4⟩ := Ba.out w6 G6.out
    have GF : Hid (w.grownBy w6 none) := grown_trans G1.out G6.out
    obtain ⟨d0, d1⟩ := Bl.out w6 G6.out
    go_wp2_with fail
    refine (HLs.out w6 GF.out).mono ?_
    rintro E w7 ⟨rfl, hg7⟩
    have G7 : Hid (W1.grownBy w7 none) := grown_trans G6.out hg7
    clear a0 a1 a2 a3 a4 d0 d1 hg7
    by_cases hb : bad = 0
    · have AN : Hid (∀ W, w.grownBy W none → Calls Try.prog 20 #[autV l nS a x.S.length c b x.T.length d e x.F.length f, lasV ah nh ch al nl cl] W (Says (.bool false) W)) := HAn.out hb NO.out
      subst hb
      obtain ⟨a0, a1, a2, a3, a4⟩ := Ba.out w7 G7.out
      obtain ⟨d0, d1⟩ := Bl.out w7 G7.out
      go_wp2_with fail
      refine (AN.out w7 (grown_trans G1.out G7.out)).mono ?_
      rintro E w8 ⟨rfl, hg8⟩
      have GE : Hid (w.grownBy w8 none) := grown_trans G1.out (grown_trans G7.out hg8)
      clear a0 a1 a2 a3 a4 d0 d1 hg8
      go_wp2_with fail
      go_ret
      exact ⟨rfl, GE.out⟩
    · have f1 : (bad != 0) = true := by simpa using hb
      have f2 : (bad == 0) = false := by simpa using hb
      have GE : Hid (w.grownBy w7 none) := grown_trans G1.out G7.out
      go_wp2_with fail
      go_ret
      exact ⟨rfl, GE.out⟩

end Go.Proofs.Yteodlmgaemfiiaa
