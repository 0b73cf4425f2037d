/- The walk of the law DetMade, case by case, out of the contracts of what it calls. -/
import Derived.Test.YtofjboelplknhaaUAu
import Derived.Test.YtofjboelplknhaaHWrapD
import Derived.Test.YtofjboelplknhaaSays
namespace Go.Proofs.Ytofjboelplknhaa
open Go.RowKit
set_option linter.unusedVariables false

set_option maxHeartbeats 1600000 in
set_option maxRecDepth 100000 in
theorem made_A (x : Aut) (y ck : Int) (a b e az : Option Addr) (c d f nz cz : Nat) (w : World) (hy : y ≠ 0) (hyy : (ck ≠ 0 ∧ y = ck) ∨ (ck = 0 ∧ 8 < x.N ∧ y = 1))
    (HAu : Hid (∀ W, w.grownBy W none → Calls Try.prog 31 #[autV x.L x.N a x.S.length c b x.T.length d e x.F.length f] W (AutoPost x W)))
    (HMd : Hid (∀ W a' b' e' c' d' f', AutAt W x a' b' e' → Calls Try.prog 32 #[autV x.L x.N a' x.S.length c' b' x.T.length d' e' x.F.length f'] W (Says (.tuple #[detV 0 0 none 0 0 none 0 0, .int .i64 y]) W)))
    (HSa : Hid (∀ W a' b' e' c' d' f', w.grownBy W none → AutAt W x a' b' e' → Calls Try.prog 33 #[autV x.L x.N a' x.S.length c' b' x.T.length d' e' x.F.length f', autV x.L x.N a x.S.length c b x.T.length d e x.F.length f] W (Says (.bool true) W)))
    (HNo : Hid (∀ W, Calls Try.prog 14 #[detV 0 0 none 0 0 none 0 0] W (Says (.bool true) W)))
    (HCk : Hid (∀ W, w.grownBy W none → Calls Try.prog 34 #[autV x.L x.N a x.S.length c b x.T.length d e x.F.length f] W (Says (.int .i64 ck) W)))
    : Calls Try.prog 8 #[autV x.L x.N a x.S.length c b x.T.length d e x.F.length f, .slice az nz cz] w (Says (.bool true) w) := by
  have f1 : (y != 0) = true := by simpa using hy
  have f2 : (y == 0) = false := by simpa using hy
  have f3 : (y == y) = true := by simp
  obtain ⟨W1, hW1, g1, s1, bx1⟩ := boxA_new w x.L x.N a x.S.length c b x.T.length d e x.F.length f
  have HW1 : Hid (W1 = _) := hW1
  have G1 : Hid (w.grownBy W1 none) := g1
  have Ba : Hid (∀ W', W1.grownBy W' none → W'.cell? ⟨w.heap.size, 0, none⟩ = some (.int .i64 x.L) ∧ W'.cell? ⟨w.heap.size, 1, none⟩ = some (.int .i64 x.N) ∧ W'.cell? ⟨w.heap.size, 2, none⟩ = some (.slice a x.S.length c) ∧ W'.cell? ⟨w.heap.size, 3, none⟩ = some (.slice b x.T.length d) ∧ W'.cell? ⟨w.heap.size, 4, none⟩ = some (.slice e x.F.length f)) := bx1
  obtain ⟨a0, a1, a2, a3, a4⟩ := Ba.out W1 (grown_refl _ _)
  rw [hW1] at a0 a1 a2 a3 a4
  clear hW1 g1 s1 bx1
  go_enter Try.func8, Try.ntmps8
  go_wp2_with fail
  rw [← HW1.out]
  refine (HAu.out _ G1.out).mono ?_
  rintro E w2 ⟨a', b', e', c', d', f', rfl, hx2, hg2⟩
  obtain ⟨W2, hW2, g2, s2, bx2⟩ := boxA_new w2 x.L x.N a' x.S.length c' b' x.T.length d' e' x.F.length f'
  have HW2 : Hid (W2 = _) := hW2
  have G2 : Hid (W1.grownBy W2 none) := grown_trans hg2 g2
  have X2 : Hid (AutAt W2 x a' b' e') := hx2.grown g2
  have Bb : Hid (∀ W', W2.grownBy W' none → W'.cell? ⟨w2.heap.size, 0, none⟩ = some (.int .i64 x.L) ∧ W'.cell? ⟨w2.heap.size, 1, none⟩ = some (.int .i64 x.N) ∧ W'.cell? ⟨w2.heap.size, 2, none⟩ = some (.slice a' x.S.length c') ∧ W'.cell? ⟨w2.heap.size, 3, none⟩ = some (.slice b' x.T.length d') ∧ W'.cell? ⟨w2.heap.size, 4, none⟩ = some (.slice e' x.F.length f')) := bx2
  clear a0 a1 a2 a3 a4
  obtain ⟨b0, b1, b2, b3, b4⟩ := Bb.out W2 (grown_refl _ _)
  rw [hW2] at b0 b1 b2 b3 b4
  clear hW2 g2 s2 bx2 hx2 hg2 HAu HW1
  go_wp2_with fail
  rw [← HW2.out]
  refine (HMd.out _ _ _ _ _ _ _ X2.out).mono ?_
  rintro E w3 ⟨rfl, hg3⟩
  obtain ⟨W3, hW3, g3, s3, bx3⟩ := box_new w3 (.int .i64 0) (.int .i64 0) (.slice none 0 0) (.slice none 0 0) 25
  have HW3 : Hid (W3 = _) := hW3
  have G3 : Hid (W2.grownBy W3 none) := grown_trans hg3 g3
  have Bd : Hid (∀ W', W3.grownBy W' none → W'.cell? ⟨w3.heap.size, 0, none⟩ = some (.int .i64 0) ∧ W'.cell? ⟨w3.heap.size, 1, none⟩ = some (.int .i64 0) ∧ W'.cell? ⟨w3.heap.size, 2, none⟩ = some (.slice none 0 0) ∧ W'.cell? ⟨w3.heap.size, 3, none⟩ = some (.slice none 0 0)) := bx3
  clear b0 b1 b2 b3 b4
  obtain ⟨b0, b1, b2, b3, b4⟩ := Bb.out W3 G3.out
  obtain ⟨a0, a1, a2, a3, a4⟩ := Ba.out W3 (grown_trans G2.out G3.out)
  rw [hW3] at b0 b1 b2 b3 b4 a0 a1 a2 a3 a4
  clear hW3 g3 s3 bx3 hg3 HMd HW2
  go_wp2_with fail
  rw [← HW3.out]
  refine (HSa.out _ _ _ _ _ _ _ (grown_trans G1.out (grown_trans G2.out G3.out)) (X2.out.grown G3.out)).mono ?_
  rintro E w4 ⟨rfl, hg4⟩
  have G4 : Hid (W3.grownBy w4 none) := hg4
  clear b0 b1 b2 b3 b4 a0 a1 a2 a3 a4 hg4 HSa HW3
  obtain ⟨d0, d1, d2, d3⟩ := Bd.out w4 G4.out
  go_wp2_with fail
  refine (HNo.out _).mono ?_
  rintro E w5 ⟨rfl, hg5⟩
  have G5 : Hid (W1.grownBy w5 none) := grown_trans G2.out (grown_trans G3.out (grown_trans G4.out hg5))
  clear d0 d1 d2 d3 hg5 HNo
  obtain ⟨a0, a1, a2, a3, a4⟩ := Ba.out w5 G5.out
  go_wp2_with fail
  refine (HCk.out _ (grown_trans G1.out G5.out)).mono ?_
  rintro E w6 ⟨rfl, hg6⟩
  have G6 : Hid (W1.grownBy w6 none) := grown_trans G5.out hg6
  clear a0 a1 a2 a3 a4 hg6 HCk
  obtain ⟨a0, a1, a2, a3, a4⟩ := Ba.out w6 G6.out
  have GF : Hid (w.grownBy w6 none) := grown_trans G1.out G6.out
  rcases hyy with ⟨h1, rfl⟩ | ⟨rfl, h2, rfl⟩
  · go_wp2_with fail
    go_ret
    exact ⟨rfl, GF.out⟩
  · go_wp2_with fail
    go_ret
    exact ⟨rfl, GF.out⟩

set_option maxHeartbeats 3200000 in
set_option maxRecDepth 100000 in
theorem made_B (x : Aut) (l nS s0 : Nat) (my : Int) (r : Bool) (δ : Nat → Nat → Nat) (m : Nat → Bool) (a b e az : Option Addr) (c d f nz cz : Nat) (w : World) (hl4 : l ≤ 4) (h8 : nS ≤ 8)
    (HAu : Hid (∀ W, w.grownBy W none → Calls Try.prog 31 #[autV l nS a x.S.length c b x.T.length d e x.F.length f] W fun E w' => ∃ (a b e : Option Addr) (c d f : Nat), E = .returned (autV l nS a x.S.length c b x.T.length d e x.F.length f) ∧ AutAt w' x a b e ∧ W.grownBy w' none))
    (HMd : Hid (∀ W a' b' e' c' d' f', AutAt W x a' b' e' → Calls Try.prog 32 #[autV l nS a' x.S.length c' b' x.T.length d' e' x.F.length f'] W (LeastGPost δ m 256 l s0 W)))
    (HSa : Hid (∀ W a' b' e' c' d' f', w.grownBy W none → AutAt W x a' b' e' → Calls Try.prog 33 #[autV l nS a' x.S.length c' b' x.T.length d' e' x.F.length f', autV l nS a x.S.length c b x.T.length d e x.F.length f] W (Says (.bool true) W)))
    (HNo : Hid (∀ W (L S : Int) aR nR cR aM nM cM, nR ≤ 3000 → nM ≤ 3000 → Calls Try.prog 14 #[detV L S aR nR cR aM nM cM] W (TellsAny W)))
    (HCk : Hid (∀ W, w.grownBy W none → Calls Try.prog 34 #[autV l nS a x.S.length c b x.T.length d e x.F.length f] W (Says (.int .i64 0) W)))
    (HMr : Hid (∀ W, w.grownBy W none → Calls Try.prog 35 #[autV l nS a x.S.length c b x.T.length d e x.F.length f] W (LeastPost δ m 256 l s0 W)))
    (HSl : Hid (∀ W aR cR aM cM aR' cR' aM' cM' (rs rs' : List (Value × List Int)) (M1 M2 : List Int), LeastOf δ m 256 l s0 (rs.map (·.2)) M1 → LeastOf δ m 256 l s0 (rs'.map (·.2)) M2 → DetAt W ⟨l, 0, rs.map (·.2), M1⟩ aR aM → DetAt W ⟨l, 0, rs'.map (·.2), M2⟩ aR' aM' → Calls Try.prog 12 #[detV l 0 aR rs.length cR aM M1.length cM, detV l 0 aR' rs'.length cR' aM' M2.length cM'] W (Says (.bool true) W)))
    (HMy : Hid (∀ W, w.grownBy W none → Calls Try.prog 26 #[.int .i64 (l : Nat), .slice az nz cz] W (Says (.int .i64 my) W)))
    (HAc : Hid (my = 0 → ∀ W aR cR aM cM (rs : List (Value × List Int)) (M1 : List Int), w.grownBy W none → LeastOf δ m 256 l s0 (rs.map (·.2)) M1 → DetAt W ⟨l, 0, rs.map (·.2), M1⟩ aR aM → Calls Try.prog 36 #[detV l 0 aR rs.length cR aM M1.length cM, .slice az nz cz] W (Says (.bool r) W)))
    (HRe : Hid (my = 0 → ∀ W, w.grownBy W none → Calls Try.prog 37 #[autV l nS a x.S.length c b x.T.length d e x.F.length f, .slice az nz cz] W (Says (.bool r) W)))
    : Calls Try.prog 8 #[autV l nS a x.S.length c b x.T.length d e x.F.length f, .slice az nz cz] w (Says (.bool true) w) := by
  have h8i : ¬ (8 : Int) < (nS : Int) := by omega
  obtain ⟨W1, hW1, g1, s1, bx1⟩ := boxA_new w l nS a x.S.length c b x.T.length d e x.F.length f
  have HW1 : Hid (W1 = _) := hW1
  have G1 : Hid (w.grownBy W1 none) := g1
  have Ba : Hid (∀ W', W1.grownBy W' none → W'.cell? ⟨w.heap.size, 0, none⟩ = some (.int .i64 l) ∧ W'.cell? ⟨w.heap.size, 1, none⟩ = some (.int .i64 nS) ∧ W'.cell? ⟨w.heap.size, 2, none⟩ = some (.slice a x.S.length c) ∧ W'.cell? ⟨w.heap.size, 3, none⟩ = some (.slice b x.T.length d) ∧ W'.cell? ⟨w.heap.size, 4, none⟩ = some (.slice e x.F.length f)) := bx1
  obtain ⟨a0, a1, a2, a3, a4⟩ := Ba.out W1 (grown_refl _ _)
  rw [hW1] at a0 a1 a2 a3 a4
  clear hW1 g1 s1 bx1
  go_enter Try.func8, Try.ntmps8
  go_wp2_with fail
  rw [← HW1.out]
  refine (HAu.out _ G1.out).mono ?_
  rintro E w2 ⟨a', b', e', c', d', f', rfl, hx2, hg2⟩
  obtain ⟨W2, hW2, g2, s2, bx2⟩ := boxA_new w2 l nS a' x.S.length c' b' x.T.length d' e' x.F.length f'
  have HW2 : Hid (W2 = _) := hW2
  have G2 : Hid (W1.grownBy W2 none) := grown_trans hg2 g2
  have X2 : Hid (AutAt W2 x a' b' e') := hx2.grown g2
  have Bb : Hid (∀ W', W2.grownBy W' none → W'.cell? ⟨w2.heap.size, 0, none⟩ = some (.int .i64 l) ∧ W'.cell? ⟨w2.heap.size, 1, none⟩ = some (.int .i64 nS) ∧ W'.cell? ⟨w2.heap.size, 2, none⟩ = some (.slice a' x.S.length c') ∧ W'.cell? ⟨w2.heap.size, 3, none⟩ = some (.slice b' x.T.length d') ∧ W'.cell? ⟨w2.heap.size, 4, none⟩ = some (.slice e' x.F.length f')) := bx2
  clear a0 a1 a2 a3 a4
  obtain ⟨b0, b1, b2, b3, b4⟩ := Bb.out W2 (grown_refl _ _)
  rw [hW2] at b0 b1 b2 b3 b4
  clear hW2 g2 s2 bx2 hx2 hg2 HAu HW1
  go_wp2_with fail
  rw [← HW2.out]
  refine (HMd.out _ _ _ _ _ _ _ X2.out).mono ?_
  rintro E w3 ⟨v3, rfl, aL, cL, aN, cN, rs, ML, hv3, hlo, hrn, hml, hrl, ho3, hg3⟩
  cases hv3
  have LO : Hid (LeastOf δ m 256 l s0 (rs.map (·.2)) ML) := hlo
  obtain ⟨nr, hnr⟩ : ∃ nr, rs.length = nr := ⟨_, rfl⟩
  obtain ⟨nl, hnl⟩ : ∃ nl, ML.length = nl := ⟨_, rfl⟩
  have HNr : Hid (rs.length = nr) := hnr
  have HNl : Hid (ML.length = nl) := hnl
  have hnr3 : nr ≤ 3000 := by omega
  have hnl3 : nl ≤ 3000 := by omega
  have D3 : DetAt w3 ⟨l, 0, rs.map (·.2), ML⟩ aL aN := det_of_owns (L := l) (S := 0) (its := []) (by rw [List.append_nil]; exact ho3) (fun x hx => by rw [hrl x hx]; unfold maxLen; omega) (by unfold maxLen; omega) (by unfold maxLen; omega)
  rw [hnr, hnl]
  obtain ⟨W3, hW3, g3, s3, bx3⟩ := box_new w3 (.int .i64 l) (.int .i64 0) (.slice aL nr cL) (.slice aN nl cN) 25
  have HW3 : Hid (W3 = _) := hW3
  have G3 : Hid (W2.grownBy W3 none) := grown_trans hg3 g3
  have X3 : Hid (DetAt W3 ⟨l, 0, rs.map (·.2), ML⟩ aL aN) := D3.grown g3
  have Bd : Hid (∀ W', W3.grownBy W' none → W'.cell? ⟨w3.heap.size, 0, none⟩ = some (.int .i64 l) ∧ W'.cell? ⟨w3.heap.size, 1, none⟩ = some (.int .i64 0) ∧ W'.cell? ⟨w3.heap.size, 2, none⟩ = some (.slice aL nr cL) ∧ W'.cell? ⟨w3.heap.size, 3, none⟩ = some (.slice aN nl cN)) := bx3
  clear b0 b1 b2 b3 b4 hlo hrn hml hrl ho3 D3 hnr hnl
  obtain ⟨b0, b1, b2, b3, b4⟩ := Bb.out W3 G3.out
  obtain ⟨a0, a1, a2, a3, a4⟩ := Ba.out W3 (grown_trans G2.out G3.out)
  rw [hW3] at b0 b1 b2 b3 b4 a0 a1 a2 a3 a4
  clear hW3 g3 s3 bx3 hg3 HMd HW2
  go_wp2_with fail
  rw [← HW3.out]
  refine (HSa.out _ _ _ _ _ _ _ (grown_trans G1.out (grown_trans G2.out G3.out)) (X2.out.grown G3.out)).mono ?_
  rintro E w4 ⟨rfl, hg4⟩
  have G4 : Hid (W3.grownBy w4 none) := hg4
  have GA : Hid (W1.grownBy W3 none) := grown_trans G2.out G3.out
  clear b0 b1 b2 b3 b4 a0 a1 a2 a3 a4 hg4 HSa HW3 X2 Bb G2 G3
  obtain ⟨d0, d1, d2, d3⟩ := Bd.out w4 G4.out
  go_wp2_with fail
  refine (HNo.out _ _ _ _ _ _ _ _ _ hnr3 hnl3).mono ?_
  rintro E w5 ⟨bn, rfl, hg5⟩
  have G5 : Hid (W3.grownBy w5 none) := grown_trans G4.out hg5
  clear d0 d1 d2 d3 hg5 HNo G4
  obtain ⟨a0, a1, a2, a3, a4⟩ := Ba.out w5 (grown_trans GA.out G5.out)
  go_wp2_with fail
  refine (HCk.out _ (grown_trans G1.out (grown_trans GA.out G5.out))).mono ?_
  rintro E w6 ⟨rfl, hg6⟩
  have G6 : Hid (W3.grownBy w6 none) := grown_trans G5.out hg6
  clear a0 a1 a2 a3 a4 hg6 HCk G5
  obtain ⟨a0, a1, a2, a3, a4⟩ := Ba.out w6 (grown_trans GA.out G6.out)
  go_wp2_with fail
  refine (HMr.out _ (grown_trans G1.out (grown_trans GA.out G6.out))).mono ?_
  rintro E w7 ⟨aE, cE, aF, cF, rs7, M7, hv7, hlo7, hrn7, hml7, hrl7, ho7, hg7⟩
  subst hv7
  have D7 : DetAt w7 ⟨l, 0, rs7.map (·.2), M7⟩ aE aF := det_of_owns (L := l) (S := 0) (its := []) (by rw [List.append_nil]; exact ho7) (fun x hx => by rw [hrl7 x hx]; unfold maxLen; omega) (by unfold maxLen; omega) (by unfold maxLen; omega)
  obtain ⟨W7, hW7, g7, s7, bx7⟩ := box_new w7 (.int .i64 l) (.int .i64 0) (.slice aE rs7.length cE) (.slice aF M7.length cF) 25
  have HW7 : Hid (W7 = _) := hW7
  have G7 : Hid (W3.grownBy W7 none) := grown_trans G6.out (grown_trans hg7 g7)
  have HS7 : Hid (Calls Try.prog 12 #[detV l 0 aL nr cL aN nl cN, detV l 0 aE rs7.length cE aF M7.length cF] W7 (Says (.bool true) W7)) := by
    have h4 := HSl.out W7 aL cL aN cN aE cE aF cF rs rs7 ML M7 LO.out hlo7 (X3.out.grown G7.out) (D7.grown g7)
    rw [HNr.out, HNl.out] at h4
    exact h4
  obtain ⟨e0, e1, e2, e3⟩ := bx7 W7 (grown_refl _ _)
  obtain ⟨d0, d1, d2, d3⟩ := Bd.out W7 G7.out
  rw [hW7] at e0 e1 e2 e3 d0 d1 d2 d3
  clear a0 a1 a2 a3 a4 hlo7 hrn7 hml7 hrl7 ho7 hg7 D7 hW7 g7 s7 bx7 HMr HSl G6
  generalize rs7.length = nr7 at *
  generalize M7.length = nl7 at *
  go_wp2_with fail
  rw [← HW7.out]
  refine HS7.out.mono ?_
  rintro E w8 ⟨rfl, hg8⟩
  have G8 : Hid (W3.grownBy w8 none) := grown_trans G7.out hg8
  clear e0 e1 e2 e3 d0 d1 d2 d3 hg8 HS7 HW7 G7
  obtain ⟨a0, a1, a2, a3, a4⟩ := Ba.out w8 (grown_trans GA.out G8.out)
  go_wp2_with fail
  refine (HMy.out _ (grown_trans G1.out (grown_trans GA.out G8.out))).mono ?_
  rintro E w9 ⟨rfl, hg9⟩
  have G9 : Hid (W3.grownBy w9 none) := grown_trans G8.out hg9
  clear a0 a1 a2 a3 a4 hg9 HMy G8
  by_cases hm0 : my = 0
  · have HAc2 : Hid (∀ W, W3.grownBy W none → Calls Try.prog 36 #[detV l 0 aL nr cL aN nl cN, .slice az nz cz] W (Says (.bool r) W)) := fun W hW => by
      have h1 := HAc.out hm0 W aL cL aN cN rs ML (grown_trans G1.out (grown_trans GA.out hW)) LO.out (X3.out.grown hW)
      rw [HNr.out, HNl.out] at h1
      exact h1
    have HRe2 : Hid (∀ W, w.grownBy W none → Calls Try.prog 37 #[autV l nS a x.S.length c b x.T.length d e x.F.length f, .slice az nz cz] W (Says (.bool r) W)) := HRe.out hm0
    subst hm0
    clear HAc HRe X3 LO HNr HNl
    obtain ⟨d0, d1, d2, d3⟩ := Bd.out w9 G9.out
    go_wp2_with fail
    refine (HAc2.out _ G9.out).mono ?_
    rintro E w10 ⟨rfl, hg10⟩
    have G10 : Hid (W3.grownBy w10 none) := grown_trans G9.out hg10
    clear d0 d1 d2 d3 hg10 HAc2
    obtain ⟨a0, a1, a2, a3, a4⟩ := Ba.out w10 (grown_trans GA.out G10.out)
    go_wp2_with fail
    refine (HRe2.out _ (grown_trans G1.out (grown_trans GA.out G10.out))).mono ?_
    rintro E w11 ⟨rfl, hg11⟩
    have GF : Hid (w.grownBy w11 none) := grown_trans G1.out (grown_trans GA.out (grown_trans G10.out hg11))
    clear a0 a1 a2 a3 a4 hg11 HRe2
    cases r
    all_goals
      go_wp2_with fail
      go_ret
      exact ⟨rfl, GF.out⟩
  · have f1 : (my != 0) = true := by simpa using hm0
    have GF : Hid (w.grownBy w9 none) := grown_trans G1.out (grown_trans GA.out G9.out)
    clear hm0
    go_wp2_with fail
    go_ret
    exact ⟨rfl, GF.out⟩

end Go.Proofs.Ytofjboelplknhaa
