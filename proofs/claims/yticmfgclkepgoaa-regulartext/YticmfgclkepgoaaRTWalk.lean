/- The walk of the law RegularText, out of the contracts of what it calls. -/
import Derived.Test.YticmfgclkepgoaaDCopy
import Derived.Test.YticmfgclkepgoaaRNext
namespace Go.Proofs.Yticmfgclkepgoaa
open Go.RowKit
set_option linter.unusedVariables false
set_option linter.unusedSimpArgs false

set_option maxHeartbeats 6400000 in
set_option maxRecDepth 100000 in
/-- An automaton that may not be. -/
theorem rt_bad (L S y : Int) (R : List (List Int)) (M : List Int) (a a' : Option Addr) (c c' : Nat) (vw : Value) (w : World) (hy : y ≠ 0)
    (HDO : Hid (∀ W, w.grownBy W none → Calls Try.prog 4 #[detV L S a R.length c a' M.length c'] W (CopyPost L S R M W)))
    (HT : Hid (∀ W aR cR aM cM, DetAt W ⟨L, S, R, M⟩ aR aM → Calls Try.prog 5 #[detV L S aR R.length cR aM M.length cM] W (Says (.tuple #[.string ⟨#[]⟩, .int .i64 y]) W)))
    (HSm : Hid (∀ W aR cR aM cM, w.grownBy W none → DetAt W ⟨L, S, R, M⟩ aR aM → Calls Try.prog 6 #[detV L S aR R.length cR aM M.length cM, detV L S a R.length c a' M.length c'] W (Says (.bool true) W)))
    (HCk : Hid (∀ W, w.grownBy W none → Calls Try.prog 7 #[detV L S a R.length c a' M.length c'] W fun E W' => ∃ x, E = .returned (.int .i64 x) ∧ (x = y ∨ (x = 0 ∧ y = 1 ∧ 3 < R.length)) ∧ W.grownBy W' none)) :
    Calls Try.prog 3 #[detV L S a R.length c a' M.length c', vw] w (Says (.bool true) w) := by
  obtain ⟨W1, hW1, g1, s1, bx1⟩ := box_new w (.int .i64 L) (.int .i64 S) (.slice a R.length c) (.slice a' M.length c') 25
  have HW1 : Hid (W1 = _) := hW1
  have G1 : Hid (w.grownBy W1 none) := g1
  have BX : Hid (∀ W', W1.grownBy W' none → W'.cell? ⟨w.heap.size, 0, none⟩ = some (.int .i64 L) ∧ W'.cell? ⟨w.heap.size, 1, none⟩ = some (.int .i64 S) ∧ W'.cell? ⟨w.heap.size, 2, none⟩ = some (.slice a R.length c) ∧ W'.cell? ⟨w.heap.size, 3, none⟩ = some (.slice a' M.length c')) := bx1
  obtain ⟨y0, y1, y2, y3⟩ := bx1 W1 (grown_refl _ _)
  rw [hW1] at y0 y1 y2 y3
  clear hW1 g1 s1 bx1
  go_enter Try.func3, Try.ntmps3
  go_wp2_with fail
  rw [← HW1.out]
  refine (HDO.out _ G1.out).mono ?_
  rintro e w2 ⟨aR, cR, aM, cM, rfl, hD2, hg2⟩
  clear y0 y1 y2 y3
  obtain ⟨W3, hW3, g3, s3, bx3⟩ := box_new w2 (.int .i64 L) (.int .i64 S) (.slice aR R.length cR) (.slice aM M.length cM) 25
  have HW3 : Hid (W3 = _) := hW3
  have G3 : Hid (W1.grownBy W3 none) := grown_trans hg2 g3
  have D3 : Hid (DetAt W3 ⟨L, S, R, M⟩ aR aM) := hD2.grown g3
  obtain ⟨b2, hb2⟩ : ∃ b2, w2.heap.size = b2 := ⟨_, rfl⟩
  have BX3 : Hid (∀ W', W3.grownBy W' none → W'.cell? ⟨b2, 0, none⟩ = some (.int .i64 L) ∧ W'.cell? ⟨b2, 1, none⟩ = some (.int .i64 S) ∧ W'.cell? ⟨b2, 2, none⟩ = some (.slice aR R.length cR) ∧ W'.cell? ⟨b2, 3, none⟩ = some (.slice aM M.length cM)) := by rw [hb2] at bx3; exact bx3
  obtain ⟨y0, y1, y2, y3⟩ := bx3 W3 (grown_refl _ _)
  rw [hW3] at y0 y1 y2 y3
  clear hW3 g3 s3 bx3 hD2 hg2
  go_wp2_with fail
  rw [← HW3.out]
  clear HW3 hb2 y0 y1 y2 y3
  refine (HT.out W3 aR cR aM cM D3.out).mono ?_
  rintro e w4 ⟨rfl, hg4⟩
  have G4 : Hid (W3.grownBy w4 none) := hg4
  obtain ⟨y0, y1, y2, y3⟩ := BX3.out w4 hg4
  obtain ⟨z0, z1, z2, z3⟩ := BX.out w4 (grown_trans G3.out hg4)
  clear hg4
  go_wp2_with fail
  clear y0 y1 y2 y3 z0 z1 z2 z3
  refine (HSm.out w4 aR cR aM cM (grown_trans G1.out (grown_trans G3.out G4.out)) (D3.out.grown G4.out)).mono ?_
  rintro e w5 ⟨rfl, hg5⟩
  have G5 : Hid (W1.grownBy w5 none) := grown_trans G3.out (grown_trans G4.out hg5)
  obtain ⟨z0, z1, z2, z3⟩ := BX.out w5 G5.out
  clear hg5
  go_wp2_with fail
  clear z0 z1 z2 z3
  refine (HCk.out w5 (grown_trans G1.out G5.out)).mono ?_
  rintro e w6 ⟨x, rfl, hx, hg6⟩
  have G6 : Hid (w.grownBy w6 none) := grown_trans G1.out (grown_trans G5.out hg6)
  obtain ⟨z0, z1, z2, z3⟩ := BX.out w6 (grown_trans G5.out hg6)
  clear hg6
  rcases hx with rfl | ⟨rfl, rfl, hn⟩
  · have f1 : (x == 0) = false := by simpa using hy
    have f2 : (x != 0) = true := by simpa using hy
    have f3 : (x == x) = true := by simp
    go_wp2_with fail
    go_ret
    exact ⟨rfl, G6.out⟩
  · have hn' : (3 : Int) < (R.length : Int) := by omega
    go_wp2_with fail
    go_ret
    exact ⟨rfl, G6.out⟩

set_option maxHeartbeats 12800000 in
set_option maxRecDepth 100000 in
/-- An automaton with its text. -/
theorem rt_good (L S y : Int) (R : List (List Int)) (M : List Int) (a a' az : Option Addr) (c c' cz : Nat) (zs : List Int) (w : World) (TO : ByteArray → Prop) (AC : List Int → Bool) (hn3 : R.length ≤ 3) (hL1 : 1 ≤ L) (hL4 : L ≤ 4) (hzs : Ints w az zs)
    (HDO : Hid (∀ W, w.grownBy W none → Calls Try.prog 4 #[detV L S a R.length c a' M.length c'] W (CopyPost L S R M W)))
    (HT : Hid (∀ W aR cR aM cM, DetAt W ⟨L, S, R, M⟩ aR aM → Calls Try.prog 5 #[detV L S aR R.length cR aM M.length cM] W fun E W' => ∃ T, E = .returned (.tuple #[.string T, .int .i64 0]) ∧ TO T ∧ W.grownBy W' none))
    (HSm : Hid (∀ W aR cR aM cM, w.grownBy W none → DetAt W ⟨L, S, R, M⟩ aR aM → Calls Try.prog 6 #[detV L S aR R.length cR aM M.length cM, detV L S a R.length c a' M.length c'] W (Says (.bool true) W)))
    (HCk : Hid (∀ W, w.grownBy W none → Calls Try.prog 7 #[detV L S a R.length c a' M.length c'] W (Says (.int .i64 0) W)))
    (HP : Hid (∀ T, TO T → T.size ≤ 1000 ∧ ∃ XP : World → Value → Prop, (∀ W, Calls Try.prog 8 #[.string T] W fun E W' => ∃ V, E = .returned (.tuple #[V, .agg #[.int .i64 0, .int .i64 0]]) ∧ (∀ W'', W'.grownBy W'' none → XP W'' V) ∧ W.grownBy W' none) ∧ ∀ W V b d z, XP W V → Ints W b z → z.length ≤ 60 → LetI L z → Calls Try.prog 10 #[V, .slice b z.length d] W (Says (.bool (AC z)) W)))
    (HA : Hid (∀ W b d z, w.grownBy W none → Ints W b z → z.length ≤ 60 → LetI L z → Calls Try.prog 9 #[detV L S a R.length c a' M.length c', .slice b z.length d] W (Says (.bool (AC z)) W)))
    (HM : Hid (∀ W, w.grownBy W none → Calls Try.prog 12 #[.int .i64 L, .slice az zs.length cz] W fun E W' => E = .returned (.int .i64 y) ∧ W' = W))
    (Hy : Hid (y = 0 → zs.length ≤ 60 ∧ LetI L zs)) :
    Calls Try.prog 3 #[detV L S a R.length c a' M.length c', .slice az zs.length cz] w (Says (.bool true) w) := by
  obtain ⟨W1, hW1, g1, s1, bx1⟩ := box_new w (.int .i64 L) (.int .i64 S) (.slice a R.length c) (.slice a' M.length c') 25
  have HW1 : Hid (W1 = _) := hW1
  have G1 : Hid (w.grownBy W1 none) := g1
  have BX : Hid (∀ W', W1.grownBy W' none → W'.cell? ⟨w.heap.size, 0, none⟩ = some (.int .i64 L) ∧ W'.cell? ⟨w.heap.size, 1, none⟩ = some (.int .i64 S) ∧ W'.cell? ⟨w.heap.size, 2, none⟩ = some (.slice a R.length c) ∧ W'.cell? ⟨w.heap.size, 3, none⟩ = some (.slice a' M.length c')) := bx1
  have HZ : Hid (Ints w az zs) := hzs
  obtain ⟨y0, y1, y2, y3⟩ := bx1 W1 (grown_refl _ _)
  rw [hW1] at y0 y1 y2 y3
  have hn' : ¬ (3 : Int) < (R.length : Int) := by omega
  clear hW1 g1 s1 bx1 hzs
  go_enter Try.func3, Try.ntmps3
  go_wp2_with fail
  rw [← HW1.out]
  refine (HDO.out _ G1.out).mono ?_
  rintro e w2 ⟨aR, cR, aM, cM, rfl, hD2, hg2⟩
  clear y0 y1 y2 y3
  obtain ⟨W3, hW3, g3, s3, bx3⟩ := box_new w2 (.int .i64 L) (.int .i64 S) (.slice aR R.length cR) (.slice aM M.length cM) 25
  have HW3 : Hid (W3 = _) := hW3
  have G3 : Hid (W1.grownBy W3 none) := grown_trans hg2 g3
  have D3 : Hid (DetAt W3 ⟨L, S, R, M⟩ aR aM) := hD2.grown g3
  obtain ⟨b2, hb2⟩ : ∃ b2, w2.heap.size = b2 := ⟨_, rfl⟩
  have BX3 : Hid (∀ W', W3.grownBy W' none → W'.cell? ⟨b2, 0, none⟩ = some (.int .i64 L) ∧ W'.cell? ⟨b2, 1, none⟩ = some (.int .i64 S) ∧ W'.cell? ⟨b2, 2, none⟩ = some (.slice aR R.length cR) ∧ W'.cell? ⟨b2, 3, none⟩ = some (.slice aM M.length cM)) := by rw [hb2] at bx3; exact bx3
  obtain ⟨y0, y1, y2, y3⟩ := bx3 W3 (grown_refl _ _)
  rw [hW3] at y0 y1 y2 y3
  clear hW3 g3 s3 bx3 hD2 hg2
  go_wp2_with fail
  rw [← HW3.out]
  clear HW3 hb2 y0 y1 y2 y3
  refine (HT.out W3 aR cR aM cM D3.out).mono ?_
  rintro e w4 ⟨T, rfl, hT, hg4⟩
  obtain ⟨hTs, XP, hXP, hXH⟩ := HP.out T hT
  have HXP : Hid (∀ W, Calls Try.prog 8 #[.string T] W fun E W' => ∃ V, E = .returned (.tuple #[V, .agg #[.int .i64 0, .int .i64 0]]) ∧ (∀ W'', W'.grownBy W'' none → XP W'' V) ∧ W.grownBy W' none) := hXP
  have HXH : Hid (∀ W V b d z, XP W V → Ints W b z → z.length ≤ 60 → LetI L z → Calls Try.prog 10 #[V, .slice b z.length d] W (Says (.bool (AC z)) W)) := hXH
  have G4 : Hid (W3.grownBy w4 none) := hg4
  obtain ⟨y0, y1, y2, y3⟩ := BX3.out w4 hg4
  obtain ⟨z0, z1, z2, z3⟩ := BX.out w4 (grown_trans G3.out hg4)
  clear hg4 hT hXP hXH HP HT
  go_wp2_with fail
  clear y0 y1 y2 y3 z0 z1 z2 z3
  refine (HSm.out w4 aR cR aM cM (grown_trans G1.out (grown_trans G3.out G4.out)) (D3.out.grown G4.out)).mono ?_
  rintro e w5 ⟨rfl, hg5⟩
  have G5 : Hid (W1.grownBy w5 none) := grown_trans G3.out (grown_trans G4.out hg5)
  obtain ⟨z0, z1, z2, z3⟩ := BX.out w5 G5.out
  clear hg5 G3 G4 D3 BX3 HSm HDO
  go_wp2_with fail
  clear z0 z1 z2 z3
  refine (HCk.out w5 (grown_trans G1.out G5.out)).mono ?_
  rintro e w6 ⟨rfl, hg6⟩
  have G6 : Hid (W1.grownBy w6 none) := grown_trans G5.out hg6
  obtain ⟨z0, z1, z2, z3⟩ := BX.out w6 G6.out
  clear hg6 G5 HCk
  go_wp2_with fail
  clear z0 z1 z2 z3
  refine (HXP.out w6).mono ?_
  rintro e w7 ⟨V, rfl, hX, hg7⟩
  obtain ⟨W8, hW8⟩ : ∃ W8, W8 = w7.alloc (.cells #[.int .i64 0, .int .i64 0] 34) := ⟨_, rfl⟩
  have HW8 : Hid (W8 = w7.alloc (.cells #[.int .i64 0, .int .i64 0] 34)) := hW8
  have g8 : w7.grownBy W8 none := by rw [hW8]; exact grown_alloc _ _
  have G8 : Hid (W1.grownBy W8 none) := grown_trans G6.out (grown_trans hg7 g8)
  have HV : Hid (∀ W'', W8.grownBy W'' none → XP W'' V) := fun W'' h => hX W'' (grown_trans g8 h)
  have x0 : (w7.alloc (.cells #[.int .i64 0, .int .i64 0] 34)).cell? ⟨w7.heap.size, 0, none⟩ = some (.int .i64 0) := by rw [cell_of_row _ _ _ _ _ (0, 0) (heap_alloc_new w7 _)]; rfl
  clear hX hg7 g8 hW8 G6 HXP
  go_wp2_with fail
  rw [← HW8.out]
  clear HW8 x0
  go_loopw [12, 13] (fun v i wr => ∃ (k : Nat) (b : Option Addr) (d : Nat) (z : List Int), i = .int .i64 k ∧ k ≤ 30 ∧ v = .slice b z.length d ∧ Ints wr b z ∧ LetI L z ∧ z.length ≤ k ∧ W8.grownBy wr none) (fun _ i _ => 30 - (intOf i).toNat)
  case atStart => exact ⟨0, none, 0, [], rfl, by omega, rfl, .inl rfl, fun k hk => by simp at hk, by simp, grown_refl _ _⟩
  case round =>
    obtain ⟨k, b, d, z, rfl, hk, rfl, hI, hL, hzk, hg⟩ := hrel
    have I : Hid (Ints wr b z) := hI
    have HL : Hid (LetI L z) := hL
    have G : Hid (W8.grownBy wr none) := hg
    clear hI hL hg
    by_cases hk3 : k < 30
    · have hki : (k : Int) < 30 := by omega
      obtain ⟨z0, z1, z2, z3⟩ := BX.out wr (grown_trans G8.out G.out)
      go_wp2_with fail
      clear z0 z1 z2 z3
      refine (HA.out wr b d z (grown_trans G1.out (grown_trans G8.out G.out)) I.out (by omega) HL.out).mono ?_
      rintro e w9 ⟨rfl, hg9⟩
      have G9 : Hid (wr.grownBy w9 none) := hg9
      clear hg9
      go_wp2_with fail
      refine (HXH.out w9 V b d z (HV.out _ (grown_trans G.out G9.out)) (I.out.grown G9.out) (by omega) HL.out).mono ?_
      rintro e w10 ⟨rfl, hg10⟩
      have G10 : Hid (wr.grownBy w10 none) := grown_trans G9.out hg10
      obtain ⟨z0, z1, z2, z3⟩ := BX.out w10 (grown_trans G8.out (grown_trans G.out G10.out))
      obtain ⟨bo, hbo⟩ : ∃ bo, AC z = bo := ⟨_, rfl⟩
      rw [hbo]
      have hbb : (bo != bo) = false := by simp
      clear hg10 G9 hbo
      go_wp2_with fail
      clear z0 z1 z2 z3
      refine (next_any L b d z w10 hL1 hL4 (I.out.grown G10.out) HL.out (by omega)).mono ?_
      rintro e w11 ⟨b', d', z', rfl, hI, hL, hz', hg11⟩
      have I' : Hid (Ints w11 b' z') := hI
      have HL' : Hid (LetI L z') := hL
      have G' : Hid (W8.grownBy w11 none) := grown_trans G.out (grown_trans G10.out hg11)
      clear hI hL hg11
      go_wp2_with fail
      go_roundw
      case rel => exact ⟨k + 1, b', d', z', by go_num, by omega, rfl, I'.out, HL'.out, by omega, G'.out⟩
      case measure => simp [intOf]; omega
    · have hki : ¬ (k : Int) < 30 := by omega
      obtain ⟨z0, z1, z2, z3⟩ := BX.out wr (grown_trans G8.out G.out)
      go_wp2_with fail
      clear z0 z1 z2 z3
      refine (HM.out wr (grown_trans G1.out (grown_trans G8.out G.out))).mono ?_
      rintro e w9 ⟨rfl, rfl⟩
      by_cases hy : y = 0
      · subst hy
        obtain ⟨hz60, hzl⟩ := Hy.out rfl
        obtain ⟨z0, z1, z2, z3⟩ := BX.out w9 (grown_trans G8.out G.out)
        have HZL : Hid (LetI L zs) := hzl
        clear hzl
        go_wp2_with fail
        clear z0 z1 z2 z3
        refine (HA.out w9 az cz zs (grown_trans G1.out (grown_trans G8.out G.out)) (HZ.out.grown (grown_trans G1.out (grown_trans G8.out G.out))) hz60 HZL.out).mono ?_
        rintro e w10 ⟨rfl, hg10⟩
        have G10 : Hid (w9.grownBy w10 none) := hg10
        clear hg10
        go_wp2_with fail
        refine (HXH.out w10 V az cz zs (HV.out _ (grown_trans G.out G10.out)) (HZ.out.grown (grown_trans G1.out (grown_trans G8.out (grown_trans G.out G10.out)))) hz60 HZL.out).mono ?_
        rintro e w11 ⟨rfl, hg11⟩
        have G11 : Hid (w.grownBy w11 none) := grown_trans G1.out (grown_trans G8.out (grown_trans G.out (grown_trans G10.out hg11)))
        obtain ⟨bo, hbo⟩ : ∃ bo, AC zs = bo := ⟨_, rfl⟩
        rw [hbo]
        have hbb : (bo == bo) = true := by simp
        clear hg11 hbo
        go_wp2_with fail
        go_ret
        exact ⟨rfl, G11.out⟩
      · have hy1 : (y != 0) = true := by simpa using hy
        go_wp2_with fail
        go_ret
        exact ⟨rfl, grown_trans G1.out (grown_trans G8.out G.out)⟩

end Go.Proofs.Yticmfgclkepgoaa
