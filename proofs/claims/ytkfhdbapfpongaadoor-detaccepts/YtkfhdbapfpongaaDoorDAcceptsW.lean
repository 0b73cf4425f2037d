/- The walk of the law DetAccepts: whatever automaton, word and number come in, it returns true. -/
import Derived.Test.YtkfhdbapfpongaaDoorDCountR
namespace Go.Proofs.YtkfhdbapfpongaaDoor
open Go.RowKit
set_option linter.unusedVariables false

set_option maxHeartbeats 3200000 in
set_option maxRecDepth 100000 in
theorem law_bad (L S N : Int) (R : List (List Int)) (M : List Int) (a a' az : Option Addr) (c c' cz : Nat) (z : List Int) (w : World) (h : DetAt w ⟨L, S, R, M⟩ a a') (hz : Ints w az z) (hzm : z.length ≤ maxLen) (hc : checkF ⟨L, S, R, M⟩ ≠ 0) :
    Calls Tryd.prog 3 #[.agg #[.int .i64 L, .int .i64 S, .slice a R.length c, .slice a' M.length c'], .slice az z.length cz, .int .i64 N] w fun e w' => e = .returned (.bool true) ∧ w.grownBy w' none := by
  have HG : Hid (∀ o, w.grownBy (w.alloc o) none) := fun o => grown_alloc w o
  have HC : Hid (∀ W, w.grownBy W none → Calls Tryd.prog 4 #[.agg #[.int .i64 L, .int .i64 S, .slice a R.length c, .slice a' M.length c']] W fun e w' => e = .returned (.int .i64 (checkF ⟨L, S, R, M⟩)) ∧ W.grownBy w' none) := fun W hW => check_any L S R M a a' c c' W (h.grown hW)
  have HR : Hid (∀ W, w.grownBy W none → Calls Tryd.prog 5 #[.agg #[.int .i64 L, .int .i64 S, .slice a R.length c, .slice a' M.length c']] W fun e w' => e = .returned (.int .i64 (checkF ⟨L, S, R, M⟩)) ∧ W.grownBy w' none) := fun W hW => checkR_any L S R M a a' c c' W (h.grown hW)
  have HA : Hid (∀ W, w.grownBy W none → Calls Tryd.prog 6 #[.agg #[.int .i64 L, .int .i64 S, .slice a R.length c, .slice a' M.length c'], .slice az z.length cz] W fun e w' => e = .returned (.tuple #[.bool false, .int .i64 (checkF ⟨L, S, R, M⟩)]) ∧ W.grownBy w' none) := fun W hW => by
    have := accepts_any L S R M a a' az c c' cz z W (h.grown hW) (hz.grown hW) hzm
    have e1 : accE ⟨L, S, R, M⟩ z = checkF ⟨L, S, R, M⟩ := by unfold accE; rw [if_neg hc]
    rw [e1] at this
    simpa [hc] using this
  have HK : Hid (∀ W, w.grownBy W none → Calls Tryd.prog 7 #[.agg #[.int .i64 L, .int .i64 S, .slice a R.length c, .slice a' M.length c'], .int .i64 N] W fun e w' => e = .returned (.tuple #[.string ⟨#[]⟩, .int .i64 (checkF ⟨L, S, R, M⟩)]) ∧ W.grownBy w' none) := fun W hW => count_bad L S N R M a a' c c' W (h.grown hW) hc
  generalize checkF ⟨L, S, R, M⟩ = y at *
  have hy' : (y != 0) = true := by simpa using hc
  have hy'' : (y == 0) = false := by simpa using hc
  have hO : Hid (∀ W, (w.alloc (.cells #[.int .i64 L, .int .i64 S, .slice a R.length c, .slice a' M.length c'] 25)).grownBy W none → _) := fun W hW => box4 hW
  clear h hz
  unfold maxLen at hzm
  go_enter Tryd.func3, Tryd.ntmps3
  go_wp2_with fail
  refine (HC.out _ (HG.out _)).mono ?_
  rintro e w2 ⟨rfl, hg2⟩
  have G2 : Hid ((w.alloc (.cells #[.int .i64 L, .int .i64 S, .slice a R.length c, .slice a' M.length c'] 25)).grownBy w2 none) := hg2
  obtain ⟨b0, b1, b2, b3⟩ := hO.out _ hg2
  clear hg2
  go_wp2_with fail
  refine (HR.out _ (grown_trans (HG.out _) G2.out)).mono ?_
  rintro e w3 ⟨rfl, hg3⟩
  have G3 : Hid ((w.alloc (.cells #[.int .i64 L, .int .i64 S, .slice a R.length c, .slice a' M.length c'] 25)).grownBy w3 none) := grown_trans G2.out hg3
  clear b0 b1 b2 b3 hg3 G2
  obtain ⟨b0, b1, b2, b3⟩ := hO.out _ G3.out
  go_wp2_with fail
  refine (HA.out _ (grown_trans (HG.out _) G3.out)).mono ?_
  rintro e w4 ⟨rfl, hg4⟩
  have G4 : Hid ((w.alloc (.cells #[.int .i64 L, .int .i64 S, .slice a R.length c, .slice a' M.length c'] 25)).grownBy w4 none) := grown_trans G3.out hg4
  clear b0 b1 b2 b3 hg4 G3
  obtain ⟨b0, b1, b2, b3⟩ := hO.out _ G4.out
  go_wp2_with fail
  refine (HK.out _ (grown_trans (HG.out _) G4.out)).mono ?_
  rintro e w5 ⟨rfl, hg5⟩
  have G5 : Hid (w.grownBy w5 none) := grown_trans (HG.out _) (grown_trans G4.out hg5)
  clear b0 b1 b2 b3 hg5 G4
  go_wp2_with fail
  go_ret
  exact ⟨rfl, G5.out⟩

set_option maxHeartbeats 3200000 in
set_option maxRecDepth 100000 in
theorem law_ok (L S N : Int) (R : List (List Int)) (M : List Int) (a a' az : Option Addr) (c c' cz : Nat) (z : List Int) (w : World) (h : DetAt w ⟨L, S, R, M⟩ a a') (hz : Ints w az z) (hzm : z.length ≤ maxLen) (hc : checkF ⟨L, S, R, M⟩ = 0) (hT : Pow10 w) :
    Calls Tryd.prog 3 #[.agg #[.int .i64 L, .int .i64 S, .slice a R.length c, .slice a' M.length c'], .slice az z.length cz, .int .i64 N] w fun e w' => e = .returned (.bool true) ∧ w.grownBy w' none := by
  have hG := good_of_check hc
  have hSn : 0 ≤ S := hG.s.1
  have HG : Hid (∀ o, w.grownBy (w.alloc o) none) := fun o => grown_alloc w o
  have HC : Hid (∀ W, w.grownBy W none → Calls Tryd.prog 4 #[.agg #[.int .i64 L, .int .i64 S, .slice a R.length c, .slice a' M.length c']] W fun e w' => e = .returned (.int .i64 0) ∧ W.grownBy w' none) := fun W hW => by have := check_any L S R M a a' c c' W (h.grown hW); rwa [hc] at this
  have HR : Hid (∀ W, w.grownBy W none → Calls Tryd.prog 5 #[.agg #[.int .i64 L, .int .i64 S, .slice a R.length c, .slice a' M.length c']] W fun e w' => e = .returned (.int .i64 0) ∧ W.grownBy w' none) := fun W hW => by have := checkR_any L S R M a a' c c' W (h.grown hW); rwa [hc] at this
  have HY : Hid (∀ W, w.grownBy W none → Calls Tryd.prog 8 #[.int .i64 L, .slice az z.length cz] W fun e w' => e = .returned (.int .i64 (mayF L z)) ∧ w' = W) := fun W hW => mayR_any L az cz z W (hz.grown hW) hzm
  have HA : Hid (∀ W, w.grownBy W none → Calls Tryd.prog 6 #[.agg #[.int .i64 L, .int .i64 S, .slice a R.length c, .slice a' M.length c'], .slice az z.length cz] W fun e w' => e = .returned (.tuple #[.bool (decide (mayF L z = 0) && accB ⟨L, S, R, M⟩ z), .int .i64 (mayF L z)]) ∧ W.grownBy w' none) := fun W hW => by
    have := accepts_any L S R M a a' az c c' cz z W (h.grown hW) (hz.grown hW) hzm
    have e1 : accE ⟨L, S, R, M⟩ z = mayF L z := by unfold accE; rw [if_pos hc]
    rwa [e1] at this
  have HAR : Hid (mayF L z = 0 → ∀ W, w.grownBy W none → Calls Tryd.prog 9 #[.agg #[.int .i64 L, .int .i64 S, .slice a R.length c, .slice a' M.length c'], .slice az z.length cz] W fun e w' => e = .returned (.bool (accB ⟨L, S, R, M⟩ z)) ∧ W.grownBy w' none) := fun hm W hW =>
    acceptsR_any L S R M a a' az c c' cz z W (h.grown hW) hG (hz.grown hW) hzm (mayF_letters hm).2
  obtain ⟨cs, ce, hK, hKE⟩ : ∃ cs ce, (∀ W, w.grownBy W none → Calls Tryd.prog 7 #[.agg #[.int .i64 L, .int .i64 S, .slice a R.length c, .slice a' M.length c'], .int .i64 N] W fun e w' => e = .returned (.tuple #[.string ⟨cs⟩, .int .i64 ce]) ∧ W.grownBy w' none) ∧
      (((N < 0 ∨ 60 < N) ∧ cs = #[] ∧ ce = 2) ∨ (¬ (N < 0 ∨ 60 < N) ∧ ce = 0 ∧ ∀ W, w.grownBy W none → Calls Tryd.prog 10 #[.agg #[.int .i64 L, .int .i64 S, .slice a R.length c, .slice a' M.length c'], .int .i64 N] W fun e w' => e = .returned (.string ⟨cs⟩) ∧ W.grownBy w' none)) := by
    by_cases hN : N < 0 ∨ 60 < N
    · exact ⟨#[], 2, fun W hW => count_range L S N R M a a' c c' W (h.grown hW) hc hN, .inl ⟨hN, rfl, rfl⟩⟩
    · obtain ⟨s0, rfl⟩ : ∃ s0 : Nat, S = s0 := ⟨S.toNat, by omega⟩
      obtain ⟨n, rfl⟩ : ∃ n : Nat, N = n := ⟨N.toNat, by omega⟩
      exact ⟨_, 0, fun W hW => count_any L s0 n R M a a' c c' W (h.grown hW) hc (by omega) (hT.grown hW), .inr ⟨hN, rfl, fun W hW => countR_any L s0 n R M a a' c c' W (h.grown hW) hG (by omega)⟩⟩
  have HK : Hid (∀ W, w.grownBy W none → Calls Tryd.prog 7 #[.agg #[.int .i64 L, .int .i64 S, .slice a R.length c, .slice a' M.length c'], .int .i64 N] W fun e w' => e = .returned (.tuple #[.string ⟨cs⟩, .int .i64 ce]) ∧ W.grownBy w' none) := hK
  have HKE : Hid (((N < 0 ∨ 60 < N) ∧ cs = #[] ∧ ce = 2) ∨ (¬ (N < 0 ∨ 60 < N) ∧ ce = 0 ∧ ∀ W, w.grownBy W none → Calls Tryd.prog 10 #[.agg #[.int .i64 L, .int .i64 S, .slice a R.length c, .slice a' M.length c'], .int .i64 N] W fun e w' => e = .returned (.string ⟨cs⟩) ∧ W.grownBy w' none)) := hKE
  have hO : Hid (∀ W, (w.alloc (.cells #[.int .i64 L, .int .i64 S, .slice a R.length c, .slice a' M.length c'] 25)).grownBy W none → _) := fun W hW => box4 hW
  generalize accB ⟨L, S, R, M⟩ z = ab at *
  generalize mayF L z = m at *
  clear h hz hc hT hK hKE hG
  unfold maxLen at hzm
  go_enter Tryd.func3, Tryd.ntmps3
  go_wp2_with fail
  refine (HC.out _ (HG.out _)).mono ?_
  rintro e w2 ⟨rfl, hg2⟩
  generalize Obj.cells #[Value.int IntKind.i64 L, Value.int IntKind.i64 S, Value.slice a R.length c, Value.slice a' M.length c'] 25 = O at *
  have G2 : Hid ((w.alloc O).grownBy w2 none) := hg2
  obtain ⟨b0, b1, b2, b3⟩ := hO.out _ hg2
  clear hg2
  go_wp2_with fail
  refine (HR.out _ (grown_trans (HG.out _) G2.out)).mono ?_
  rintro e w3 ⟨rfl, hg3⟩
  have G3 : Hid ((w.alloc O).grownBy w3 none) := grown_trans G2.out hg3
  clear b0 b1 b2 b3 hg3 G2
  obtain ⟨b0, b1, b2, b3⟩ := hO.out _ G3.out
  go_wp2_with fail
  refine (HA.out _ (grown_trans (HG.out _) G3.out)).mono ?_
  rintro e w4 ⟨rfl, hg4⟩
  have G4 : Hid ((w.alloc O).grownBy w4 none) := grown_trans G3.out hg4
  clear b0 b1 b2 b3 hg4 G3
  obtain ⟨b0, b1, b2, b3⟩ := hO.out _ G4.out
  go_wp2_with fail
  refine (HK.out _ (grown_trans (HG.out _) G4.out)).mono ?_
  rintro e w5 ⟨rfl, hg5⟩
  have G5 : Hid ((w.alloc O).grownBy w5 none) := grown_trans G4.out hg5
  clear b0 b1 b2 b3 hg5 G4
  obtain ⟨b0, b1, b2, b3⟩ := hO.out _ G5.out
  go_wp2_with fail
  refine (HY.out _ (grown_trans (HG.out _) G5.out)).mono ?_
  rintro e w6 ⟨rfl, rfl⟩
  by_cases hm : m = 0
  · subst hm
    have HAR' := HAR.out rfl
    clear HAR
    have HAR : Hid (∀ W, w.grownBy W none → Calls Tryd.prog 9 #[.agg #[.int .i64 L, .int .i64 S, .slice a R.length c, .slice a' M.length c'], .slice az z.length cz] W fun e w' => e = .returned (.bool ab) ∧ W.grownBy w' none) := HAR'
    clear HAR'
    simp only [decide_true, Bool.true_and]
    go_wp2_with fail
    refine (HAR.out _ (grown_trans (HG.out _) G5.out)).mono ?_
    rintro e w7 ⟨rfl, hg7⟩
    have G7 : Hid ((w.alloc O).grownBy w7 none) := grown_trans G5.out hg7
    clear b0 b1 b2 b3 hg7 G5
    obtain ⟨b0, b1, b2, b3⟩ := hO.out _ G7.out
    have hab : (ab != ab) = false := by simp
    have hab2 : (ab == ab) = true := by simp
    rcases HKE.out with ⟨hN, rfl, rfl⟩ | ⟨hN, rfl, hCR⟩
    · by_cases hN0 : N < 0
      · have d0 : decide (N < 0) = true := by simpa using hN0
        go_wp2_with fail
        go_ret
        exact ⟨rfl, grown_trans (HG.out _) G7.out⟩
      · have d0 : decide (N < 0) = false := by simpa using hN0
        have d1 : 60 < N := by omega
        go_wp2_with fail
        go_ret
        exact ⟨rfl, grown_trans (HG.out _) G7.out⟩
    · have d0 : decide (N < 0) = false := by simp; omega
      have d1 : ¬ 60 < N := by omega
      have HCR : Hid (∀ W, w.grownBy W none → Calls Tryd.prog 10 #[.agg #[.int .i64 L, .int .i64 S, .slice a R.length c, .slice a' M.length c'], .int .i64 N] W fun e w' => e = .returned (.string ⟨cs⟩) ∧ W.grownBy w' none) := hCR
      clear hCR
      go_wp2_with fail
      refine (HCR.out _ (grown_trans (HG.out _) G7.out)).mono ?_
      rintro e w8 ⟨rfl, hg8⟩
      have G8 : Hid (w.grownBy w8 none) := grown_trans (HG.out _) (grown_trans G7.out hg8)
      clear hg8
      go_wp2_with fail
      go_ret
      exact ⟨by simp, G8.out⟩
  · have hm' : (m != 0) = true := by simpa using hm
    have hm'' : (m == 0) = false := by simpa using hm
    have hmd : (decide (m = 0) && ab) = false := by simp [hm]
    rw [hmd]
    rcases HKE.out with ⟨hN, rfl, rfl⟩ | ⟨hN, rfl, hCR⟩
    · by_cases hN0 : N < 0
      · have d0 : decide (N < 0) = true := by simpa using hN0
        go_wp2_with fail
        go_ret
        exact ⟨rfl, grown_trans (HG.out _) G5.out⟩
      · have d0 : decide (N < 0) = false := by simpa using hN0
        have d1 : 60 < N := by omega
        go_wp2_with fail
        go_ret
        exact ⟨rfl, grown_trans (HG.out _) G5.out⟩
    · have d0 : decide (N < 0) = false := by simp; omega
      have d1 : ¬ 60 < N := by omega
      have HCR : Hid (∀ W, w.grownBy W none → Calls Tryd.prog 10 #[.agg #[.int .i64 L, .int .i64 S, .slice a R.length c, .slice a' M.length c'], .int .i64 N] W fun e w' => e = .returned (.string ⟨cs⟩) ∧ W.grownBy w' none) := hCR
      clear hCR
      go_wp2_with fail
      refine (HCR.out _ (grown_trans (HG.out _) G5.out)).mono ?_
      rintro e w8 ⟨rfl, hg8⟩
      have G8 : Hid (w.grownBy w8 none) := grown_trans (HG.out _) (grown_trans G5.out hg8)
      clear hg8
      go_wp2_with fail
      go_ret
      exact ⟨by simp, G8.out⟩

end Go.Proofs.YtkfhdbapfpongaaDoor
