/- The walk of the law TimeLaws where both texts are formulas. -/
import Derived.Test.YtneialmpaiejcaaTLawsW
namespace Go.Proofs.Ytneialmpaiejcaa
open Go.RowKit
set_option linter.unusedVariables false
set_option linter.unusedSimpArgs false

set_option maxHeartbeats 6400000 in
set_option maxRecDepth 100000 in
theorem tlaws_C (s t : ByteArray) (ah al : Option Addr) (hn ch ln cl : Nat) (w : World) (cS cT : Int) (aS aT : Nat) (zs : s.size ≤ 4000) (zt : t.size ≤ 4000) (b0 b1 b2 b3 b4 b5 : Bool) (e0 e1 e2 e3 e4 e5 : Int) (l1 : e0 = 0 → e1 = 0 → (b0 == b1) = false) (l2 : e2 = 0 → e3 = 0 → (b2 == b3) = false) (l3 : e4 = 0 → e5 = 0 → (b4 == b5) = true)
    (H0 : Hid (∀ W g g' : _, Ints W (some ⟨g, 0, none⟩) [0] → Ints W (some ⟨g', 0, none⟩) [1] → Calls Try.prog 4 #[.string (ByteArray.mk #[71, 70, 112]), lasV (some ⟨g, 0, none⟩) 1 1 (some ⟨g', 0, none⟩) 1 1] W (Says (.tuple #[.bool true, .int .i64 0]) W)))
    (HS : Hid (∀ W, w.grownBy W none → Calls Try.prog 5 #[.string s] W fun e w' => e = .returned (.agg #[.int .i64 0, .int .i64 (aS : Int)]) ∧ W.grownBy w' none))
    (HT : Hid (∀ W, w.grownBy W none → Calls Try.prog 5 #[.string t] W fun e w' => e = .returned (.agg #[.int .i64 0, .int .i64 (aT : Int)]) ∧ W.grownBy w' none))
    (h0 : Hid (∀ W, w.grownBy W none → Calls Try.prog 4 #[.string (s), lasV ah hn ch al ln cl] W (Says (.tuple #[.bool b0, .int .i64 e0]) W)))
    (h1 : Hid (∀ W, w.grownBy W none → Calls Try.prog 4 #[.string ((ByteArray.mk #[33, 40]) ++ s ++ (ByteArray.mk #[41])), lasV ah hn ch al ln cl] W (Says (.tuple #[.bool b1, .int .i64 e1]) W)))
    (h2 : Hid (∀ W, w.grownBy W none → Calls Try.prog 4 #[.string ((ByteArray.mk #[71, 40]) ++ s ++ (ByteArray.mk #[41])), lasV ah hn ch al ln cl] W (Says (.tuple #[.bool b2, .int .i64 e2]) W)))
    (h3 : Hid (∀ W, w.grownBy W none → Calls Try.prog 4 #[.string ((ByteArray.mk #[70, 33, 40]) ++ s ++ (ByteArray.mk #[41])), lasV ah hn ch al ln cl] W (Says (.tuple #[.bool b3, .int .i64 e3]) W)))
    (h4 : Hid (∀ W, w.grownBy W none → Calls Try.prog 4 #[.string ((ByteArray.mk #[40]) ++ s ++ (ByteArray.mk #[41, 85, 40]) ++ t ++ (ByteArray.mk #[41])), lasV ah hn ch al ln cl] W (Says (.tuple #[.bool b4, .int .i64 e4]) W)))
    (h5 : Hid (∀ W, w.grownBy W none → Calls Try.prog 4 #[.string ((ByteArray.mk #[40]) ++ t ++ (ByteArray.mk #[41, 124, 40, 40]) ++ s ++ (ByteArray.mk #[41, 38, 88, 40, 40]) ++ s ++ (ByteArray.mk #[41, 85, 40]) ++ t ++ (ByteArray.mk #[41, 41, 41])), lasV ah hn ch al ln cl] W (Says (.tuple #[.bool b5, .int .i64 e5]) W))) :
    Calls Try.prog 3 #[.string s, .string t, lasV ah hn ch al ln cl] w (Says (.bool true) w) := by
  obtain ⟨W1, hW1, g1, i0, i1, bx⟩ := laws_new w (.slice ah hn ch) (.slice al ln cl)
  have HW1 : Hid (W1 = _) := hW1
  have G1 : Hid (w.grownBy W1 none) := g1
  have I0 : Hid (Ints W1 (some ⟨w.heap.size + 1, 0, none⟩) [0] ∧ Ints W1 (some ⟨w.heap.size + 2, 0, none⟩) [1]) := ⟨i0, i1⟩
  have BX : Hid (∀ W', W1.grownBy W' none → W'.cell? ⟨w.heap.size, 0, none⟩ = some (.slice ah hn ch) ∧ W'.cell? ⟨w.heap.size, 1, none⟩ = some (.slice al ln cl)) := bx
  clear hW1 g1 i0 i1 bx
  go_enter Try.func3, Try.ntmps3
  go_wp2_with fail
  rw [← HW1.out]
  refine (H0.out _ _ _ I0.out.1 I0.out.2).mono ?_
  rintro e w2 ⟨rfl, hg2⟩
  have G2 : Hid (W1.grownBy w2 none) := hg2
  clear hg2
  go_wp2_with fail
  refine (HS.out _ (grown_trans G1.out G2.out)).mono ?_
  rintro e w3 ⟨rfl, hg3⟩
  obtain ⟨W3, hW3⟩ : ∃ W3, W3 = w3.alloc (.cells #[.int .i64 0, .int .i64 (aS : Int)] 29) := ⟨_, rfl⟩
  have HW3 : Hid (W3 = _) := hW3
  have G3 : Hid (W1.grownBy W3 none) := by show World.grownBy _ _ _; rw [hW3]; exact grown_trans G2.out (grown_trans hg3 (grown_alloc _ _))
  have C3 : Hid (∀ W', W3.grownBy W' none → W'.cell? ⟨w3.heap.size, 0, none⟩ = some (.int .i64 0)) := fun W' h => h.cell (by rw [hW3, cell_of_row _ _ 0 _ _ (0, 0) (heap_alloc_new w3 _)]; rfl) (by simp)
  clear hg3 hW3
  go_wp2_with fail
  rw [← HW3.out]
  refine (HT.out _ (grown_trans G1.out G3.out)).mono ?_
  rintro e w4 ⟨rfl, hg4⟩
  have x0 := fun o => C3.out _ (grown_trans hg4 (grown_alloc w4 o))
  have G4 : Hid (∀ o, W1.grownBy (w4.alloc o) none) := fun o => grown_trans G3.out (grown_trans hg4 (grown_alloc _ _))
  have y0 := fun o => (BX.out _ (G4.out o)).1
  have y1 := fun o => (BX.out _ (G4.out o)).2
  clear hg4
  go_wp2_with fail
  refine (h0.out _ (grown_trans G1.out (G4.out _))).mono ?_
  rintro e wa0 ⟨rfl, hgwa0⟩
  have Gwa0 : Hid (W1.grownBy wa0 none) := grown_trans (G4.out _) hgwa0
  obtain ⟨u0, u1⟩ := BX.out _ Gwa0.out
  clear hgwa0
  clear y0 y1 x0
  go_wp2_with fail
  refine (h1.out _ (grown_trans G1.out Gwa0.out)).mono ?_
  rintro e wb0 ⟨rfl, hgwb0⟩
  have Gwb0 : Hid (W1.grownBy wb0 none) := grown_trans Gwa0.out hgwb0
  obtain ⟨v0, v1⟩ := BX.out _ Gwb0.out
  clear hgwb0
  clear u0 u1
  by_cases he0 : e0 = 0
  · subst he0
    by_cases he1 : e1 = 0
    · subst he1
      have lb0 := l1 rfl rfl
      go_wp2_with fail
      refine (h2.out _ (grown_trans G1.out Gwb0.out)).mono ?_
      rintro e wa1 ⟨rfl, hgwa1⟩
      have Gwa1 : Hid (W1.grownBy wa1 none) := grown_trans Gwb0.out hgwa1
      obtain ⟨u0, u1⟩ := BX.out _ Gwa1.out
      clear hgwa1
      clear v0 v1
      go_wp2_with fail
      refine (h3.out _ (grown_trans G1.out Gwa1.out)).mono ?_
      rintro e wb1 ⟨rfl, hgwb1⟩
      have Gwb1 : Hid (W1.grownBy wb1 none) := grown_trans Gwa1.out hgwb1
      obtain ⟨v0, v1⟩ := BX.out _ Gwb1.out
      clear hgwb1
      clear u0 u1
      by_cases he2 : e2 = 0
      · subst he2
        by_cases he3 : e3 = 0
        · subst he3
          have lb1 := l2 rfl rfl
          go_wp2_with fail
          refine (h4.out _ (grown_trans G1.out Gwb1.out)).mono ?_
          rintro e wa2 ⟨rfl, hgwa2⟩
          have Gwa2 : Hid (W1.grownBy wa2 none) := grown_trans Gwb1.out hgwa2
          obtain ⟨u0, u1⟩ := BX.out _ Gwa2.out
          clear hgwa2
          clear v0 v1
          go_wp2_with fail
          refine (h5.out _ (grown_trans G1.out Gwa2.out)).mono ?_
          rintro e wb2 ⟨rfl, hgwb2⟩
          have Gwb2 : Hid (W1.grownBy wb2 none) := grown_trans Gwa2.out hgwb2
          obtain ⟨v0, v1⟩ := BX.out _ Gwb2.out
          clear hgwb2
          clear u0 u1
          by_cases he4 : e4 = 0
          · subst he4
            by_cases he5 : e5 = 0
            · subst he5
              have lb2 := l3 rfl rfl
              go_wp2_with fail
              go_ret
              exact ⟨rfl, grown_trans G1.out Gwb2.out⟩
            · have ne5 : (e5 != 0) = true := by simpa using he5
              have me5 : (e5 == 0) = false := by simpa using he5
              go_wp2_with fail
              go_ret
              exact ⟨rfl, grown_trans G1.out Gwb2.out⟩
          · have ne4 : (e4 != 0) = true := by simpa using he4
            have me4 : (e4 == 0) = false := by simpa using he4
            go_wp2_with fail
            go_ret
            exact ⟨rfl, grown_trans G1.out Gwb2.out⟩
        · have ne3 : (e3 != 0) = true := by simpa using he3
          have me3 : (e3 == 0) = false := by simpa using he3
          go_wp2_with fail
          refine (h4.out _ (grown_trans G1.out Gwb1.out)).mono ?_
          rintro e wa2 ⟨rfl, hgwa2⟩
          have Gwa2 : Hid (W1.grownBy wa2 none) := grown_trans Gwb1.out hgwa2
          obtain ⟨u0, u1⟩ := BX.out _ Gwa2.out
          clear hgwa2
          clear v0 v1
          go_wp2_with fail
          refine (h5.out _ (grown_trans G1.out Gwa2.out)).mono ?_
          rintro e wb2 ⟨rfl, hgwb2⟩
          have Gwb2 : Hid (W1.grownBy wb2 none) := grown_trans Gwa2.out hgwb2
          obtain ⟨v0, v1⟩ := BX.out _ Gwb2.out
          clear hgwb2
          clear u0 u1
          by_cases he4 : e4 = 0
          · subst he4
            by_cases he5 : e5 = 0
            · subst he5
              have lb2 := l3 rfl rfl
              go_wp2_with fail
              go_ret
              exact ⟨rfl, grown_trans G1.out Gwb2.out⟩
            · have ne5 : (e5 != 0) = true := by simpa using he5
              have me5 : (e5 == 0) = false := by simpa using he5
              go_wp2_with fail
              go_ret
              exact ⟨rfl, grown_trans G1.out Gwb2.out⟩
          · have ne4 : (e4 != 0) = true := by simpa using he4
            have me4 : (e4 == 0) = false := by simpa using he4
            go_wp2_with fail
            go_ret
            exact ⟨rfl, grown_trans G1.out Gwb2.out⟩
      · have ne2 : (e2 != 0) = true := by simpa using he2
        have me2 : (e2 == 0) = false := by simpa using he2
        go_wp2_with fail
        refine (h4.out _ (grown_trans G1.out Gwb1.out)).mono ?_
        rintro e wa2 ⟨rfl, hgwa2⟩
        have Gwa2 : Hid (W1.grownBy wa2 none) := grown_trans Gwb1.out hgwa2
        obtain ⟨u0, u1⟩ := BX.out _ Gwa2.out
        clear hgwa2
        clear v0 v1
        go_wp2_with fail
        refine (h5.out _ (grown_trans G1.out Gwa2.out)).mono ?_
        rintro e wb2 ⟨rfl, hgwb2⟩
        have Gwb2 : Hid (W1.grownBy wb2 none) := grown_trans Gwa2.out hgwb2
        obtain ⟨v0, v1⟩ := BX.out _ Gwb2.out
        clear hgwb2
        clear u0 u1
        by_cases he4 : e4 = 0
        · subst he4
          by_cases he5 : e5 = 0
          · subst he5
            have lb2 := l3 rfl rfl
            go_wp2_with fail
            go_ret
            exact ⟨rfl, grown_trans G1.out Gwb2.out⟩
          · have ne5 : (e5 != 0) = true := by simpa using he5
            have me5 : (e5 == 0) = false := by simpa using he5
            go_wp2_with fail
            go_ret
            exact ⟨rfl, grown_trans G1.out Gwb2.out⟩
        · have ne4 : (e4 != 0) = true := by simpa using he4
          have me4 : (e4 == 0) = false := by simpa using he4
          go_wp2_with fail
          go_ret
          exact ⟨rfl, grown_trans G1.out Gwb2.out⟩
    · have ne1 : (e1 != 0) = true := by simpa using he1
      have me1 : (e1 == 0) = false := by simpa using he1
      go_wp2_with fail
      refine (h2.out _ (grown_trans G1.out Gwb0.out)).mono ?_
      rintro e wa1 ⟨rfl, hgwa1⟩
      have Gwa1 : Hid (W1.grownBy wa1 none) := grown_trans Gwb0.out hgwa1
      obtain ⟨u0, u1⟩ := BX.out _ Gwa1.out
      clear hgwa1
      clear v0 v1
      go_wp2_with fail
      refine (h3.out _ (grown_trans G1.out Gwa1.out)).mono ?_
      rintro e wb1 ⟨rfl, hgwb1⟩
      have Gwb1 : Hid (W1.grownBy wb1 none) := grown_trans Gwa1.out hgwb1
      obtain ⟨v0, v1⟩ := BX.out _ Gwb1.out
      clear hgwb1
      clear u0 u1
      by_cases he2 : e2 = 0
      · subst he2
        by_cases he3 : e3 = 0
        · subst he3
          have lb1 := l2 rfl rfl
          go_wp2_with fail
          refine (h4.out _ (grown_trans G1.out Gwb1.out)).mono ?_
          rintro e wa2 ⟨rfl, hgwa2⟩
          have Gwa2 : Hid (W1.grownBy wa2 none) := grown_trans Gwb1.out hgwa2
          obtain ⟨u0, u1⟩ := BX.out _ Gwa2.out
          clear hgwa2
          clear v0 v1
          go_wp2_with fail
          refine (h5.out _ (grown_trans G1.out Gwa2.out)).mono ?_
          rintro e wb2 ⟨rfl, hgwb2⟩
          have Gwb2 : Hid (W1.grownBy wb2 none) := grown_trans Gwa2.out hgwb2
          obtain ⟨v0, v1⟩ := BX.out _ Gwb2.out
          clear hgwb2
          clear u0 u1
          by_cases he4 : e4 = 0
          · subst he4
            by_cases he5 : e5 = 0
            · subst he5
              have lb2 := l3 rfl rfl
              go_wp2_with fail
              go_ret
              exact ⟨rfl, grown_trans G1.out Gwb2.out⟩
            · have ne5 : (e5 != 0) = true := by simpa using he5
              have me5 : (e5 == 0) = false := by simpa using he5
              go_wp2_with fail
              go_ret
              exact ⟨rfl, grown_trans G1.out Gwb2.out⟩
          · have ne4 : (e4 != 0) = true := by simpa using he4
            have me4 : (e4 == 0) = false := by simpa using he4
            go_wp2_with fail
            go_ret
            exact ⟨rfl, grown_trans G1.out Gwb2.out⟩
        · have ne3 : (e3 != 0) = true := by simpa using he3
          have me3 : (e3 == 0) = false := by simpa using he3
          go_wp2_with fail
          refine (h4.out _ (grown_trans G1.out Gwb1.out)).mono ?_
          rintro e wa2 ⟨rfl, hgwa2⟩
          have Gwa2 : Hid (W1.grownBy wa2 none) := grown_trans Gwb1.out hgwa2
          obtain ⟨u0, u1⟩ := BX.out _ Gwa2.out
          clear hgwa2
          clear v0 v1
          go_wp2_with fail
          refine (h5.out _ (grown_trans G1.out Gwa2.out)).mono ?_
          rintro e wb2 ⟨rfl, hgwb2⟩
          have Gwb2 : Hid (W1.grownBy wb2 none) := grown_trans Gwa2.out hgwb2
          obtain ⟨v0, v1⟩ := BX.out _ Gwb2.out
          clear hgwb2
          clear u0 u1
          by_cases he4 : e4 = 0
          · subst he4
            by_cases he5 : e5 = 0
            · subst he5
              have lb2 := l3 rfl rfl
              go_wp2_with fail
              go_ret
              exact ⟨rfl, grown_trans G1.out Gwb2.out⟩
            · have ne5 : (e5 != 0) = true := by simpa using he5
              have me5 : (e5 == 0) = false := by simpa using he5
              go_wp2_with fail
              go_ret
              exact ⟨rfl, grown_trans G1.out Gwb2.out⟩
          · have ne4 : (e4 != 0) = true := by simpa using he4
            have me4 : (e4 == 0) = false := by simpa using he4
            go_wp2_with fail
            go_ret
            exact ⟨rfl, grown_trans G1.out Gwb2.out⟩
      · have ne2 : (e2 != 0) = true := by simpa using he2
        have me2 : (e2 == 0) = false := by simpa using he2
        go_wp2_with fail
        refine (h4.out _ (grown_trans G1.out Gwb1.out)).mono ?_
        rintro e wa2 ⟨rfl, hgwa2⟩
        have Gwa2 : Hid (W1.grownBy wa2 none) := grown_trans Gwb1.out hgwa2
        obtain ⟨u0, u1⟩ := BX.out _ Gwa2.out
        clear hgwa2
        clear v0 v1
        go_wp2_with fail
        refine (h5.out _ (grown_trans G1.out Gwa2.out)).mono ?_
        rintro e wb2 ⟨rfl, hgwb2⟩
        have Gwb2 : Hid (W1.grownBy wb2 none) := grown_trans Gwa2.out hgwb2
        obtain ⟨v0, v1⟩ := BX.out _ Gwb2.out
        clear hgwb2
        clear u0 u1
        by_cases he4 : e4 = 0
        · subst he4
          by_cases he5 : e5 = 0
          · subst he5
            have lb2 := l3 rfl rfl
            go_wp2_with fail
            go_ret
            exact ⟨rfl, grown_trans G1.out Gwb2.out⟩
          · have ne5 : (e5 != 0) = true := by simpa using he5
            have me5 : (e5 == 0) = false := by simpa using he5
            go_wp2_with fail
            go_ret
            exact ⟨rfl, grown_trans G1.out Gwb2.out⟩
        · have ne4 : (e4 != 0) = true := by simpa using he4
          have me4 : (e4 == 0) = false := by simpa using he4
          go_wp2_with fail
          go_ret
          exact ⟨rfl, grown_trans G1.out Gwb2.out⟩
  · have ne0 : (e0 != 0) = true := by simpa using he0
    have me0 : (e0 == 0) = false := by simpa using he0
    go_wp2_with fail
    refine (h2.out _ (grown_trans G1.out Gwb0.out)).mono ?_
    rintro e wa1 ⟨rfl, hgwa1⟩
    have Gwa1 : Hid (W1.grownBy wa1 none) := grown_trans Gwb0.out hgwa1
    obtain ⟨u0, u1⟩ := BX.out _ Gwa1.out
    clear hgwa1
    clear v0 v1
    go_wp2_with fail
    refine (h3.out _ (grown_trans G1.out Gwa1.out)).mono ?_
    rintro e wb1 ⟨rfl, hgwb1⟩
    have Gwb1 : Hid (W1.grownBy wb1 none) := grown_trans Gwa1.out hgwb1
    obtain ⟨v0, v1⟩ := BX.out _ Gwb1.out
    clear hgwb1
    clear u0 u1
    by_cases he2 : e2 = 0
    · subst he2
      by_cases he3 : e3 = 0
      · subst he3
        have lb1 := l2 rfl rfl
        go_wp2_with fail
        refine (h4.out _ (grown_trans G1.out Gwb1.out)).mono ?_
        rintro e wa2 ⟨rfl, hgwa2⟩
        have Gwa2 : Hid (W1.grownBy wa2 none) := grown_trans Gwb1.out hgwa2
        obtain ⟨u0, u1⟩ := BX.out _ Gwa2.out
        clear hgwa2
        clear v0 v1
        go_wp2_with fail
        refine (h5.out _ (grown_trans G1.out Gwa2.out)).mono ?_
        rintro e wb2 ⟨rfl, hgwb2⟩
        have Gwb2 : Hid (W1.grownBy wb2 none) := grown_trans Gwa2.out hgwb2
        obtain ⟨v0, v1⟩ := BX.out _ Gwb2.out
        clear hgwb2
        clear u0 u1
        by_cases he4 : e4 = 0
        · subst he4
          by_cases he5 : e5 = 0
          · subst he5
            have lb2 := l3 rfl rfl
            go_wp2_with fail
            go_ret
            exact ⟨rfl, grown_trans G1.out Gwb2.out⟩
          · have ne5 : (e5 != 0) = true := by simpa using he5
            have me5 : (e5 == 0) = false := by simpa using he5
            go_wp2_with fail
            go_ret
            exact ⟨rfl, grown_trans G1.out Gwb2.out⟩
        · have ne4 : (e4 != 0) = true := by simpa using he4
          have me4 : (e4 == 0) = false := by simpa using he4
          go_wp2_with fail
          go_ret
          exact ⟨rfl, grown_trans G1.out Gwb2.out⟩
      · have ne3 : (e3 != 0) = true := by simpa using he3
        have me3 : (e3 == 0) = false := by simpa using he3
        go_wp2_with fail
        refine (h4.out _ (grown_trans G1.out Gwb1.out)).mono ?_
        rintro e wa2 ⟨rfl, hgwa2⟩
        have Gwa2 : Hid (W1.grownBy wa2 none) := grown_trans Gwb1.out hgwa2
        obtain ⟨u0, u1⟩ := BX.out _ Gwa2.out
        clear hgwa2
        clear v0 v1
        go_wp2_with fail
        refine (h5.out _ (grown_trans G1.out Gwa2.out)).mono ?_
        rintro e wb2 ⟨rfl, hgwb2⟩
        have Gwb2 : Hid (W1.grownBy wb2 none) := grown_trans Gwa2.out hgwb2
        obtain ⟨v0, v1⟩ := BX.out _ Gwb2.out
        clear hgwb2
        clear u0 u1
        by_cases he4 : e4 = 0
        · subst he4
          by_cases he5 : e5 = 0
          · subst he5
            have lb2 := l3 rfl rfl
            go_wp2_with fail
            go_ret
            exact ⟨rfl, grown_trans G1.out Gwb2.out⟩
          · have ne5 : (e5 != 0) = true := by simpa using he5
            have me5 : (e5 == 0) = false := by simpa using he5
            go_wp2_with fail
            go_ret
            exact ⟨rfl, grown_trans G1.out Gwb2.out⟩
        · have ne4 : (e4 != 0) = true := by simpa using he4
          have me4 : (e4 == 0) = false := by simpa using he4
          go_wp2_with fail
          go_ret
          exact ⟨rfl, grown_trans G1.out Gwb2.out⟩
    · have ne2 : (e2 != 0) = true := by simpa using he2
      have me2 : (e2 == 0) = false := by simpa using he2
      go_wp2_with fail
      refine (h4.out _ (grown_trans G1.out Gwb1.out)).mono ?_
      rintro e wa2 ⟨rfl, hgwa2⟩
      have Gwa2 : Hid (W1.grownBy wa2 none) := grown_trans Gwb1.out hgwa2
      obtain ⟨u0, u1⟩ := BX.out _ Gwa2.out
      clear hgwa2
      clear v0 v1
      go_wp2_with fail
      refine (h5.out _ (grown_trans G1.out Gwa2.out)).mono ?_
      rintro e wb2 ⟨rfl, hgwb2⟩
      have Gwb2 : Hid (W1.grownBy wb2 none) := grown_trans Gwa2.out hgwb2
      obtain ⟨v0, v1⟩ := BX.out _ Gwb2.out
      clear hgwb2
      clear u0 u1
      by_cases he4 : e4 = 0
      · subst he4
        by_cases he5 : e5 = 0
        · subst he5
          have lb2 := l3 rfl rfl
          go_wp2_with fail
          go_ret
          exact ⟨rfl, grown_trans G1.out Gwb2.out⟩
        · have ne5 : (e5 != 0) = true := by simpa using he5
          have me5 : (e5 == 0) = false := by simpa using he5
          go_wp2_with fail
          go_ret
          exact ⟨rfl, grown_trans G1.out Gwb2.out⟩
      · have ne4 : (e4 != 0) = true := by simpa using he4
        have me4 : (e4 == 0) = false := by simpa using he4
        go_wp2_with fail
        go_ret
        exact ⟨rfl, grown_trans G1.out Gwb2.out⟩

end Go.Proofs.Ytneialmpaiejcaa
