/- The check of two automata: the program's checkBoth. -/
import Derived.Test.YtppikfgfmlipmaaTrCheck2
import Derived.Test.YtppikfgfmlipmaaTrWith
namespace Go.Proofs.Ytppikfgfmlipmaa
open Go.RowKit
set_option linter.unusedVariables false

def chkB (x y : Trs) : Int := if checkT x ≠ 0 then checkT x else if checkT y ≠ 0 then checkT y else if x.L ≠ y.L then 3 else if (3 < x.N ∨ 3 < y.N) ∨ 2 < x.L then 1 else 0

theorem two_boxW (w : World) (v0 v1 v2 v3 v4 u0 u1 u2 u3 u4 : Value) : ∃ W, W = (w.alloc (.cells #[v0, v1, v2, v3, v4] 25)).alloc (.cells #[u0, u1, u2, u3, u4] 25) ∧ w.grownBy W none ∧ W.heap.size = w.heap.size + 1 + 1 ∧ (∀ W', W.grownBy W' none → W'.cell? ⟨w.heap.size, 0, none⟩ = some v0 ∧ W'.cell? ⟨w.heap.size, 1, none⟩ = some v1 ∧ W'.cell? ⟨w.heap.size, 2, none⟩ = some v2 ∧ W'.cell? ⟨w.heap.size, 3, none⟩ = some v3 ∧ W'.cell? ⟨w.heap.size, 4, none⟩ = some v4) ∧ (∀ W', W.grownBy W' none → W'.cell? ⟨w.heap.size + 1, 0, none⟩ = some u0 ∧ W'.cell? ⟨w.heap.size + 1, 1, none⟩ = some u1 ∧ W'.cell? ⟨w.heap.size + 1, 2, none⟩ = some u2 ∧ W'.cell? ⟨w.heap.size + 1, 3, none⟩ = some u3 ∧ W'.cell? ⟨w.heap.size + 1, 4, none⟩ = some u4) := by
  obtain ⟨W0, hW0, g0, s0, bx0⟩ := box5_new w v0 v1 v2 v3 v4 25
  obtain ⟨W1, hW1, g1, s1, bx1⟩ := box5_new W0 u0 u1 u2 u3 u4 25
  refine ⟨W1, by rw [hW1, hW0], grown_trans g0 g1, by rw [s1, s0], fun W' h => bx0 W' (grown_trans g1 h), fun W' h => s0 ▸ bx1 W' h⟩

set_option maxHeartbeats 6400000 in
set_option maxRecDepth 100000 in
theorem checkBoth_any (x y : Trs) (b e b' e' : Option Addr) (d f d' f' : Nat) (w : World) (h : TrsAt w x b e) (h' : TrsAt w y b' e') :
    Calls Try.prog 9 #[trsV x.L x.N b x.R.length d x.S e x.M.length f, trsV y.L y.N b' y.R.length d' y.S e' y.M.length f'] w (Says (.int .i64 (chkB x y)) w) := by
  have HC : Hid (∀ W, w.grownBy W none → Calls Try.prog 16 #[trsV x.L x.N b x.R.length d x.S e x.M.length f] W (Says (.int .i64 (checkT x)) W)) := fun W hW => checkT_any x b e d f W (h.grown hW)
  have HC' : Hid (∀ W, w.grownBy W none → Calls Try.prog 16 #[trsV y.L y.N b' y.R.length d' y.S e' y.M.length f'] W (Says (.int .i64 (checkT y)) W)) := fun W hW => checkT_any y b' e' d' f' W (h'.grown hW)
  obtain ⟨z, hz⟩ : ∃ z, chkB x y = z := ⟨_, rfl⟩
  rw [hz]
  unfold chkB at hz
  have HZ : Hid (_ = z) := hz
  generalize checkT x = ce at *
  generalize checkT y = ce' at *
  obtain ⟨L, N, R, S0, M⟩ := x
  obtain ⟨L', N', R', S1, M'⟩ := y
  simp only at *
  generalize R.length = nR at *
  generalize M.length = nM at *
  generalize R'.length = nR' at *
  generalize M'.length = nM' at *
  obtain ⟨W1, hW1, g1, s1, bx, by1⟩ := two_boxW w (.int .i64 L) (.int .i64 N) (.slice b nR d) (.int .i64 S0) (.slice e nM f) (.int .i64 L') (.int .i64 N') (.slice b' nR' d') (.int .i64 S1) (.slice e' nM' f')
  have HW1 : Hid (W1 = _) := hW1
  have G1 : Hid (w.grownBy W1 none) := g1
  have BX : Hid _ := bx
  have BY : Hid _ := by1
  obtain ⟨x0, x1, x2, x3, x4⟩ := bx W1 (grown_refl _ _)
  rw [hW1] at x0 x1 x2 x3 x4
  clear h h' hW1 g1 s1 bx by1 hz
  go_enter Try.func9, Try.ntmps9
  go_wp2_with fail
  rw [← HW1.out]
  clear x0 x1 x2 x3 x4
  refine (HC.out _ G1.out).mono ?_
  rintro E w2 ⟨rfl, hg2⟩
  have G2 : Hid (W1.grownBy w2 none) := hg2
  obtain ⟨z0, z1, z2, z3, z4⟩ := BY.out w2 hg2
  clear hg2
  by_cases c0 : ce = 0
  · have d0 : (ce != 0) = false := by simp [c0]
    go_wp2_with fail
    clear z0 z1 z2 z3 z4
    refine (HC'.out _ (grown_trans G1.out G2.out)).mono ?_
    rintro E w3 ⟨rfl, hg3⟩
    have G3 : Hid (W1.grownBy w3 none) := grown_trans G2.out hg3
    obtain ⟨x0, x1, x2, x3, x4⟩ := BX.out w3 G3.out
    obtain ⟨z0, z1, z2, z3, z4⟩ := BY.out w3 G3.out
    clear hg3
    by_cases c1 : ce' = 0
    · have d1 : (ce' != 0) = false := by simp [c1]
      by_cases c2 : L = L'
      · subst c2
        by_cases c3 : 3 < N
        · have HN : Hid (z = 1) := by show _ = _; rw [← HZ.out]; simp [c0, c1, c3]
          have c3' : 3 < max N N' := by omega
          go_wp2_with fail
          all_goals
            go_ret
            exact ⟨ret_int (by rw [HN.out]), grown_trans G1.out G3.out⟩
        · by_cases c4 : 3 < N'
          · have HN : Hid (z = 1) := by show _ = _; rw [← HZ.out]; simp [c0, c1, c4]
            have c3' : 3 < max N N' := by omega
            go_wp2_with fail
            all_goals
              go_ret
              exact ⟨ret_int (by rw [HN.out]), grown_trans G1.out G3.out⟩
          · have c3' : ¬ 3 < max N N' := by omega
            by_cases c5 : 2 < L
            · have HN : Hid (z = 1) := by show _ = _; rw [← HZ.out]; simp [c0, c1, c5]
              go_wp2_with fail
              all_goals
                go_ret
                exact ⟨ret_int (by rw [HN.out]), grown_trans G1.out G3.out⟩
            · have HN : Hid (z = 0) := by show _ = _; rw [← HZ.out]; simp [c0, c1, c3, c4, c5]
              go_wp2_with fail
              all_goals
                go_ret
                exact ⟨ret_int (by rw [HN.out]), grown_trans G1.out G3.out⟩
      · have HN : Hid (z = 3) := by show _ = _; rw [← HZ.out]; simp [c0, c1, c2]
        go_wp2_with fail
        all_goals
          go_ret
          exact ⟨ret_int (by rw [HN.out]), grown_trans G1.out G3.out⟩
    · have d1 : (ce' != 0) = true := by simpa using c1
      have HN : Hid (z = ce') := by show _ = _; rw [← HZ.out]; simp [c0, c1]
      go_wp2_with fail
      all_goals
        go_ret
        exact ⟨ret_int (by rw [HN.out]), grown_trans G1.out G3.out⟩
  · have d0 : (ce != 0) = true := by simpa using c0
    have HN : Hid (z = ce) := by show _ = _; rw [← HZ.out]; simp [c0]
    go_wp2_with fail
    all_goals
      go_ret
      exact ⟨ret_int (by rw [HN.out]), grown_trans G1.out G2.out⟩

end Go.Proofs.Ytppikfgfmlipmaa
