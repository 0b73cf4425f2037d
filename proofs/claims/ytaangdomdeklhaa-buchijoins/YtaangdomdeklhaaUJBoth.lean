/- What is wrong with two automata: checkBoth. -/
import Derived.Test.YtaangdomdeklhaaUJB
namespace Go.Proofs.Ytaangdomdeklhaa
open Go.RowKit
set_option linter.unusedVariables false

set_option maxHeartbeats 3200000 in
set_option maxRecDepth 100000 in
theorem checkBothA_any (x y : Aut) (a b e a' b' e' : Option Addr) (c d f c' d' f' : Nat) (w : World) (h : AutAt w x a b e) (h' : AutAt w y a' b' e') :
    Calls Try.prog 28 #[autV x.L x.N a x.S.length c b x.T.length d e x.F.length f, autV y.L y.N a' y.S.length c' b' y.T.length d' e' y.F.length f'] w (Says (.int .i64 (checkJ x y)) w) := by
  have HCx : Hid (∀ W, w.grownBy W none → Calls Try.prog 21 #[autV x.L x.N a x.S.length c b x.T.length d e x.F.length f] W (Says (.int .i64 (checkA x)) W)) := fun W hW => checkB_any x a b e c d f W (h.grown hW)
  have HCy : Hid (∀ W, w.grownBy W none → Calls Try.prog 21 #[autV y.L y.N a' y.S.length c' b' y.T.length d' e' y.F.length f'] W (Says (.int .i64 (checkA y)) W)) := fun W hW => checkB_any y a' b' e' c' d' f' W (h'.grown hW)
  have HJ : Hid (checkJ x y = if checkA x ≠ 0 then checkA x else if checkA y ≠ 0 then checkA y else if x.L ≠ y.L then 3 else if 8 < x.N ∨ 8 < y.N then 1 else 0) := rfl
  clear h h'
  obtain ⟨W2, hW2, g2, s2, k2⟩ := two_boxes w x.L x.N (.slice a x.S.length c) (.slice b x.T.length d) (.slice e x.F.length f) y.L y.N (.slice a' y.S.length c') (.slice b' y.T.length d') (.slice e' y.F.length f')
  have HW2 : Hid (W2 = _) := hW2
  have G2 : Hid (w.grownBy W2 none) := g2
  have BX : Hid (∀ W, W2.grownBy W none → KeepB W2 W w.heap.size x.L x.N (.slice a x.S.length c) (.slice b x.T.length d) (.slice e x.F.length f) y.L y.N (.slice a' y.S.length c') (.slice b' y.T.length d') (.slice e' y.F.length f')) := fun W hW => k2.new hW
  obtain ⟨_, x0, x1, x2, x3, x4, y0, y1, y2, y3, y4⟩ := k2
  rw [hW2] at x0 x1 x2 x3 x4 y0 y1 y2 y3 y4
  clear hW2 g2 s2
  generalize checkA x = p at *
  generalize checkA y = q at *
  generalize checkJ x y = r at *
  go_enter Try.func28, Try.ntmps28
  go_wp2_with fail
  rw [← HW2.out]
  clear x0 x1 x2 x3 x4 y0 y1 y2 y3 y4
  refine (HCx.out _ G2.out).mono ?_
  rintro E w3 ⟨rfl, hg3⟩
  have G3 : Hid (W2.grownBy w3 none) := hg3
  obtain ⟨_, x0, x1, x2, x3, x4, y0, y1, y2, y3, y4⟩ := BX.out w3 hg3
  clear hg3
  by_cases hp : p = 0
  · subst hp
    go_wp2_with fail
    clear x0 x1 x2 x3 x4 y0 y1 y2 y3 y4
    refine (HCy.out _ (grown_trans G2.out G3.out)).mono ?_
    rintro E w4 ⟨rfl, hg4⟩
    have G4 : Hid (W2.grownBy w4 none) := grown_trans G3.out hg4
    obtain ⟨_, x0, x1, x2, x3, x4, y0, y1, y2, y3, y4⟩ := BX.out w4 G4.out
    clear hg4
    have GF : Hid (w.grownBy w4 none) := grown_trans G2.out G4.out
    by_cases hq : q = 0
    · subst hq
      by_cases hl : x.L = y.L
      · have hl1 : (x.L != y.L) = false := by simpa using hl
        by_cases hn : 8 < x.N
        · go_wp2_with fail
          go_ret
          exact ⟨by rw [HJ.out, if_neg (by simp), if_neg (by simp), if_neg (by simpa using hl), if_pos (.inl hn)]; rfl, GF.out⟩
        · by_cases hm : 8 < y.N
          · go_wp2_with fail
            go_ret
            exact ⟨by rw [HJ.out, if_neg (by simp), if_neg (by simp), if_neg (by simpa using hl), if_pos (.inr hm)]; rfl, GF.out⟩
          · go_wp2_with fail
            go_ret
            exact ⟨by rw [HJ.out, if_neg (by simp), if_neg (by simp), if_neg (by simpa using hl), if_neg (by omega)]; rfl, GF.out⟩
      · have hl1 : (x.L != y.L) = true := by simpa using hl
        go_wp2_with fail
        go_ret
        exact ⟨by rw [HJ.out, if_neg (by simp), if_neg (by simp), if_pos hl]; rfl, GF.out⟩
    · have hq1 : (q != 0) = true := by simpa using hq
      go_wp2_with fail
      go_ret
      exact ⟨by rw [HJ.out, if_neg (by simp), if_pos hq]; rfl, GF.out⟩
  · have hp1 : (p != 0) = true := by simpa using hp
    have GF : Hid (w.grownBy w3 none) := grown_trans G2.out G3.out
    go_wp2_with fail
    go_ret
    exact ⟨by rw [HJ.out, if_pos hp]; rfl, GF.out⟩

end Go.Proofs.Ytaangdomdeklhaa
