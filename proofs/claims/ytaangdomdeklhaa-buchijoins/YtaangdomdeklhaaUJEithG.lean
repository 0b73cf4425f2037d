/- buchi.Either and buchi.Both: answered, where nothing is wrong. -/
import Derived.Test.YtaangdomdeklhaaUJEither
import Derived.Test.YtaangdomdeklhaaUJTog
namespace Go.Proofs.Ytaangdomdeklhaa
open Go.RowKit
set_option linter.unusedVariables false

theorem AutAt.far {w w' : World} {x : Aut} {a1 a2 a3 : Option Addr} {b : Nat} (h : AutAt w x a1 a2 a3) (hn : ∀ y, (a1 = some y ∨ a2 = some y ∨ a3 = some y) → y.block ≠ b) (hg : w.grownBy w' (some b)) : AutAt w' x a1 a2 a3 :=
  ⟨intsN_far h.start (fun _ y hy => hn y (.inl hy)) hg, stepsN_far h.steps (fun _ y hy => hn y (.inr (.inl hy))) hg, intsN_far h.final (fun _ y hy => hn y (.inr (.inr hy))) hg, h.ms, h.mt, h.mf⟩

/-- What Both answers. -/
def BothOk (x y : Aut) (w : World) (E : Ending) (w' : World) : Prop := ∃ T : List StepI, T.Perm (kroT x y) ∧ (T.Pairwise fun p q => ¬ numS x.L (2 * x.N * y.N) q < numS x.L (2 * x.N * y.N) p) ∧ AutoOk (kroX x y T) w E w'

set_option maxHeartbeats 3200000 in
set_option maxRecDepth 100000 in
theorem either_good (x y : Aut) (a b e a' b' e' : Option Addr) (c d f c' d' f' : Nat) (w : World) (h : AutAt w x a b e) (h' : AutAt w y a' b' e') (hr : checkJ x y = 0) :
    Calls Try.prog 15 #[autV x.L x.N a x.S.length c b x.T.length d e x.F.length f, autV y.L y.N a' y.S.length c' b' y.T.length d' e' y.F.length f'] w (AutoOk (besA x y) w) := by
  have HC : Hid (∀ W, w.grownBy W none → Calls Try.prog 28 #[autV x.L x.N a x.S.length c b x.T.length d e x.F.length f, autV y.L y.N a' y.S.length c' b' y.T.length d' e' y.F.length f'] W (Says (.int .i64 0) W)) := fun W hW => hr ▸ checkBothA_any x y a b e a' b' e' c d f c' d' f' W (h.grown hW) (h'.grown hW)
  have HB : Hid (∀ W, w.grownBy W none → Calls Try.prog 29 #[autV x.L x.N a x.S.length c b x.T.length d e x.F.length f, autV y.L y.N a' y.S.length c' b' y.T.length d' e' y.F.length f'] W (AutoA (besA x y) W)) := fun W hW => beside_any x y (goodJ_of hr) a b e a' b' e' c d f c' d' f' W (h.grown hW) (h'.grown hW)
  clear h h' hr
  obtain ⟨W2, hW2, g2, s2, k2⟩ := two_boxes w x.L x.N (.slice a x.S.length c) (.slice b x.T.length d) (.slice e x.F.length f) y.L y.N (.slice a' y.S.length c') (.slice b' y.T.length d') (.slice e' y.F.length f')
  have HW2 : Hid (W2 = _) := hW2
  have K2 : Hid (KeepB W2 W2 w.heap.size x.L x.N (.slice a x.S.length c) (.slice b x.T.length d) (.slice e x.F.length f) y.L y.N (.slice a' y.S.length c') (.slice b' y.T.length d') (.slice e' y.F.length f')) := k2
  have HB0 := zbox w W2 g2 s2
  clear k2 hW2 g2 s2
  obtain ⟨W3, hW3, G3, R3⟩ := HB0
  have HW3 : Hid (W3 = _) := hW3
  clear hW3
  go_enter Try.func15, Try.ntmps15
  go_wp2_with fail
  rw [← HW2.out, ← HW3.out]
  refine (HC.out _ G3.out.1).mono ?_
  rintro E w4 ⟨rfl, hg4⟩
  obtain ⟨_, x0, x1, x2, x3, x4, y0, y1, y2, y3, y4⟩ := (K2.out.call G3.out.2).call hg4
  have G4 : Hid (w.grownBy w4 none ∧ W3.grownBy w4 none) := ⟨grown_trans G3.out.1 hg4, hg4⟩
  clear hg4 HW2 HW3
  go_wp2_with fail
  refine (HB.out _ G4.out.1).mono ?_
  rintro E w5 ⟨aS, aT, aF, cS, cT, cF, hE, hA, hg5, hn⟩
  clear x0 x1 x2 x3 x4 y0 y1 y2 y3 y4
  obtain ⟨z, hz⟩ : ∃ z, besA x y = z := ⟨_, rfl⟩
  rw [hz] at hE hA
  subst hE
  have HZ : Hid (besA x y = z) := hz
  clear hz
  have R5 : Hid (w5.heap[w.heap.size + 1 + 1]? = some (.cells #[.int .i64 0, .int .i64 0, .slice none 0 0, .slice none 0 0, .slice none 0 0] 25 (0, 0))) := (((grown_trans G4.out.2 hg5)).block _ R3.out.2 (by simp)).trans R3.out.1
  obtain ⟨z0, z1, z2, z3, z4, zf⟩ := block_cells5A R5.out
  have zf0 := zf 0
  have zf1 := zf 1
  have zf2 := zf 2
  have zf3 := zf 3
  have zf4 := zf 4
  obtain ⟨W9, hW9, hg9, hR9⟩ := five_store R5.out (.int .i64 z.L) (.int .i64 z.N) (.slice aS z.S.length cS) (.slice aT z.T.length cT) (.slice aF z.F.length cF)
  have HW9 : Hid (W9 = _) := hW9
  have R9 : Hid (W9.heap[w.heap.size + 1 + 1]? = some (.cells #[.int .i64 z.L, .int .i64 z.N, .slice aS z.S.length cS, .slice aT z.T.length cT, .slice aF z.F.length cF] 25 (0, 0))) := hR9
  have Fin : Hid (AutoOk z w (.returned (.tuple #[autV z.L z.N aS z.S.length cS aT z.T.length cT aF z.F.length cF, .int .i64 0])) W9) := ⟨_, _, _, _, _, _, rfl, hA.far (fun y hy => by have := hn y hy; have := G4.out.2.size; have := R3.out.2; omega) hg9, grown_new (grown_trans G4.out.1 hg5) hg9 (by omega)⟩
  clear hW9 hg9 hR9 hA hg5 hn zf
  go_wp2_with fail
  rw [← HW9.out]
  obtain ⟨v0, v1, v2, v3, v4, _⟩ := block_cells5A R9.out
  exact bodyPost_ret (v := .tuple #[autV z.L z.N aS z.S.length cS aT z.T.length cT aF z.F.length cF, .int .i64 0]) (by simp [results, Try.results15, go_sem, v0, v1, v2, v3, v4]) rfl (by rw [HZ.out]; exact Fin.out)

set_option maxHeartbeats 3200000 in
set_option maxRecDepth 100000 in
theorem both_good (x y : Aut) (a b e a' b' e' : Option Addr) (c d f c' d' f' : Nat) (w : World) (h : AutAt w x a b e) (h' : AutAt w y a' b' e') (hr : checkJ x y = 0) :
    Calls Try.prog 16 #[autV x.L x.N a x.S.length c b x.T.length d e x.F.length f, autV y.L y.N a' y.S.length c' b' y.T.length d' e' y.F.length f'] w (BothOk x y w) := by
  have HC : Hid (∀ W, w.grownBy W none → Calls Try.prog 28 #[autV x.L x.N a x.S.length c b x.T.length d e x.F.length f, autV y.L y.N a' y.S.length c' b' y.T.length d' e' y.F.length f'] W (Says (.int .i64 0) W)) := fun W hW => hr ▸ checkBothA_any x y a b e a' b' e' c d f c' d' f' W (h.grown hW) (h'.grown hW)
  have HB : Hid (∀ W, w.grownBy W none → Calls Try.prog 30 #[autV x.L x.N a x.S.length c b x.T.length d e x.F.length f, autV y.L y.N a' y.S.length c' b' y.T.length d' e' y.F.length f'] W (TogP x y W)) := fun W hW => togB_any x y (goodJ_of hr) a b e a' b' e' c d f c' d' f' W (h.grown hW) (h'.grown hW)
  clear h h' hr
  obtain ⟨W2, hW2, g2, s2, k2⟩ := two_boxes w x.L x.N (.slice a x.S.length c) (.slice b x.T.length d) (.slice e x.F.length f) y.L y.N (.slice a' y.S.length c') (.slice b' y.T.length d') (.slice e' y.F.length f')
  have HW2 : Hid (W2 = _) := hW2
  have K2 : Hid (KeepB W2 W2 w.heap.size x.L x.N (.slice a x.S.length c) (.slice b x.T.length d) (.slice e x.F.length f) y.L y.N (.slice a' y.S.length c') (.slice b' y.T.length d') (.slice e' y.F.length f')) := k2
  have HB0 := zbox w W2 g2 s2
  clear k2 hW2 g2 s2
  obtain ⟨W3, hW3, G3, R3⟩ := HB0
  have HW3 : Hid (W3 = _) := hW3
  clear hW3
  go_enter Try.func16, Try.ntmps16
  go_wp2_with fail
  rw [← HW2.out, ← HW3.out]
  refine (HC.out _ G3.out.1).mono ?_
  rintro E w4 ⟨rfl, hg4⟩
  obtain ⟨_, x0, x1, x2, x3, x4, y0, y1, y2, y3, y4⟩ := (K2.out.call G3.out.2).call hg4
  have G4 : Hid (w.grownBy w4 none ∧ W3.grownBy w4 none) := ⟨grown_trans G3.out.1 hg4, hg4⟩
  clear hg4 HW2 HW3
  go_wp2_with fail
  refine (HB.out _ G4.out.1).mono ?_
  rintro E w5 ⟨T5, hp5, hs5, aS, aT, aF, cS, cT, cF, hE, hA, hg5, hn⟩
  clear x0 x1 x2 x3 x4 y0 y1 y2 y3 y4
  obtain ⟨z, hz⟩ : ∃ z, kroX x y T5 = z := ⟨_, rfl⟩
  rw [hz] at hE hA
  subst hE
  have HP : Hid (T5.Perm (kroT x y) ∧ (T5.Pairwise fun p q => ¬ numS x.L (2 * x.N * y.N) q < numS x.L (2 * x.N * y.N) p)) := ⟨hp5, hs5⟩
  clear hp5 hs5
  have HZ : Hid (kroX x y T5 = z) := hz
  clear hz
  have R5 : Hid (w5.heap[w.heap.size + 1 + 1]? = some (.cells #[.int .i64 0, .int .i64 0, .slice none 0 0, .slice none 0 0, .slice none 0 0] 25 (0, 0))) := (((grown_trans G4.out.2 hg5)).block _ R3.out.2 (by simp)).trans R3.out.1
  obtain ⟨z0, z1, z2, z3, z4, zf⟩ := block_cells5A R5.out
  have zf0 := zf 0
  have zf1 := zf 1
  have zf2 := zf 2
  have zf3 := zf 3
  have zf4 := zf 4
  obtain ⟨W9, hW9, hg9, hR9⟩ := five_store R5.out (.int .i64 z.L) (.int .i64 z.N) (.slice aS z.S.length cS) (.slice aT z.T.length cT) (.slice aF z.F.length cF)
  have HW9 : Hid (W9 = _) := hW9
  have R9 : Hid (W9.heap[w.heap.size + 1 + 1]? = some (.cells #[.int .i64 z.L, .int .i64 z.N, .slice aS z.S.length cS, .slice aT z.T.length cT, .slice aF z.F.length cF] 25 (0, 0))) := hR9
  have Fin : Hid (AutoOk z w (.returned (.tuple #[autV z.L z.N aS z.S.length cS aT z.T.length cT aF z.F.length cF, .int .i64 0])) W9) := ⟨_, _, _, _, _, _, rfl, hA.far (fun y hy => by have := hn y hy; have := G4.out.2.size; have := R3.out.2; omega) hg9, grown_new (grown_trans G4.out.1 hg5) hg9 (by omega)⟩
  clear hW9 hg9 hR9 hA hg5 hn zf
  go_wp2_with fail
  rw [← HW9.out]
  obtain ⟨v0, v1, v2, v3, v4, _⟩ := block_cells5A R9.out
  exact bodyPost_ret (v := .tuple #[autV z.L z.N aS z.S.length cS aT z.T.length cT aF z.F.length cF, .int .i64 0]) (by simp [results, Try.results16, go_sem, v0, v1, v2, v3, v4]) rfl (⟨T5, HP.out.1, (by have h9 := HP.out.2; first | exact h9 | exact h9.imp fun h => by omega), by rw [HZ.out]; exact Fin.out⟩)

end Go.Proofs.Ytaangdomdeklhaa
