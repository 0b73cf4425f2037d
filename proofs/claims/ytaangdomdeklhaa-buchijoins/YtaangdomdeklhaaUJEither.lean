/- buchi.Either: refused, or answered. -/
import Derived.Test.YtaangdomdeklhaaUJBoth
namespace Go.Proofs.Ytaangdomdeklhaa
open Go.RowKit
set_option linter.unusedVariables false

/-- An automaton is answered, without a fault. -/
def AutoOk (x : Aut) (w : World) (E : Ending) (w' : World) : Prop := ∃ (a b e : Option Addr) (c d f : Nat), E = .returned (.tuple #[autV x.L x.N a x.S.length c b x.T.length d e x.F.length f, .int .i64 0]) ∧ AutAt w' x a b e ∧ w.grownBy w' none
abbrev noAutV : Value := autV 0 0 none 0 0 none 0 0 none 0 0

/-- The result's box, behind the arguments' two. -/
theorem zbox (w W2 : World) (g2 : w.grownBy W2 none) (s2 : W2.heap.size = w.heap.size + 1 + 1) : ∃ W3, W3 = W2.alloc (.cells #[.int .i64 0, .int .i64 0, .slice none 0 0, .slice none 0 0, .slice none 0 0] 25) ∧ Hid (w.grownBy W3 none ∧ W2.grownBy W3 none) ∧ Hid (W3.heap[w.heap.size + 1 + 1]? = some (.cells #[.int .i64 0, .int .i64 0, .slice none 0 0, .slice none 0 0, .slice none 0 0] 25 (0, 0)) ∧ w.heap.size + 1 + 1 < W3.heap.size) := by
  have h1 := heap_alloc_new W2 (.cells #[.int .i64 0, .int .i64 0, .slice none 0 0, .slice none 0 0, .slice none 0 0] 25)
  rw [s2] at h1
  have A : Hid (w.grownBy (W2.alloc (.cells #[.int .i64 0, .int .i64 0, .slice none 0 0, .slice none 0 0, .slice none 0 0] 25)) none ∧ W2.grownBy (W2.alloc (.cells #[.int .i64 0, .int .i64 0, .slice none 0 0, .slice none 0 0, .slice none 0 0] 25)) none) := ⟨grown_trans g2 (grown_alloc _ _), grown_alloc _ _⟩
  have C : Hid ((W2.alloc (.cells #[.int .i64 0, .int .i64 0, .slice none 0 0, .slice none 0 0, .slice none 0 0] 25)).heap[w.heap.size + 1 + 1]? = some (.cells #[.int .i64 0, .int .i64 0, .slice none 0 0, .slice none 0 0, .slice none 0 0] 25 (0, 0)) ∧ w.heap.size + 1 + 1 < (W2.alloc (.cells #[.int .i64 0, .int .i64 0, .slice none 0 0, .slice none 0 0, .slice none 0 0] 25)).heap.size) := ⟨h1, by rw [World.size_alloc, s2]; omega⟩
  exact ⟨_, rfl, A, C⟩

set_option maxHeartbeats 3200000 in
set_option maxRecDepth 100000 in
theorem either_bad (x y : Aut) (a b e a' b' e' : Option Addr) (c d f c' d' f' : Nat) (w : World) (h : AutAt w x a b e) (h' : AutAt w y a' b' e') (hr : checkJ x y ≠ 0) :
    Calls Try.prog 15 #[autV x.L x.N a x.S.length c b x.T.length d e x.F.length f, autV y.L y.N a' y.S.length c' b' y.T.length d' e' y.F.length f'] w (Says (.tuple #[noAutV, .int .i64 (checkJ x y)]) w) := by
  have HC : Hid (∀ W, w.grownBy W none → Calls Try.prog 28 #[autV x.L x.N a x.S.length c b x.T.length d e x.F.length f, autV y.L y.N a' y.S.length c' b' y.T.length d' e' y.F.length f'] W (Says (.int .i64 (checkJ x y)) W)) := fun W hW => checkBothA_any x y a b e a' b' e' c d f c' d' f' W (h.grown hW) (h'.grown hW)
  clear h h'
  generalize checkJ x y = r at *
  have hr1 : (r != 0) = true := by simpa using hr
  obtain ⟨W2, hW2, g2, s2, k2⟩ := two_boxes w x.L x.N (.slice a x.S.length c) (.slice b x.T.length d) (.slice e x.F.length f) y.L y.N (.slice a' y.S.length c') (.slice b' y.T.length d') (.slice e' y.F.length f')
  have HW2 : Hid (W2 = _) := hW2
  have HB := zbox w W2 g2 s2
  clear k2 hW2 g2 s2
  obtain ⟨W3, hW3, G3, R3⟩ := HB
  have HW3 : Hid (W3 = _) := hW3
  clear hW3
  go_enter Try.func15, Try.ntmps15
  go_wp2_with fail
  rw [← HW2.out, ← HW3.out]
  refine (HC.out _ G3.out.1).mono ?_
  rintro E w4 ⟨rfl, hg4⟩
  have R4 := (hg4.block _ R3.out.2 (by simp)).trans R3.out.1
  obtain ⟨z0, z1, z2, z3, z4, zf⟩ := block_cells5A R4
  have zf0 := zf 0
  have zf1 := zf 1
  have zf2 := zf 2
  have zf3 := zf 3
  have zf4 := zf 4
  obtain ⟨W9, hW9, hg9, hR9⟩ := five_store R4 (.int .i64 0) (.int .i64 0) (.slice none 0 0) (.slice none 0 0) (.slice none 0 0)
  have HW9 : Hid (W9 = _) := hW9
  have R9 : Hid (W9.heap[w.heap.size + 1 + 1]? = some (.cells #[.int .i64 0, .int .i64 0, .slice none 0 0, .slice none 0 0, .slice none 0 0] 25 (0, 0))) := hR9
  have G9 : Hid (w.grownBy W9 none) := grown_new (grown_trans G3.out.1 hg4) hg9 (by omega)
  clear hg4 R4 zf hW9 hg9 hR9 HW2 HW3
  go_wp2_with fail
  obtain ⟨v0, v1, v2, v3, v4, _⟩ := block_cells5A R9.out
  rw [← HW9.out]
  have Fin : Hid (Says (.tuple #[noAutV, .int .i64 r]) w (.returned (.tuple #[noAutV, .int .i64 r])) W9) := ⟨rfl, G9.out⟩
  exact bodyPost_ret (v := .tuple #[noAutV, .int .i64 r]) (by simp [results, Try.results15, go_sem, v0, v1, v2, v3, v4]) rfl Fin.out

set_option maxHeartbeats 3200000 in
set_option maxRecDepth 100000 in
theorem both_bad (x y : Aut) (a b e a' b' e' : Option Addr) (c d f c' d' f' : Nat) (w : World) (h : AutAt w x a b e) (h' : AutAt w y a' b' e') (hr : checkJ x y ≠ 0) :
    Calls Try.prog 16 #[autV x.L x.N a x.S.length c b x.T.length d e x.F.length f, autV y.L y.N a' y.S.length c' b' y.T.length d' e' y.F.length f'] w (Says (.tuple #[noAutV, .int .i64 (checkJ x y)]) w) := by
  have HC : Hid (∀ W, w.grownBy W none → Calls Try.prog 28 #[autV x.L x.N a x.S.length c b x.T.length d e x.F.length f, autV y.L y.N a' y.S.length c' b' y.T.length d' e' y.F.length f'] W (Says (.int .i64 (checkJ x y)) W)) := fun W hW => checkBothA_any x y a b e a' b' e' c d f c' d' f' W (h.grown hW) (h'.grown hW)
  clear h h'
  generalize checkJ x y = r at *
  have hr1 : (r != 0) = true := by simpa using hr
  obtain ⟨W2, hW2, g2, s2, k2⟩ := two_boxes w x.L x.N (.slice a x.S.length c) (.slice b x.T.length d) (.slice e x.F.length f) y.L y.N (.slice a' y.S.length c') (.slice b' y.T.length d') (.slice e' y.F.length f')
  have HW2 : Hid (W2 = _) := hW2
  have HB := zbox w W2 g2 s2
  clear k2 hW2 g2 s2
  obtain ⟨W3, hW3, G3, R3⟩ := HB
  have HW3 : Hid (W3 = _) := hW3
  clear hW3
  go_enter Try.func16, Try.ntmps16
  go_wp2_with fail
  rw [← HW2.out, ← HW3.out]
  refine (HC.out _ G3.out.1).mono ?_
  rintro E w4 ⟨rfl, hg4⟩
  have R4 := (hg4.block _ R3.out.2 (by simp)).trans R3.out.1
  obtain ⟨z0, z1, z2, z3, z4, zf⟩ := block_cells5A R4
  have zf0 := zf 0
  have zf1 := zf 1
  have zf2 := zf 2
  have zf3 := zf 3
  have zf4 := zf 4
  obtain ⟨W9, hW9, hg9, hR9⟩ := five_store R4 (.int .i64 0) (.int .i64 0) (.slice none 0 0) (.slice none 0 0) (.slice none 0 0)
  have HW9 : Hid (W9 = _) := hW9
  have R9 : Hid (W9.heap[w.heap.size + 1 + 1]? = some (.cells #[.int .i64 0, .int .i64 0, .slice none 0 0, .slice none 0 0, .slice none 0 0] 25 (0, 0))) := hR9
  have G9 : Hid (w.grownBy W9 none) := grown_new (grown_trans G3.out.1 hg4) hg9 (by omega)
  clear hg4 R4 zf hW9 hg9 hR9 HW2 HW3
  go_wp2_with fail
  obtain ⟨v0, v1, v2, v3, v4, _⟩ := block_cells5A R9.out
  rw [← HW9.out]
  have Fin : Hid (Says (.tuple #[noAutV, .int .i64 r]) w (.returned (.tuple #[noAutV, .int .i64 r])) W9) := ⟨rfl, G9.out⟩
  exact bodyPost_ret (v := .tuple #[noAutV, .int .i64 r]) (by simp [results, Try.results16, go_sem, v0, v1, v2, v3, v4]) rfl Fin.out

end Go.Proofs.Ytaangdomdeklhaa
