/- Within, where the two may not be asked about. -/
import Derived.Test.YtppikfgfmlipmaaTrChkB
import Derived.Test.YtppikfgfmlipmaaTrStore
namespace Go.Proofs.Ytppikfgfmlipmaa
open Go.RowKit
set_option linter.unusedVariables false

set_option maxHeartbeats 3200000 in
set_option maxRecDepth 100000 in
theorem within_bad (x y : Trs) (b e b' e' : Option Addr) (d f d' f' : Nat) (w : World) (h : TrsAt w x b e) (h' : TrsAt w y b' e') (hc : chkB x y ≠ 0) :
    Calls Try.prog 4 #[trsV x.L x.N b x.R.length d x.S e x.M.length f, trsV y.L y.N b' y.R.length d' y.S e' y.M.length f'] w (Says (.tuple #[treeV none 0 0, .bool false, .int .i64 (chkB x y)]) w) := by
  have HC : Hid (∀ W, w.grownBy W none → Calls Try.prog 9 #[trsV x.L x.N b x.R.length d x.S e x.M.length f, trsV y.L y.N b' y.R.length d' y.S e' y.M.length f'] W (Says (.int .i64 (chkB x y)) W)) := fun W hW => checkBoth_any x y b e b' e' d f d' f' W (h.grown hW) (h'.grown hW)
  generalize chkB x y = ce at *
  have d1 : (ce != 0) = true := by simpa using hc
  clear h h' hc
  obtain ⟨Wb, hWb, gb, sb, bx, by1⟩ := two_boxW w (.int .i64 x.L) (.int .i64 x.N) (.slice b x.R.length d) (.int .i64 x.S) (.slice e x.M.length f) (.int .i64 y.L) (.int .i64 y.N) (.slice b' y.R.length d') (.int .i64 y.S) (.slice e' y.M.length f')
  obtain ⟨W1, hW1⟩ : ∃ W1, W1 = Wb.alloc (.cells #[.slice none 0 0] 28) := ⟨_, rfl⟩
  have g1 : Wb.grownBy W1 none := by rw [hW1]; exact grown_alloc _ _
  have HW1 : Hid (W1 = _) := hW1.trans (by rw [hWb])
  have G1 : Hid (w.grownBy W1 none) := grown_trans gb g1
  have hrb := heap_alloc_new Wb (.cells #[.slice none 0 0] 28)
  rw [← hW1, sb] at hrb
  have HRB : Hid (W1.heap[w.heap.size + 1 + 1]? = some (.cells #[.slice none 0 0] 28 (0, 0)) ∧ W1.heap.size = w.heap.size + 1 + 1 + 1) := ⟨hrb, by rw [hW1, World.size_alloc, sb]⟩
  obtain ⟨x0, x1, x2, x3, x4⟩ := bx W1 g1
  obtain ⟨z0, z1, z2, z3, z4⟩ := by1 W1 g1
  rw [HW1.out] at x0 x1 x2 x3 x4 z0 z1 z2 z3 z4
  clear hWb gb sb bx by1 hW1 g1 hrb
  go_enter Try.func4, Try.ntmps4
  go_wp2_with fail
  rw [← HW1.out]
  clear x0 x1 x2 x3 x4 z0 z1 z2 z3 z4
  refine (HC.out _ G1.out).mono ?_
  rintro E w2 ⟨rfl, hg2⟩
  have hr2 : w2.heap[w.heap.size + 1 + 1]? = some (.cells #[.slice none 0 0] 28 (0, 0)) := (hg2.block _ (by have := HRB.out.2; omega) (by simp)).trans HRB.out.1
  obtain ⟨xr, fr, W5, hW5, g5, xw⟩ := res_store hr2 (.slice none 0 0)
  have HW5 : Hid (W5 = _) := hW5
  have GF : Hid (w.grownBy W5 none) := grown_new (grown_trans G1.out hg2) g5 (by omega)
  clear hg2 hr2 hW5 g5
  go_wp2_with fail
  rw [← HW5.out]
  exact bodyPost_ret (v := .tuple #[treeV none 0 0, .bool false, .int .i64 ce]) (by simp [results, Try.results4, go_sem, xw]) rfl ⟨rfl, GF.out⟩

end Go.Proofs.Ytppikfgfmlipmaa
