/- TreeAccepts: the program's Accepts, and the law's walk. -/
import Derived.Test.YtofjmakmbmndoaaTrAcc
import Derived.Test.YtofjmakmbmndoaaTrTree2
import Derived.Test.YtofjmakmbmndoaaTrAccR
import Derived.Test.YtofjmakmbmndoaaTrTreeR
import Derived.Test.YtofjmakmbmndoaaTrCheckR
namespace Go.Proofs.Ytofjmakmbmndoaa
open Go.RowKit
set_option linter.unusedVariables false

def resA (x : Trs) (T : List NodeI) : Bool × Int := if checkT x ≠ 0 then (false, checkT x) else if treeF x.L T ≠ 0 then (false, treeF x.L T) else (accTB x T, 0)

set_option maxHeartbeats 1600000 in
set_option maxRecDepth 100000 in
theorem acceptsE_any (x : Trs) (b e a : Option Addr) (d f c : Nat) (T : List NodeI) (w : World) (h : TrsAt w x b e) (hT : NodesAt w a T) (hm : T.length ≤ maxLen) :
    Calls Try.prog 10 #[trsV x.L x.N b x.R.length d x.S e x.M.length f, treeV a T.length c] w (Says (.tuple #[.bool (resA x T).1, .int .i64 (resA x T).2]) w) := by
  have HC : Hid (∀ W, w.grownBy W none → Calls Try.prog 6 #[trsV x.L x.N b x.R.length d x.S e x.M.length f] W (Says (.int .i64 (checkT x)) W)) := fun W hW => checkT_any x b e d f W (h.grown hW)
  have HTr : Hid (∀ W, w.grownBy W none → Calls Try.prog 8 #[.int .i64 x.L, treeV a T.length c] W (Says (.int .i64 (treeF x.L T)) W)) := fun W hW => treeP_any x.L T a c W (hT.grown hW) hm
  have HA : Hid (checkT x = 0 → treeF x.L T = 0 → ∀ W, w.grownBy W none → Calls Try.prog 23 #[trsV x.L x.N b x.R.length d x.S e x.M.length f, treeV a T.length c] W (Says (.bool (accTB x T)) W)) := fun h1 h2 W hW => accepts_any x b e a d f c T W (h.grown hW) (hT.grown hW) (goodT_of_check h1) (goodNd_of_tree h2)
  have R1 : Hid (checkT x ≠ 0 → resA x T = (false, checkT x)) := fun hh => by unfold resA; rw [if_pos hh]
  have R2 : Hid (checkT x = 0 → treeF x.L T ≠ 0 → resA x T = (false, treeF x.L T)) := fun h1 hh => by unfold resA; rw [if_neg (by simp [h1]), if_pos hh]
  have R3 : Hid (checkT x = 0 → treeF x.L T = 0 → resA x T = (accTB x T, 0)) := fun h1 hh => by unfold resA; rw [if_neg (by simp [h1]), if_neg (by simp [hh])]
  generalize checkT x = ce at *
  generalize treeF x.L T = te at *
  generalize accTB x T = ab at *
  generalize resA x T = re at *
  obtain ⟨L, N, R, S0, M⟩ := x
  simp only at *
  generalize R.length = nR at *
  generalize M.length = nM at *
  generalize T.length = n at *
  obtain ⟨W0, hW0, g0, s0, bx0⟩ := box5_new w (.int .i64 L) (.int .i64 N) (.slice b nR d) (.int .i64 S0) (.slice e nM f) 25
  obtain ⟨W1, hW1, g1, s1, bx1⟩ := box1_new W0 (.slice a n c) 28
  have HW1 : Hid (W1 = (w.alloc (.cells #[.int .i64 L, .int .i64 N, .slice b nR d, .int .i64 S0, .slice e nM f] 25)).alloc (.cells #[.slice a n c] 28)) := by show _ = _; rw [hW1, hW0]
  have G1 : Hid (w.grownBy W1 none) := grown_trans g0 g1
  rw [s0] at bx1
  have B0 : Hid (∀ W', W1.grownBy W' none → W'.cell? ⟨w.heap.size, 0, none⟩ = some (.int .i64 L) ∧ W'.cell? ⟨w.heap.size, 1, none⟩ = some (.int .i64 N) ∧ W'.cell? ⟨w.heap.size, 2, none⟩ = some (.slice b nR d) ∧ W'.cell? ⟨w.heap.size, 3, none⟩ = some (.int .i64 S0) ∧ W'.cell? ⟨w.heap.size, 4, none⟩ = some (.slice e nM f) ∧ W'.cell? ⟨w.heap.size + 1, 0, none⟩ = some (.slice a n c)) := fun W' hW' => by
    obtain ⟨q0, q1, q2, q3, q4⟩ := bx0 W' (grown_trans g1 hW')
    exact ⟨q0, q1, q2, q3, q4, bx1 W' hW'⟩
  obtain ⟨x0, x1, x2, x3, x4, x5⟩ := B0.out W1 (grown_refl _ _)
  rw [HW1.out] at x0 x1 x2 x3 x4 x5
  clear h hT hm hW0 hW1 g0 g1 s0 s1 bx0 bx1
  go_enter Try.func10, Try.ntmps10
  go_wp2_with fail
  rw [← HW1.out]
  clear x0 x1 x2 x3 x4 x5
  refine (HC.out _ G1.out).mono ?_
  rintro E w2 ⟨rfl, hg2⟩
  have G2 : Hid (W1.grownBy w2 none) := hg2
  clear hg2
  by_cases e1 : ce = 0
  case neg =>
    have d1 : (ce != 0) = true := by simpa using e1
    have Hz : Hid _ := R1.out e1
    clear R1 R2 R3 HA e1
    go_wp2_with fail
    go_ret2
    rw [Hz.out]
    exact ⟨rfl, grown_trans G1.out G2.out⟩
  have d1 : (ce != 0) = false := by simpa using e1
  obtain ⟨x0, x1, x2, x3, x4, x5⟩ := B0.out w2 G2.out
  have He1 : Hid (ce = 0) := e1
  clear e1
  go_wp2_with fail
  clear x0 x1 x2 x3 x4 x5
  refine (HTr.out _ (grown_trans G1.out G2.out)).mono ?_
  rintro E w3 ⟨rfl, hg3⟩
  have G3 : Hid (W1.grownBy w3 none) := grown_trans G2.out hg3
  clear hg3
  by_cases e2 : te = 0
  case neg =>
    have d2 : (te != 0) = true := by simpa using e2
    have Hz : Hid _ := R2.out He1.out e2
    clear R1 R2 R3 HA e2
    go_wp2_with fail
    go_ret2
    rw [Hz.out]
    exact ⟨rfl, grown_trans G1.out G3.out⟩
  have d2 : (te != 0) = false := by simpa using e2
  obtain ⟨x0, x1, x2, x3, x4, x5⟩ := B0.out w3 G3.out
  have Hz : Hid _ := R3.out He1.out e2
  have HA2 : Hid _ := HA.out He1.out e2
  clear R1 R2 R3 HA e2
  go_wp2_with fail
  clear x0 x1 x2 x3 x4 x5
  refine (HA2.out _ (grown_trans G1.out G3.out)).mono ?_
  rintro E w4 ⟨rfl, hg4⟩
  have GF : Hid (w.grownBy w4 none) := grown_trans G1.out (grown_trans G3.out hg4)
  clear hg4
  go_wp2_with fail
  go_ret2
  rw [Hz.out]
  exact ⟨rfl, GF.out⟩

end Go.Proofs.Ytofjmakmbmndoaa
