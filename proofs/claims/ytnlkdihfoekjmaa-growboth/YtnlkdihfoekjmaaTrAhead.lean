/- Which of two rules stands ahead: the reference's Ahead. -/
import Derived.Test.YtnlkdihfoekjmaaTrCmp
namespace Go.Proofs.Ytnlkdihfoekjmaa
open Go.RowKit
set_option linter.unusedVariables false

theorem lexRB_1 {x y : RuleI} (h : x.1 ≠ y.1) : lexRB x y = decide (x.1 < y.1) := by
  unfold lexRB; rw [decide_eq_decide]; omega
theorem lexRB_2 {x y : RuleI} (h1 : x.1 = y.1) (h : x.2.1 ≠ y.2.1) : lexRB x y = decide (x.2.1 < y.2.1) := by
  unfold lexRB; rw [decide_eq_decide]; omega
theorem lexRB_3 {x y : RuleI} (h1 : x.1 = y.1) (h2 : x.2.1 = y.2.1) (h : x.2.2.1 ≠ y.2.2.1) : lexRB x y = decide (x.2.2.1 < y.2.2.1) := by
  unfold lexRB; rw [decide_eq_decide]; omega
theorem lexRB_4 {x y : RuleI} (h1 : x.1 = y.1) (h2 : x.2.1 = y.2.1) (h3 : x.2.2.1 = y.2.2.1) : lexRB x y = decide (x.2.2.2 < y.2.2.2) := by
  unfold lexRB; rw [decide_eq_decide]; omega

set_option maxHeartbeats 1600000 in
set_option maxRecDepth 100000 in
theorem ahead_any (x y : RuleI) (w : World) : Calls Try.prog 19 #[ruleV x, ruleV y] w (Says (.bool (lexRB x y)) w) := by
  obtain ⟨z, hz⟩ : ∃ z, lexRB x y = z := ⟨_, rfl⟩
  have HZ : Hid (lexRB x y = z) := hz
  rw [hz]
  clear hz
  have H1 : Hid (x.1 ≠ y.1 → z = decide (x.1 < y.1)) := fun h => by rw [← HZ.out, lexRB_1 h]
  have H2 : Hid (x.1 = y.1 → x.2.1 ≠ y.2.1 → z = decide (x.2.1 < y.2.1)) := fun h1 h => by rw [← HZ.out, lexRB_2 h1 h]
  have H3 : Hid (x.1 = y.1 → x.2.1 = y.2.1 → x.2.2.1 ≠ y.2.2.1 → z = decide (x.2.2.1 < y.2.2.1)) := fun h1 h2 h => by rw [← HZ.out, lexRB_3 h1 h2 h]
  have H4 : Hid (x.1 = y.1 → x.2.1 = y.2.1 → x.2.2.1 = y.2.2.1 → z = decide (x.2.2.2 < y.2.2.2)) := fun h1 h2 h => by rw [← HZ.out, lexRB_4 h1 h2 h]
  clear HZ
  obtain ⟨x0, x1, x2, x3⟩ := x
  obtain ⟨y0, y1, y2, y3⟩ := y
  simp only [ruleV] at *
  have GG : Hid (∀ o o', w.grownBy ((w.alloc o).alloc o') none) := fun o o' => grown_trans (grown_alloc _ _) (grown_alloc _ _)
  by_cases e1 : x0 = y0
  case neg =>
    have d1 : (x0 != y0) = true := by simpa using e1
    have Hz : Hid _ := H1.out e1
    clear H1 H2 H3 H4 e1
    obtain ⟨q, hq⟩ : ∃ q, decide (x0 < y0) = q := ⟨_, rfl⟩
    rw [hq] at Hz
    go_enter Try.func19, Try.ntmps19
    go_wp2_with fail
    go_ret
    exact ⟨ret_bool Hz.out.symm, GG.out _ _⟩
  have d1 : (x0 != y0) = false := by simpa using e1
  by_cases e2 : x1 = y1
  case neg =>
    have d2 : (x1 != y1) = true := by simpa using e2
    have Hz : Hid _ := H2.out e1 e2
    clear H1 H2 H3 H4 e1 e2
    obtain ⟨q, hq⟩ : ∃ q, decide (x1 < y1) = q := ⟨_, rfl⟩
    rw [hq] at Hz
    go_enter Try.func19, Try.ntmps19
    go_wp2_with fail
    go_ret
    exact ⟨ret_bool Hz.out.symm, GG.out _ _⟩
  have d2 : (x1 != y1) = false := by simpa using e2
  by_cases e3 : x2 = y2
  case neg =>
    have d3 : (x2 != y2) = true := by simpa using e3
    have Hz : Hid _ := H3.out e1 e2 e3
    clear H1 H2 H3 H4 e1 e2 e3
    obtain ⟨q, hq⟩ : ∃ q, decide (x2 < y2) = q := ⟨_, rfl⟩
    rw [hq] at Hz
    go_enter Try.func19, Try.ntmps19
    go_wp2_with fail
    go_ret
    exact ⟨ret_bool Hz.out.symm, GG.out _ _⟩
  have d3 : (x2 != y2) = false := by simpa using e3
  have Hz : Hid _ := H4.out e1 e2 e3
  clear H1 H2 H3 H4 e1 e2 e3
  obtain ⟨q, hq⟩ : ∃ q, decide (x3 < y3) = q := ⟨_, rfl⟩
  rw [hq] at Hz
  go_enter Try.func19, Try.ntmps19
  go_wp2_with fail
  go_ret
  exact ⟨ret_bool Hz.out.symm, GG.out _ _⟩

end Go.Proofs.Ytnlkdihfoekjmaa
