/- The law's asked. -/
import Derived.Test.YtcgkflddipflbaaSwMath
import Derived.Test.YtcgkflddipflbaaSkRef
namespace Go.Proofs.Ytcgkflddipflbaa
open Go.RowKit
set_option linter.unusedVariables false
set_option linter.unusedSimpArgs false

/-- What is wrong with rules and two configs, the second of them a goal. -/
def askF (L : List Psh) (c gl : Cfg) : Int := if checkSk L = 0 then (if cfgSk c = 0 then (if cfgSk gl = 0 then (if 3 < gl.2.length then 1 else 0) else cfgSk gl) else cfgSk c) else checkSk L

set_option maxHeartbeats 3200000 in
set_option maxRecDepth 100000 in
theorem asked_any (L : List Psh) (c gl : Cfg) (a b b' : Option Addr) (d k k' : Nat) (w : World) (h : PushAt w a L) (hm : L.length ≤ maxLen) (hc : Ints w b c.2) (hcm : c.2.length ≤ maxLen) (hg : Ints w b' gl.2) (hgm : gl.2.length ≤ maxLen) :
    Calls Try.prog 6 #[.slice a L.length d, cfgV c.1 b c.2.length k, cfgV gl.1 b' gl.2.length k'] w (Says (.int .i64 (askF L c gl)) w) := by
  have H1 : Hid (∀ W, w.grownBy W none → Calls Try.prog 21 #[.slice a L.length d] W (Says (.int .i64 (checkSk L)) W)) := fun W hW => checkSkR_any a d L W (h.grown hW) hm
  have H2 : Hid (∀ W, w.grownBy W none → Calls Try.prog 22 #[cfgV c.1 b c.2.length k] W (Says (.int .i64 (cfgSk c)) W)) := fun W hW => cfgSkR_any c b k W (hc.grown hW) hcm
  have H3 : Hid (∀ W, w.grownBy W none → Calls Try.prog 22 #[cfgV gl.1 b' gl.2.length k'] W (Says (.int .i64 (cfgSk gl)) W)) := fun W hW => cfgSkR_any gl b' k' W (hg.grown hW) hgm
  obtain ⟨W1, hW1⟩ : ∃ W1, W1 = w.alloc (.cells #[.int .i64 c.1, .slice b c.2.length k] 25) := ⟨_, rfl⟩
  obtain ⟨W2, hW2⟩ : ∃ W2, W2 = W1.alloc (.cells #[.int .i64 gl.1, .slice b' gl.2.length k'] 25) := ⟨_, rfl⟩
  have g1 : w.grownBy W1 none := by rw [hW1]; exact grown_alloc _ _
  have g2 : W1.grownBy W2 none := by rw [hW2]; exact grown_alloc _ _
  have s1 : W1.heap.size = w.heap.size + 1 := by rw [hW1]; simp
  have b1 := heap_alloc_new w (.cells #[.int .i64 c.1, .slice b c.2.length k] 25)
  have b2 := heap_alloc_new W1 (.cells #[.int .i64 gl.1, .slice b' gl.2.length k'] 25)
  rw [← hW1] at b1
  rw [← hW2, s1] at b2
  have K : Hid (∀ W, W2.grownBy W none → W.cell? ⟨w.heap.size, 0, none⟩ = some (.int .i64 c.1) ∧ W.cell? ⟨w.heap.size, 1, none⟩ = some (.slice b c.2.length k) ∧ W.cell? ⟨w.heap.size + 1, 0, none⟩ = some (.int .i64 gl.1) ∧ W.cell? ⟨w.heap.size + 1, 1, none⟩ = some (.slice b' gl.2.length k')) := fun W hW =>
    ⟨(grown_trans g2 hW).cell (by rw [cell_of_row _ _ 0 _ _ (0, 0) b1]; rfl) (by simp), (grown_trans g2 hW).cell (by rw [cell_of_row _ _ 1 _ _ (0, 0) b1]; rfl) (by simp), hW.cell (by rw [cell_of_row _ _ 0 _ _ (0, 0) b2]; rfl) (by simp), hW.cell (by rw [cell_of_row _ _ 1 _ _ (0, 0) b2]; rfl) (by simp)⟩
  have G2 : Hid (w.grownBy W2 none) := grown_trans g1 g2
  rw [hW1] at hW2
  have HW2 : Hid (W2 = _) := hW2
  obtain ⟨z, hz⟩ : ∃ z, askF L c gl = z := ⟨_, rfl⟩
  rw [hz]
  have HZ : Hid (askF L c gl = z) := hz
  unfold maxLen at hgm
  clear h hm hc hcm hg g1 g2 s1 b1 b2 hW1 hW2 hz
  obtain ⟨q1, hq1⟩ : ∃ q, checkSk L = q := ⟨_, rfl⟩
  obtain ⟨q2, hq2⟩ : ∃ q, cfgSk c = q := ⟨_, rfl⟩
  obtain ⟨q3, hq3⟩ : ∃ q, cfgSk gl = q := ⟨_, rfl⟩
  rw [hq1] at H1
  rw [hq2] at H2
  rw [hq3] at H3
  have HZ2 : Hid (z = if q1 = 0 then (if q2 = 0 then (if q3 = 0 then (if 3 < gl.2.length then 1 else 0) else q3) else q2) else q1) := by show _ = _; rw [← HZ.out, ← hq1, ← hq2, ← hq3]; rfl
  clear HZ hq1 hq2 hq3
  go_enter Try.func6, Try.ntmps6
  go_wp2_with fail
  rw [← HW2.out]
  refine (H1.out _ G2.out).mono ?_
  rintro E w3 ⟨rfl, hg3⟩
  have G3 : Hid (W2.grownBy w3 none) := hg3
  clear hg3 HW2
  by_cases e1 : q1 = 0
  case neg =>
    have f1 : (q1 == 0) = false := by simpa using e1
    have Hz : Hid (z = q1) := by show _ = _; rw [HZ2.out, if_neg e1]
    have GF : Hid (w.grownBy w3 none) := grown_trans G2.out G3.out
    clear e1
    go_wp2_with fail
    go_ret
    exact ⟨by rw [Hz.out]; rfl, GF.out⟩
  have f1 : (q1 == 0) = true := by simpa using e1
  obtain ⟨x0, x1, x2, x3⟩ := K.out w3 G3.out
  have HZ3 : Hid (z = if q2 = 0 then (if q3 = 0 then (if 3 < gl.2.length then 1 else 0) else q3) else q2) := by show _ = _; rw [HZ2.out, if_pos e1]
  clear e1 HZ2
  go_wp2_with fail
  refine (H2.out _ (grown_trans G2.out G3.out)).mono ?_
  rintro E w4 ⟨rfl, hg4⟩
  have G4 : Hid (W2.grownBy w4 none) := grown_trans G3.out hg4
  clear hg4 x0 x1 x2 x3
  by_cases e1 : q2 = 0
  case neg =>
    have f2 : (q2 == 0) = false := by simpa using e1
    have Hz : Hid (z = q2) := by show _ = _; rw [HZ3.out, if_neg e1]
    have GF : Hid (w.grownBy w4 none) := grown_trans G2.out G4.out
    clear e1
    go_wp2_with fail
    go_ret
    exact ⟨by rw [Hz.out]; rfl, GF.out⟩
  have f2 : (q2 == 0) = true := by simpa using e1
  obtain ⟨x0, x1, x2, x3⟩ := K.out w4 G4.out
  have HZ4 : Hid (z = if q3 = 0 then (if 3 < gl.2.length then 1 else 0) else q3) := by show _ = _; rw [HZ3.out, if_pos e1]
  clear e1 HZ3
  go_wp2_with fail
  refine (H3.out _ (grown_trans G2.out G4.out)).mono ?_
  rintro E w5 ⟨rfl, hg5⟩
  have G5 : Hid (W2.grownBy w5 none) := grown_trans G4.out hg5
  have GF : Hid (w.grownBy w5 none) := grown_trans G2.out G5.out
  clear hg5 x0 x1 x2 x3
  obtain ⟨x0, x1, x2, x3⟩ := K.out w5 G5.out
  by_cases e1 : q3 = 0
  case neg =>
    have f3 : (q3 == 0) = false := by simpa using e1
    have Hz : Hid (z = q3) := by show _ = _; rw [HZ4.out, if_neg e1]
    clear e1
    go_wp2_with fail
    go_ret
    exact ⟨by rw [Hz.out]; rfl, GF.out⟩
  have f3 : (q3 == 0) = true := by simpa using e1
  by_cases e2 : 3 < gl.2.length
  · have f4 : (3 : Int) < (gl.2.length : Int) := by omega
    have Hz : Hid (z = 1) := by show _ = _; rw [HZ4.out, if_pos e1, if_pos e2]
    clear e1 e2
    go_wp2_with fail
    go_ret
    exact ⟨by rw [Hz.out]; rfl, GF.out⟩
  · have f4 : ¬ (3 : Int) < (gl.2.length : Int) := by omega
    have Hz : Hid (z = q3) := by show _ = _; rw [HZ4.out, if_pos e1, if_neg e2, e1]
    clear e1 e2
    go_wp2_with fail
    go_ret
    exact ⟨by rw [Hz.out]; rfl, GF.out⟩

end Go.Proofs.Ytcgkflddipflbaa
