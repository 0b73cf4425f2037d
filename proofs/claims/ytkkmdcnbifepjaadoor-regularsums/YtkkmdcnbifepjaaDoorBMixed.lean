/- det.checkBoth, det.Mixed. -/
import Derived.Test.YtkkmdcnbifepjaaDoorBBlend
import Derived.Test.YtkkmdcnbifepjaaDoorTls
import Derived.Test.YtkkmdcnbifepjaaDoorHWr
namespace Go.Proofs.YtkkmdcnbifepjaaDoor
open Go.RowKit
set_option linter.unusedVariables false

/-- What is wrong with two. -/
def bothF (d e : Dfa) : Int := if checkF d ≠ 0 then checkF d else if checkF e ≠ 0 then checkF e else if d.L ≠ e.L then 3 else 0

set_option maxHeartbeats 1600000 in
set_option maxRecDepth 100000 in
theorem checkBoth_any (L S L' S' : Int) (R R' : List (List Int)) (M M' : List Int) (a a' e e' : Option Addr) (c c' f f' : Nat) (w : World) (h : DetAt w ⟨L, S, R, M⟩ a a') (h2 : DetAt w ⟨L', S', R', M'⟩ e e') :
    Calls Tryd.prog 30 #[detV L S a R.length c a' M.length c', detV L' S' e R'.length f e' M'.length f'] w (Says (.int .i64 (bothF ⟨L, S, R, M⟩ ⟨L', S', R', M'⟩)) w) := by
  have HC : Hid (∀ W, w.grownBy W none → Calls Tryd.prog 37 #[detV L S a R.length c a' M.length c'] W (Says (.int .i64 (checkF ⟨L, S, R, M⟩)) W)) := fun W hW => check_any L S R M a a' c c' W (h.grown hW)
  have HC2 : Hid (∀ W, w.grownBy W none → Calls Tryd.prog 37 #[detV L' S' e R'.length f e' M'.length f'] W (Says (.int .i64 (checkF ⟨L', S', R', M'⟩)) W)) := fun W hW => check_any L' S' R' M' e e' f f' W (h2.grown hW)
  obtain ⟨z, hz⟩ : ∃ z, bothF ⟨L, S, R, M⟩ ⟨L', S', R', M'⟩ = z := ⟨_, rfl⟩
  rw [hz]
  unfold bothF at hz
  simp only at hz
  generalize checkF ⟨L, S, R, M⟩ = y at *
  generalize checkF ⟨L', S', R', M'⟩ = y' at *
  have HZ : Hid (_ = z) := hz
  obtain ⟨W0, hW0, g0, s0, bx0⟩ := box_new w (.int .i64 L) (.int .i64 S) (.slice a R.length c) (.slice a' M.length c') 25
  obtain ⟨W1, hW1, g1, s1, bx1⟩ := box_new W0 (.int .i64 L') (.int .i64 S') (.slice e R'.length f) (.slice e' M'.length f') 25
  rw [s0] at bx1
  have HW1 : Hid (W1 = (w.alloc (.cells #[.int .i64 L, .int .i64 S, .slice a R.length c, .slice a' M.length c'] 25)).alloc (.cells #[.int .i64 L', .int .i64 S', .slice e R'.length f, .slice e' M'.length f'] 25)) := by show _ = _; rw [hW1, hW0]
  have G1 : Hid (w.grownBy W1 none) := grown_trans g0 g1
  have Ba : Hid (∀ W', W1.grownBy W' none → W'.cell? ⟨w.heap.size, 0, none⟩ = some (.int .i64 L) ∧ W'.cell? ⟨w.heap.size, 1, none⟩ = some (.int .i64 S) ∧ W'.cell? ⟨w.heap.size, 2, none⟩ = some (.slice a R.length c) ∧ W'.cell? ⟨w.heap.size, 3, none⟩ = some (.slice a' M.length c')) := fun W' hW' => bx0 W' (grown_trans g1 hW')
  have Bb : Hid (∀ W', W1.grownBy W' none → W'.cell? ⟨w.heap.size + 1, 0, none⟩ = some (.int .i64 L') ∧ W'.cell? ⟨w.heap.size + 1, 1, none⟩ = some (.int .i64 S') ∧ W'.cell? ⟨w.heap.size + 1, 2, none⟩ = some (.slice e R'.length f) ∧ W'.cell? ⟨w.heap.size + 1, 3, none⟩ = some (.slice e' M'.length f')) := bx1
  clear h h2 hW0 hW1 g0 g1 s0 s1 bx0 bx1 hz
  go_enter Tryd.func30, Tryd.ntmps30
  go_wp2_with fail
  rw [← HW1.out]
  refine (HC.out _ G1.out).mono ?_
  rintro E w2 ⟨rfl, hg2⟩
  have G2 : Hid (W1.grownBy w2 none) := hg2
  by_cases hy : y = 0
  · subst hy
    obtain ⟨b0, b1, b2, b3⟩ := Bb.out _ hg2
    clear hg2
    go_wp2_with fail
    refine (HC2.out _ (grown_trans G1.out G2.out)).mono ?_
    rintro E w3 ⟨rfl, hg3⟩
    have G3 : Hid (W1.grownBy w3 none) := grown_trans G2.out hg3
    by_cases hy' : y' = 0
    · subst hy'
      obtain ⟨d0, _, _, _⟩ := Bb.out _ G3.out
      obtain ⟨c0, _, _, _⟩ := Ba.out _ G3.out
      clear hg3 b0 b1 b2 b3
      by_cases hL : L = L'
      · have f1 : (L != L') = false := by simpa using hL
        go_wp2_with fail
        go_ret
        exact ⟨by rw [← HZ.out]; simp [hL], grown_trans G1.out G3.out⟩
      · have f1 : (L != L') = true := by simpa using hL
        go_wp2_with fail
        go_ret
        exact ⟨by rw [← HZ.out]; simp [hL], grown_trans G1.out G3.out⟩
    · have f1 : (y' != 0) = true := by simpa using hy'
      clear hg3 b0 b1 b2 b3
      go_wp2_with fail
      go_ret
      exact ⟨by rw [← HZ.out]; simp [hy'], grown_trans G1.out G3.out⟩
  · have f1 : (y != 0) = true := by simpa using hy
    clear hg2
    go_wp2_with fail
    go_ret
    exact ⟨by rw [← HZ.out]; simp [hy], grown_trans G1.out G2.out⟩

/-- What Mixed answers, but for the automaton. -/
def mixF (d e : Dfa) (t : Int) : Int := if bothF d e ≠ 0 then bothF d e else if t < 0 ∨ 15 < t then 2 else if 3000 < d.R.length * e.R.length then 7 else 0
theorem bothF_good {d e : Dfa} (h : bothF d e = 0) : Good d ∧ Good e ∧ d.L = e.L := by
  unfold bothF at h
  by_cases h1 : checkF d = 0
  · by_cases h2 : checkF e = 0
    · by_cases h3 : d.L = e.L
      · exact ⟨good_of_check h1, good_of_check h2, h3⟩
      · simp [h1, h2, h3] at h
    · simp [h1, h2] at h
  · simp [h1] at h

set_option maxHeartbeats 1600000 in
set_option maxRecDepth 100000 in
theorem mixed_bad (L S L' S' t : Int) (R R' : List (List Int)) (M M' : List Int) (a a' e e' : Option Addr) (c c' f f' : Nat) (w : World) (h : DetAt w ⟨L, S, R, M⟩ a a') (h2 : DetAt w ⟨L', S', R', M'⟩ e e') (hb : mixF ⟨L, S, R, M⟩ ⟨L', S', R', M'⟩ t ≠ 0) :
    Calls Tryd.prog 14 #[detV L S a R.length c a' M.length c', detV L' S' e R'.length f e' M'.length f', .int .i64 t] w (LeastBPost (mixF ⟨L, S, R, M⟩ ⟨L', S', R', M'⟩ t) w) := by
  have HC : Hid (∀ W, w.grownBy W none → Calls Tryd.prog 30 #[detV L S a R.length c a' M.length c', detV L' S' e R'.length f e' M'.length f'] W (Says (.int .i64 (bothF ⟨L, S, R, M⟩ ⟨L', S', R', M'⟩)) W)) := fun W hW => checkBoth_any L S L' S' R R' M M' a a' e e' c c' f f' W (h.grown hW) (h2.grown hW)
  have HGd : Hid (bothF ⟨L, S, R, M⟩ ⟨L', S', R', M'⟩ = 0 → Good ⟨L, S, R, M⟩ ∧ Good ⟨L', S', R', M'⟩ ∧ L = L') := bothF_good
  obtain ⟨z, hz⟩ : ∃ z, mixF ⟨L, S, R, M⟩ ⟨L', S', R', M'⟩ t = z := ⟨_, rfl⟩
  rw [hz] at hb ⊢
  unfold mixF at hz
  simp only at hz
  generalize bothF ⟨L, S, R, M⟩ ⟨L', S', R', M'⟩ = y at *
  have HZ : Hid (_ = z) := hz
  have HB : Hid (z ≠ 0) := hb
  obtain ⟨W0, hW0, g0, s0, bx0⟩ := box_new w (.int .i64 L) (.int .i64 S) (.slice a R.length c) (.slice a' M.length c') 25
  obtain ⟨W1, hW1, g1, s1, bx1⟩ := box_new W0 (.int .i64 L') (.int .i64 S') (.slice e R'.length f) (.slice e' M'.length f') 25
  obtain ⟨W2, hW2⟩ : ∃ W2, W2 = W1.alloc (.cells #[.int .i64 0, .int .i64 0, .slice none 0 0, .slice none 0 0] 25) := ⟨_, rfl⟩
  have g2 : W1.grownBy W2 none := by rw [hW2]; exact grown_alloc _ _
  have HS2 : Hid (W2.heap.size = w.heap.size + 3) := by show _ = _; rw [hW2, World.size_alloc, s1, s0]
  have K2 : Hid (W2.heap[w.heap.size + 2]? = some (.cells #[.int .i64 0, .int .i64 0, .slice none 0 0, .slice none 0 0] 25 (0, 0))) := by
    have h1 := heap_alloc_new W1 (.cells #[.int .i64 0, .int .i64 0, .slice none 0 0, .slice none 0 0] 25)
    rw [← hW2, s1, s0] at h1
    exact h1
  rw [s0] at bx1
  have HW2 : Hid (W2 = ((w.alloc (.cells #[.int .i64 L, .int .i64 S, .slice a R.length c, .slice a' M.length c'] 25)).alloc (.cells #[.int .i64 L', .int .i64 S', .slice e R'.length f, .slice e' M'.length f'] 25)).alloc (.cells #[.int .i64 0, .int .i64 0, .slice none 0 0, .slice none 0 0] 25)) := by show _ = _; rw [hW2, hW1, hW0]
  have G2 : Hid (w.grownBy W2 none) := grown_trans g0 (grown_trans g1 g2)
  have Ba : Hid (∀ W', W2.grownBy W' none → W'.cell? ⟨w.heap.size, 0, none⟩ = some (.int .i64 L) ∧ W'.cell? ⟨w.heap.size, 1, none⟩ = some (.int .i64 S) ∧ W'.cell? ⟨w.heap.size, 2, none⟩ = some (.slice a R.length c) ∧ W'.cell? ⟨w.heap.size, 3, none⟩ = some (.slice a' M.length c')) := fun W' hW' => bx0 W' (grown_trans g1 (grown_trans g2 hW'))
  have Bb : Hid (∀ W', W2.grownBy W' none → W'.cell? ⟨w.heap.size + 1, 0, none⟩ = some (.int .i64 L') ∧ W'.cell? ⟨w.heap.size + 1, 1, none⟩ = some (.int .i64 S') ∧ W'.cell? ⟨w.heap.size + 1, 2, none⟩ = some (.slice e R'.length f) ∧ W'.cell? ⟨w.heap.size + 1, 3, none⟩ = some (.slice e' M'.length f')) := fun W' hW' => bx1 W' (grown_trans g2 hW')
  clear h h2 hW0 hW1 hW2 g0 g1 g2 s0 s1 bx0 bx1 hz hb
  go_enter Tryd.func14, Tryd.ntmps14
  go_wp2_with fail
  rw [← HW2.out]
  refine (HC.out _ G2.out).mono ?_
  rintro E w3 ⟨rfl, hg3⟩
  have K3 : Hid (w3.heap[w.heap.size + 2]? = some (.cells #[.int .i64 0, .int .i64 0, .slice none 0 0, .slice none 0 0] 25 (0, 0))) := (hg3.block _ (by rw [HS2.out]; omega) (by simp)).trans K2.out
  have G3 : Hid (w.grownBy w3 none) := grown_trans G2.out hg3
  by_cases hy : y = 0
  · subst hy
    obtain ⟨hG, hG2, hLL⟩ := HGd.out rfl
    have hn3 : R.length ≤ 3000 := hG.n3
    have hn3' : R'.length ≤ 3000 := hG2.n3
    obtain ⟨N, hN⟩ : ∃ N, R.length * R'.length = N := ⟨_, rfl⟩
    have hN9 : N ≤ 9000000 := by have h2 := Nat.mul_le_mul hn3 hn3'; omega
    have hmulw : IntKind.i64.wrap ((R.length : Int) * (R'.length : Int)) = (N : Int) := by rw [show (R.length : Int) * (R'.length : Int) = (N : Int) by rw [← hN]; simp, IntKind.wrap_i64]; omega
    have HZ2 : Hid ((if t < 0 ∨ 15 < t then 2 else if 3000 < N then 7 else 0) = z) := by
      have h1 := HZ.out
      rw [hN] at h1
      show _ = _
      simpa using h1
    clear hLL hG hG2 HZ hN
    obtain ⟨_, _, a2, _⟩ := Ba.out _ hg3
    obtain ⟨_, _, e2, _⟩ := Bb.out _ hg3
    by_cases h1 : t < 0
    · have hz2 : z = 2 := by rw [← HZ2.out, if_pos (.inl h1)]
      subst hz2
      clear hg3
      obtain ⟨r0, r1, r2, r3, rz⟩ := block_cells K3.out
      have rz0 := rz 0
      have rz1 := rz 1
      have rz2 := rz 2
      have rz3 := rz 3
      obtain ⟨W9, hW9, hg9, q0, q1, q2, q3⟩ := det_store K3.out (.int .i64 0) (.int .i64 0) (.slice none 0 0) (.slice none 0 0)
      have G9 : Hid (w.grownBy W9 none) := grown_new G3.out hg9 (by omega)
      clear rz hg9
      go_wp2_with fail
      rw [← hW9]
      exact bodyPost_ret (v := .tuple #[.agg #[.int .i64 0, .int .i64 0, .slice none 0 0, .slice none 0 0], .int .i64 2]) (by simp [results, Tryd.results14, go_sem, q0, q1, q2, q3]) rfl ⟨rfl, G9.out⟩
    · by_cases h2 : 15 < t
      · have hz2 : z = 2 := by rw [← HZ2.out, if_pos (.inr h2)]
        subst hz2
        clear hg3
        obtain ⟨r0, r1, r2, r3, rz⟩ := block_cells K3.out
        have rz0 := rz 0
        have rz1 := rz 1
        have rz2 := rz 2
        have rz3 := rz 3
        obtain ⟨W9, hW9, hg9, q0, q1, q2, q3⟩ := det_store K3.out (.int .i64 0) (.int .i64 0) (.slice none 0 0) (.slice none 0 0)
        have G9 : Hid (w.grownBy W9 none) := grown_new G3.out hg9 (by omega)
        clear rz hg9
        go_wp2_with fail
        rw [← hW9]
        exact bodyPost_ret (v := .tuple #[.agg #[.int .i64 0, .int .i64 0, .slice none 0 0, .slice none 0 0], .int .i64 2]) (by simp [results, Tryd.results14, go_sem, q0, q1, q2, q3]) rfl ⟨rfl, G9.out⟩
      · have h3 : 3000 < N := by
          rcases Nat.lt_or_ge 3000 N with h3 | h3
          · exact h3
          · exact absurd (by rw [← HZ2.out, if_neg (by omega), if_neg (by omega)]) HB.out
        have hz2 : z = 7 := by rw [← HZ2.out, if_neg (by omega), if_pos h3]
        subst hz2
        have h3i : (3000 : Int) < (N : Int) := by omega
        clear hg3
        obtain ⟨r0, r1, r2, r3, rz⟩ := block_cells K3.out
        have rz0 := rz 0
        have rz1 := rz 1
        have rz2 := rz 2
        have rz3 := rz 3
        obtain ⟨W9, hW9, hg9, q0, q1, q2, q3⟩ := det_store K3.out (.int .i64 0) (.int .i64 0) (.slice none 0 0) (.slice none 0 0)
        have G9 : Hid (w.grownBy W9 none) := grown_new G3.out hg9 (by omega)
        clear rz hg9
        go_wp2_with fail
        rw [← hW9]
        exact bodyPost_ret (v := .tuple #[.agg #[.int .i64 0, .int .i64 0, .slice none 0 0, .slice none 0 0], .int .i64 7]) (by simp [results, Tryd.results14, go_sem, q0, q1, q2, q3]) rfl ⟨rfl, G9.out⟩
  · have f1 : (y != 0) = true := by simpa using hy
    have hz2 : z = y := by rw [← HZ.out, if_pos hy]
    subst hz2
    clear hg3
    obtain ⟨r0, r1, r2, r3, rz⟩ := block_cells K3.out
    have rz0 := rz 0
    have rz1 := rz 1
    have rz2 := rz 2
    have rz3 := rz 3
    obtain ⟨W9, hW9, hg9, q0, q1, q2, q3⟩ := det_store K3.out (.int .i64 0) (.int .i64 0) (.slice none 0 0) (.slice none 0 0)
    have G9 : Hid (w.grownBy W9 none) := grown_new G3.out hg9 (by omega)
    clear rz hg9
    go_wp2_with fail
    rw [← hW9]
    exact bodyPost_ret (v := .tuple #[.agg #[.int .i64 0, .int .i64 0, .slice none 0 0, .slice none 0 0], .int .i64 z]) (by simp [results, Tryd.results14, go_sem, q0, q1, q2, q3]) rfl ⟨rfl, G9.out⟩

set_option maxHeartbeats 1600000 in
set_option maxRecDepth 100000 in
theorem mixed_good (S S' t : Int) (l : Nat) (R R' : List (List Int)) (M M' : List Int) (a a' e e' : Option Addr) (c c' f f' : Nat) (w : World) (h : DetAt w ⟨l, S, R, M⟩ a a') (hG : Good ⟨l, S, R, M⟩) (h2 : DetAt w ⟨l, S', R', M'⟩ e e') (hG2 : Good ⟨l, S', R', M'⟩) (ht : 0 ≤ t ∧ t ≤ 15) (hN : R.length * R'.length ≤ 3000) :
    Calls Tryd.prog 14 #[detV l S a R.length c a' M.length c', detV l S' e R'.length f e' M'.length f', .int .i64 t] w
      (LeastGPost (nx2 ⟨l, S, R, M⟩ ⟨l, S', R', M'⟩ R'.length) (mk2 t ⟨l, S, R, M⟩ ⟨l, S', R', M'⟩ R'.length) (R.length * R'.length) l (S.toNat * R'.length + S'.toNat) w) := by
  have HC : Hid (∀ W, w.grownBy W none → Calls Tryd.prog 30 #[detV l S a R.length c a' M.length c', detV l S' e R'.length f e' M'.length f'] W (Says (.int .i64 0) W)) := fun W hW => by
    have h1 := checkBoth_any l S l S' R R' M M' a a' e e' c c' f f' W (h.grown hW) (h2.grown hW)
    have e1 : bothF ⟨l, S, R, M⟩ ⟨l, S', R', M'⟩ = 0 := by unfold bothF; rw [checkF_good hG, checkF_good hG2]; simp
    rw [e1] at h1
    exact h1
  have HBl : Hid (∀ W, w.grownBy W none → Calls Tryd.prog 31 #[detV l S a R.length c a' M.length c', detV l S' e R'.length f e' M'.length f', .int .i64 t] W (LeastPost (nx2 ⟨l, S, R, M⟩ ⟨l, S', R', M'⟩ R'.length) (mk2 t ⟨l, S, R, M⟩ ⟨l, S', R', M'⟩ R'.length) (R.length * R'.length) l (S.toNat * R'.length + S'.toNat) W)) := fun W hW => blend_any S S' t l R R' M M' a a' e e' c c' f f' W (h.grown hW) hG (h2.grown hW) hG2 ht hN
  generalize nx2 ⟨l, S, R, M⟩ ⟨l, S', R', M'⟩ R'.length = δ at *
  generalize mk2 t ⟨l, S, R, M⟩ ⟨l, S', R', M'⟩ R'.length = mk at *
  generalize S.toNat * R'.length + S'.toNat = s00 at *
  obtain ⟨N, hNe⟩ : ∃ N, R.length * R'.length = N := ⟨_, rfl⟩
  rw [hNe] at hN HBl ⊢
  have hmulw : IntKind.i64.wrap ((R.length : Int) * (R'.length : Int)) = (N : Int) := by rw [show (R.length : Int) * (R'.length : Int) = (N : Int) by rw [← hNe]; simp, IntKind.wrap_i64]; omega
  have ht1 : ¬ t < 0 := by omega
  have ht2 : ¬ 15 < t := by omega
  have h3i : ¬ (3000 : Int) < (N : Int) := by omega
  obtain ⟨W0, hW0, g0, s0, bx0⟩ := box_new w (.int .i64 l) (.int .i64 S) (.slice a R.length c) (.slice a' M.length c') 25
  obtain ⟨W1, hW1, g1, s1, bx1⟩ := box_new W0 (.int .i64 l) (.int .i64 S') (.slice e R'.length f) (.slice e' M'.length f') 25
  obtain ⟨W2, hW2⟩ : ∃ W2, W2 = W1.alloc (.cells #[.int .i64 0, .int .i64 0, .slice none 0 0, .slice none 0 0] 25) := ⟨_, rfl⟩
  have g2 : W1.grownBy W2 none := by rw [hW2]; exact grown_alloc _ _
  have HS2 : Hid (W2.heap.size = w.heap.size + 3) := by show _ = _; rw [hW2, World.size_alloc, s1, s0]
  have K2 : Hid (W2.heap[w.heap.size + 2]? = some (.cells #[.int .i64 0, .int .i64 0, .slice none 0 0, .slice none 0 0] 25 (0, 0))) := by
    have h1 := heap_alloc_new W1 (.cells #[.int .i64 0, .int .i64 0, .slice none 0 0, .slice none 0 0] 25)
    rw [← hW2, s1, s0] at h1
    exact h1
  rw [s0] at bx1
  have HW2 : Hid (W2 = ((w.alloc (.cells #[.int .i64 l, .int .i64 S, .slice a R.length c, .slice a' M.length c'] 25)).alloc (.cells #[.int .i64 l, .int .i64 S', .slice e R'.length f, .slice e' M'.length f'] 25)).alloc (.cells #[.int .i64 0, .int .i64 0, .slice none 0 0, .slice none 0 0] 25)) := by show _ = _; rw [hW2, hW1, hW0]
  have G2 : Hid (w.grownBy W2 none) := grown_trans g0 (grown_trans g1 g2)
  have Ba : Hid (∀ W', W2.grownBy W' none → W'.cell? ⟨w.heap.size, 0, none⟩ = some (.int .i64 l) ∧ W'.cell? ⟨w.heap.size, 1, none⟩ = some (.int .i64 S) ∧ W'.cell? ⟨w.heap.size, 2, none⟩ = some (.slice a R.length c) ∧ W'.cell? ⟨w.heap.size, 3, none⟩ = some (.slice a' M.length c')) := fun W' hW' => bx0 W' (grown_trans g1 (grown_trans g2 hW'))
  have Bb : Hid (∀ W', W2.grownBy W' none → W'.cell? ⟨w.heap.size + 1, 0, none⟩ = some (.int .i64 l) ∧ W'.cell? ⟨w.heap.size + 1, 1, none⟩ = some (.int .i64 S') ∧ W'.cell? ⟨w.heap.size + 1, 2, none⟩ = some (.slice e R'.length f) ∧ W'.cell? ⟨w.heap.size + 1, 3, none⟩ = some (.slice e' M'.length f')) := fun W' hW' => bx1 W' (grown_trans g2 hW')
  clear h h2 hW0 hW1 hW2 g0 g1 g2 s0 s1 bx0 bx1 hG hG2 hNe ht hN
  go_enter Tryd.func14, Tryd.ntmps14
  go_wp2_with fail
  rw [← HW2.out]
  refine (HC.out _ G2.out).mono ?_
  rintro E w3 ⟨rfl, hg3⟩
  have K3 : Hid (w3.heap[w.heap.size + 2]? = some (.cells #[.int .i64 0, .int .i64 0, .slice none 0 0, .slice none 0 0] 25 (0, 0))) := (hg3.block _ (by rw [HS2.out]; omega) (by simp)).trans K2.out
  have G3 : Hid (w.grownBy w3 none) := grown_trans G2.out hg3
  have HS3 : Hid (w.heap.size + 3 ≤ w3.heap.size) := by show _ ≤ _; rw [← HS2.out]; exact hg3.size
  obtain ⟨a0, a1, a2, a3⟩ := Ba.out _ hg3
  obtain ⟨e0, e1, e2, e3⟩ := Bb.out _ hg3
  clear hg3
  go_wp2_with fail
  refine (HBl.out _ G3.out).mono ?_
  rintro E w4 ⟨aR, cR, aM, cM, rs, M4, rfl, h2, h3, h4, h5, h6, h7⟩
  have K4 : w4.heap[w.heap.size + 2]? = some (.cells #[.int .i64 0, .int .i64 0, .slice none 0 0, .slice none 0 0] 25 (0, 0)) := (h7.block _ (by have := HS3.out; omega) (by simp)).trans K3.out
  obtain ⟨r0, r1, r2, r3, rz⟩ := block_cells K4
  have rz0 := rz 0
  have rz1 := rz 1
  have rz2 := rz 2
  have rz3 := rz 3
  obtain ⟨W9, hW9, hg9, q0, q1, q2, q3⟩ := det_store K4 (.int .i64 (l : Int)) (.int .i64 0) (.slice aR rs.length cR) (.slice aM M4.length cM)
  have Fin : Hid (LeastPost δ mk N l s00 w (.returned (.agg #[.int .i64 l, .int .i64 0, .slice aR rs.length cR, .slice aM M4.length cM])) W9) :=
    ⟨aR, cR, aM, cM, rs, M4, rfl, h2, h3, h4, h5, (h6.below hg9 (by have := HS3.out; omega)).base (by have := HS3.out; omega), grown_new (grown_trans G3.out h7) hg9 (by omega)⟩
  clear h2 h3 h4 h5 h6 h7 hg9 rz a0 a1 a2 a3 e0 e1 e2 e3 K4
  generalize rs.length = nr at *
  generalize M4.length = nm at *
  go_wp2_with fail
  rw [← hW9]
  exact bodyPost_ret (v := .tuple #[.agg #[.int .i64 l, .int .i64 0, .slice aR nr cR, .slice aM nm cM], .int .i64 0]) (by simp [results, Tryd.results14, go_sem, q0, q1, q2, q3]) rfl ⟨_, rfl, Fin.out⟩

end Go.Proofs.YtkkmdcnbifepjaaDoor
