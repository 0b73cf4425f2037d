/- monoid.small, the law's small. -/
import Derived.Test.YtofjboelplknhaaHWr
import Derived.Test.YtofjboelplknhaaSays
import Derived.Test.YtofjboelplknhaaRLeast
import Derived.Test.YtofjboelplknhaaDRCheck
namespace Go.Proofs.Ytofjboelplknhaa
open Go.RowKit
set_option linter.unusedVariables false

set_option maxHeartbeats 1600000 in
set_option maxRecDepth 100000 in
theorem small_bad (L S y : Int) (a a' : Option Addr) (n m c c' : Nat) (w : World) (hy : y ≠ 0)
    (HL : Hid (∀ W, w.grownBy W none → Calls Try.prog 10 #[detV L S a n c a' m c'] W (LeastBPost y W))) :
    Calls Try.prog 50 #[detV L S a n c a' m c'] w (LeastBPost y w) := by
  have f1 : (y != 0) = true := by simpa using hy
  have f2 : (y == 0) = false := by simpa using hy
  obtain ⟨W1, hW1, hs1, g1, k1⟩ := two_boxes w (.cells #[.int .i64 L, .int .i64 S, .slice a n c, .slice a' m c'] 25) #[.int .i64 0, .int .i64 0, .slice none 0 0, .slice none 0 0] 25
  have HW1 : Hid (W1 = _) := hW1
  have HS1 : Hid (W1.heap.size = w.heap.size + 2) := hs1
  have G1 : Hid (w.grownBy W1 none) := g1
  have K1 : Hid (∀ W, W1.grownBy W none → W.heap[w.heap.size + 1]? = some (.cells #[.int .i64 0, .int .i64 0, .slice none 0 0, .slice none 0 0] 25 (0, 0))) := fun W hW => (hW.block _ (by rw [hs1]; omega) (by simp)).trans k1
  have Bd : Hid (∀ W, W1.grownBy W none → W.cell? ⟨w.heap.size, 0, none⟩ = some (.int .i64 L) ∧ W.cell? ⟨w.heap.size, 1, none⟩ = some (.int .i64 S) ∧ W.cell? ⟨w.heap.size, 2, none⟩ = some (.slice a n c) ∧ W.cell? ⟨w.heap.size, 3, none⟩ = some (.slice a' m c')) := fun W hW => box4 (grown_trans (by rw [hW1]; exact grown_alloc _ _) hW)
  clear hW1 hs1 g1 k1
  go_enter Try.func50, Try.ntmps50
  go_wp2_with fail
  rw [← HW1.out]
  refine (HL.out _ G1.out).mono ?_
  rintro E w2 ⟨rfl, hg2⟩
  have GE : Hid (W1.grownBy (w2.alloc (.cells #[.int .i64 0, .int .i64 0, .slice none 0 0, .slice none 0 0] 25)) none) := grown_trans hg2 (grown_alloc _ _)
  obtain ⟨r0, r1, r2, r3, rz⟩ := block_cells (K1.out _ GE.out)
  have rz0 := rz 0
  have rz1 := rz 1
  have rz2 := rz 2
  have rz3 := rz 3
  obtain ⟨W9, hW9, hg9, q0, q1, q2, q3⟩ := det_store (K1.out _ GE.out) (.int .i64 0) (.int .i64 0) (.slice none 0 0) (.slice none 0 0)
  have G9 : Hid (w.grownBy W9 none) := grown_new (grown_trans G1.out GE.out) hg9 (by omega)
  clear hg2 rz hg9
  go_wp2_with fail
  rw [← hW9]
  exact bodyPost_ret (v := .tuple #[.agg #[.int .i64 0, .int .i64 0, .slice none 0 0, .slice none 0 0], .int .i64 y]) (by simp [results, Try.results50, go_sem, q0, q1, q2, q3]) rfl ⟨rfl, G9.out⟩

set_option maxHeartbeats 1600000 in
set_option maxRecDepth 100000 in
theorem small_big (L S : Int) (l : Nat) (a a' : Option Addr) (n m c c' : Nat) (w : World) (δ : Nat → Nat → Nat) (mk : Nat → Bool) (nn s0 N : Nat) (hN : ∀ R M, LeastOf δ mk nn l s0 R M → R.length = N) (h5 : 5 < N) (hn3 : nn ≤ 3000)
    (HL : Hid (∀ W, w.grownBy W none → Calls Try.prog 10 #[detV L S a n c a' m c'] W (LeastGPost δ mk nn l s0 W))) :
    Calls Try.prog 50 #[detV L S a n c a' m c'] w (LeastBPost 1 w) := by
  obtain ⟨W1, hW1, hs1, g1, k1⟩ := two_boxes w (.cells #[.int .i64 L, .int .i64 S, .slice a n c, .slice a' m c'] 25) #[.int .i64 0, .int .i64 0, .slice none 0 0, .slice none 0 0] 25
  have HW1 : Hid (W1 = _) := hW1
  have HS1 : Hid (W1.heap.size = w.heap.size + 2) := hs1
  have G1 : Hid (w.grownBy W1 none) := g1
  have K1 : Hid (∀ W, W1.grownBy W none → W.heap[w.heap.size + 1]? = some (.cells #[.int .i64 0, .int .i64 0, .slice none 0 0, .slice none 0 0] 25 (0, 0))) := fun W hW => (hW.block _ (by rw [hs1]; omega) (by simp)).trans k1
  have Bd : Hid (∀ W, W1.grownBy W none → W.cell? ⟨w.heap.size, 0, none⟩ = some (.int .i64 L) ∧ W.cell? ⟨w.heap.size, 1, none⟩ = some (.int .i64 S) ∧ W.cell? ⟨w.heap.size, 2, none⟩ = some (.slice a n c) ∧ W.cell? ⟨w.heap.size, 3, none⟩ = some (.slice a' m c')) := fun W hW => box4 (grown_trans (by rw [hW1]; exact grown_alloc _ _) hW)
  clear hW1 hs1 g1 k1
  go_enter Try.func50, Try.ntmps50
  go_wp2_with fail
  rw [← HW1.out]
  refine (HL.out _ G1.out).mono ?_
  rintro E w2 ⟨v, rfl, aR, cR, aM, cM, rs, M9, hv, hlo, hrn, hml, hrl, ho, hg2⟩
  cases hv
  have hlen := hN _ _ hlo
  rw [List.length_map] at hlen
  have hi : (5 : Int) < (rs.length : Int) := by omega
  have GE : Hid (W1.grownBy (w2.alloc (.cells #[.int .i64 l, .int .i64 0, .slice aR rs.length cR, .slice aM M9.length cM] 25)) none) := grown_trans hg2 (grown_alloc _ _)
  obtain ⟨r0, r1, r2, r3, rz⟩ := block_cells (K1.out _ GE.out)
  have rz0 := rz 0
  have rz1 := rz 1
  have rz2 := rz 2
  have rz3 := rz 3
  obtain ⟨W9, hW9, hg9, q0, q1, q2, q3⟩ := det_store (K1.out _ GE.out) (.int .i64 0) (.int .i64 0) (.slice none 0 0) (.slice none 0 0)
  have G9 : Hid (w.grownBy W9 none) := grown_new (grown_trans G1.out GE.out) hg9 (by omega)
  clear hg2 rz hg9 hlen hlo hrn hml hrl ho
  generalize rs.length = nr at *
  generalize M9.length = nm at *
  go_wp2_with fail
  rw [← hW9]
  exact bodyPost_ret (v := .tuple #[.agg #[.int .i64 0, .int .i64 0, .slice none 0 0, .slice none 0 0], .int .i64 1]) (by simp [results, Try.results50, go_sem, q0, q1, q2, q3]) rfl ⟨rfl, G9.out⟩

set_option maxHeartbeats 1600000 in
set_option maxRecDepth 100000 in
theorem small_ok (L S : Int) (l : Nat) (a a' : Option Addr) (n m c c' : Nat) (w : World) (δ : Nat → Nat → Nat) (mk : Nat → Bool) (nn s0 N : Nat) (hN : ∀ R M, LeastOf δ mk nn l s0 R M → R.length = N) (h5 : N ≤ 5)
    (HL : Hid (∀ W, w.grownBy W none → Calls Try.prog 10 #[detV L S a n c a' m c'] W (LeastGPost δ mk nn l s0 W))) :
    Calls Try.prog 50 #[detV L S a n c a' m c'] w (LeastGPost δ mk nn l s0 w) := by
  obtain ⟨W1, hW1, hs1, g1, k1⟩ := two_boxes w (.cells #[.int .i64 L, .int .i64 S, .slice a n c, .slice a' m c'] 25) #[.int .i64 0, .int .i64 0, .slice none 0 0, .slice none 0 0] 25
  have HW1 : Hid (W1 = _) := hW1
  have HS1 : Hid (W1.heap.size = w.heap.size + 2) := hs1
  have G1 : Hid (w.grownBy W1 none) := g1
  have K1 : Hid (∀ W, W1.grownBy W none → W.heap[w.heap.size + 1]? = some (.cells #[.int .i64 0, .int .i64 0, .slice none 0 0, .slice none 0 0] 25 (0, 0))) := fun W hW => (hW.block _ (by rw [hs1]; omega) (by simp)).trans k1
  have Bd : Hid (∀ W, W1.grownBy W none → W.cell? ⟨w.heap.size, 0, none⟩ = some (.int .i64 L) ∧ W.cell? ⟨w.heap.size, 1, none⟩ = some (.int .i64 S) ∧ W.cell? ⟨w.heap.size, 2, none⟩ = some (.slice a n c) ∧ W.cell? ⟨w.heap.size, 3, none⟩ = some (.slice a' m c')) := fun W hW => box4 (grown_trans (by rw [hW1]; exact grown_alloc _ _) hW)
  clear hW1 hs1 g1 k1
  go_enter Try.func50, Try.ntmps50
  go_wp2_with fail
  rw [← HW1.out]
  refine (HL.out _ G1.out).mono ?_
  rintro E w2 ⟨v, rfl, aR, cR, aM, cM, rs, M9, hv, hlo, hrn, hml, hrl, ho, hg2⟩
  cases hv
  have hlen := hN _ _ hlo
  rw [List.length_map] at hlen
  have hi : ¬ (5 : Int) < (rs.length : Int) := by omega
  have GE : Hid (W1.grownBy (w2.alloc (.cells #[.int .i64 l, .int .i64 0, .slice aR rs.length cR, .slice aM M9.length cM] 25)) none) := grown_trans hg2 (grown_alloc _ _)
  obtain ⟨r0, r1, r2, r3, rz⟩ := block_cells (K1.out _ GE.out)
  have rz0 := rz 0
  have rz1 := rz 1
  have rz2 := rz 2
  have rz3 := rz 3
  obtain ⟨W9, hW9, hg9, q0, q1, q2, q3⟩ := det_store (K1.out _ GE.out) (.int .i64 l) (.int .i64 0) (.slice aR rs.length cR) (.slice aM M9.length cM)
  have G9 : Hid (w.grownBy W9 none) := grown_new (grown_trans G1.out GE.out) hg9 (by omega)
  have Fin : Hid (LeastPost δ mk nn l s0 w (.returned (.agg #[.int .i64 l, .int .i64 0, .slice aR rs.length cR, .slice aM M9.length cM])) W9) :=
    ⟨aR, cR, aM, cM, rs, M9, rfl, hlo, hrn, hml, hrl, ((ho.kept (grown_alloc _ _)).below hg9 (by rw [HS1.out]; omega)).base (by rw [HS1.out]; omega), G9.out⟩
  clear hg2 rz hg9 hlen hlo hrn hml hrl ho
  generalize rs.length = nr at *
  generalize M9.length = nm at *
  go_wp2_with fail
  rw [← hW9]
  exact bodyPost_ret (v := .tuple #[.agg #[.int .i64 l, .int .i64 0, .slice aR nr cR, .slice aM nm cM], .int .i64 0]) (by simp [results, Try.results50, go_sem, q0, q1, q2, q3]) rfl ⟨_, rfl, Fin.out⟩

set_option maxHeartbeats 1600000 in
set_option maxRecDepth 100000 in
theorem lsmall_bad (L S y : Int) (a a' : Option Addr) (n m c c' : Nat) (w : World) (hy : y ≠ 0)
    (HC : Hid (∀ W, w.grownBy W none → Calls Try.prog 13 #[detV L S a n c a' m c'] W (Says (.int .i64 y) W))) :
    Calls Try.prog 23 #[detV L S a n c a' m c'] w (LeastBPost y w) := by
  have f1 : (y != 0) = true := by simpa using hy
  have f2 : (y == 0) = false := by simpa using hy
  obtain ⟨W1, hW1, hs1, g1, k1⟩ := two_boxes w (.cells #[.int .i64 L, .int .i64 S, .slice a n c, .slice a' m c'] 25) #[.int .i64 0, .int .i64 0, .slice none 0 0, .slice none 0 0] 25
  have HW1 : Hid (W1 = _) := hW1
  have HS1 : Hid (W1.heap.size = w.heap.size + 2) := hs1
  have G1 : Hid (w.grownBy W1 none) := g1
  have K1 : Hid (∀ W, W1.grownBy W none → W.heap[w.heap.size + 1]? = some (.cells #[.int .i64 0, .int .i64 0, .slice none 0 0, .slice none 0 0] 25 (0, 0))) := fun W hW => (hW.block _ (by rw [hs1]; omega) (by simp)).trans k1
  have Bd : Hid (∀ W, W1.grownBy W none → W.cell? ⟨w.heap.size, 0, none⟩ = some (.int .i64 L) ∧ W.cell? ⟨w.heap.size, 1, none⟩ = some (.int .i64 S) ∧ W.cell? ⟨w.heap.size, 2, none⟩ = some (.slice a n c) ∧ W.cell? ⟨w.heap.size, 3, none⟩ = some (.slice a' m c')) := fun W hW => box4 (grown_trans (by rw [hW1]; exact grown_alloc _ _) hW)
  clear hW1 hs1 g1 k1
  go_enter Try.func23, Try.ntmps23
  go_wp2_with fail
  rw [← HW1.out]
  refine (HC.out _ G1.out).mono ?_
  rintro E w2 ⟨rfl, hg2⟩
  have GE : Hid (W1.grownBy w2 none) := hg2
  obtain ⟨r0, r1, r2, r3, rz⟩ := block_cells (K1.out _ GE.out)
  have rz0 := rz 0
  have rz1 := rz 1
  have rz2 := rz 2
  have rz3 := rz 3
  obtain ⟨W9, hW9, hg9, q0, q1, q2, q3⟩ := det_store (K1.out _ GE.out) (.int .i64 0) (.int .i64 0) (.slice none 0 0) (.slice none 0 0)
  have G9 : Hid (w.grownBy W9 none) := grown_new (grown_trans G1.out GE.out) hg9 (by omega)
  clear hg2 rz hg9
  go_wp2_with fail
  rw [← hW9]
  exact bodyPost_ret (v := .tuple #[.agg #[.int .i64 0, .int .i64 0, .slice none 0 0, .slice none 0 0], .int .i64 y]) (by simp [results, Try.results23, go_sem, q0, q1, q2, q3]) rfl ⟨rfl, G9.out⟩

set_option maxHeartbeats 1600000 in
set_option maxRecDepth 100000 in
theorem lsmall_big (L S : Int) (l : Nat) (a a' : Option Addr) (n m c c' : Nat) (w : World) (δ : Nat → Nat → Nat) (mk : Nat → Bool) (nn s0 N : Nat) (hN : ∀ R M, LeastOf δ mk nn l s0 R M → R.length = N) (h5 : 5 < N) (hn3 : nn ≤ 3000)
    (HC : Hid (∀ W, w.grownBy W none → Calls Try.prog 13 #[detV L S a n c a' m c'] W (Says (.int .i64 0) W)))
    (HL : Hid (∀ W, w.grownBy W none → Calls Try.prog 15 #[detV L S a n c a' m c'] W (LeastPost δ mk nn l s0 W))) :
    Calls Try.prog 23 #[detV L S a n c a' m c'] w (LeastBPost 1 w) := by
  obtain ⟨W1, hW1, hs1, g1, k1⟩ := two_boxes w (.cells #[.int .i64 L, .int .i64 S, .slice a n c, .slice a' m c'] 25) #[.int .i64 0, .int .i64 0, .slice none 0 0, .slice none 0 0] 25
  have HW1 : Hid (W1 = _) := hW1
  have HS1 : Hid (W1.heap.size = w.heap.size + 2) := hs1
  have G1 : Hid (w.grownBy W1 none) := g1
  have K1 : Hid (∀ W, W1.grownBy W none → W.heap[w.heap.size + 1]? = some (.cells #[.int .i64 0, .int .i64 0, .slice none 0 0, .slice none 0 0] 25 (0, 0))) := fun W hW => (hW.block _ (by rw [hs1]; omega) (by simp)).trans k1
  have Bd : Hid (∀ W, W1.grownBy W none → W.cell? ⟨w.heap.size, 0, none⟩ = some (.int .i64 L) ∧ W.cell? ⟨w.heap.size, 1, none⟩ = some (.int .i64 S) ∧ W.cell? ⟨w.heap.size, 2, none⟩ = some (.slice a n c) ∧ W.cell? ⟨w.heap.size, 3, none⟩ = some (.slice a' m c')) := fun W hW => box4 (grown_trans (by rw [hW1]; exact grown_alloc _ _) hW)
  clear hW1 hs1 g1 k1
  go_enter Try.func23, Try.ntmps23
  go_wp2_with fail
  rw [← HW1.out]
  refine (HC.out _ G1.out).mono ?_
  rintro E w1 ⟨rfl, hg1⟩
  have GC : Hid (W1.grownBy w1 none) := hg1
  obtain ⟨d0, d1, d2, d3⟩ := Bd.out _ hg1
  clear hg1
  go_wp2_with fail
  refine (HL.out _ (grown_trans G1.out GC.out)).mono ?_
  rintro E w2 ⟨aR, cR, aM, cM, rs, M9, rfl, hlo, hrn, hml, hrl, ho0, hg20⟩
  have hg2 : W1.grownBy w2 none := grown_trans GC.out hg20
  have ho := ho0.base GC.out.size
  have hlen := hN _ _ hlo
  rw [List.length_map] at hlen
  clear d0 d1 d2 d3 hg20 ho0
  have hi : (5 : Int) < (rs.length : Int) := by omega
  have GE : Hid (W1.grownBy (w2.alloc (.cells #[.int .i64 l, .int .i64 0, .slice aR rs.length cR, .slice aM M9.length cM] 25)) none) := grown_trans hg2 (grown_alloc _ _)
  obtain ⟨r0, r1, r2, r3, rz⟩ := block_cells (K1.out _ GE.out)
  have rz0 := rz 0
  have rz1 := rz 1
  have rz2 := rz 2
  have rz3 := rz 3
  obtain ⟨W9, hW9, hg9, q0, q1, q2, q3⟩ := det_store (K1.out _ GE.out) (.int .i64 0) (.int .i64 0) (.slice none 0 0) (.slice none 0 0)
  have G9 : Hid (w.grownBy W9 none) := grown_new (grown_trans G1.out GE.out) hg9 (by omega)
  clear hg2 rz hg9 hlen hlo hrn hml hrl ho
  generalize rs.length = nr at *
  generalize M9.length = nm at *
  go_wp2_with fail
  rw [← hW9]
  exact bodyPost_ret (v := .tuple #[.agg #[.int .i64 0, .int .i64 0, .slice none 0 0, .slice none 0 0], .int .i64 1]) (by simp [results, Try.results23, go_sem, q0, q1, q2, q3]) rfl ⟨rfl, G9.out⟩

set_option maxHeartbeats 1600000 in
set_option maxRecDepth 100000 in
theorem lsmall_ok (L S : Int) (l : Nat) (a a' : Option Addr) (n m c c' : Nat) (w : World) (δ : Nat → Nat → Nat) (mk : Nat → Bool) (nn s0 N : Nat) (hN : ∀ R M, LeastOf δ mk nn l s0 R M → R.length = N) (h5 : N ≤ 5)
    (HC : Hid (∀ W, w.grownBy W none → Calls Try.prog 13 #[detV L S a n c a' m c'] W (Says (.int .i64 0) W)))
    (HL : Hid (∀ W, w.grownBy W none → Calls Try.prog 15 #[detV L S a n c a' m c'] W (LeastPost δ mk nn l s0 W))) :
    Calls Try.prog 23 #[detV L S a n c a' m c'] w (LeastGPost δ mk nn l s0 w) := by
  obtain ⟨W1, hW1, hs1, g1, k1⟩ := two_boxes w (.cells #[.int .i64 L, .int .i64 S, .slice a n c, .slice a' m c'] 25) #[.int .i64 0, .int .i64 0, .slice none 0 0, .slice none 0 0] 25
  have HW1 : Hid (W1 = _) := hW1
  have HS1 : Hid (W1.heap.size = w.heap.size + 2) := hs1
  have G1 : Hid (w.grownBy W1 none) := g1
  have K1 : Hid (∀ W, W1.grownBy W none → W.heap[w.heap.size + 1]? = some (.cells #[.int .i64 0, .int .i64 0, .slice none 0 0, .slice none 0 0] 25 (0, 0))) := fun W hW => (hW.block _ (by rw [hs1]; omega) (by simp)).trans k1
  have Bd : Hid (∀ W, W1.grownBy W none → W.cell? ⟨w.heap.size, 0, none⟩ = some (.int .i64 L) ∧ W.cell? ⟨w.heap.size, 1, none⟩ = some (.int .i64 S) ∧ W.cell? ⟨w.heap.size, 2, none⟩ = some (.slice a n c) ∧ W.cell? ⟨w.heap.size, 3, none⟩ = some (.slice a' m c')) := fun W hW => box4 (grown_trans (by rw [hW1]; exact grown_alloc _ _) hW)
  clear hW1 hs1 g1 k1
  go_enter Try.func23, Try.ntmps23
  go_wp2_with fail
  rw [← HW1.out]
  refine (HC.out _ G1.out).mono ?_
  rintro E w1 ⟨rfl, hg1⟩
  have GC : Hid (W1.grownBy w1 none) := hg1
  obtain ⟨d0, d1, d2, d3⟩ := Bd.out _ hg1
  clear hg1
  go_wp2_with fail
  refine (HL.out _ (grown_trans G1.out GC.out)).mono ?_
  rintro E w2 ⟨aR, cR, aM, cM, rs, M9, rfl, hlo, hrn, hml, hrl, ho0, hg20⟩
  have hg2 : W1.grownBy w2 none := grown_trans GC.out hg20
  have ho := ho0.base GC.out.size
  have hlen := hN _ _ hlo
  rw [List.length_map] at hlen
  clear d0 d1 d2 d3 hg20 ho0
  have hi : ¬ (5 : Int) < (rs.length : Int) := by omega
  have GE : Hid (W1.grownBy (w2.alloc (.cells #[.int .i64 l, .int .i64 0, .slice aR rs.length cR, .slice aM M9.length cM] 25)) none) := grown_trans hg2 (grown_alloc _ _)
  obtain ⟨r0, r1, r2, r3, rz⟩ := block_cells (K1.out _ GE.out)
  have rz0 := rz 0
  have rz1 := rz 1
  have rz2 := rz 2
  have rz3 := rz 3
  obtain ⟨W9, hW9, hg9, q0, q1, q2, q3⟩ := det_store (K1.out _ GE.out) (.int .i64 l) (.int .i64 0) (.slice aR rs.length cR) (.slice aM M9.length cM)
  have G9 : Hid (w.grownBy W9 none) := grown_new (grown_trans G1.out GE.out) hg9 (by omega)
  have Fin : Hid (LeastPost δ mk nn l s0 w (.returned (.agg #[.int .i64 l, .int .i64 0, .slice aR rs.length cR, .slice aM M9.length cM])) W9) :=
    ⟨aR, cR, aM, cM, rs, M9, rfl, hlo, hrn, hml, hrl, ((ho.kept (grown_alloc _ _)).below hg9 (by rw [HS1.out]; omega)).base (by rw [HS1.out]; omega), G9.out⟩
  clear hg2 rz hg9 hlen hlo hrn hml hrl ho
  generalize rs.length = nr at *
  generalize M9.length = nm at *
  go_wp2_with fail
  rw [← hW9]
  exact bodyPost_ret (v := .tuple #[.agg #[.int .i64 l, .int .i64 0, .slice aR nr cR, .slice aM nm cM], .int .i64 0]) (by simp [results, Try.results23, go_sem, q0, q1, q2, q3]) rfl ⟨_, rfl, Fin.out⟩

end Go.Proofs.Ytofjboelplknhaa
