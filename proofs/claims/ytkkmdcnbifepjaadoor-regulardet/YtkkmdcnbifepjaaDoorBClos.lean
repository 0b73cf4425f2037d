/- det.Blend's two closures: a pair of states goes on, is marked. -/
import Derived.Test.YtkkmdcnbifepjaaDoorBOwn
import Derived.Test.YtkkmdcnbifepjaaDoorLClos
import Derived.Test.YtkkmdcnbifepjaaDoorHWr
namespace Go.Proofs.YtkkmdcnbifepjaaDoor
open Go.RowKit
set_option linter.unusedVariables false

theorem pxx_lt {n kb s : Nat} (h : s < n * kb) : pxx kb s < n := by
  unfold pxx
  exact Nat.div_lt_of_lt_mul (by rw [Nat.mul_comm]; exact h)
theorem pyy_lt {n kb s : Nat} (h : s < n * kb) : pyy kb s < kb := by
  unfold pyy
  refine Nat.mod_lt _ ?_
  rcases Nat.eq_zero_or_pos kb with e | e
  · subst e; simp at h
  · exact e
theorem pxx_code {kb u v : Nat} (h : v < kb) : pxx kb (u * kb + v) = u := by
  unfold pxx
  rw [Nat.mul_comm, Nat.mul_add_div (by omega), Nat.div_eq_of_lt h, Nat.add_zero]
theorem pyy_code {kb u v : Nat} (h : v < kb) : pyy kb (u * kb + v) = v := by
  unfold pyy
  rw [Nat.mul_comm, Nat.mul_add_mod, Nat.mod_eq_of_lt h]
/-- Where a pair goes. -/
def nx2 (d e : Dfa) (kb s a : Nat) : Nat := d.nx (pxx kb s) a * kb + e.nx (pyy kb s) a

theorem pair_store {W : World} {B : Nat} {T : TypeId} {a0 a1 : Value} (hb : W.heap[B]? = some (.cells #[a0, a1] T (0, 0))) (v0 v1 : Value) :
    ∃ W', W' = (W.setCell ⟨B, 0, none⟩ v0).setCell ⟨B, 1, none⟩ v1 ∧ W.grownBy W' (some B) ∧ W'.cell? ⟨B, 0, none⟩ = some v0 ∧ W'.cell? ⟨B, 1, none⟩ = some v1 := by
  have h0 : (W.setCell ⟨B, 0, none⟩ v0).heap[B]? = some (.cells #[v0, a1] T (0, 0)) := by rw [heap_setCell_same W B 0 _ _ _ hb]; rfl
  have h1 : ((W.setCell ⟨B, 0, none⟩ v0).setCell ⟨B, 1, none⟩ v1).heap[B]? = some (.cells #[v0, v1] T (0, 0)) := by rw [heap_setCell_same _ B 1 _ _ _ h0]; rfl
  exact ⟨_, rfl, grown_set2 (grown_set W ⟨B, 0, none⟩ v0) 1 v1, by rw [cell_of_row _ _ _ _ _ (0, 0) h1]; rfl, by rw [cell_of_row _ _ _ _ _ (0, 0) h1]; rfl⟩

set_option maxHeartbeats 1600000 in
set_option maxRecDepth 100000 in
theorem blend1_any (L S S' : Int) (R R' : List (List Int)) (M M' : List Int) (a a' e e' : Option Addr) (c c' f f' b1 b2 s b : Nat) (w : World) (h : DetAt w ⟨L, S, R, M⟩ a a') (hG : Good ⟨L, S, R, M⟩) (h2 : DetAt w ⟨L, S', R', M'⟩ e e') (hG2 : Good ⟨L, S', R', M'⟩)
    (hb1 : BoxAt w b1 ⟨L, S, R, M⟩ a a' c c') (hb2 : BoxAt w b2 ⟨L, S', R', M'⟩ e e' f f') (hs : s < R.length * R'.length) (hb : b < L.toNat) :
    Calls Tryd.prog 48 #[pvl R'.length s, .int .i64 (b : Nat), .pointer (some ⟨b1, 0, none⟩), .pointer (some ⟨b2, 0, none⟩)] w fun E w' => E = .returned (pvl R'.length (nx2 ⟨L, S, R, M⟩ ⟨L, S', R', M'⟩ R'.length s b)) ∧ w.grownBy w' none := by
  have hL1 : 1 ≤ L := hG.l1
  have hx := pxx_lt hs
  have hy := pyy_lt hs
  have hyd : Dfa.nx ⟨L, S', R', M'⟩ (pyy R'.length s) b < R'.length := hG2.nx_lt hy hb
  have e1 : pxx R'.length (nx2 ⟨L, S, R, M⟩ ⟨L, S', R', M'⟩ R'.length s b) = Dfa.nx ⟨L, S, R, M⟩ (pxx R'.length s) b := pxx_code hyd
  have e2 : pyy R'.length (nx2 ⟨L, S, R, M⟩ ⟨L, S', R', M'⟩ R'.length s b) = Dfa.nx ⟨L, S', R', M'⟩ (pyy R'.length s) b := pyy_code hyd
  obtain ⟨bR, oR, bx, ox, cx, haR, s1, s2⟩ := step_reads (l := b) h hG hx (by omega)
  subst haR
  obtain ⟨bR', oR', bY, oY, cY, haR', s3, s4⟩ := step_reads (l := b) h2 hG2 hy (by omega)
  subst haR'
  obtain ⟨_, _, x2, _, _⟩ := block_cells hb1
  obtain ⟨_, _, y2, _, _⟩ := block_cells hb2
  simp only at x2 y2
  have hn3 : R.length ≤ 3000 := hG.n3
  have hn3' : R'.length ≤ 3000 := hG2.n3
  unfold pvl
  rw [e1, e2]
  generalize Dfa.nx ⟨L, S, R, M⟩ (pxx R'.length s) b = t1 at *
  generalize Dfa.nx ⟨L, S', R', M'⟩ (pyy R'.length s) b = t2 at *
  generalize pxx R'.length s = u1 at *
  generalize pyy R'.length s = u2 at *
  have i1 : (u1 : Int) < (R.length : Int) := by omega
  have i2 : (u2 : Int) < (R'.length : Int) := by omega
  have i3 : (b : Int) < (L.toNat : Int) := by omega
  obtain ⟨W1, hW1, hs1, g1, k1⟩ := two_boxes w (.cells #[.int .i64 (u1 : Int), .int .i64 (u2 : Int)] 103) #[.int .i64 0, .int .i64 0] 103
  have gb : (w.alloc (.cells #[.int .i64 (u1 : Int), .int .i64 (u2 : Int)] 103)).grownBy W1 none := by rw [hW1]; exact grown_alloc _ _
  have hb0 := (gb.block _ (by simp) (by simp)).trans (heap_alloc_new w (.cells #[.int .i64 (u1 : Int), .int .i64 (u2 : Int)] 103))
  have c0 : W1.cell? ⟨w.heap.size, 0, none⟩ = some (.int .i64 (u1 : Int)) := by rw [cell_of_row _ _ _ _ _ (0, 0) hb0]; rfl
  have c1 : W1.cell? ⟨w.heap.size, 1, none⟩ = some (.int .i64 (u2 : Int)) := by rw [cell_of_row _ _ _ _ _ (0, 0) hb0]; rfl
  have d0 : W1.cell? ⟨w.heap.size + 1, 0, none⟩ = some (.int .i64 0) := by rw [cell_of_row _ _ _ _ _ (0, 0) k1]; rfl
  have d1 : W1.cell? ⟨w.heap.size + 1, 1, none⟩ = some (.int .i64 0) := by rw [cell_of_row _ _ _ _ _ (0, 0) k1]; rfl
  have z0 := frozen_of_row W1 (w.heap.size + 1) 0 _ _ k1
  have z1 := frozen_of_row W1 (w.heap.size + 1) 1 _ _ k1
  have s1' := g1.cell s1 (by simp)
  have s2' := g1.cell s2 (by simp)
  have s3' := g1.cell s3 (by simp)
  have s4' := g1.cell s4 (by simp)
  have x2' := g1.cell x2 (by simp)
  have y2' := g1.cell y2 (by simp)
  obtain ⟨W9, hW9, hg9, q0, q1⟩ := pair_store k1 (.int .i64 (t1 : Int)) (.int .i64 (t2 : Int))
  have HW9 : Hid (W9 = _) := hW9
  have G9 : Hid (w.grownBy W9 none) := grown_new g1 hg9 (by omega)
  have HW1 : Hid (W1 = _) := hW1
  have G1 : Hid (w.grownBy W1 none) := g1
  clear h hG h2 hG2 hb1 hb2 hs e1 e2 hW1 gb hb0 k1 s1 s2 s3 s4 x2 y2 g1 hs1 hW9 hg9
  go_enter Tryd.func48, Tryd.ntmps48
  go_wp2_with fail
  rw [← HW1.out]
  go_region
  all_goals
    go_wp2_with fail
    rw [← HW9.out]
    exact bodyPost_ret (v := .agg #[.int .i64 (t1 : Int), .int .i64 (t2 : Int)]) (by simp [results, Tryd.results48, go_sem, q0, q1]) rfl ⟨rfl, grown_drew G9.out⟩

/-- Which number a table has at a place. -/
def bitOf (t x y : Int) : Int := bits BinOp.and IntKind.i64 (t / 2 ^ (2 * x + y).toNat) 1
/-- Whether a pair is marked. -/
def mk2 (table : Int) (d e : Dfa) (kb s : Nat) : Bool := bitOf table (d.M.getD (pxx kb s) 0) (e.M.getD (pyy kb s) 0) == 1

set_option maxHeartbeats 1600000 in
set_option maxRecDepth 100000 in
theorem blend2_any (L S S' t : Int) (R R' : List (List Int)) (M M' : List Int) (a a' e e' : Option Addr) (c c' f f' b1 b2 b3 s : Nat) (w : World) (h : DetAt w ⟨L, S, R, M⟩ a a') (hG : Good ⟨L, S, R, M⟩) (h2 : DetAt w ⟨L, S', R', M'⟩ e e') (hG2 : Good ⟨L, S', R', M'⟩)
    (hb1 : BoxAt w b1 ⟨L, S, R, M⟩ a a' c c') (hb2 : BoxAt w b2 ⟨L, S', R', M'⟩ e e' f f') (hb3 : w.cell? ⟨b3, 0, none⟩ = some (.int .i64 t)) (ht : 0 ≤ t ∧ t ≤ 15) (hs : s < R.length * R'.length) :
    Calls Tryd.prog 49 #[pvl R'.length s, .pointer (some ⟨b3, 0, none⟩), .pointer (some ⟨b1, 0, none⟩), .pointer (some ⟨b2, 0, none⟩)] w fun E w' => E = .returned (.bool (mk2 t ⟨L, S, R, M⟩ ⟨L, S', R', M'⟩ R'.length s)) ∧ w.grownBy w' none := by
  have hx := pxx_lt hs
  have hy := pyy_lt hs
  obtain ⟨bm, om, ha, r1⟩ := mark_reads h hG hx
  subst ha
  obtain ⟨bm', om', ha', r2⟩ := mark_reads h2 hG2 hy
  subst ha'
  have hml : M.length = R.length := hG.ml
  have hml' : M'.length = R'.length := hG2.ml
  have m1 : M.getD (pxx R'.length s) 0 = 0 ∨ M.getD (pxx R'.length s) 0 = 1 := hG.m _ (by show _ < M.length; rw [hml]; exact hx)
  have m2 : M'.getD (pyy R'.length s) 0 = 0 ∨ M'.getD (pyy R'.length s) 0 = 1 := hG2.m _ (by show _ < M'.length; rw [hml']; exact hy)
  obtain ⟨_, _, _, x3, _⟩ := block_cells hb1
  obtain ⟨_, _, _, y3, _⟩ := block_cells hb2
  simp only at x3 y3
  have hn3 : R.length ≤ 3000 := hG.n3
  have hn3' : R'.length ≤ 3000 := hG2.n3
  unfold pvl mk2
  generalize M.getD (pxx R'.length s) 0 = v1 at *
  generalize M'.getD (pyy R'.length s) 0 = v2 at *
  generalize pxx R'.length s = u1 at *
  generalize pyy R'.length s = u2 at *
  have i1 : (u1 : Int) < (M.length : Int) := by omega
  have i2 : (u2 : Int) < (M'.length : Int) := by omega
  obtain ⟨W1, hW1⟩ : ∃ W1, W1 = w.alloc (.cells #[.int .i64 (u1 : Int), .int .i64 (u2 : Int)] 103) := ⟨_, rfl⟩
  have g1 : w.grownBy W1 none := by rw [hW1]; exact grown_alloc _ _
  have hb0 := heap_alloc_new w (.cells #[.int .i64 (u1 : Int), .int .i64 (u2 : Int)] 103)
  rw [← hW1] at hb0
  have c0 : W1.cell? ⟨w.heap.size, 0, none⟩ = some (.int .i64 (u1 : Int)) := by rw [cell_of_row _ _ _ _ _ (0, 0) hb0]; rfl
  have c1 : W1.cell? ⟨w.heap.size, 1, none⟩ = some (.int .i64 (u2 : Int)) := by rw [cell_of_row _ _ _ _ _ (0, 0) hb0]; rfl
  have x3' := g1.cell x3 (by simp)
  have y3' := g1.cell y3 (by simp)
  have r1' := g1.cell r1 (by simp)
  have r2' := g1.cell r2 (by simp)
  have t3' := g1.cell hb3 (by simp)
  have HW1 : Hid (W1 = _) := hW1
  have G1 : Hid (w.grownBy W1 none) := g1
  clear h hG h2 hG2 hb1 hb2 hs hml hml' hx hy x3 y3 r1 r2 hb3 hW1 hb0 g1
  rcases m1 with rfl | rfl <;> rcases m2 with rfl | rfl
  all_goals
    go_enter Tryd.func49, Tryd.ntmps49
    go_wp2_with fail
    rw [← HW1.out]
    go_region
    all_goals
      go_wp2_with fail
      go_ret
      exact ⟨by simp [bitOf], grown_drew G1.out⟩

end Go.Proofs.YtkkmdcnbifepjaaDoor
