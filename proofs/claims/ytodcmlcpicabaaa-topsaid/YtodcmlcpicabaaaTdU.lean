/- Whether two say the same at the end of a meeting: the program's endAlike. -/
/- A meeting, a letter on: the program's onward. -/
/- What holds while pairs are gone through. -/
import Derived.Test.YtodcmlcpicabaaaTdS
import Derived.Test.YtodcmlcpicabaaaCts
import Derived.Deep.RegionHeld3
import Derived.Deep.DeepCutAuto
namespace Go.Proofs.Ytodcmlcpicabaaa
open Go.RowKit
set_option linter.unusedVariables false
set_option linter.unusedSimpArgs false

/-- A meeting in a box. -/
structure Box6M (W : World) (b : Nat) (m : Mt) : Prop where
  b0 : W.cell? ⟨b, 0, none⟩ = some (.int .i64 (m.p : Int))
  b1 : W.cell? ⟨b, 1, none⟩ = some (.int .i64 (m.q : Int))
  b2 : W.cell? ⟨b, 2, none⟩ = some (.int .i64 m.fr)
  b3 : W.cell? ⟨b, 3, none⟩ = some (.int .i64 m.l)
  b4 : W.cell? ⟨b, 4, none⟩ = some (.slice m.m.1 m.m.2.2.length m.m.2.1)
  b5 : W.cell? ⟨b, 5, none⟩ = some (.slice m.n.1 m.n.2.2.length m.n.2.1)
theorem Box6M.grown {W W' : World} {b : Nat} {m : Mt} (h : Box6M W b m) (g : W.grownBy W' none) : Box6M W' b m := ⟨g.cell h.b0 (by simp), g.cell h.b1 (by simp), g.cell h.b2 (by simp), g.cell h.b3 (by simp), g.cell h.b4 (by simp), g.cell h.b5 (by simp)⟩
abbrev mtO (m : Mt) : Obj := .cells #[.int .i64 (m.p : Int), .int .i64 (m.q : Int), .int .i64 m.fr, .int .i64 m.l, .slice m.m.1 m.m.2.2.length m.m.2.1, .slice m.n.1 m.n.2.2.length m.n.2.1] 66
theorem box6M_new (w : World) (m : Mt) : ∃ W, W = w.alloc (mtO m) ∧ w.grownBy W none ∧ W.heap.size = w.heap.size + 1 ∧ Box6M W w.heap.size m := by
  refine ⟨_, rfl, grown_alloc _ _, by simp, ?_⟩
  have hb := heap_alloc_new w (mtO m)
  have hc : ∀ k v, #[Value.int .i64 (m.p : Int), .int .i64 (m.q : Int), .int .i64 m.fr, .int .i64 m.l, .slice m.m.1 m.m.2.2.length m.m.2.1, .slice m.n.1 m.n.2.2.length m.n.2.1][k]? = some v → (w.alloc (mtO m)).cell? ⟨w.heap.size, k, none⟩ = some v := fun k v hv => by rw [cell_of_row _ _ k _ _ (0, 0) hb]; exact hv
  exact ⟨hc 0 _ rfl, hc 1 _ rfl, hc 2 _ rfl, hc 3 _ rfl, hc 4 _ rfl, hc 5 _ rfl⟩
def SE (bt bu bm p q : Nat) (vm vn vt vu : Value) (b6 o6 : Nat) (ve : Value) (d6 q6 : Nat) (vf : Value) (W : World) : Prop :=
  W.cell? ⟨bm, 0, none⟩ = some (.int .i64 (p : Int)) ∧ W.cell? ⟨bm, 1, none⟩ = some (.int .i64 (q : Int)) ∧ W.cell? ⟨bm, 4, none⟩ = some vm ∧ W.cell? ⟨bm, 5, none⟩ = some vn ∧ W.cell? ⟨bt, 6, none⟩ = some vt ∧ W.cell? ⟨bu, 6, none⟩ = some vu ∧ W.cell? ⟨b6, o6 + p, none⟩ = some ve ∧ W.cell? ⟨d6, q6 + q, none⟩ = some vf
theorem SE.kept {bt bu bm p q : Nat} {vm vn vt vu : Value} {b6 o6 : Nat} {ve : Value} {d6 q6 : Nat} {vf : Value} {W W' : World} (h : SE bt bu bm p q vm vn vt vu b6 o6 ve d6 q6 vf W) (g : W.grownBy W' none) : SE bt bu bm p q vm vn vt vu b6 o6 ve d6 q6 vf W' := by
  obtain ⟨h0, h1, h2, h3, h4, h5, h6, h7⟩ := h
  exact ⟨g.cell h0 (by simp), g.cell h1 (by simp), g.cell h2 (by simp), g.cell h3 (by simp), g.cell h4 (by simp), g.cell h5 (by simp), g.cell h6 (by simp), g.cell h7 (by simp)⟩
/-- Three boxes: two transducers and a meeting. -/
theorem tri_boxes (w : World) (x y : TrI) (a3 a4 a5 a6 : Option Addr) (ac3 ac4 ac5 ac6 : Nat) (b3 b4 b5 b6' : Option Addr) (bc3 bc4 bc5 bc6 : Nat) (m : Mt) : ∃ W, W = ((w.alloc (tnO x.I x.O x.S a3 x.F.length ac3 a4 x.N.length ac4 a5 x.Y.length ac5 a6 x.E.length ac6)).alloc (tnO y.I y.O y.S b3 y.F.length bc3 b4 y.N.length bc4 b5 y.Y.length bc5 b6' y.E.length bc6)).alloc (mtO m) ∧ w.grownBy W none ∧ W.heap.size = w.heap.size + 1 + 1 + 1 ∧ Box7 W w.heap.size x.I x.O x.S a3 x.F.length ac3 a4 x.N.length ac4 a5 x.Y.length ac5 a6 x.E.length ac6 ∧ Box7 W (w.heap.size + 1) y.I y.O y.S b3 y.F.length bc3 b4 y.N.length bc4 b5 y.Y.length bc5 b6' y.E.length bc6 ∧ Box6M W (w.heap.size + 1 + 1) m := by
  obtain ⟨W1, hW1, g1, s1, bx⟩ := box7_new w x.I x.O x.S a3 x.F.length ac3 a4 x.N.length ac4 a5 x.Y.length ac5 a6 x.E.length ac6
  obtain ⟨W2, hW2, g2, s2, by'⟩ := box7_new W1 y.I y.O y.S b3 y.F.length bc3 b4 y.N.length bc4 b5 y.Y.length bc5 b6' y.E.length bc6
  obtain ⟨W3, hW3, g3, s3, bm⟩ := box6M_new W2 m
  rw [s1] at by'
  rw [s2, s1] at bm
  exact ⟨W3, by rw [hW3, hW2, hW1], grown_trans g1 (grown_trans g2 g3), by omega, (bx.grown g2).grown g3, by'.grown g3, bm⟩

set_option maxHeartbeats 12800000 in
set_option maxRecDepth 100000 in
theorem endAlike_any (x y : TrI) (I : Nat) (a3 a4 a5 a6 : Option Addr) (ac3 ac4 ac5 ac6 : Nat) (b3 b4 b5 b6' : Option Addr) (bc3 bc4 bc5 bc6 : Nat) (m : Mt) (w : World) (hx : TnAt w x a3 a4 a5 a6) (hy : TnAt w y b3 b4 b5 b6') (rx : ReadT x I) (ry : ReadT y I) (hp : m.p < x.N.length) (hq : m.q < y.N.length) (hm : Ints w m.m.1 m.m.2.2) (hn : Ints w m.n.1 m.n.2.2) (lm : m.m.2.2.length ≤ 16) (ln : m.n.2.2.length ≤ 16) :
    Calls Try.prog 48 #[tnV x.I x.O x.S a3 x.F.length ac3 a4 x.N.length ac4 a5 x.Y.length ac5 a6 x.E.length ac6, tnV y.I y.O y.S b3 y.F.length bc3 b4 y.N.length bc4 b5 y.Y.length bc5 b6' y.E.length bc6, mtV m] w (TellsB (m.m.2.2 ++ x.E.getD m.p [] = m.n.2.2 ++ y.E.getD m.q []) w) := by
  obtain ⟨w3, hw3, g3, s3, bx, by', bm⟩ := tri_boxes w x y a3 a4 a5 a6 ac3 ac4 ac5 ac6 b3 b4 b5 b6' bc3 bc4 bc5 bc6 m
  obtain ⟨b6, o6, k6, r6, rfl, h8, hs6⟩ := read_last (hx.grown g3) rx hp
  obtain ⟨d6, q6, l6, s6, rfl, h8', hs6'⟩ := read_last (hy.grown g3) ry hq
  have hex := rx.he
  have hey := ry.he
  have ip : (m.p : Int) < (x.E.length : Int) := by rw [hex]; omega
  have iq : (m.q : Int) < (y.E.length : Int) := by rw [hey]; omega
  obtain ⟨Po, hPo⟩ : ∃ P, P = TellsB (m.m.2.2 ++ x.E.getD m.p [] = m.n.2.2 ++ y.E.getD m.q []) w := ⟨_, rfl⟩
  have HP0 : Hid (∀ b W, (b = true ↔ m.m.2.2 ++ x.E.getD m.p [] = m.n.2.2 ++ y.E.getD m.q []) → w3.grownBy W none → Po (.returned (.bool b)) W) := fun b W h1 h2 => by rw [hPo]; exact ⟨b, rfl, h1, grown_trans g3 h2⟩
  have CTA0 : Hid (∀ (W : World) (g2 : Nat), w3.grownBy W none → C2 W g2 (.slice m.m.1 m.m.2.2.length m.m.2.1) (.slice r6 (x.E.getD m.p []).length k6) → Calls Try.prog 39 #[.slice (some ⟨g2, 0, none⟩) 2 2] W (CatX (m.m.2.2 ++ x.E.getD m.p []) W)) := fun W g2 hW c2 => catX_any _ _ _ _ _ _ g2 W (hm.grown (grown_trans g3 hW)) (hs6 W hW).2 (by omega) (by omega) c2.1 c2.2
  have CTB0 : Hid (∀ (W : World) (g2 : Nat), w3.grownBy W none → C2 W g2 (.slice m.n.1 m.n.2.2.length m.n.2.1) (.slice s6 (y.E.getD m.q []).length l6) → Calls Try.prog 39 #[.slice (some ⟨g2, 0, none⟩) 2 2] W (CatX (m.n.2.2 ++ y.E.getD m.q []) W)) := fun W g2 hW c2 => catX_any _ _ _ _ _ _ g2 W (hn.grown (grown_trans g3 hW)) (hs6' W hW).2 (by omega) (by omega) c2.1 c2.2
  have S00 : Hid (SE w.heap.size (w.heap.size + 1) (w.heap.size + 1 + 1) m.p m.q (.slice m.m.1 m.m.2.2.length m.m.2.1) (.slice m.n.1 m.n.2.2.length m.n.2.1) (.slice (some ⟨b6, o6, none⟩) x.E.length ac6) (.slice (some ⟨d6, q6, none⟩) y.E.length bc6) b6 o6 (.slice r6 (x.E.getD m.p []).length k6) d6 q6 (.slice s6 (y.E.getD m.q []).length l6) w3) := ⟨bm.b0, bm.b1, bm.b4, bm.b5, bx.b6, by'.b6, (hs6 w3 (grown_refl _ _)).1, (hs6' w3 (grown_refl _ _)).1⟩
  have hlX : (m.m.2.2 ++ x.E.getD m.p []).length ≤ 1000 := by rw [List.length_append]; omega
  have hlY : (m.n.2.2 ++ y.E.getD m.q []).length ≤ 1000 := by rw [List.length_append]; omega
  rw [← hPo]
  obtain ⟨nE, hnE⟩ : ∃ n, (x.E.getD m.p []).length = n := ⟨_, rfl⟩
  obtain ⟨nF, hnF⟩ : ∃ n, (y.E.getD m.q []).length = n := ⟨_, rfl⟩
  rw [hnE] at CTA0 S00
  rw [hnF] at CTB0 S00
  obtain ⟨X, hX⟩ : ∃ X, m.m.2.2 ++ x.E.getD m.p [] = X := ⟨_, rfl⟩
  obtain ⟨Y, hY⟩ : ∃ Y, m.n.2.2 ++ y.E.getD m.q [] = Y := ⟨_, rfl⟩
  rw [hX] at CTA0 HP0 hlX
  rw [hY] at CTB0 HP0 hlY
  have CTA : Hid (∀ (W : World) (g2 : Nat), w3.grownBy W none → C2 W g2 (.slice m.m.1 m.m.2.2.length m.m.2.1) (.slice r6 nE k6) → Calls Try.prog 39 #[.slice (some ⟨g2, 0, none⟩) 2 2] W (CatX X W)) := CTA0
  have CTB : Hid (∀ (W : World) (g2 : Nat), w3.grownBy W none → C2 W g2 (.slice m.n.1 m.n.2.2.length m.n.2.1) (.slice s6 nF l6) → Calls Try.prog 39 #[.slice (some ⟨g2, 0, none⟩) 2 2] W (CatX Y W)) := CTB0
  have S0 : Hid (SE w.heap.size (w.heap.size + 1) (w.heap.size + 1 + 1) m.p m.q (.slice m.m.1 m.m.2.2.length m.m.2.1) (.slice m.n.1 m.n.2.2.length m.n.2.1) (.slice (some ⟨b6, o6, none⟩) x.E.length ac6) (.slice (some ⟨d6, q6, none⟩) y.E.length bc6) b6 o6 (.slice r6 nE k6) d6 q6 (.slice s6 nF l6) w3) := S00
  have HP : Hid (∀ b W, (b = true ↔ X = Y) → w3.grownBy W none → Po (.returned (.bool b)) W) := HP0
  have CE : Hid (∀ W a c b d, Ints W a X → Ints W b Y → Calls Try.prog 56 #[.slice a X.length c, .slice b Y.length d] W (TellsB (X = Y) W)) := fun W a c b d h1 h2 => equalI_any X Y a b c d W h1 h2 hlX hlY
  have HW3 : Hid (w3 = _) := hw3
  clear CTA0 CTB0 S00 HP0 hX hY hnE hnF hPo hw3 g3 s3 bx by' bm hs6 hs6' h8 h8' hex hey hm hn hx hy rx ry hlX hlY
  go_enter Try.func48, Try.ntmps48
  go_wp2_with fail
  rw [← HW3.out]
  refine wp_region_held_drew (S := SE w.heap.size (w.heap.size + 1) (w.heap.size + 1 + 1) m.p m.q (.slice m.m.1 m.m.2.2.length m.m.2.1) (.slice m.n.1 m.n.2.2.length m.n.2.1) (.slice (some ⟨b6, o6, none⟩) x.E.length ac6) (.slice (some ⟨d6, q6, none⟩) y.E.length bc6) b6 o6 (.slice r6 nE k6) d6 q6 (.slice s6 nF l6)) (by kernel_rfl) (S0.out.kept (grown_drew (grown_refl _ _))) (fun hHeld => ?_)
  refine wpAnyH_take (i := 0) (v := ?_) rfl (by kernel_rfl) (by kernel_rfl) (by kernel_rfl) (fun _ _ _ h => h) (Or.inl ⟨by rfl, ?_⟩) (by assumption) ?_
  rotate_left
  · intro W hSw
    obtain ⟨t0, t1, t4, t5, ta, tb, tc, td⟩ := hSw
    go_simp
    with_reducible rfl
  try simp only [Act.put, List.getElem_toArray, List.getElem_cons_succ, List.getElem_cons_zero, List.setIfInBounds_toArray, List.set_cons_zero, List.set_cons_succ]
  refine wpAnyH_take (i := 1) (v := ?_) rfl (by kernel_rfl) (by kernel_rfl) (by kernel_rfl) (fun _ _ _ h => h) (Or.inl ⟨by rfl, ?_⟩) (by assumption) ?_
  rotate_left
  · intro W hSw
    obtain ⟨t0, t1, t4, t5, ta, tb, tc, td⟩ := hSw
    go_simp
    with_reducible rfl
  try simp only [Act.put, List.getElem_toArray, List.getElem_cons_succ, List.getElem_cons_zero, List.setIfInBounds_toArray, List.set_cons_zero, List.set_cons_succ]
  refine wpAnyH_take (i := 2) (v := ?_) rfl (by kernel_rfl) (by kernel_rfl) (by kernel_rfl) (fun _ _ _ h => h) (Or.inl ⟨by rfl, ?_⟩) (by assumption) ?_
  rotate_left
  · intro W hSw
    obtain ⟨t0, t1, t4, t5, ta, tb, tc, td⟩ := hSw
    go_simp
    with_reducible rfl
  try simp only [Act.put, List.getElem_toArray, List.getElem_cons_succ, List.getElem_cons_zero, List.setIfInBounds_toArray, List.set_cons_zero, List.set_cons_succ]
  refine wpAnyH_take (i := 3) (v := ?_) rfl (by kernel_rfl) (by kernel_rfl) (by kernel_rfl) (fun _ _ _ h => h) (Or.inl ⟨by rfl, ?_⟩) (by assumption) ?_
  rotate_left
  · intro W hSw
    obtain ⟨t0, t1, t4, t5, ta, tb, tc, td⟩ := hSw
    go_simp
    with_reducible rfl
  try simp only [Act.put, List.getElem_toArray, List.getElem_cons_succ, List.getElem_cons_zero, List.setIfInBounds_toArray, List.set_cons_zero, List.set_cons_succ]
  refine wpAnyH_take (i := 4) (v := ?_) rfl (by kernel_rfl) (by kernel_rfl) (by kernel_rfl) (fun _ _ _ h => h) (Or.inl ⟨by rfl, ?_⟩) (by assumption) ?_
  rotate_left
  · intro W hSw
    obtain ⟨t0, t1, t4, t5, ta, tb, tc, td⟩ := hSw
    go_simp
    with_reducible rfl
  try simp only [Act.put, List.getElem_toArray, List.getElem_cons_succ, List.getElem_cons_zero, List.setIfInBounds_toArray, List.set_cons_zero, List.set_cons_succ]
  refine wpAnyH_take (i := 5) (v := ?_) rfl (by kernel_rfl) (by kernel_rfl) (by kernel_rfl) (fun _ _ _ h => h) (Or.inl ⟨by rfl, ?_⟩) (by assumption) ?_
  rotate_left
  · intro W hSw
    obtain ⟨t0, t1, t4, t5, ta, tb, tc, td⟩ := hSw
    go_simp
    with_reducible rfl
  try simp only [Act.put, List.getElem_toArray, List.getElem_cons_succ, List.getElem_cons_zero, List.setIfInBounds_toArray, List.set_cons_zero, List.set_cons_succ]
  refine wpAnyH_take (i := 6) (v := ?_) rfl (by kernel_rfl) (by kernel_rfl) (by kernel_rfl) (fun _ _ _ h => h) (Or.inl ⟨by rfl, ?_⟩) (by assumption) ?_
  rotate_left
  · intro W hSw
    obtain ⟨t0, t1, t4, t5, ta, tb, tc, td⟩ := hSw
    go_simp
    with_reducible rfl
  try simp only [Act.put, List.getElem_toArray, List.getElem_cons_succ, List.getElem_cons_zero, List.setIfInBounds_toArray, List.set_cons_zero, List.set_cons_succ]
  refine wpAnyH_take (i := 7) (v := ?_) rfl (by kernel_rfl) (by kernel_rfl) (by kernel_rfl) (fun _ _ _ h => h) (Or.inl ⟨by rfl, ?_⟩) (by assumption) ?_
  rotate_left
  · intro W hSw
    obtain ⟨t0, t1, t4, t5, ta, tb, tc, td⟩ := hSw
    go_simp
    with_reducible rfl
  try simp only [Act.put, List.getElem_toArray, List.getElem_cons_succ, List.getElem_cons_zero, List.setIfInBounds_toArray, List.set_cons_zero, List.set_cons_succ]
  refine wpAnyH_take (i := 8) (v := ?_) rfl (by kernel_rfl) (by kernel_rfl) (by kernel_rfl) (fun _ _ _ h => h) (Or.inl ⟨by rfl, ?_⟩) (by assumption) ?_
  rotate_left
  · intro W hSw
    obtain ⟨t0, t1, t4, t5, ta, tb, tc, td⟩ := hSw
    go_simp
    with_reducible rfl
  try simp only [Act.put, List.getElem_toArray, List.getElem_cons_succ, List.getElem_cons_zero, List.setIfInBounds_toArray, List.set_cons_zero, List.set_cons_succ]
  refine wpAnyH_take (i := 9) (v := ?_) rfl (by kernel_rfl) (by kernel_rfl) (by kernel_rfl) (fun _ _ _ h => h) (Or.inl ⟨by rfl, ?_⟩) (by assumption) ?_
  rotate_left
  · intro W hSw
    obtain ⟨t0, t1, t4, t5, ta, tb, tc, td⟩ := hSw
    go_simp
    with_reducible rfl
  try simp only [Act.put, List.getElem_toArray, List.getElem_cons_succ, List.getElem_cons_zero, List.setIfInBounds_toArray, List.set_cons_zero, List.set_cons_succ]
  refine wpAnyH_take (i := 12) (v := ?_) rfl (by kernel_rfl) (by kernel_rfl) (by kernel_rfl) (fun _ _ _ h => h) (Or.inl ⟨by rfl, ?_⟩) (by assumption) ?_
  rotate_left
  · intro W hSw
    obtain ⟨t0, t1, t4, t5, ta, tb, tc, td⟩ := hSw
    go_simp
    with_reducible rfl
  try simp only [Act.put, List.getElem_toArray, List.getElem_cons_succ, List.getElem_cons_zero, List.setIfInBounds_toArray, List.set_cons_zero, List.set_cons_succ]
  refine wpAnyH_take (i := 13) (v := ?_) rfl (by kernel_rfl) (by kernel_rfl) (by kernel_rfl) (fun _ _ _ h => h) (Or.inl ⟨by rfl, ?_⟩) (by assumption) ?_
  rotate_left
  · intro W hSw
    obtain ⟨t0, t1, t4, t5, ta, tb, tc, td⟩ := hSw
    go_simp
    with_reducible rfl
  try simp only [Act.put, List.getElem_toArray, List.getElem_cons_succ, List.getElem_cons_zero, List.setIfInBounds_toArray, List.set_cons_zero, List.set_cons_succ]
  refine wpAnyH_take (i := 14) (v := ?_) rfl (by kernel_rfl) (by kernel_rfl) (by kernel_rfl) (fun _ _ _ h => h) (Or.inl ⟨by rfl, ?_⟩) (by assumption) ?_
  rotate_left
  · intro W hSw
    obtain ⟨t0, t1, t4, t5, ta, tb, tc, td⟩ := hSw
    go_simp
    with_reducible rfl
  try simp only [Act.put, List.getElem_toArray, List.getElem_cons_succ, List.getElem_cons_zero, List.setIfInBounds_toArray, List.set_cons_zero, List.set_cons_succ]
  refine wpAnyH_take (i := 15) (v := ?_) rfl (by kernel_rfl) (by kernel_rfl) (by kernel_rfl) (fun _ _ _ h => h) (Or.inl ⟨by rfl, ?_⟩) (by assumption) ?_
  rotate_left
  · intro W hSw
    obtain ⟨t0, t1, t4, t5, ta, tb, tc, td⟩ := hSw
    go_simp
    with_reducible rfl
  try simp only [Act.put, List.getElem_toArray, List.getElem_cons_succ, List.getElem_cons_zero, List.setIfInBounds_toArray, List.set_cons_zero, List.set_cons_succ]
  refine wpAnyH_take (i := 16) (v := ?_) rfl (by kernel_rfl) (by kernel_rfl) (by kernel_rfl) (fun _ _ _ h => h) (Or.inl ⟨by rfl, ?_⟩) (by assumption) ?_
  rotate_left
  · intro W hSw
    obtain ⟨t0, t1, t4, t5, ta, tb, tc, td⟩ := hSw
    go_simp
    with_reducible rfl
  try simp only [Act.put, List.getElem_toArray, List.getElem_cons_succ, List.getElem_cons_zero, List.setIfInBounds_toArray, List.set_cons_zero, List.set_cons_succ]
  refine wpAnyH_take (i := 17) (v := ?_) rfl (by kernel_rfl) (by kernel_rfl) (by kernel_rfl) (fun _ _ _ h => h) (Or.inl ⟨by rfl, ?_⟩) (by assumption) ?_
  rotate_left
  · intro W hSw
    obtain ⟨t0, t1, t4, t5, ta, tb, tc, td⟩ := hSw
    go_simp
    with_reducible rfl
  try simp only [Act.put, List.getElem_toArray, List.getElem_cons_succ, List.getElem_cons_zero, List.setIfInBounds_toArray, List.set_cons_zero, List.set_cons_succ]
  refine wpAnyH_take (i := 18) (v := ?_) rfl (by kernel_rfl) (by kernel_rfl) (by kernel_rfl) (fun _ _ _ h => h) (Or.inl ⟨by rfl, ?_⟩) (by assumption) ?_
  rotate_left
  · intro W hSw
    obtain ⟨t0, t1, t4, t5, ta, tb, tc, td⟩ := hSw
    go_simp
    with_reducible rfl
  try simp only [Act.put, List.getElem_toArray, List.getElem_cons_succ, List.getElem_cons_zero, List.setIfInBounds_toArray, List.set_cons_zero, List.set_cons_succ]
  refine wpAnyH_take (i := 19) (v := ?_) rfl (by kernel_rfl) (by kernel_rfl) (by kernel_rfl) (fun _ _ _ h => h) (Or.inl ⟨by rfl, ?_⟩) (by assumption) ?_
  rotate_left
  · intro W hSw
    obtain ⟨t0, t1, t4, t5, ta, tb, tc, td⟩ := hSw
    go_simp
    with_reducible rfl
  try simp only [Act.put, List.getElem_toArray, List.getElem_cons_succ, List.getElem_cons_zero, List.setIfInBounds_toArray, List.set_cons_zero, List.set_cons_succ]
  refine wpAnyH_take (i := 20) (v := ?_) rfl (by kernel_rfl) (by kernel_rfl) (by kernel_rfl) (fun _ _ _ h => h) (Or.inl ⟨by rfl, ?_⟩) (by assumption) ?_
  rotate_left
  · intro W hSw
    obtain ⟨t0, t1, t4, t5, ta, tb, tc, td⟩ := hSw
    go_simp
    with_reducible rfl
  try simp only [Act.put, List.getElem_toArray, List.getElem_cons_succ, List.getElem_cons_zero, List.setIfInBounds_toArray, List.set_cons_zero, List.set_cons_succ]
  refine wpAnyH_take (i := 21) (v := ?_) rfl (by kernel_rfl) (by kernel_rfl) (by kernel_rfl) (fun _ _ _ h => h) (Or.inl ⟨by rfl, ?_⟩) (by assumption) ?_
  rotate_left
  · intro W hSw
    obtain ⟨t0, t1, t4, t5, ta, tb, tc, td⟩ := hSw
    go_simp
    with_reducible rfl
  try simp only [Act.put, List.getElem_toArray, List.getElem_cons_succ, List.getElem_cons_zero, List.setIfInBounds_toArray, List.set_cons_zero, List.set_cons_succ]
  refine wpAnyH_ready (rs := [10, 22]) (by kernel_rfl) (by simp) ?_
  refine AllReadyH.cons (o := _) rfl (fun K' hK => ?_) ?_
  · go_simp
    refine hK.out _ _ (hHeld.kept (grown_alloc _ _)) (fun hHeld => ?_)
    clear hK K'
    try simp only [Act.put, List.getElem_toArray, List.getElem_cons_succ, List.getElem_cons_zero, List.setIfInBounds_toArray, List.set_cons_zero, List.set_cons_succ]
    refine wpAnyH_ready (rs := [11, 22]) (by kernel_rfl) (by simp) ?_
    refine AllReadyH.cons (o := _) rfl (fun K' hK => ?_) ?_
    · go_simp
      refine (CTA.out _ _ (gr_1 _ _) (c2_a _ (.slice m.m.1 m.m.2.2.length m.m.2.1) (.slice r6 nE k6) _)).mono ?_
      rintro E w6 ⟨ax, kx, rfl, hix, hgx, hnx, hcx⟩
      have GX : Hid (w3.grownBy w6 none) := grown_trans (gr_1 w3 _) hgx
      have HIX : Hid (Ints w6 ax X) := hix
      have HNX : Hid ((∀ y, ax = some y → w3.heap.size ≤ y.block ∧ y.block < w6.heap.size) ∧ X.length ≤ kx) := ⟨fun y hy => ⟨Nat.le_trans (gr_1 w3 _).size (hnx y hy).1, (hnx y hy).2⟩, hcx⟩
      clear hix hnx hcx
      go_wp2_with fail
      refine hK.out _ _ (hHeld.kept hgx) (fun hHeld => ?_)
      clear hK K'
      try simp only [Act.put, List.getElem_toArray, List.getElem_cons_succ, List.getElem_cons_zero, List.setIfInBounds_toArray, List.set_cons_zero, List.set_cons_succ]
      refine wpAnyH_ready (rs := [22]) (by kernel_rfl) (by simp) ?_
      refine AllReadyH.cons (o := _) rfl (fun K' hK => ?_) ?_
      · go_simp
        refine hK.out _ _ (hHeld.kept (grown_alloc _ _)) (fun hHeld => ?_)
        clear hK K'
        try simp only [Act.put, List.getElem_toArray, List.getElem_cons_succ, List.getElem_cons_zero, List.setIfInBounds_toArray, List.set_cons_zero, List.set_cons_succ]
        refine wpAnyH_ready (rs := [23]) (by kernel_rfl) (by simp) ?_
        refine AllReadyH.cons (o := _) rfl (fun K' hK => ?_) ?_
        · go_simp
          refine (CTB.out _ _ (grown_trans GX.out (grown_alloc _ _)) (c2_new _ (.slice m.n.1 m.n.2.2.length m.n.2.1) (.slice s6 nF l6) _)).mono ?_
          rintro E w7 ⟨ay, ky, rfl, hiy, hgy, hny, hcy⟩
          have G67 : Hid (w6.grownBy w7 none) := grown_trans (grown_alloc _ _) hgy
          have HIY : Hid (Ints w7 ay Y) := hiy
          have HNY : Hid ((∀ y, ay = some y → w3.heap.size ≤ y.block ∧ y.block < w7.heap.size) ∧ Y.length ≤ ky) := ⟨fun y hy => ⟨Nat.le_trans (grown_trans GX.out (grown_alloc _ _)).size (hny y hy).1, (hny y hy).2⟩, hcy⟩
          clear hiy hny hcy
          go_wp2_with fail
          refine hK.out _ _ (hHeld.kept hgy) (fun hHeld => ?_)
          clear hK K'
          try simp only [Act.put, List.getElem_toArray, List.getElem_cons_succ, List.getElem_cons_zero, List.setIfInBounds_toArray, List.set_cons_zero, List.set_cons_succ]
          refine wpAnyH_take (i := 24) (v := ?_) rfl (by kernel_rfl) (by kernel_rfl) (by kernel_rfl) (fun _ _ _ h => h) (Or.inl ⟨by rfl, ?_⟩) (by assumption) ?_
          rotate_left
          · intro W hSw
            obtain ⟨t0, t1, t4, t5, ta, tb, tc, td⟩ := hSw
            go_simp
            with_reducible rfl
          try simp only [Act.put, List.getElem_toArray, List.getElem_cons_succ, List.getElem_cons_zero, List.setIfInBounds_toArray, List.set_cons_zero, List.set_cons_succ]
          refine wpAnyH_take (i := 25) (v := ?_) rfl (by kernel_rfl) (by kernel_rfl) (by kernel_rfl) (fun _ _ _ h => h) (Or.inl ⟨by rfl, ?_⟩) (by assumption) ?_
          rotate_left
          · intro W hSw
            obtain ⟨t0, t1, t4, t5, ta, tb, tc, td⟩ := hSw
            go_simp
            with_reducible rfl
          try simp only [Act.put, List.getElem_toArray, List.getElem_cons_succ, List.getElem_cons_zero, List.setIfInBounds_toArray, List.set_cons_zero, List.set_cons_succ]
          refine wpAnyH_done (by kernel_rfl) ?_ _
          go_wp2_with fail
          refine (CE.out w7 ax kx ay ky (HIX.out.grown G67.out) HIY.out).mono ?_
          rintro E w8 ⟨bb, rfl, hbb, hg8⟩
          have F : Hid (Po (.returned (.bool bb)) w8) := HP.out bb w8 hbb (grown_trans GX.out (grown_trans G67.out hg8))
          clear hbb hg8
          go_wp2_with fail
          first | exact F.out | (go_ret; exact F.out)
        exact AllReadyH.nil
      exact AllReadyH.nil
    refine AllReadyH.cons (o := _) rfl (fun K' hK => ?_) ?_
    · go_simp
      refine hK.out _ _ (hHeld.kept (grown_alloc _ _)) (fun hHeld => ?_)
      clear hK K'
      try simp only [Act.put, List.getElem_toArray, List.getElem_cons_succ, List.getElem_cons_zero, List.setIfInBounds_toArray, List.set_cons_zero, List.set_cons_succ]
      refine wpAnyH_ready (rs := [11]) (by kernel_rfl) (by simp) ?_
      refine AllReadyH.cons (o := _) rfl (fun K' hK => ?_) ?_
      · go_simp
        refine (CTA.out _ _ (gr_2 _ _ _) (c2_b _ (.slice m.m.1 m.m.2.2.length m.m.2.1) (.slice r6 nE k6) _ _)).mono ?_
        rintro E w6 ⟨ax, kx, rfl, hix, hgx, hnx, hcx⟩
        have HB2 : Hid (C2 w6 (w3.heap.size + 1) (.slice m.n.1 m.n.2.2.length m.n.2.1) (.slice s6 nF l6)) := (c2_c w3 (.slice m.n.1 m.n.2.2.length m.n.2.1) (.slice s6 nF l6) _ _).kept hgx
        have GX : Hid (w3.grownBy w6 none) := grown_trans (gr_2 w3 _ _) hgx
        have HIX : Hid (Ints w6 ax X) := hix
        have HNX : Hid ((∀ y, ax = some y → w3.heap.size ≤ y.block ∧ y.block < w6.heap.size) ∧ X.length ≤ kx) := ⟨fun y hy => ⟨Nat.le_trans (gr_2 w3 _ _).size (hnx y hy).1, (hnx y hy).2⟩, hcx⟩
        clear hix hnx hcx
        go_wp2_with fail
        refine hK.out _ _ (hHeld.kept hgx) (fun hHeld => ?_)
        clear hK K'
        try simp only [Act.put, List.getElem_toArray, List.getElem_cons_succ, List.getElem_cons_zero, List.setIfInBounds_toArray, List.set_cons_zero, List.set_cons_succ]
        refine wpAnyH_ready (rs := [23]) (by kernel_rfl) (by simp) ?_
        refine AllReadyH.cons (o := _) rfl (fun K' hK => ?_) ?_
        · go_simp
          refine (CTB.out _ _ (GX.out) (HB2.out)).mono ?_
          rintro E w7 ⟨ay, ky, rfl, hiy, hgy, hny, hcy⟩
          have G67 : Hid (w6.grownBy w7 none) := grown_trans (grown_refl _ _) hgy
          have HIY : Hid (Ints w7 ay Y) := hiy
          have HNY : Hid ((∀ y, ay = some y → w3.heap.size ≤ y.block ∧ y.block < w7.heap.size) ∧ Y.length ≤ ky) := ⟨fun y hy => ⟨Nat.le_trans (GX.out).size (hny y hy).1, (hny y hy).2⟩, hcy⟩
          clear hiy hny hcy
          go_wp2_with fail
          refine hK.out _ _ (hHeld.kept hgy) (fun hHeld => ?_)
          clear hK K'
          try simp only [Act.put, List.getElem_toArray, List.getElem_cons_succ, List.getElem_cons_zero, List.setIfInBounds_toArray, List.set_cons_zero, List.set_cons_succ]
          refine wpAnyH_take (i := 24) (v := ?_) rfl (by kernel_rfl) (by kernel_rfl) (by kernel_rfl) (fun _ _ _ h => h) (Or.inl ⟨by rfl, ?_⟩) (by assumption) ?_
          rotate_left
          · intro W hSw
            obtain ⟨t0, t1, t4, t5, ta, tb, tc, td⟩ := hSw
            go_simp
            with_reducible rfl
          try simp only [Act.put, List.getElem_toArray, List.getElem_cons_succ, List.getElem_cons_zero, List.setIfInBounds_toArray, List.set_cons_zero, List.set_cons_succ]
          refine wpAnyH_take (i := 25) (v := ?_) rfl (by kernel_rfl) (by kernel_rfl) (by kernel_rfl) (fun _ _ _ h => h) (Or.inl ⟨by rfl, ?_⟩) (by assumption) ?_
          rotate_left
          · intro W hSw
            obtain ⟨t0, t1, t4, t5, ta, tb, tc, td⟩ := hSw
            go_simp
            with_reducible rfl
          try simp only [Act.put, List.getElem_toArray, List.getElem_cons_succ, List.getElem_cons_zero, List.setIfInBounds_toArray, List.set_cons_zero, List.set_cons_succ]
          refine wpAnyH_done (by kernel_rfl) ?_ _
          go_wp2_with fail
          refine (CE.out w7 ax kx ay ky (HIX.out.grown G67.out) HIY.out).mono ?_
          rintro E w8 ⟨bb, rfl, hbb, hg8⟩
          have F : Hid (Po (.returned (.bool bb)) w8) := HP.out bb w8 hbb (grown_trans GX.out (grown_trans G67.out hg8))
          clear hbb hg8
          go_wp2_with fail
          first | exact F.out | (go_ret; exact F.out)
        exact AllReadyH.nil
      exact AllReadyH.nil
    exact AllReadyH.nil
  refine AllReadyH.cons (o := _) rfl (fun K' hK => ?_) ?_
  · go_simp
    refine hK.out _ _ (hHeld.kept (grown_alloc _ _)) (fun hHeld => ?_)
    clear hK K'
    try simp only [Act.put, List.getElem_toArray, List.getElem_cons_succ, List.getElem_cons_zero, List.setIfInBounds_toArray, List.set_cons_zero, List.set_cons_succ]
    refine wpAnyH_ready (rs := [10]) (by kernel_rfl) (by simp) ?_
    refine AllReadyH.cons (o := _) rfl (fun K' hK => ?_) ?_
    · go_simp
      refine hK.out _ _ (hHeld.kept (grown_alloc _ _)) (fun hHeld => ?_)
      clear hK K'
      try simp only [Act.put, List.getElem_toArray, List.getElem_cons_succ, List.getElem_cons_zero, List.setIfInBounds_toArray, List.set_cons_zero, List.set_cons_succ]
      refine wpAnyH_ready (rs := [11]) (by kernel_rfl) (by simp) ?_
      refine AllReadyH.cons (o := _) rfl (fun K' hK => ?_) ?_
      · go_simp
        refine (CTA.out _ _ (gr_2 _ _ _) (c2_c _ (.slice m.m.1 m.m.2.2.length m.m.2.1) (.slice r6 nE k6) _ _)).mono ?_
        rintro E w6 ⟨ax, kx, rfl, hix, hgx, hnx, hcx⟩
        have HB2 : Hid (C2 w6 w3.heap.size (.slice m.n.1 m.n.2.2.length m.n.2.1) (.slice s6 nF l6)) := (c2_b w3 (.slice m.n.1 m.n.2.2.length m.n.2.1) (.slice s6 nF l6) _ _).kept hgx
        have GX : Hid (w3.grownBy w6 none) := grown_trans (gr_2 w3 _ _) hgx
        have HIX : Hid (Ints w6 ax X) := hix
        have HNX : Hid ((∀ y, ax = some y → w3.heap.size ≤ y.block ∧ y.block < w6.heap.size) ∧ X.length ≤ kx) := ⟨fun y hy => ⟨Nat.le_trans (gr_2 w3 _ _).size (hnx y hy).1, (hnx y hy).2⟩, hcx⟩
        clear hix hnx hcx
        go_wp2_with fail
        refine hK.out _ _ (hHeld.kept hgx) (fun hHeld => ?_)
        clear hK K'
        try simp only [Act.put, List.getElem_toArray, List.getElem_cons_succ, List.getElem_cons_zero, List.setIfInBounds_toArray, List.set_cons_zero, List.set_cons_succ]
        refine wpAnyH_ready (rs := [23]) (by kernel_rfl) (by simp) ?_
        refine AllReadyH.cons (o := _) rfl (fun K' hK => ?_) ?_
        · go_simp
          refine (CTB.out _ _ (GX.out) (HB2.out)).mono ?_
          rintro E w7 ⟨ay, ky, rfl, hiy, hgy, hny, hcy⟩
          have G67 : Hid (w6.grownBy w7 none) := grown_trans (grown_refl _ _) hgy
          have HIY : Hid (Ints w7 ay Y) := hiy
          have HNY : Hid ((∀ y, ay = some y → w3.heap.size ≤ y.block ∧ y.block < w7.heap.size) ∧ Y.length ≤ ky) := ⟨fun y hy => ⟨Nat.le_trans (GX.out).size (hny y hy).1, (hny y hy).2⟩, hcy⟩
          clear hiy hny hcy
          go_wp2_with fail
          refine hK.out _ _ (hHeld.kept hgy) (fun hHeld => ?_)
          clear hK K'
          try simp only [Act.put, List.getElem_toArray, List.getElem_cons_succ, List.getElem_cons_zero, List.setIfInBounds_toArray, List.set_cons_zero, List.set_cons_succ]
          refine wpAnyH_take (i := 24) (v := ?_) rfl (by kernel_rfl) (by kernel_rfl) (by kernel_rfl) (fun _ _ _ h => h) (Or.inl ⟨by rfl, ?_⟩) (by assumption) ?_
          rotate_left
          · intro W hSw
            obtain ⟨t0, t1, t4, t5, ta, tb, tc, td⟩ := hSw
            go_simp
            with_reducible rfl
          try simp only [Act.put, List.getElem_toArray, List.getElem_cons_succ, List.getElem_cons_zero, List.setIfInBounds_toArray, List.set_cons_zero, List.set_cons_succ]
          refine wpAnyH_take (i := 25) (v := ?_) rfl (by kernel_rfl) (by kernel_rfl) (by kernel_rfl) (fun _ _ _ h => h) (Or.inl ⟨by rfl, ?_⟩) (by assumption) ?_
          rotate_left
          · intro W hSw
            obtain ⟨t0, t1, t4, t5, ta, tb, tc, td⟩ := hSw
            go_simp
            with_reducible rfl
          try simp only [Act.put, List.getElem_toArray, List.getElem_cons_succ, List.getElem_cons_zero, List.setIfInBounds_toArray, List.set_cons_zero, List.set_cons_succ]
          refine wpAnyH_done (by kernel_rfl) ?_ _
          go_wp2_with fail
          refine (CE.out w7 ax kx ay ky (HIX.out.grown G67.out) HIY.out).mono ?_
          rintro E w8 ⟨bb, rfl, hbb, hg8⟩
          have F : Hid (Po (.returned (.bool bb)) w8) := HP.out bb w8 hbb (grown_trans GX.out (grown_trans G67.out hg8))
          clear hbb hg8
          go_wp2_with fail
          first | exact F.out | (go_ret; exact F.out)
        exact AllReadyH.nil
      exact AllReadyH.nil
    exact AllReadyH.nil
  exact AllReadyH.nil

end Go.Proofs.Ytodcmlcpicabaaa

namespace Go.Proofs.Ytodcmlcpicabaaa
open Go.RowKit
set_option linter.unusedVariables false
set_option linter.unusedSimpArgs false

def SO (bt bu bm p q l : Nat) (vm vn vt vu : Value) (e5 o5 : Nat) (ve : Value) (f5 q5 : Nat) (vf : Value) (e6 o6 : Nat) (we : Value) (f6 q6 : Nat) (wf : Value) (W : World) : Prop :=
  W.cell? ⟨bm, 4, none⟩ = some vm ∧ W.cell? ⟨bm, 5, none⟩ = some vn ∧ W.cell? ⟨bt, 5, none⟩ = some vt ∧ W.cell? ⟨bu, 5, none⟩ = some vu ∧ W.cell? ⟨e5, o5 + p, none⟩ = some ve ∧ W.cell? ⟨f5, q5 + q, none⟩ = some vf ∧ W.cell? ⟨e6, o6 + l, none⟩ = some we ∧ W.cell? ⟨f6, q6 + l, none⟩ = some wf
theorem SO.kept {bt bu bm p q l : Nat} {vm vn vt vu : Value} {e5 o5 : Nat} {ve : Value} {f5 q5 : Nat} {vf : Value} {e6 o6 : Nat} {we : Value} {f6 q6 : Nat} {wf : Value} {W W' : World} (h : SO bt bu bm p q l vm vn vt vu e5 o5 ve f5 q5 vf e6 o6 we f6 q6 wf W) (g : W.grownBy W' none) : SO bt bu bm p q l vm vn vt vu e5 o5 ve f5 q5 vf e6 o6 we f6 q6 wf W' := by
  obtain ⟨h0, h1, h2, h3, h4, h5, h6, h7⟩ := h
  exact ⟨g.cell h0 (by simp), g.cell h1 (by simp), g.cell h2 (by simp), g.cell h3 (by simp), g.cell h4 (by simp), g.cell h5 (by simp), g.cell h6 (by simp), g.cell h7 (by simp)⟩
def SN (bt bu p q l : Nat) (vt vu : Value) (e4 o4 : Nat) (ve : Value) (eb ob nX : Nat) (f4 q4 : Nat) (vf : Value) (fb qb nY : Nat) (W : World) : Prop :=
  W.cell? ⟨bt, 4, none⟩ = some vt ∧ W.cell? ⟨bu, 4, none⟩ = some vu ∧ W.cell? ⟨e4, o4 + p, none⟩ = some ve ∧ W.cell? ⟨f4, q4 + q, none⟩ = some vf ∧ W.cell? ⟨eb, ob + l, none⟩ = some (.int .i64 (nX : Int)) ∧ W.cell? ⟨fb, qb + l, none⟩ = some (.int .i64 (nY : Int))
abbrev mtZ : Obj := .cells #[.int .i64 0, .int .i64 0, .int .i64 0, .int .i64 0, .slice none 0 0, .slice none 0 0] 66 (0, 0)
theorem six_store {W : World} {B : Nat} {t : TypeId} {u0 u1 u2 u3 u4 u5 : Value} (h : W.heap[B]? = some (.cells #[u0, u1, u2, u3, u4, u5] t (0, 0))) (v0 v1 v2 v3 v4 v5 : Value) :
    W.cell? ⟨B, 0, none⟩ = some u0 ∧ W.cell? ⟨B, 1, none⟩ = some u1 ∧ W.cell? ⟨B, 2, none⟩ = some u2 ∧ W.cell? ⟨B, 3, none⟩ = some u3 ∧ W.cell? ⟨B, 4, none⟩ = some u4 ∧ W.cell? ⟨B, 5, none⟩ = some u5 ∧ W.frozen? ⟨B, 0, none⟩ = false ∧ W.frozen? ⟨B, 1, none⟩ = false ∧ W.frozen? ⟨B, 2, none⟩ = false ∧ W.frozen? ⟨B, 3, none⟩ = false ∧ W.frozen? ⟨B, 4, none⟩ = false ∧ W.frozen? ⟨B, 5, none⟩ = false ∧ ∃ W', W' = (((((W.setCell ⟨B, 0, none⟩ v0).setCell ⟨B, 1, none⟩ v1).setCell ⟨B, 2, none⟩ v2).setCell ⟨B, 3, none⟩ v3).setCell ⟨B, 4, none⟩ v4).setCell ⟨B, 5, none⟩ v5 ∧ W.grownBy W' (some B) ∧ W'.cell? ⟨B, 0, none⟩ = some v0 ∧ W'.cell? ⟨B, 1, none⟩ = some v1 ∧ W'.cell? ⟨B, 2, none⟩ = some v2 ∧ W'.cell? ⟨B, 3, none⟩ = some v3 ∧ W'.cell? ⟨B, 4, none⟩ = some v4 ∧ W'.cell? ⟨B, 5, none⟩ = some v5 := by
  have hc : ∀ k v, #[u0, u1, u2, u3, u4, u5][k]? = some v → W.cell? ⟨B, k, none⟩ = some v := fun k v hv => by rw [cell_of_row _ _ k _ _ (0, 0) h]; exact hv
  have h1 := heap_setCell_same W B 0 _ _ v0 h
  have h2 := heap_setCell_same _ B 1 _ _ v1 h1
  have h3 := heap_setCell_same _ B 2 _ _ v2 h2
  have h4 := heap_setCell_same _ B 3 _ _ v3 h3
  have h5 := heap_setCell_same _ B 4 _ _ v4 h4
  have h6 := heap_setCell_same _ B 5 _ _ v5 h5
  refine ⟨hc 0 _ rfl, hc 1 _ rfl, hc 2 _ rfl, hc 3 _ rfl, hc 4 _ rfl, hc 5 _ rfl, frozen_of_row _ _ _ _ _ h, frozen_of_row _ _ _ _ _ h, frozen_of_row _ _ _ _ _ h, frozen_of_row _ _ _ _ _ h, frozen_of_row _ _ _ _ _ h, frozen_of_row _ _ _ _ _ h, _, rfl, grown_trans (grown_set _ _ _) (grown_trans (grown_set _ _ _) (grown_trans (grown_set _ _ _) (grown_trans (grown_set _ _ _) (grown_trans (grown_set _ _ _) (grown_set _ _ _))))), ?_, ?_, ?_, ?_, ?_, ?_⟩
  all_goals (rw [cell_of_row _ _ _ _ _ (0, 0) h6]; simp)
def OnP (x y : TrI) (m : Mt) (fr : Int) (l : Nat) (w : World) (e : Ending) (w' : World) : Prop := ∃ m' : Mt, e = .returned (mtV m') ∧ m'.p = nxT x m.p l ∧ m'.q = nxT y m.q l ∧ m'.fr = fr ∧ m'.l = (l : Int) ∧ m'.m.2.2 = (m.m.2.2 ++ syT x m.p l).drop (comT (m.m.2.2 ++ syT x m.p l) (m.n.2.2 ++ syT y m.q l)) ∧ m'.n.2.2 = (m.n.2.2 ++ syT y m.q l).drop (comT (m.m.2.2 ++ syT x m.p l) (m.n.2.2 ++ syT y m.q l)) ∧ Ints w' m'.m.1 m'.m.2.2 ∧ Ints w' m'.n.1 m'.n.2.2 ∧ (∀ z, m'.m.1 = some z → w.heap.size ≤ z.block ∧ z.block < w'.heap.size) ∧ (∀ z, m'.n.1 = some z → w.heap.size ≤ z.block ∧ z.block < w'.heap.size) ∧ w.grownBy w' none

set_option maxHeartbeats 12800000 in
set_option maxRecDepth 100000 in
theorem onward_any (x y : TrI) (I : Nat) (a3 a4 a5 a6 : Option Addr) (ac3 ac4 ac5 ac6 : Nat) (b3 b4 b5 b6 : Option Addr) (bc3 bc4 bc5 bc6 : Nat) (m : Mt) (fr : Int) (l : Nat) (w : World) (hx : TnAt w x a3 a4 a5 a6) (hy : TnAt w y b3 b4 b5 b6) (rx : ReadT x I) (ry : ReadT y I) (hI : I ≤ 4) (hp : m.p < x.N.length) (hq : m.q < y.N.length) (hl : l < I) (hm : Ints w m.m.1 m.m.2.2) (hn : Ints w m.n.1 m.n.2.2) (lm : m.m.2.2.length ≤ 16) (ln : m.n.2.2.length ≤ 16) :
    Calls Try.prog 50 #[tnV x.I x.O x.S a3 x.F.length ac3 a4 x.N.length ac4 a5 x.Y.length ac5 a6 x.E.length ac6, tnV y.I y.O y.S b3 y.F.length bc3 b4 y.N.length bc4 b5 y.Y.length bc5 b6 y.E.length bc6, mtV m, .int .i64 fr, .int .i64 (l : Int)] w (OnP x y m fr l w) := by
  obtain ⟨w2, hw2, g2, s2, bx, by', bm⟩ := tri_boxes w x y a3 a4 a5 a6 ac3 ac4 ac5 ac6 b3 b4 b5 b6 bc3 bc4 bc5 bc6 m
  obtain ⟨wb, hwb⟩ : ∃ wb, wb = w2.alloc (.cells #[.int .i64 0, .int .i64 0, .int .i64 0, .int .i64 0, .slice none 0 0, .slice none 0 0] 66) := ⟨_, rfl⟩
  have gb : w2.grownBy wb none := by rw [hwb]; exact grown_alloc _ _
  have hrb : wb.heap[w.heap.size + 1 + 1 + 1]? = some mtZ := by
    have := heap_alloc_new w2 (.cells #[.int .i64 0, .int .i64 0, .int .i64 0, .int .i64 0, .slice none 0 0, .slice none 0 0] 66)
    rw [← hwb, s2] at this
    exact this
  have sb : wb.heap.size = w.heap.size + 1 + 1 + 1 + 1 := by rw [hwb, World.size_alloc, s2]
  have gw : w.grownBy wb none := grown_trans g2 gb
  obtain ⟨e5, o5, k5, e6, o6, k6, r6, rfl, h8, hs5⟩ := read_say (hx.grown gw) rx hp hl
  obtain ⟨f5, q5, l5, f6, q6, l6, s6, rfl, h8', hs5'⟩ := read_say (hy.grown gw) ry hq hl
  obtain ⟨e4, o4, k4, eb, ob, rfl, hs4⟩ := read_next hx rx hp hl
  obtain ⟨f4, q4, l4, fb, qb, rfl, hs4'⟩ := read_next hy ry hq hl
  have hex := rx.hy
  have hey := ry.hy
  have ip : (m.p : Int) < (x.N.length : Int) := by omega
  have iq : (m.q : Int) < (y.N.length : Int) := by omega
  have ip5 : (m.p : Int) < (x.Y.length : Int) := by rw [hex]; omega
  have iq5 : (m.q : Int) < (y.Y.length : Int) := by rw [hey]; omega
  have il : (l : Int) < (I : Int) := by omega
  have HE : Hid (nxT x m.p l = nxT x m.p l) := rfl
  obtain ⟨Po, hPo⟩ : ∃ P, P = OnP x y m fr l w := ⟨_, rfl⟩
  have BX : Hid (∀ W, wb.grownBy W none → Box7 W w.heap.size x.I x.O x.S a3 x.F.length ac3 (some ⟨e4, o4, none⟩) x.N.length ac4 (some ⟨e5, o5, none⟩) x.Y.length ac5 a6 x.E.length ac6) := fun W hW => (bx.grown gb).grown hW
  have BY : Hid (∀ W, wb.grownBy W none → Box7 W (w.heap.size + 1) y.I y.O y.S b3 y.F.length bc3 (some ⟨f4, q4, none⟩) y.N.length bc4 (some ⟨f5, q5, none⟩) y.Y.length bc5 b6 y.E.length bc6) := fun W hW => (by'.grown gb).grown hW
  have BM : Hid (∀ W, wb.grownBy W none → Box6M W (w.heap.size + 1 + 1) m) := fun W hW => (bm.grown gb).grown hW
  have S50 : Hid (∀ W, wb.grownBy W none → W.cell? ⟨e5, o5 + m.p, none⟩ = some (.slice (some ⟨e6, o6, none⟩) I k5) ∧ W.cell? ⟨e6, o6 + l, none⟩ = some (.slice r6 (syT x m.p l).length k6) ∧ Ints W r6 (syT x m.p l)) := hs5
  have S51 : Hid (∀ W, wb.grownBy W none → W.cell? ⟨f5, q5 + m.q, none⟩ = some (.slice (some ⟨f6, q6, none⟩) I l5) ∧ W.cell? ⟨f6, q6 + l, none⟩ = some (.slice s6 (syT y m.q l).length l6) ∧ Ints W s6 (syT y m.q l)) := hs5'
  have S40 : Hid (∀ W, w.grownBy W none → W.cell? ⟨e4, o4 + m.p, none⟩ = some (.slice (some ⟨eb, ob, none⟩) I k4) ∧ W.cell? ⟨eb, ob + l, none⟩ = some (.int .i64 ((nxT x m.p l : Nat) : Int))) := hs4
  have S41 : Hid (∀ W, w.grownBy W none → W.cell? ⟨f4, q4 + m.q, none⟩ = some (.slice (some ⟨fb, qb, none⟩) I l4) ∧ W.cell? ⟨fb, qb + l, none⟩ = some (.int .i64 ((nxT y m.q l : Nat) : Int))) := hs4'
  have CA0 : Hid (∀ (W : World) (g2 : Nat), wb.grownBy W none → C2 W g2 (.slice m.m.1 m.m.2.2.length m.m.2.1) (.slice r6 (syT x m.p l).length k6) → Calls Try.prog 39 #[.slice (some ⟨g2, 0, none⟩) 2 2] W (CatX (m.m.2.2 ++ syT x m.p l) W)) := fun W g2 hW c2 => catX_any _ _ _ _ _ _ g2 W (hm.grown (grown_trans gw hW)) (S50.out W hW).2.2 (by omega) (by omega) c2.1 c2.2
  have CB0 : Hid (∀ (W : World) (g2 : Nat), wb.grownBy W none → C2 W g2 (.slice m.n.1 m.n.2.2.length m.n.2.1) (.slice s6 (syT y m.q l).length l6) → Calls Try.prog 39 #[.slice (some ⟨g2, 0, none⟩) 2 2] W (CatX (m.n.2.2 ++ syT y m.q l) W)) := fun W g2 hW c2 => catX_any _ _ _ _ _ _ g2 W (hn.grown (grown_trans gw hW)) (S51.out W hW).2.2 (by omega) (by omega) c2.1 c2.2
  have hlX : (m.m.2.2 ++ syT x m.p l).length ≤ 1000 := by rw [List.length_append]; omega
  have hlY : (m.n.2.2 ++ syT y m.q l).length ≤ 1000 := by rw [List.length_append]; omega
  have HP0 : Hid (∀ m' W, m'.p = nxT x m.p l → m'.q = nxT y m.q l → m'.fr = fr → m'.l = (l : Int) → m'.m.2.2 = (m.m.2.2 ++ syT x m.p l).drop (comT (m.m.2.2 ++ syT x m.p l) (m.n.2.2 ++ syT y m.q l)) → m'.n.2.2 = (m.n.2.2 ++ syT y m.q l).drop (comT (m.m.2.2 ++ syT x m.p l) (m.n.2.2 ++ syT y m.q l)) → Ints W m'.m.1 m'.m.2.2 → Ints W m'.n.1 m'.n.2.2 → (∀ z, m'.m.1 = some z → w.heap.size ≤ z.block ∧ z.block < W.heap.size) → (∀ z, m'.n.1 = some z → w.heap.size ≤ z.block ∧ z.block < W.heap.size) → w.grownBy W none → Po (.returned (mtV m')) W) := fun m' W h1 h2 h3 h4 h5 h6 h7 h8 h9 h10 h11 => by rw [hPo]; exact ⟨m', rfl, h1, h2, h3, h4, h5, h6, h7, h8, h9, h10, h11⟩
  rw [← hPo]
  obtain ⟨nE, hnE⟩ : ∃ n, (syT x m.p l).length = n := ⟨_, rfl⟩
  obtain ⟨nF, hnF⟩ : ∃ n, (syT y m.q l).length = n := ⟨_, rfl⟩
  rw [hnE] at CA0 S50
  rw [hnF] at CB0 S51
  obtain ⟨X, hX⟩ : ∃ X, m.m.2.2 ++ syT x m.p l = X := ⟨_, rfl⟩
  obtain ⟨Y, hY⟩ : ∃ Y, m.n.2.2 ++ syT y m.q l = Y := ⟨_, rfl⟩
  rw [hX] at CA0 HP0 hlX
  rw [hY] at CB0 HP0 hlY
  obtain ⟨nX, hnX⟩ : ∃ n, nxT x m.p l = n := ⟨_, rfl⟩
  obtain ⟨nY, hnY⟩ : ∃ n, nxT y m.q l = n := ⟨_, rfl⟩
  rw [hnX] at S40 HP0
  rw [hnY] at S41 HP0
  have HWb : Hid (wb = ((((w.alloc (tnO x.I x.O x.S a3 x.F.length ac3 (some ⟨e4, o4, none⟩) x.N.length ac4 (some ⟨e5, o5, none⟩) x.Y.length ac5 a6 x.E.length ac6)).alloc (tnO y.I y.O y.S b3 y.F.length bc3 (some ⟨f4, q4, none⟩) y.N.length bc4 (some ⟨f5, q5, none⟩) y.Y.length bc5 b6 y.E.length bc6)).alloc (mtO m)).alloc (.cells #[.int .i64 0, .int .i64 0, .int .i64 0, .int .i64 0, .slice none 0 0, .slice none 0 0] 66))) := by show _ = _; rw [hwb, hw2]
  have HRB : Hid (wb.heap[w.heap.size + 1 + 1 + 1]? = some mtZ ∧ wb.heap.size = w.heap.size + 1 + 1 + 1 + 1) := ⟨hrb, sb⟩
  have GW : Hid (w.grownBy wb none) := gw
  have x0 := (BM.out wb (grown_refl _ _)).b0
  have x1 := (BM.out wb (grown_refl _ _)).b1
  clear hnX hnY hX hY hnE hnF hPo hw2 hwb g2 gb s2 bx by' bm hs5 hs5' hs4 hs4' h8 h8' hex hey hm hn hx hy rx ry hrb sb gw HE
  go_enter Try.func50, Try.ntmps50
  go_wp2_with fail
  rw [← HWb.out]
  go_quiet (fail)
  go_wp2_with fail
  obtain ⟨w3, hw3⟩ : ∃ W, W = wb.drewN nq := ⟨_, rfl⟩
  have G3 : Hid (wb.grownBy w3 none) := by rw [hw3]; exact grown_drewN (grown_refl _ _) _
  rw [← hw3]
  clear hw3 x0 x1
  have CTA : Hid (∀ (W : World) (g2 : Nat), w3.grownBy W none → C2 W g2 (.slice m.m.1 m.m.2.2.length m.m.2.1) (.slice r6 nE k6) → Calls Try.prog 39 #[.slice (some ⟨g2, 0, none⟩) 2 2] W (CatX X W)) := fun W g2 hW => CA0.out W g2 (grown_trans G3.out hW)
  have CTB : Hid (∀ (W : World) (g2 : Nat), w3.grownBy W none → C2 W g2 (.slice m.n.1 m.n.2.2.length m.n.2.1) (.slice s6 nF l6) → Calls Try.prog 39 #[.slice (some ⟨g2, 0, none⟩) 2 2] W (CatX Y W)) := fun W g2 hW => CB0.out W g2 (grown_trans G3.out hW)
  have S0 : Hid (SO w.heap.size (w.heap.size + 1) (w.heap.size + 1 + 1) m.p m.q l (.slice m.m.1 m.m.2.2.length m.m.2.1) (.slice m.n.1 m.n.2.2.length m.n.2.1) (.slice (some ⟨e5, o5, none⟩) x.Y.length ac5) (.slice (some ⟨f5, q5, none⟩) y.Y.length bc5) e5 o5 (.slice (some ⟨e6, o6, none⟩) I k5) f5 q5 (.slice (some ⟨f6, q6, none⟩) I l5) e6 o6 (.slice r6 nE k6) f6 q6 (.slice s6 nF l6) w3) := ⟨(BM.out w3 G3.out).b4, (BM.out w3 G3.out).b5, (BX.out w3 G3.out).b5, (BY.out w3 G3.out).b5, (S50.out w3 G3.out).1, (S51.out w3 G3.out).1, (S50.out w3 G3.out).2.1, (S51.out w3 G3.out).2.1⟩
  clear CA0 CB0
  go_cut [13, 14] (fun v13 v14 wc => ∃ ax kx ay ky, v13 = .slice ax X.length kx ∧ v14 = .slice ay Y.length ky ∧ Ints wc ax X ∧ Ints wc ay Y ∧ w3.grownBy wc none ∧ (∀ z, ax = some z → w3.heap.size ≤ z.block ∧ z.block < wc.heap.size) ∧ X.length ≤ kx ∧ (∀ z, ay = some z → w3.heap.size ≤ z.block ∧ z.block < wc.heap.size) ∧ Y.length ≤ ky)
  case first =>
    refine wp_region_held_drew (S := SO w.heap.size (w.heap.size + 1) (w.heap.size + 1 + 1) m.p m.q l (.slice m.m.1 m.m.2.2.length m.m.2.1) (.slice m.n.1 m.n.2.2.length m.n.2.1) (.slice (some ⟨e5, o5, none⟩) x.Y.length ac5) (.slice (some ⟨f5, q5, none⟩) y.Y.length bc5) e5 o5 (.slice (some ⟨e6, o6, none⟩) I k5) f5 q5 (.slice (some ⟨f6, q6, none⟩) I l5) e6 o6 (.slice r6 nE k6) f6 q6 (.slice s6 nF l6)) (by kernel_rfl) (S0.out.kept (grown_drew (grown_refl _ _))) (fun hHeld => ?_)
    refine wpAnyH_take (i := 0) (v := ?_) rfl (by kernel_rfl) (by kernel_rfl) (by kernel_rfl) (fun _ _ _ h => h) (Or.inl ⟨by rfl, ?_⟩) (by assumption) ?_
    rotate_left
    · intro W hSw
      obtain ⟨t4, t5, ta, tb, tc, td, te, tf⟩ := hSw
      go_simp
      with_reducible rfl
    try simp only [Act.put, List.getElem_toArray, List.getElem_cons_succ, List.getElem_cons_zero, List.setIfInBounds_toArray, List.set_cons_zero, List.set_cons_succ]
    refine wpAnyH_take (i := 1) (v := ?_) rfl (by kernel_rfl) (by kernel_rfl) (by kernel_rfl) (fun _ _ _ h => h) (Or.inl ⟨by rfl, ?_⟩) (by assumption) ?_
    rotate_left
    · intro W hSw
      obtain ⟨t4, t5, ta, tb, tc, td, te, tf⟩ := hSw
      go_simp
      with_reducible rfl
    try simp only [Act.put, List.getElem_toArray, List.getElem_cons_succ, List.getElem_cons_zero, List.setIfInBounds_toArray, List.set_cons_zero, List.set_cons_succ]
    refine wpAnyH_take (i := 2) (v := ?_) rfl (by kernel_rfl) (by kernel_rfl) (by kernel_rfl) (fun _ _ _ h => h) (Or.inl ⟨by rfl, ?_⟩) (by assumption) ?_
    rotate_left
    · intro W hSw
      obtain ⟨t4, t5, ta, tb, tc, td, te, tf⟩ := hSw
      go_simp
      with_reducible rfl
    try simp only [Act.put, List.getElem_toArray, List.getElem_cons_succ, List.getElem_cons_zero, List.setIfInBounds_toArray, List.set_cons_zero, List.set_cons_succ]
    refine wpAnyH_take (i := 3) (v := ?_) rfl (by kernel_rfl) (by kernel_rfl) (by kernel_rfl) (fun _ _ _ h => h) (Or.inl ⟨by rfl, ?_⟩) (by assumption) ?_
    rotate_left
    · intro W hSw
      obtain ⟨t4, t5, ta, tb, tc, td, te, tf⟩ := hSw
      go_simp
      with_reducible rfl
    try simp only [Act.put, List.getElem_toArray, List.getElem_cons_succ, List.getElem_cons_zero, List.setIfInBounds_toArray, List.set_cons_zero, List.set_cons_succ]
    refine wpAnyH_take (i := 4) (v := ?_) rfl (by kernel_rfl) (by kernel_rfl) (by kernel_rfl) (fun _ _ _ h => h) (Or.inl ⟨by rfl, ?_⟩) (by assumption) ?_
    rotate_left
    · intro W hSw
      obtain ⟨t4, t5, ta, tb, tc, td, te, tf⟩ := hSw
      go_simp
      with_reducible rfl
    try simp only [Act.put, List.getElem_toArray, List.getElem_cons_succ, List.getElem_cons_zero, List.setIfInBounds_toArray, List.set_cons_zero, List.set_cons_succ]
    refine wpAnyH_take (i := 5) (v := ?_) rfl (by kernel_rfl) (by kernel_rfl) (by kernel_rfl) (fun _ _ _ h => h) (Or.inl ⟨by rfl, ?_⟩) (by assumption) ?_
    rotate_left
    · intro W hSw
      obtain ⟨t4, t5, ta, tb, tc, td, te, tf⟩ := hSw
      go_simp
      with_reducible rfl
    try simp only [Act.put, List.getElem_toArray, List.getElem_cons_succ, List.getElem_cons_zero, List.setIfInBounds_toArray, List.set_cons_zero, List.set_cons_succ]
    refine wpAnyH_take (i := 6) (v := ?_) rfl (by kernel_rfl) (by kernel_rfl) (by kernel_rfl) (fun _ _ _ h => h) (Or.inl ⟨by rfl, ?_⟩) (by assumption) ?_
    rotate_left
    · intro W hSw
      obtain ⟨t4, t5, ta, tb, tc, td, te, tf⟩ := hSw
      go_simp
      with_reducible rfl
    try simp only [Act.put, List.getElem_toArray, List.getElem_cons_succ, List.getElem_cons_zero, List.setIfInBounds_toArray, List.set_cons_zero, List.set_cons_succ]
    refine wpAnyH_take (i := 7) (v := ?_) rfl (by kernel_rfl) (by kernel_rfl) (by kernel_rfl) (fun _ _ _ h => h) (Or.inl ⟨by rfl, ?_⟩) (by assumption) ?_
    rotate_left
    · intro W hSw
      obtain ⟨t4, t5, ta, tb, tc, td, te, tf⟩ := hSw
      go_simp
      with_reducible rfl
    try simp only [Act.put, List.getElem_toArray, List.getElem_cons_succ, List.getElem_cons_zero, List.setIfInBounds_toArray, List.set_cons_zero, List.set_cons_succ]
    refine wpAnyH_take (i := 8) (v := ?_) rfl (by kernel_rfl) (by kernel_rfl) (by kernel_rfl) (fun _ _ _ h => h) (Or.inl ⟨by rfl, ?_⟩) (by assumption) ?_
    rotate_left
    · intro W hSw
      obtain ⟨t4, t5, ta, tb, tc, td, te, tf⟩ := hSw
      go_simp
      with_reducible rfl
    try simp only [Act.put, List.getElem_toArray, List.getElem_cons_succ, List.getElem_cons_zero, List.setIfInBounds_toArray, List.set_cons_zero, List.set_cons_succ]
    refine wpAnyH_take (i := 9) (v := ?_) rfl (by kernel_rfl) (by kernel_rfl) (by kernel_rfl) (fun _ _ _ h => h) (Or.inl ⟨by rfl, ?_⟩) (by assumption) ?_
    rotate_left
    · intro W hSw
      obtain ⟨t4, t5, ta, tb, tc, td, te, tf⟩ := hSw
      go_simp
      with_reducible rfl
    try simp only [Act.put, List.getElem_toArray, List.getElem_cons_succ, List.getElem_cons_zero, List.setIfInBounds_toArray, List.set_cons_zero, List.set_cons_succ]
    refine wpAnyH_take (i := 10) (v := ?_) rfl (by kernel_rfl) (by kernel_rfl) (by kernel_rfl) (fun _ _ _ h => h) (Or.inl ⟨by rfl, ?_⟩) (by assumption) ?_
    rotate_left
    · intro W hSw
      obtain ⟨t4, t5, ta, tb, tc, td, te, tf⟩ := hSw
      go_simp
      with_reducible rfl
    try simp only [Act.put, List.getElem_toArray, List.getElem_cons_succ, List.getElem_cons_zero, List.setIfInBounds_toArray, List.set_cons_zero, List.set_cons_succ]
    refine wpAnyH_take (i := 13) (v := ?_) rfl (by kernel_rfl) (by kernel_rfl) (by kernel_rfl) (fun _ _ _ h => h) (Or.inl ⟨by rfl, ?_⟩) (by assumption) ?_
    rotate_left
    · intro W hSw
      obtain ⟨t4, t5, ta, tb, tc, td, te, tf⟩ := hSw
      go_simp
      with_reducible rfl
    try simp only [Act.put, List.getElem_toArray, List.getElem_cons_succ, List.getElem_cons_zero, List.setIfInBounds_toArray, List.set_cons_zero, List.set_cons_succ]
    refine wpAnyH_take (i := 14) (v := ?_) rfl (by kernel_rfl) (by kernel_rfl) (by kernel_rfl) (fun _ _ _ h => h) (Or.inl ⟨by rfl, ?_⟩) (by assumption) ?_
    rotate_left
    · intro W hSw
      obtain ⟨t4, t5, ta, tb, tc, td, te, tf⟩ := hSw
      go_simp
      with_reducible rfl
    try simp only [Act.put, List.getElem_toArray, List.getElem_cons_succ, List.getElem_cons_zero, List.setIfInBounds_toArray, List.set_cons_zero, List.set_cons_succ]
    refine wpAnyH_take (i := 15) (v := ?_) rfl (by kernel_rfl) (by kernel_rfl) (by kernel_rfl) (fun _ _ _ h => h) (Or.inl ⟨by rfl, ?_⟩) (by assumption) ?_
    rotate_left
    · intro W hSw
      obtain ⟨t4, t5, ta, tb, tc, td, te, tf⟩ := hSw
      go_simp
      with_reducible rfl
    try simp only [Act.put, List.getElem_toArray, List.getElem_cons_succ, List.getElem_cons_zero, List.setIfInBounds_toArray, List.set_cons_zero, List.set_cons_succ]
    refine wpAnyH_take (i := 16) (v := ?_) rfl (by kernel_rfl) (by kernel_rfl) (by kernel_rfl) (fun _ _ _ h => h) (Or.inl ⟨by rfl, ?_⟩) (by assumption) ?_
    rotate_left
    · intro W hSw
      obtain ⟨t4, t5, ta, tb, tc, td, te, tf⟩ := hSw
      go_simp
      with_reducible rfl
    try simp only [Act.put, List.getElem_toArray, List.getElem_cons_succ, List.getElem_cons_zero, List.setIfInBounds_toArray, List.set_cons_zero, List.set_cons_succ]
    refine wpAnyH_take (i := 17) (v := ?_) rfl (by kernel_rfl) (by kernel_rfl) (by kernel_rfl) (fun _ _ _ h => h) (Or.inl ⟨by rfl, ?_⟩) (by assumption) ?_
    rotate_left
    · intro W hSw
      obtain ⟨t4, t5, ta, tb, tc, td, te, tf⟩ := hSw
      go_simp
      with_reducible rfl
    try simp only [Act.put, List.getElem_toArray, List.getElem_cons_succ, List.getElem_cons_zero, List.setIfInBounds_toArray, List.set_cons_zero, List.set_cons_succ]
    refine wpAnyH_take (i := 18) (v := ?_) rfl (by kernel_rfl) (by kernel_rfl) (by kernel_rfl) (fun _ _ _ h => h) (Or.inl ⟨by rfl, ?_⟩) (by assumption) ?_
    rotate_left
    · intro W hSw
      obtain ⟨t4, t5, ta, tb, tc, td, te, tf⟩ := hSw
      go_simp
      with_reducible rfl
    try simp only [Act.put, List.getElem_toArray, List.getElem_cons_succ, List.getElem_cons_zero, List.setIfInBounds_toArray, List.set_cons_zero, List.set_cons_succ]
    refine wpAnyH_take (i := 19) (v := ?_) rfl (by kernel_rfl) (by kernel_rfl) (by kernel_rfl) (fun _ _ _ h => h) (Or.inl ⟨by rfl, ?_⟩) (by assumption) ?_
    rotate_left
    · intro W hSw
      obtain ⟨t4, t5, ta, tb, tc, td, te, tf⟩ := hSw
      go_simp
      with_reducible rfl
    try simp only [Act.put, List.getElem_toArray, List.getElem_cons_succ, List.getElem_cons_zero, List.setIfInBounds_toArray, List.set_cons_zero, List.set_cons_succ]
    refine wpAnyH_take (i := 20) (v := ?_) rfl (by kernel_rfl) (by kernel_rfl) (by kernel_rfl) (fun _ _ _ h => h) (Or.inl ⟨by rfl, ?_⟩) (by assumption) ?_
    rotate_left
    · intro W hSw
      obtain ⟨t4, t5, ta, tb, tc, td, te, tf⟩ := hSw
      go_simp
      with_reducible rfl
    try simp only [Act.put, List.getElem_toArray, List.getElem_cons_succ, List.getElem_cons_zero, List.setIfInBounds_toArray, List.set_cons_zero, List.set_cons_succ]
    refine wpAnyH_take (i := 21) (v := ?_) rfl (by kernel_rfl) (by kernel_rfl) (by kernel_rfl) (fun _ _ _ h => h) (Or.inl ⟨by rfl, ?_⟩) (by assumption) ?_
    rotate_left
    · intro W hSw
      obtain ⟨t4, t5, ta, tb, tc, td, te, tf⟩ := hSw
      go_simp
      with_reducible rfl
    try simp only [Act.put, List.getElem_toArray, List.getElem_cons_succ, List.getElem_cons_zero, List.setIfInBounds_toArray, List.set_cons_zero, List.set_cons_succ]
    refine wpAnyH_take (i := 22) (v := ?_) rfl (by kernel_rfl) (by kernel_rfl) (by kernel_rfl) (fun _ _ _ h => h) (Or.inl ⟨by rfl, ?_⟩) (by assumption) ?_
    rotate_left
    · intro W hSw
      obtain ⟨t4, t5, ta, tb, tc, td, te, tf⟩ := hSw
      go_simp
      with_reducible rfl
    try simp only [Act.put, List.getElem_toArray, List.getElem_cons_succ, List.getElem_cons_zero, List.setIfInBounds_toArray, List.set_cons_zero, List.set_cons_succ]
    refine wpAnyH_take (i := 23) (v := ?_) rfl (by kernel_rfl) (by kernel_rfl) (by kernel_rfl) (fun _ _ _ h => h) (Or.inl ⟨by rfl, ?_⟩) (by assumption) ?_
    rotate_left
    · intro W hSw
      obtain ⟨t4, t5, ta, tb, tc, td, te, tf⟩ := hSw
      go_simp
      with_reducible rfl
    try simp only [Act.put, List.getElem_toArray, List.getElem_cons_succ, List.getElem_cons_zero, List.setIfInBounds_toArray, List.set_cons_zero, List.set_cons_succ]
    refine wpAnyH_ready (rs := [11, 24]) (by kernel_rfl) (by simp) ?_
    refine AllReadyH.cons (o := _) rfl (fun K' hK => ?_) ?_
    · go_simp
      refine hK.out _ _ (hHeld.kept (grown_alloc _ _)) (fun hHeld => ?_)
      clear hK K'
      try simp only [Act.put, List.getElem_toArray, List.getElem_cons_succ, List.getElem_cons_zero, List.setIfInBounds_toArray, List.set_cons_zero, List.set_cons_succ]
      refine wpAnyH_ready (rs := [12, 24]) (by kernel_rfl) (by simp) ?_
      refine AllReadyH.cons (o := _) rfl (fun K' hK => ?_) ?_
      · go_simp
        refine (CTA.out _ _ (gr_1 _ _) (c2_a _ (.slice m.m.1 m.m.2.2.length m.m.2.1) (.slice r6 nE k6) _)).mono ?_
        rintro E w6 ⟨ax, kx, rfl, hix, hgx, hnx, hcx⟩
        have GX : Hid (w3.grownBy w6 none) := grown_trans (gr_1 w3 _) hgx
        have HIX : Hid (Ints w6 ax X) := hix
        have HNX : Hid ((∀ y, ax = some y → w3.heap.size ≤ y.block ∧ y.block < w6.heap.size) ∧ X.length ≤ kx) := ⟨fun y hy => ⟨Nat.le_trans (gr_1 w3 _).size (hnx y hy).1, (hnx y hy).2⟩, hcx⟩
        clear hix hnx hcx
        go_wp2_with fail
        refine hK.out _ _ (hHeld.kept hgx) (fun hHeld => ?_)
        clear hK K'
        try simp only [Act.put, List.getElem_toArray, List.getElem_cons_succ, List.getElem_cons_zero, List.setIfInBounds_toArray, List.set_cons_zero, List.set_cons_succ]
        refine wpAnyH_ready (rs := [24]) (by kernel_rfl) (by simp) ?_
        refine AllReadyH.cons (o := _) rfl (fun K' hK => ?_) ?_
        · go_simp
          refine hK.out _ _ (hHeld.kept (grown_alloc _ _)) (fun hHeld => ?_)
          clear hK K'
          try simp only [Act.put, List.getElem_toArray, List.getElem_cons_succ, List.getElem_cons_zero, List.setIfInBounds_toArray, List.set_cons_zero, List.set_cons_succ]
          refine wpAnyH_ready (rs := [25]) (by kernel_rfl) (by simp) ?_
          refine AllReadyH.cons (o := _) rfl (fun K' hK => ?_) ?_
          · go_simp
            refine (CTB.out _ _ (grown_trans GX.out (grown_alloc _ _)) (c2_new _ (.slice m.n.1 m.n.2.2.length m.n.2.1) (.slice s6 nF l6) _)).mono ?_
            rintro E w7 ⟨ay, ky, rfl, hiy, hgy, hny, hcy⟩
            have G67 : Hid (w6.grownBy w7 none) := grown_trans (grown_alloc _ _) hgy
            have HIY : Hid (Ints w7 ay Y) := hiy
            have HNY : Hid ((∀ y, ay = some y → w3.heap.size ≤ y.block ∧ y.block < w7.heap.size) ∧ Y.length ≤ ky) := ⟨fun y hy => ⟨Nat.le_trans (grown_trans GX.out (grown_alloc _ _)).size (hny y hy).1, (hny y hy).2⟩, hcy⟩
            clear hiy hny hcy
            go_wp2_with fail
            refine hK.out _ _ (hHeld.kept hgy) (fun hHeld => ?_)
            clear hK K'
            try simp only [Act.put, List.getElem_toArray, List.getElem_cons_succ, List.getElem_cons_zero, List.setIfInBounds_toArray, List.set_cons_zero, List.set_cons_succ]
            refine wpAnyH_take (i := 26) (v := ?_) rfl (by kernel_rfl) (by kernel_rfl) (by kernel_rfl) (fun _ _ _ h => h) (Or.inl ⟨by rfl, ?_⟩) (by assumption) ?_
            rotate_left
            · intro W hSw
              obtain ⟨t4, t5, ta, tb, tc, td, te, tf⟩ := hSw
              go_simp
              with_reducible rfl
            try simp only [Act.put, List.getElem_toArray, List.getElem_cons_succ, List.getElem_cons_zero, List.setIfInBounds_toArray, List.set_cons_zero, List.set_cons_succ]
            refine wpAnyH_take (i := 27) (v := ?_) rfl (by kernel_rfl) (by kernel_rfl) (by kernel_rfl) (fun _ _ _ h => h) (Or.inl ⟨by rfl, ?_⟩) (by assumption) ?_
            rotate_left
            · intro W hSw
              obtain ⟨t4, t5, ta, tb, tc, td, te, tf⟩ := hSw
              go_simp
              with_reducible rfl
            try simp only [Act.put, List.getElem_toArray, List.getElem_cons_succ, List.getElem_cons_zero, List.setIfInBounds_toArray, List.set_cons_zero, List.set_cons_succ]
            refine wpAnyH_done (by kernel_rfl) ?_ _
            go_wp2_with fail
            go_meet
            case rel => exact ⟨ax, kx, ay, ky, rfl, rfl, HIX.out.grown G67.out, HIY.out, grown_trans GX.out G67.out, fun yy hy => ⟨(HNX.out.1 yy hy).1, Nat.lt_of_lt_of_le (HNX.out.1 yy hy).2 G67.out.size⟩, HNX.out.2, HNY.out.1, HNY.out.2⟩
          exact AllReadyH.nil
        exact AllReadyH.nil
      refine AllReadyH.cons (o := _) rfl (fun K' hK => ?_) ?_
      · go_simp
        refine hK.out _ _ (hHeld.kept (grown_alloc _ _)) (fun hHeld => ?_)
        clear hK K'
        try simp only [Act.put, List.getElem_toArray, List.getElem_cons_succ, List.getElem_cons_zero, List.setIfInBounds_toArray, List.set_cons_zero, List.set_cons_succ]
        refine wpAnyH_ready (rs := [12]) (by kernel_rfl) (by simp) ?_
        refine AllReadyH.cons (o := _) rfl (fun K' hK => ?_) ?_
        · go_simp
          refine (CTA.out _ _ (gr_2 _ _ _) (c2_b _ (.slice m.m.1 m.m.2.2.length m.m.2.1) (.slice r6 nE k6) _ _)).mono ?_
          rintro E w6 ⟨ax, kx, rfl, hix, hgx, hnx, hcx⟩
          have HB2 : Hid (C2 w6 (w3.heap.size + 1) (.slice m.n.1 m.n.2.2.length m.n.2.1) (.slice s6 nF l6)) := (c2_c w3 (.slice m.n.1 m.n.2.2.length m.n.2.1) (.slice s6 nF l6) _ _).kept hgx
          have GX : Hid (w3.grownBy w6 none) := grown_trans (gr_2 w3 _ _) hgx
          have HIX : Hid (Ints w6 ax X) := hix
          have HNX : Hid ((∀ y, ax = some y → w3.heap.size ≤ y.block ∧ y.block < w6.heap.size) ∧ X.length ≤ kx) := ⟨fun y hy => ⟨Nat.le_trans (gr_2 w3 _ _).size (hnx y hy).1, (hnx y hy).2⟩, hcx⟩
          clear hix hnx hcx
          go_wp2_with fail
          refine hK.out _ _ (hHeld.kept hgx) (fun hHeld => ?_)
          clear hK K'
          try simp only [Act.put, List.getElem_toArray, List.getElem_cons_succ, List.getElem_cons_zero, List.setIfInBounds_toArray, List.set_cons_zero, List.set_cons_succ]
          refine wpAnyH_ready (rs := [25]) (by kernel_rfl) (by simp) ?_
          refine AllReadyH.cons (o := _) rfl (fun K' hK => ?_) ?_
          · go_simp
            refine (CTB.out _ _ (GX.out) (HB2.out)).mono ?_
            rintro E w7 ⟨ay, ky, rfl, hiy, hgy, hny, hcy⟩
            have G67 : Hid (w6.grownBy w7 none) := grown_trans (grown_refl _ _) hgy
            have HIY : Hid (Ints w7 ay Y) := hiy
            have HNY : Hid ((∀ y, ay = some y → w3.heap.size ≤ y.block ∧ y.block < w7.heap.size) ∧ Y.length ≤ ky) := ⟨fun y hy => ⟨Nat.le_trans (GX.out).size (hny y hy).1, (hny y hy).2⟩, hcy⟩
            clear hiy hny hcy
            go_wp2_with fail
            refine hK.out _ _ (hHeld.kept hgy) (fun hHeld => ?_)
            clear hK K'
            try simp only [Act.put, List.getElem_toArray, List.getElem_cons_succ, List.getElem_cons_zero, List.setIfInBounds_toArray, List.set_cons_zero, List.set_cons_succ]
            refine wpAnyH_take (i := 26) (v := ?_) rfl (by kernel_rfl) (by kernel_rfl) (by kernel_rfl) (fun _ _ _ h => h) (Or.inl ⟨by rfl, ?_⟩) (by assumption) ?_
            rotate_left
            · intro W hSw
              obtain ⟨t4, t5, ta, tb, tc, td, te, tf⟩ := hSw
              go_simp
              with_reducible rfl
            try simp only [Act.put, List.getElem_toArray, List.getElem_cons_succ, List.getElem_cons_zero, List.setIfInBounds_toArray, List.set_cons_zero, List.set_cons_succ]
            refine wpAnyH_take (i := 27) (v := ?_) rfl (by kernel_rfl) (by kernel_rfl) (by kernel_rfl) (fun _ _ _ h => h) (Or.inl ⟨by rfl, ?_⟩) (by assumption) ?_
            rotate_left
            · intro W hSw
              obtain ⟨t4, t5, ta, tb, tc, td, te, tf⟩ := hSw
              go_simp
              with_reducible rfl
            try simp only [Act.put, List.getElem_toArray, List.getElem_cons_succ, List.getElem_cons_zero, List.setIfInBounds_toArray, List.set_cons_zero, List.set_cons_succ]
            refine wpAnyH_done (by kernel_rfl) ?_ _
            go_wp2_with fail
            go_meet
            case rel => exact ⟨ax, kx, ay, ky, rfl, rfl, HIX.out.grown G67.out, HIY.out, grown_trans GX.out G67.out, fun yy hy => ⟨(HNX.out.1 yy hy).1, Nat.lt_of_lt_of_le (HNX.out.1 yy hy).2 G67.out.size⟩, HNX.out.2, HNY.out.1, HNY.out.2⟩
          exact AllReadyH.nil
        exact AllReadyH.nil
      exact AllReadyH.nil
    refine AllReadyH.cons (o := _) rfl (fun K' hK => ?_) ?_
    · go_simp
      refine hK.out _ _ (hHeld.kept (grown_alloc _ _)) (fun hHeld => ?_)
      clear hK K'
      try simp only [Act.put, List.getElem_toArray, List.getElem_cons_succ, List.getElem_cons_zero, List.setIfInBounds_toArray, List.set_cons_zero, List.set_cons_succ]
      refine wpAnyH_ready (rs := [11]) (by kernel_rfl) (by simp) ?_
      refine AllReadyH.cons (o := _) rfl (fun K' hK => ?_) ?_
      · go_simp
        refine hK.out _ _ (hHeld.kept (grown_alloc _ _)) (fun hHeld => ?_)
        clear hK K'
        try simp only [Act.put, List.getElem_toArray, List.getElem_cons_succ, List.getElem_cons_zero, List.setIfInBounds_toArray, List.set_cons_zero, List.set_cons_succ]
        refine wpAnyH_ready (rs := [12]) (by kernel_rfl) (by simp) ?_
        refine AllReadyH.cons (o := _) rfl (fun K' hK => ?_) ?_
        · go_simp
          refine (CTA.out _ _ (gr_2 _ _ _) (c2_c _ (.slice m.m.1 m.m.2.2.length m.m.2.1) (.slice r6 nE k6) _ _)).mono ?_
          rintro E w6 ⟨ax, kx, rfl, hix, hgx, hnx, hcx⟩
          have HB2 : Hid (C2 w6 w3.heap.size (.slice m.n.1 m.n.2.2.length m.n.2.1) (.slice s6 nF l6)) := (c2_b w3 (.slice m.n.1 m.n.2.2.length m.n.2.1) (.slice s6 nF l6) _ _).kept hgx
          have GX : Hid (w3.grownBy w6 none) := grown_trans (gr_2 w3 _ _) hgx
          have HIX : Hid (Ints w6 ax X) := hix
          have HNX : Hid ((∀ y, ax = some y → w3.heap.size ≤ y.block ∧ y.block < w6.heap.size) ∧ X.length ≤ kx) := ⟨fun y hy => ⟨Nat.le_trans (gr_2 w3 _ _).size (hnx y hy).1, (hnx y hy).2⟩, hcx⟩
          clear hix hnx hcx
          go_wp2_with fail
          refine hK.out _ _ (hHeld.kept hgx) (fun hHeld => ?_)
          clear hK K'
          try simp only [Act.put, List.getElem_toArray, List.getElem_cons_succ, List.getElem_cons_zero, List.setIfInBounds_toArray, List.set_cons_zero, List.set_cons_succ]
          refine wpAnyH_ready (rs := [25]) (by kernel_rfl) (by simp) ?_
          refine AllReadyH.cons (o := _) rfl (fun K' hK => ?_) ?_
          · go_simp
            refine (CTB.out _ _ (GX.out) (HB2.out)).mono ?_
            rintro E w7 ⟨ay, ky, rfl, hiy, hgy, hny, hcy⟩
            have G67 : Hid (w6.grownBy w7 none) := grown_trans (grown_refl _ _) hgy
            have HIY : Hid (Ints w7 ay Y) := hiy
            have HNY : Hid ((∀ y, ay = some y → w3.heap.size ≤ y.block ∧ y.block < w7.heap.size) ∧ Y.length ≤ ky) := ⟨fun y hy => ⟨Nat.le_trans (GX.out).size (hny y hy).1, (hny y hy).2⟩, hcy⟩
            clear hiy hny hcy
            go_wp2_with fail
            refine hK.out _ _ (hHeld.kept hgy) (fun hHeld => ?_)
            clear hK K'
            try simp only [Act.put, List.getElem_toArray, List.getElem_cons_succ, List.getElem_cons_zero, List.setIfInBounds_toArray, List.set_cons_zero, List.set_cons_succ]
            refine wpAnyH_take (i := 26) (v := ?_) rfl (by kernel_rfl) (by kernel_rfl) (by kernel_rfl) (fun _ _ _ h => h) (Or.inl ⟨by rfl, ?_⟩) (by assumption) ?_
            rotate_left
            · intro W hSw
              obtain ⟨t4, t5, ta, tb, tc, td, te, tf⟩ := hSw
              go_simp
              with_reducible rfl
            try simp only [Act.put, List.getElem_toArray, List.getElem_cons_succ, List.getElem_cons_zero, List.setIfInBounds_toArray, List.set_cons_zero, List.set_cons_succ]
            refine wpAnyH_take (i := 27) (v := ?_) rfl (by kernel_rfl) (by kernel_rfl) (by kernel_rfl) (fun _ _ _ h => h) (Or.inl ⟨by rfl, ?_⟩) (by assumption) ?_
            rotate_left
            · intro W hSw
              obtain ⟨t4, t5, ta, tb, tc, td, te, tf⟩ := hSw
              go_simp
              with_reducible rfl
            try simp only [Act.put, List.getElem_toArray, List.getElem_cons_succ, List.getElem_cons_zero, List.setIfInBounds_toArray, List.set_cons_zero, List.set_cons_succ]
            refine wpAnyH_done (by kernel_rfl) ?_ _
            go_wp2_with fail
            go_meet
            case rel => exact ⟨ax, kx, ay, ky, rfl, rfl, HIX.out.grown G67.out, HIY.out, grown_trans GX.out G67.out, fun yy hy => ⟨(HNX.out.1 yy hy).1, Nat.lt_of_lt_of_le (HNX.out.1 yy hy).2 G67.out.size⟩, HNX.out.2, HNY.out.1, HNY.out.2⟩
          exact AllReadyH.nil
        exact AllReadyH.nil
      exact AllReadyH.nil
    exact AllReadyH.nil
  case rest =>
    obtain ⟨ax, kx, ay, ky, rfl, rfl, hix, hiy, hgc, hnx, hkx, hny, hky⟩ := hcut
    have GC : Hid (wb.grownBy wc none) := grown_trans G3.out hgc
    have HIX : Hid (Ints wc ax X) := hix
    have HIY : Hid (Ints wc ay Y) := hiy
    have HNX : Hid (∀ z, ax = some z → w3.heap.size ≤ z.block ∧ z.block < wc.heap.size) := hnx
    have HNY : Hid (∀ z, ay = some z → w3.heap.size ≤ z.block ∧ z.block < wc.heap.size) := hny
    have CA : Hid (∀ W, wc.grownBy W none → Calls Try.prog 47 #[.slice ax X.length kx, .slice ay Y.length ky] W (ApartP X Y ax ay kx ky W)) := fun W hW => apart_any X Y ax ay kx ky W (HIX.out.grown hW) (HIY.out.grown hW) hkx hky hlX hlY
    have HRb : Hid (wc.drew.heap[w.heap.size + 1 + 1 + 1]? = some mtZ ∧ w.heap.size + 1 + 1 + 1 < wc.drew.heap.size) := ⟨(GC.out.block _ (by have := HRB.out.2; omega) (by simp)).trans HRB.out.1, by have := HRB.out.2; have := GC.out.size; show _ < wc.heap.size; omega⟩
    have SQ : Hid (∀ W, wc.drew.grownBy W none → SN w.heap.size (w.heap.size + 1) m.p m.q l (.slice (some ⟨e4, o4, none⟩) x.N.length ac4) (.slice (some ⟨f4, q4, none⟩) y.N.length bc4) e4 o4 (.slice (some ⟨eb, ob, none⟩) I k4) eb ob nX f4 q4 (.slice (some ⟨fb, qb, none⟩) I l4) fb qb nY W) := fun W hW => by
      have g := grown_trans GC.out (grown_trans (grown_drew (grown_refl _ _)) hW)
      have gw := grown_trans GW.out g
      exact ⟨(BX.out W g).b4, (BY.out W g).b4, (S40.out W gw).1, (S41.out W gw).1, (S40.out W gw).2, (S41.out W gw).2⟩
    have SQ0 : Hid (SN w.heap.size (w.heap.size + 1) m.p m.q l (.slice (some ⟨e4, o4, none⟩) x.N.length ac4) (.slice (some ⟨f4, q4, none⟩) y.N.length bc4) e4 o4 (.slice (some ⟨eb, ob, none⟩) I k4) eb ob nX f4 q4 (.slice (some ⟨fb, qb, none⟩) I l4) fb qb nY wc.drew) := SQ.out _ (grown_refl _ _)
    obtain ⟨lx, ly⟩ := comT_le X Y
    have HF : Hid (∀ w9 W9, wc.drew.grownBy w9 none → w9.grownBy W9 (some (w.heap.size + 1 + 1 + 1)) → Po (.returned (mtV ⟨nX, nY, fr, l, (dropA ax (comT X Y) kx, kx - comT X Y, X.drop (comT X Y)), (dropA ay (comT X Y) ky, ky - comT X Y, Y.drop (comT X Y))⟩)) W9) := fun w9 W9 h9 hW9 => by
      have g9 : wc.grownBy w9 none := grown_trans (grown_drew (grown_refl _ _)) h9
      have hs3 : w.heap.size + 1 + 1 + 1 < w3.heap.size := by have := HRB.out.2; have := G3.out.size; omega
      have bxk : ∀ z, dropA ax (comT X Y) kx = some z → w3.heap.size ≤ z.block ∧ z.block < W9.heap.size := fun z hz => by
        obtain ⟨z', h1, h2⟩ := drop_block hz
        have := HNX.out z' h1
        have := g9.size
        have := hW9.size
        rw [h2]; omega
      have byk : ∀ z, dropA ay (comT X Y) ky = some z → w3.heap.size ≤ z.block ∧ z.block < W9.heap.size := fun z hz => by
        obtain ⟨z', h1, h2⟩ := drop_block hz
        have := HNY.out z' h1
        have := g9.size
        have := hW9.size
        rw [h2]; omega
      refine HP0.out ⟨nX, nY, fr, l, (dropA ax (comT X Y) kx, kx - comT X Y, X.drop (comT X Y)), (dropA ay (comT X Y) ky, ky - comT X Y, Y.drop (comT X Y))⟩ W9 rfl rfl rfl rfl rfl rfl ?_ ?_ ?_ ?_ ?_
      · exact (drop_ints (HIX.out.grown g9) lx hkx).far (fun z hz => by have := (bxk z hz).1; omega) hW9
      · exact (drop_ints (HIY.out.grown g9) ly hky).far (fun z hz => by have := (byk z hz).1; omega) hW9
      · intro z hz; have := bxk z hz; exact ⟨by omega, this.2⟩
      · intro z hz; have := byk z hz; exact ⟨by omega, this.2⟩
      · exact grown_new (grown_trans GW.out (grown_trans GC.out g9)) hW9 (by omega)
    have SS : Hid (∀ W9, wb.grownBy W9 (some (w.heap.size + 1 + 1 + 1)) → w.grownBy W9 none → SN w.heap.size (w.heap.size + 1) m.p m.q l (.slice (some ⟨e4, o4, none⟩) x.N.length ac4) (.slice (some ⟨f4, q4, none⟩) y.N.length bc4) e4 o4 (.slice (some ⟨eb, ob, none⟩) I k4) eb ob nX f4 q4 (.slice (some ⟨fb, qb, none⟩) I l4) fb qb nY W9) := fun W9 h gw => by
      exact ⟨h.cell (BX.out _ (grown_refl _ _)).b4 (by simp; omega), h.cell (BY.out _ (grown_refl _ _)).b4 (by simp), (S40.out _ gw).1, (S41.out _ gw).1, (S40.out _ gw).2, (S41.out _ gw).2⟩
    obtain ⟨XD, hXD⟩ : ∃ L, X.drop (comT X Y) = L := ⟨_, rfl⟩
    obtain ⟨YD, hYD⟩ : ∃ L, Y.drop (comT X Y) = L := ⟨_, rfl⟩
    obtain ⟨dX, hdX⟩ : ∃ L, dropA ax (comT X Y) kx = L := ⟨_, rfl⟩
    obtain ⟨dY, hdY⟩ : ∃ L, dropA ay (comT X Y) ky = L := ⟨_, rfl⟩
    obtain ⟨cX, hcX⟩ : ∃ L, kx - comT X Y = L := ⟨_, rfl⟩
    obtain ⟨cY, hcY⟩ : ∃ L, ky - comT X Y = L := ⟨_, rfl⟩
    rw [hXD, hYD, hdX, hdY, hcX, hcY] at HF
    have CA2 : Hid (∀ W, wc.grownBy W none → Calls Try.prog 47 #[.slice ax X.length kx, .slice ay Y.length ky] W fun e w' => e = .returned (.agg #[.slice dX XD.length cX, .slice dY YD.length cY]) ∧ W.grownBy w' none) := fun W hW => by
      have h1 := CA.out W hW
      unfold ApartP at h1
      rwa [hXD, hYD, hdX, hdY, hcX, hcY] at h1
    clear hix hiy hgc hnx hny HNX HNY CTA CTB S0 CA hXD hYD hdX hdY hcX hcY
    go_wp2_with fail
    refine wp_region_held_drew (S := SN w.heap.size (w.heap.size + 1) m.p m.q l (.slice (some ⟨e4, o4, none⟩) x.N.length ac4) (.slice (some ⟨f4, q4, none⟩) y.N.length bc4) e4 o4 (.slice (some ⟨eb, ob, none⟩) I k4) eb ob nX f4 q4 (.slice (some ⟨fb, qb, none⟩) I l4) fb qb nY) (by kernel_rfl) (SQ0.out) (fun hHeld => ?_)
    refine wpAnyH_take (i := 0) (v := ?_) rfl (by kernel_rfl) (by kernel_rfl) (by kernel_rfl) (fun _ _ _ h => h) (Or.inl ⟨by rfl, ?_⟩) (by assumption) ?_
    rotate_left
    · intro W hSw
      obtain ⟨t0, t1, t2, t3, t4, t5⟩ := hSw
      go_simp
      with_reducible rfl
    try simp only [Act.put, List.getElem_toArray, List.getElem_cons_succ, List.getElem_cons_zero, List.setIfInBounds_toArray, List.set_cons_zero, List.set_cons_succ]
    refine wpAnyH_take (i := 1) (v := ?_) rfl (by kernel_rfl) (by kernel_rfl) (by kernel_rfl) (fun _ _ _ h => h) (Or.inl ⟨by rfl, ?_⟩) (by assumption) ?_
    rotate_left
    · intro W hSw
      obtain ⟨t0, t1, t2, t3, t4, t5⟩ := hSw
      go_simp
      with_reducible rfl
    try simp only [Act.put, List.getElem_toArray, List.getElem_cons_succ, List.getElem_cons_zero, List.setIfInBounds_toArray, List.set_cons_zero, List.set_cons_succ]
    refine wpAnyH_take (i := 2) (v := ?_) rfl (by kernel_rfl) (by kernel_rfl) (by kernel_rfl) (fun _ _ _ h => h) (Or.inl ⟨by rfl, ?_⟩) (by assumption) ?_
    rotate_left
    · intro W hSw
      obtain ⟨t0, t1, t2, t3, t4, t5⟩ := hSw
      go_simp
      with_reducible rfl
    try simp only [Act.put, List.getElem_toArray, List.getElem_cons_succ, List.getElem_cons_zero, List.setIfInBounds_toArray, List.set_cons_zero, List.set_cons_succ]
    refine wpAnyH_take (i := 3) (v := ?_) rfl (by kernel_rfl) (by kernel_rfl) (by kernel_rfl) (fun _ _ _ h => h) (Or.inl ⟨by rfl, ?_⟩) (by assumption) ?_
    rotate_left
    · intro W hSw
      obtain ⟨t0, t1, t2, t3, t4, t5⟩ := hSw
      go_simp
      with_reducible rfl
    try simp only [Act.put, List.getElem_toArray, List.getElem_cons_succ, List.getElem_cons_zero, List.setIfInBounds_toArray, List.set_cons_zero, List.set_cons_succ]
    refine wpAnyH_take (i := 4) (v := ?_) rfl (by kernel_rfl) (by kernel_rfl) (by kernel_rfl) (fun _ _ _ h => h) (Or.inl ⟨by rfl, ?_⟩) (by assumption) ?_
    rotate_left
    · intro W hSw
      obtain ⟨t0, t1, t2, t3, t4, t5⟩ := hSw
      go_simp
      with_reducible rfl
    try simp only [Act.put, List.getElem_toArray, List.getElem_cons_succ, List.getElem_cons_zero, List.setIfInBounds_toArray, List.set_cons_zero, List.set_cons_succ]
    refine wpAnyH_take (i := 5) (v := ?_) rfl (by kernel_rfl) (by kernel_rfl) (by kernel_rfl) (fun _ _ _ h => h) (Or.inl ⟨by rfl, ?_⟩) (by assumption) ?_
    rotate_left
    · intro W hSw
      obtain ⟨t0, t1, t2, t3, t4, t5⟩ := hSw
      go_simp
      with_reducible rfl
    try simp only [Act.put, List.getElem_toArray, List.getElem_cons_succ, List.getElem_cons_zero, List.setIfInBounds_toArray, List.set_cons_zero, List.set_cons_succ]
    refine wpAnyH_take (i := 6) (v := ?_) rfl (by kernel_rfl) (by kernel_rfl) (by kernel_rfl) (fun _ _ _ h => h) (Or.inl ⟨by rfl, ?_⟩) (by assumption) ?_
    rotate_left
    · intro W hSw
      obtain ⟨t0, t1, t2, t3, t4, t5⟩ := hSw
      go_simp
      with_reducible rfl
    try simp only [Act.put, List.getElem_toArray, List.getElem_cons_succ, List.getElem_cons_zero, List.setIfInBounds_toArray, List.set_cons_zero, List.set_cons_succ]
    refine wpAnyH_take (i := 7) (v := ?_) rfl (by kernel_rfl) (by kernel_rfl) (by kernel_rfl) (fun _ _ _ h => h) (Or.inl ⟨by rfl, ?_⟩) (by assumption) ?_
    rotate_left
    · intro W hSw
      obtain ⟨t0, t1, t2, t3, t4, t5⟩ := hSw
      go_simp
      with_reducible rfl
    try simp only [Act.put, List.getElem_toArray, List.getElem_cons_succ, List.getElem_cons_zero, List.setIfInBounds_toArray, List.set_cons_zero, List.set_cons_succ]
    refine wpAnyH_take (i := 8) (v := ?_) rfl (by kernel_rfl) (by kernel_rfl) (by kernel_rfl) (fun _ _ _ h => h) (Or.inl ⟨by rfl, ?_⟩) (by assumption) ?_
    rotate_left
    · intro W hSw
      obtain ⟨t0, t1, t2, t3, t4, t5⟩ := hSw
      go_simp
      with_reducible rfl
    try simp only [Act.put, List.getElem_toArray, List.getElem_cons_succ, List.getElem_cons_zero, List.setIfInBounds_toArray, List.set_cons_zero, List.set_cons_succ]
    refine wpAnyH_take (i := 9) (v := ?_) rfl (by kernel_rfl) (by kernel_rfl) (by kernel_rfl) (fun _ _ _ h => h) (Or.inl ⟨by rfl, ?_⟩) (by assumption) ?_
    rotate_left
    · intro W hSw
      obtain ⟨t0, t1, t2, t3, t4, t5⟩ := hSw
      go_simp
      with_reducible rfl
    try simp only [Act.put, List.getElem_toArray, List.getElem_cons_succ, List.getElem_cons_zero, List.setIfInBounds_toArray, List.set_cons_zero, List.set_cons_succ]
    refine wpAnyH_take (i := 10) (v := ?_) rfl (by kernel_rfl) (by kernel_rfl) (by kernel_rfl) (fun _ _ _ h => h) (Or.inl ⟨by rfl, ?_⟩) (by assumption) ?_
    rotate_left
    · intro W hSw
      obtain ⟨t0, t1, t2, t3, t4, t5⟩ := hSw
      go_simp
      with_reducible rfl
    try simp only [Act.put, List.getElem_toArray, List.getElem_cons_succ, List.getElem_cons_zero, List.setIfInBounds_toArray, List.set_cons_zero, List.set_cons_succ]
    refine wpAnyH_take (i := 11) (v := ?_) rfl (by kernel_rfl) (by kernel_rfl) (by kernel_rfl) (fun _ _ _ h => h) (Or.inl ⟨by rfl, ?_⟩) (by assumption) ?_
    rotate_left
    · intro W hSw
      obtain ⟨t0, t1, t2, t3, t4, t5⟩ := hSw
      go_simp
      with_reducible rfl
    try simp only [Act.put, List.getElem_toArray, List.getElem_cons_succ, List.getElem_cons_zero, List.setIfInBounds_toArray, List.set_cons_zero, List.set_cons_succ]
    refine wpAnyH_take (i := 12) (v := ?_) rfl (by kernel_rfl) (by kernel_rfl) (by kernel_rfl) (fun _ _ _ h => h) (Or.inl ⟨by rfl, ?_⟩) (by assumption) ?_
    rotate_left
    · intro W hSw
      obtain ⟨t0, t1, t2, t3, t4, t5⟩ := hSw
      go_simp
      with_reducible rfl
    try simp only [Act.put, List.getElem_toArray, List.getElem_cons_succ, List.getElem_cons_zero, List.setIfInBounds_toArray, List.set_cons_zero, List.set_cons_succ]
    refine wpAnyH_take (i := 13) (v := ?_) rfl (by kernel_rfl) (by kernel_rfl) (by kernel_rfl) (fun _ _ _ h => h) (Or.inl ⟨by rfl, ?_⟩) (by assumption) ?_
    rotate_left
    · intro W hSw
      obtain ⟨t0, t1, t2, t3, t4, t5⟩ := hSw
      go_simp
      with_reducible rfl
    try simp only [Act.put, List.getElem_toArray, List.getElem_cons_succ, List.getElem_cons_zero, List.setIfInBounds_toArray, List.set_cons_zero, List.set_cons_succ]
    refine wpAnyH_take (i := 14) (v := ?_) rfl (by kernel_rfl) (by kernel_rfl) (by kernel_rfl) (fun _ _ _ h => h) (Or.inl ⟨by rfl, ?_⟩) (by assumption) ?_
    rotate_left
    · intro W hSw
      obtain ⟨t0, t1, t2, t3, t4, t5⟩ := hSw
      go_simp
      with_reducible rfl
    try simp only [Act.put, List.getElem_toArray, List.getElem_cons_succ, List.getElem_cons_zero, List.setIfInBounds_toArray, List.set_cons_zero, List.set_cons_succ]
    refine wpAnyH_take (i := 15) (v := ?_) rfl (by kernel_rfl) (by kernel_rfl) (by kernel_rfl) (fun _ _ _ h => h) (Or.inl ⟨by rfl, ?_⟩) (by assumption) ?_
    rotate_left
    · intro W hSw
      obtain ⟨t0, t1, t2, t3, t4, t5⟩ := hSw
      go_simp
      with_reducible rfl
    try simp only [Act.put, List.getElem_toArray, List.getElem_cons_succ, List.getElem_cons_zero, List.setIfInBounds_toArray, List.set_cons_zero, List.set_cons_succ]
    refine wpAnyH_take (i := 16) (v := ?_) rfl (by kernel_rfl) (by kernel_rfl) (by kernel_rfl) (fun _ _ _ h => h) (Or.inl ⟨by rfl, ?_⟩) (by assumption) ?_
    rotate_left
    · intro W hSw
      obtain ⟨t0, t1, t2, t3, t4, t5⟩ := hSw
      go_simp
      with_reducible rfl
    try simp only [Act.put, List.getElem_toArray, List.getElem_cons_succ, List.getElem_cons_zero, List.setIfInBounds_toArray, List.set_cons_zero, List.set_cons_succ]
    refine wpAnyH_take (i := 17) (v := ?_) rfl (by kernel_rfl) (by kernel_rfl) (by kernel_rfl) (fun _ _ _ h => h) (Or.inl ⟨by rfl, ?_⟩) (by assumption) ?_
    rotate_left
    · intro W hSw
      obtain ⟨t0, t1, t2, t3, t4, t5⟩ := hSw
      go_simp
      with_reducible rfl
    try simp only [Act.put, List.getElem_toArray, List.getElem_cons_succ, List.getElem_cons_zero, List.setIfInBounds_toArray, List.set_cons_zero, List.set_cons_succ]
    refine wpAnyH_take (i := 18) (v := ?_) rfl (by kernel_rfl) (by kernel_rfl) (by kernel_rfl) (fun _ _ _ h => h) (Or.inl ⟨by rfl, ?_⟩) (by assumption) ?_
    rotate_left
    · intro W hSw
      obtain ⟨t0, t1, t2, t3, t4, t5⟩ := hSw
      go_simp
      with_reducible rfl
    try simp only [Act.put, List.getElem_toArray, List.getElem_cons_succ, List.getElem_cons_zero, List.setIfInBounds_toArray, List.set_cons_zero, List.set_cons_succ]
    refine wpAnyH_take (i := 19) (v := ?_) rfl (by kernel_rfl) (by kernel_rfl) (by kernel_rfl) (fun _ _ _ h => h) (Or.inl ⟨by rfl, ?_⟩) (by assumption) ?_
    rotate_left
    · intro W hSw
      obtain ⟨t0, t1, t2, t3, t4, t5⟩ := hSw
      go_simp
      with_reducible rfl
    try simp only [Act.put, List.getElem_toArray, List.getElem_cons_succ, List.getElem_cons_zero, List.setIfInBounds_toArray, List.set_cons_zero, List.set_cons_succ]
    refine wpAnyH_take (i := 20) (v := ?_) rfl (by kernel_rfl) (by kernel_rfl) (by kernel_rfl) (fun _ _ _ h => h) (Or.inl ⟨by rfl, ?_⟩) (by assumption) ?_
    rotate_left
    · intro W hSw
      obtain ⟨t0, t1, t2, t3, t4, t5⟩ := hSw
      go_simp
      with_reducible rfl
    try simp only [Act.put, List.getElem_toArray, List.getElem_cons_succ, List.getElem_cons_zero, List.setIfInBounds_toArray, List.set_cons_zero, List.set_cons_succ]
    refine wpAnyH_ready (rs := [21]) (by kernel_rfl) (by simp) ?_
    refine AllReadyH.cons (o := _) rfl (fun K' hK => ?_) ?_
    · go_simp
      refine (CA2.out _ (grown_drew (grown_refl _ _))).mono ?_
      rintro E w9 ⟨rfl, hg9⟩
      have hb9 : w9.heap[w.heap.size + 1 + 1 + 1]? = some (mtZ) := (hg9.block _ HRb.out.2 (by simp)).trans HRb.out.1
      obtain ⟨p0, p1, p2, p3, p4, p5, z0, z1, z2, z3, z4, z5, W9, hW9, g9, y0, y1, y2, y3, y4, y5⟩ := six_store hb9 (.int .i64 (nX : Int)) (.int .i64 (nY : Int)) (.int .i64 fr) (.int .i64 (l : Int)) (.slice dX XD.length cX) (.slice dY YD.length cY)
      have HW9 : Hid (W9 = _) := hW9
      have F : Hid (Po (.returned (mtV ⟨nX, nY, fr, l, (dX, cX, XD), (dY, cY, YD)⟩)) W9) := HF.out w9 W9 hg9 g9
      have HS9 : Hid (SN w.heap.size (w.heap.size + 1) m.p m.q l (.slice (some ⟨e4, o4, none⟩) x.N.length ac4) (.slice (some ⟨f4, q4, none⟩) y.N.length bc4) e4 o4 (.slice (some ⟨eb, ob, none⟩) I k4) eb ob nX f4 q4 (.slice (some ⟨fb, qb, none⟩) I l4) fb qb nY W9) := SS.out W9 (grown_trans (grown_some (grown_trans GC.out (grown_trans (grown_drew (grown_refl _ _)) hg9))) g9) (grown_new (grown_trans GW.out (grown_trans GC.out (grown_trans (grown_drew (grown_refl _ _)) hg9))) g9 (by omega))
      clear hW9 hb9 g9
      go_wp2_with fail
      refine hK.out _ _ (SQ.out _ hg9) (fun hHeld => ?_)
      clear hK K'
      try simp only [Act.put, List.getElem_toArray, List.getElem_cons_succ, List.getElem_cons_zero, List.setIfInBounds_toArray, List.set_cons_zero, List.set_cons_succ]
      refine wpAnyH_take (i := 22) (v := ?_) rfl (by kernel_rfl) (by kernel_rfl) (by kernel_rfl) (fun _ _ _ h => h) (Or.inl ⟨by rfl, ?_⟩) (by assumption) ?_
      rotate_left
      · intro W hSw
        obtain ⟨t0, t1, t2, t3, t4, t5⟩ := hSw
        go_simp
        with_reducible rfl
      try simp only [Act.put, List.getElem_toArray, List.getElem_cons_succ, List.getElem_cons_zero, List.setIfInBounds_toArray, List.set_cons_zero, List.set_cons_succ]
      refine wpAnyH_ready (rs := [23]) (by kernel_rfl) (by simp) ?_
      refine AllReadyH.cons (o := _) rfl (fun K' hK => ?_) ?_
      · go_simp
        rw [← HW9.out]
        refine hK.out _ _ (HS9.out) (fun hHeld => ?_)
        clear hK K'
        try simp only [Act.put, List.getElem_toArray, List.getElem_cons_succ, List.getElem_cons_zero, List.setIfInBounds_toArray, List.set_cons_zero, List.set_cons_succ]
        refine wpAnyH_done (by kernel_rfl) ?_ _
        go_wp2_with fail
        exact bodyPost_ret (v := mtV ⟨nX, nY, fr, l, (dX, cX, XD), (dY, cY, YD)⟩) (by simp [results, Try.results50, go_sem, y0, y1, y2, y3, y4, y5]) rfl F.out
      exact AllReadyH.nil
    exact AllReadyH.nil

end Go.Proofs.Ytodcmlcpicabaaa

namespace Go.Proofs.Ytodcmlcpicabaaa
open Go.RowKit Go.Maps
set_option linter.unusedVariables false
set_option linter.unusedSimpArgs false

/-- What a meeting is of a word. -/
structure MtOf (x y : TrI) (ws : List (List Nat)) (k : Nat) (m : Mt) : Prop where
  is : MtIs ws k m
  p : m.p = stT x (ws.getD k [])
  q : m.q = stT y (ws.getD k [])
  more : MoreT x y (ws.getD k []) m.m.2.2 m.n.2.2
structure MetsT (x y : TrI) (ws : List (List Nat)) (ms : List Mt) : Prop where
  len : ms.length = ws.length
  all : ∀ k, k < ms.length → MtOf x y ws k (ms.getD k mt0)
theorem getD_left {α : Type} {d : α} {xs ys : List α} {k : Nat} (h : k < xs.length) : (xs ++ ys).getD k d = xs.getD k d := by simp [List.getD, List.getElem?_append_left h]
theorem getD_end {α : Type} {d : α} {xs : List α} {a : α} : (xs ++ [a]).getD xs.length d = a := by simp [List.getD]
theorem MtIs.left {ws us : List (List Nat)} {k : Nat} {m : Mt} (h : MtIs ws k m) (hk : k < ws.length) : MtIs (ws ++ us) k m := by
  rcases h with ⟨h1, h2⟩ | ⟨j, l, h1, h2, h3, h4⟩
  · exact .inl ⟨h1, by rw [getD_left hk]; exact h2⟩
  · exact .inr ⟨j, l, h1, h2, h3, by rw [getD_left hk, getD_left (by omega)]; exact h4⟩
theorem MetsT.put {x y : TrI} {ws : List (List Nat)} {ms : List Mt} {i l : Nat} {m' : Mt} (h : MetsT x y ws ms) (hi : i < ws.length) (hp : m'.p = nxT x (stT x (ws.getD i [])) l) (hq : m'.q = nxT y (stT y (ws.getD i [])) l) (hf : m'.fr = (i : Int)) (hl : m'.l = (l : Int)) (hm : MoreT x y (ws.getD i [] ++ [l]) m'.m.2.2 m'.n.2.2) : MetsT x y (ws ++ [ws.getD i [] ++ [l]]) (ms ++ [m']) := by
  refine ⟨by rw [List.length_append, List.length_append, h.len]; rfl, fun k hk => ?_⟩
  rw [List.length_append, List.length_singleton] at hk
  by_cases e : k = ms.length
  · subst e
    rw [getD_end]
    have e2 : (ws ++ [ws.getD i [] ++ [l]]).getD ms.length [] = ws.getD i [] ++ [l] := by rw [h.len]; exact getD_end
    refine ⟨.inr ⟨i, l, by rw [h.len]; exact hi, hf, hl, by rw [e2, getD_left hi]⟩, ?_, ?_, ?_⟩
    · rw [e2, stT_snoc]; exact hp
    · rw [e2, stT_snoc]; exact hq
    · rw [e2]; exact hm
  · have hk' : k < ms.length := by omega
    have hk2 : k < ws.length := by rw [← h.len]; exact hk'
    have h1 := h.all k hk'
    rw [getD_left hk']
    exact ⟨h1.is.left hk2, by rw [getD_left hk2]; exact h1.p, by rw [getD_left hk2]; exact h1.q, by rw [getD_left hk2]; exact h1.more⟩
def kidsTo (k : Nat) (w : List Nat) : List (List Nat) := (List.range k).map fun l => w ++ [l]
theorem kidsTo_succ (k : Nat) (w : List Nat) : kidsTo (k + 1) w = kidsTo k w ++ [w ++ [k]] := by simp [kidsTo, List.range_succ]

/-- Behind i looks. -/
def UnSt (x y : TrI) (I : Nat) (W1 : World) (b i : Nat) (v6 : Value) (W : World) : Prop :=
  ∃ g c ms ws S, v6 = .slice (some ⟨g, 0, none⟩) (List.length ms) c ∧ Qst x y I i ws S ∧ MetsT x y ws ms ∧ OwnM W1 W g c ms ∧ SetP W b y.N.length S
/-- In the i-th look, behind k letters. -/
def UnIn (x y : TrI) (W1 : World) (b i k : Nat) (ws : List (List Nat)) (S : List Nat) (bb : Nat) (m : Mt) (ms0 : List Mt) (v6 : Value) (W : World) : Prop :=
  ∃ g c ts, v6 = .slice (some ⟨g, 0, none⟩) (ms0 ++ ts).length c ∧ MetsT x y (ws ++ kidsTo k (ws.getD i [])) (ms0 ++ ts) ∧ OwnM W1 W g c (ms0 ++ ts) ∧ SetP W b y.N.length S ∧ g ≠ bb ∧ bb < W.heap.size ∧ Box6M W bb m
theorem cell_ltT {w : World} {p : Addr} {v : Value} (h : w.cell? p = some v) : p.block < w.heap.size := by
  cases ho : w.heap[p.block]? with
  | none =>
    unfold World.cell? at h
    revert h
    simp [ho]
  | some o => exact (Array.getElem?_eq_some_iff.1 ho).1
theorem ownM_one {W1 w : World} {m : Mt} (g : W1.grownBy w none) (hm : Ints w m.m.1 m.m.2.2) (hn : Ints w m.n.1 m.n.2.2) (lm : m.m.2.2.length ≤ 16) (ln : m.n.2.2.length ≤ 16) : OwnM W1 (w.alloc (mtO m)) w.heap.size 1 [m] := by
  have hl : ∀ t : Trip, Ints w t.1 t.2.2 → t.2.2.length ≤ 16 → LieP (w.alloc (mtO m)) w.heap.size t := fun t ht hl => by
    refine ⟨ht.grown (grown_alloc _ _), hl, ?_⟩
    rcases ht with h | ⟨b, off, h1, h2⟩
    · exact .inl h
    · by_cases h0 : t.2.2 = []
      · exact .inl h0
      · refine .inr ⟨⟨b, off, none⟩, h1, ?_⟩
        have hc := h2 0 (List.length_pos_iff.2 h0)
        have hlt : b < w.heap.size := cell_ltT hc
        exact ⟨by simp; omega, by simp; omega⟩
  refine ⟨⟨rfl, .inr ⟨w.heap.size, 1, _, rfl, g.size, heap_alloc_new w _, by simp, by unfold maxLen; omega, by simp, by simp [flatM, cellsM, valT]⟩⟩, grown_trans g (grown_alloc _ _), fun y hy => ?_⟩
  rw [List.mem_singleton.1 hy]
  exact ⟨hl _ hm lm, hl _ hn ln⟩

/-- One letter more. -/
theorem un_put {x y : TrI} {I : Nat} {W1 wi w7 W8 : World} {b i k g c bb : Nat} {ws : List (List Nat)} {S : List Nat} {m m' : Mt} {ms0 ts : List Mt} (hme : MetsT x y (ws ++ kidsTo k (ws.getD i [])) (ms0 ++ ts)) (hom : OwnM W1 wi g c (ms0 ++ ts)) (hse : SetP wi b y.N.length S) (hne : g ≠ bb) (hbb : bb < wi.heap.size) (hbx : Box6M wi bb m)
    (hi : i < ws.length) (hp : m.p = stT x (ws.getD i [])) (hq : m.q = stT y (ws.getD i [])) (hmo : MoreT x y (ws.getD i [] ++ [k]) ((m.m.2.2 ++ syT x (stT x (ws.getD i [])) k).drop (comT (m.m.2.2 ++ syT x (stT x (ws.getD i [])) k) (m.n.2.2 ++ syT y (stT y (ws.getD i [])) k))) ((m.n.2.2 ++ syT y (stT y (ws.getD i [])) k).drop (comT (m.m.2.2 ++ syT x (stT x (ws.getD i [])) k) (m.n.2.2 ++ syT y (stT y (ws.getD i [])) k))))
    (hl : (ms0 ++ ts).length + 1 ≤ 1000)
    (hm1 : m'.p = nxT x m.p k) (hm2 : m'.q = nxT y m.q k) (hm3 : m'.fr = (i : Int)) (hm4 : m'.l = (k : Int)) (hm5 : m'.m.2.2 = (m.m.2.2 ++ syT x m.p k).drop (comT (m.m.2.2 ++ syT x m.p k) (m.n.2.2 ++ syT y m.q k))) (hm6 : m'.n.2.2 = (m.n.2.2 ++ syT y m.q k).drop (comT (m.m.2.2 ++ syT x m.p k) (m.n.2.2 ++ syT y m.q k)))
    (hm7 : Ints w7 m'.m.1 m'.m.2.2) (hm8 : Ints w7 m'.n.1 m'.n.2.2) (hm9 : ∀ z, m'.m.1 = some z → wi.heap.size ≤ z.block ∧ z.block < w7.heap.size) (hm10 : ∀ z, m'.n.1 = some z → wi.heap.size ≤ z.block ∧ z.block < w7.heap.size) (hg7 : wi.grownBy w7 none) (hW8 : W8 = w7.alloc (mtO m')) :
    ∃ g9 c9 W9, (AppY #[67, 67] 67 #[.slice (some ⟨g, 0, none⟩) (ms0 ++ ts).length c, .slice (some ⟨w7.heap.size, 0, none⟩) 1 1]).run Try.prog W8 = .ok (.slice (some ⟨g9, 0, none⟩) ((ms0 ++ ts).length + 1) c9) W9 ∧ UnIn x y W1 b i (k + 1) ws S bb m ms0 (.slice (some ⟨g9, 0, none⟩) ((ms0 ++ ts).length + 1) c9) W9 := by
  obtain ⟨W8', hW8', g8, s8, b8⟩ := box6M_new w7 m'
  obtain rfl : W8' = W8 := by rw [hW8', hW8]
  rw [hp, hq] at hm5 hm6
  rw [hp] at hm1
  rw [hq] at hm2
  rw [← hm5, ← hm6] at hmo
  have hlie : ∀ t : Trip, Ints w7 t.1 t.2.2 → t.2.2.length ≤ 16 → (∀ z, t.1 = some z → wi.heap.size ≤ z.block ∧ z.block < w7.heap.size) → LieP W8' g t := fun t h1 h2 h3 => by
    refine ⟨h1.grown g8, h2, ?_⟩
    rcases h1 with h | ⟨bb, off, h4, _⟩
    · exact .inl h
    · have h5 := h3 _ h4
      have h6 := hom.g_lt.2
      exact .inr ⟨_, h4, by simp at h5 ⊢; omega, by simp at h5 ⊢; omega⟩
  obtain ⟨g9, c9, W9, hrun, hO9, hg9, hor⟩ := (hom.grown (grown_trans hg7 g8)).put (x := m') (B := w7.heap.size) (d := 1) (fun j v hj => by
    match j, hj with
    | 0, hj => simp only [cellsM, List.getElem?_cons_zero, Option.some.injEq] at hj; rw [← hj]; exact b8.b0
    | 1, hj => simp only [cellsM, List.getElem?_cons_succ, List.getElem?_cons_zero, Option.some.injEq] at hj; rw [← hj]; exact b8.b1
    | 2, hj => simp only [cellsM, List.getElem?_cons_succ, List.getElem?_cons_zero, Option.some.injEq] at hj; rw [← hj]; exact b8.b2
    | 3, hj => simp only [cellsM, List.getElem?_cons_succ, List.getElem?_cons_zero, Option.some.injEq] at hj; rw [← hj]; exact b8.b3
    | 4, hj => simp only [cellsM, List.getElem?_cons_succ, List.getElem?_cons_zero, Option.some.injEq] at hj; rw [← hj]; exact b8.b4
    | 5, hj => simp only [cellsM, List.getElem?_cons_succ, List.getElem?_cons_zero, Option.some.injEq] at hj; rw [← hj]; exact b8.b5
    | j + 6, hj => simp [cellsM] at hj) (hlie _ hm7 hmo.lm hm9) (hlie _ hm8 hmo.ln hm10) hl
  have hgg : wi.grownBy W8' none := grown_trans hg7 g8
  have hbx8 : Box6M W8' bb m := hbx.grown hgg
  have hc : ∀ k v, W8'.cell? ⟨bb, k, none⟩ = some v → W9.cell? ⟨bb, k, none⟩ = some v := fun k v hv => hg9.cell hv (by simp; omega)
  have hgi : (ws ++ kidsTo k (ws.getD i [])).getD i [] = ws.getD i [] := getD_left hi
  have hput := hme.put (i := i) (l := k) (m' := m') (by rw [List.length_append]; omega) (by rw [hgi]; exact hm1) (by rw [hgi]; exact hm2) hm3 hm4 (by rw [hgi]; exact hmo)
  rw [hgi] at hput
  refine ⟨g9, c9, W9, hrun, g9, c9, ts ++ [m'], by simp only [List.length_append, List.length_singleton, Nat.add_assoc], ?_, by rw [← List.append_assoc]; exact hO9, (hse.kept hgg (by simp)).kept hg9 (by have := hom.ne_map hse; simpa using this), ?_, ?_, ⟨hc _ _ hbx8.b0, hc _ _ hbx8.b1, hc _ _ hbx8.b2, hc _ _ hbx8.b3, hc _ _ hbx8.b4, hc _ _ hbx8.b5⟩⟩
  · rw [kidsTo_succ, ← List.append_assoc, ← List.append_assoc]; exact hput
  · rcases hor with e | e
    · rw [e]; exact hne
    · rw [e]; have := hgg.size; omega
  · have := hgg.size; have := hg9.size; omega

end Go.Proofs.Ytodcmlcpicabaaa
