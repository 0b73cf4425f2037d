/- Whether two say the same at the end of a meeting: the program's endAlike. -/
import Derived.Test.YtdajdnilhjcniaaTdWord
import Derived.Test.YtdajdnilhjcniaaTdCat
import Derived.Deep.RegionHeld3
namespace Go.Proofs.Ytdajdnilhjcniaa
open Go.RowKit
set_option linter.unusedVariables false
set_option linter.unusedSimpArgs false

/-- A meeting in a box. -/
structure Box6M (W : World) (b : Nat) (m : Mt) : Prop where
  b0 : W.cell? ⟨b, 0, none⟩ = some (.int .i64 (m.p : Int))
  b1 : W.cell? ⟨b, 1, none⟩ = some (.int .i64 (m.q : Int))
  b2 : W.cell? ⟨b, 2, none⟩ = some (.int .i64 m.fr)
  b3 : W.cell? ⟨b, 3, none⟩ = some (.int .i64 m.l)
  b4 : W.cell? ⟨b, 4, none⟩ = some (.slice m.m.1 m.m.2.2.length m.m.2.1)
  b5 : W.cell? ⟨b, 5, none⟩ = some (.slice m.n.1 m.n.2.2.length m.n.2.1)
theorem Box6M.grown {W W' : World} {b : Nat} {m : Mt} (h : Box6M W b m) (g : W.grownBy W' none) : Box6M W' b m := ⟨g.cell h.b0 (by simp), g.cell h.b1 (by simp), g.cell h.b2 (by simp), g.cell h.b3 (by simp), g.cell h.b4 (by simp), g.cell h.b5 (by simp)⟩
abbrev mtO (m : Mt) : Obj := .cells #[.int .i64 (m.p : Int), .int .i64 (m.q : Int), .int .i64 m.fr, .int .i64 m.l, .slice m.m.1 m.m.2.2.length m.m.2.1, .slice m.n.1 m.n.2.2.length m.n.2.1] 48
theorem box6M_new (w : World) (m : Mt) : ∃ W, W = w.alloc (mtO m) ∧ w.grownBy W none ∧ W.heap.size = w.heap.size + 1 ∧ Box6M W w.heap.size m := by
  refine ⟨_, rfl, grown_alloc _ _, by simp, ?_⟩
  have hb := heap_alloc_new w (mtO m)
  have hc : ∀ k v, #[Value.int .i64 (m.p : Int), .int .i64 (m.q : Int), .int .i64 m.fr, .int .i64 m.l, .slice m.m.1 m.m.2.2.length m.m.2.1, .slice m.n.1 m.n.2.2.length m.n.2.1][k]? = some v → (w.alloc (mtO m)).cell? ⟨w.heap.size, k, none⟩ = some v := fun k v hv => by rw [cell_of_row _ _ k _ _ (0, 0) hb]; exact hv
  exact ⟨hc 0 _ rfl, hc 1 _ rfl, hc 2 _ rfl, hc 3 _ rfl, hc 4 _ rfl, hc 5 _ rfl⟩
def SE (bt bu bm p q : Nat) (vm vn vt vu : Value) (b6 o6 : Nat) (ve : Value) (d6 q6 : Nat) (vf : Value) (W : World) : Prop :=
  W.cell? ⟨bm, 0, none⟩ = some (.int .i64 (p : Int)) ∧ W.cell? ⟨bm, 1, none⟩ = some (.int .i64 (q : Int)) ∧ W.cell? ⟨bm, 4, none⟩ = some vm ∧ W.cell? ⟨bm, 5, none⟩ = some vn ∧ W.cell? ⟨bt, 6, none⟩ = some vt ∧ W.cell? ⟨bu, 6, none⟩ = some vu ∧ W.cell? ⟨b6, o6 + p, none⟩ = some ve ∧ W.cell? ⟨d6, q6 + q, none⟩ = some vf
theorem SE.kept {bt bu bm p q : Nat} {vm vn vt vu : Value} {b6 o6 : Nat} {ve : Value} {d6 q6 : Nat} {vf : Value} {W W' : World} (h : SE bt bu bm p q vm vn vt vu b6 o6 ve d6 q6 vf W) (g : W.grownBy W' none) : SE bt bu bm p q vm vn vt vu b6 o6 ve d6 q6 vf W' := by
  obtain ⟨h0, h1, h2, h3, h4, h5, h6, h7⟩ := h
  exact ⟨g.cell h0 (by simp), g.cell h1 (by simp), g.cell h2 (by simp), g.cell h3 (by simp), g.cell h4 (by simp), g.cell h5 (by simp), g.cell h6 (by simp), g.cell h7 (by simp)⟩
/-- Three boxes: two transducers and a meeting. -/
theorem tri_boxes (w : World) (x y : TrI) (a3 a4 a5 a6 : Option Addr) (ac3 ac4 ac5 ac6 : Nat) (b3 b4 b5 b6' : Option Addr) (bc3 bc4 bc5 bc6 : Nat) (m : Mt) : ∃ W, W = ((w.alloc (tnO x.I x.O x.S a3 x.F.length ac3 a4 x.N.length ac4 a5 x.Y.length ac5 a6 x.E.length ac6)).alloc (tnO y.I y.O y.S b3 y.F.length bc3 b4 y.N.length bc4 b5 y.Y.length bc5 b6' y.E.length bc6)).alloc (mtO m) ∧ w.grownBy W none ∧ W.heap.size = w.heap.size + 1 + 1 + 1 ∧ Box7 W w.heap.size x.I x.O x.S a3 x.F.length ac3 a4 x.N.length ac4 a5 x.Y.length ac5 a6 x.E.length ac6 ∧ Box7 W (w.heap.size + 1) y.I y.O y.S b3 y.F.length bc3 b4 y.N.length bc4 b5 y.Y.length bc5 b6' y.E.length bc6 ∧ Box6M W (w.heap.size + 1 + 1) m := by
  obtain ⟨W1, hW1, g1, s1, bx⟩ := box7_new w x.I x.O x.S a3 x.F.length ac3 a4 x.N.length ac4 a5 x.Y.length ac5 a6 x.E.length ac6
  obtain ⟨W2, hW2, g2, s2, by'⟩ := box7_new W1 y.I y.O y.S b3 y.F.length bc3 b4 y.N.length bc4 b5 y.Y.length bc5 b6' y.E.length bc6
  obtain ⟨W3, hW3, g3, s3, bm⟩ := box6M_new W2 m
  rw [s1] at by'
  rw [s2, s1] at bm
  exact ⟨W3, by rw [hW3, hW2, hW1], grown_trans g1 (grown_trans g2 g3), by omega, (bx.grown g2).grown g3, by'.grown g3, bm⟩

set_option maxHeartbeats 12800000 in
set_option maxRecDepth 100000 in
theorem endAlike_any (x y : TrI) (I : Nat) (a3 a4 a5 a6 : Option Addr) (ac3 ac4 ac5 ac6 : Nat) (b3 b4 b5 b6' : Option Addr) (bc3 bc4 bc5 bc6 : Nat) (m : Mt) (w : World) (hx : TnAt w x a3 a4 a5 a6) (hy : TnAt w y b3 b4 b5 b6') (rx : ReadT x I) (ry : ReadT y I) (hp : m.p < x.N.length) (hq : m.q < y.N.length) (hm : Ints w m.m.1 m.m.2.2) (hn : Ints w m.n.1 m.n.2.2) (lm : m.m.2.2.length ≤ 16) (ln : m.n.2.2.length ≤ 16) :
    Calls Try.prog 18 #[tnV x.I x.O x.S a3 x.F.length ac3 a4 x.N.length ac4 a5 x.Y.length ac5 a6 x.E.length ac6, tnV y.I y.O y.S b3 y.F.length bc3 b4 y.N.length bc4 b5 y.Y.length bc5 b6' y.E.length bc6, mtV m] w (TellsB (m.m.2.2 ++ x.E.getD m.p [] = m.n.2.2 ++ y.E.getD m.q []) w) := by
  obtain ⟨w3, hw3, g3, s3, bx, by', bm⟩ := tri_boxes w x y a3 a4 a5 a6 ac3 ac4 ac5 ac6 b3 b4 b5 b6' bc3 bc4 bc5 bc6 m
  obtain ⟨b6, o6, k6, r6, rfl, h8, hs6⟩ := read_last (hx.grown g3) rx hp
  obtain ⟨d6, q6, l6, s6, rfl, h8', hs6'⟩ := read_last (hy.grown g3) ry hq
  have hex := rx.he
  have hey := ry.he
  have ip : (m.p : Int) < (x.E.length : Int) := by rw [hex]; omega
  have iq : (m.q : Int) < (y.E.length : Int) := by rw [hey]; omega
  obtain ⟨Po, hPo⟩ : ∃ P, P = TellsB (m.m.2.2 ++ x.E.getD m.p [] = m.n.2.2 ++ y.E.getD m.q []) w := ⟨_, rfl⟩
  have HP0 : Hid (∀ b W, (b = true ↔ m.m.2.2 ++ x.E.getD m.p [] = m.n.2.2 ++ y.E.getD m.q []) → w3.grownBy W none → Po (.returned (.bool b)) W) := fun b W h1 h2 => by rw [hPo]; exact ⟨b, rfl, h1, grown_trans g3 h2⟩
  have CTA0 : Hid (∀ (W : World) (g2 : Nat), w3.grownBy W none → C2 W g2 (.slice m.m.1 m.m.2.2.length m.m.2.1) (.slice r6 (x.E.getD m.p []).length k6) → Calls Try.prog 27 #[.slice (some ⟨g2, 0, none⟩) 2 2] W (CatX (m.m.2.2 ++ x.E.getD m.p []) W)) := fun W g2 hW c2 => catX_any _ _ _ _ _ _ g2 W (hm.grown (grown_trans g3 hW)) (hs6 W hW).2 (by omega) (by omega) c2.1 c2.2
  have CTB0 : Hid (∀ (W : World) (g2 : Nat), w3.grownBy W none → C2 W g2 (.slice m.n.1 m.n.2.2.length m.n.2.1) (.slice s6 (y.E.getD m.q []).length l6) → Calls Try.prog 27 #[.slice (some ⟨g2, 0, none⟩) 2 2] W (CatX (m.n.2.2 ++ y.E.getD m.q []) W)) := fun W g2 hW c2 => catX_any _ _ _ _ _ _ g2 W (hn.grown (grown_trans g3 hW)) (hs6' W hW).2 (by omega) (by omega) c2.1 c2.2
  have S00 : Hid (SE w.heap.size (w.heap.size + 1) (w.heap.size + 1 + 1) m.p m.q (.slice m.m.1 m.m.2.2.length m.m.2.1) (.slice m.n.1 m.n.2.2.length m.n.2.1) (.slice (some ⟨b6, o6, none⟩) x.E.length ac6) (.slice (some ⟨d6, q6, none⟩) y.E.length bc6) b6 o6 (.slice r6 (x.E.getD m.p []).length k6) d6 q6 (.slice s6 (y.E.getD m.q []).length l6) w3) := ⟨bm.b0, bm.b1, bm.b4, bm.b5, bx.b6, by'.b6, (hs6 w3 (grown_refl _ _)).1, (hs6' w3 (grown_refl _ _)).1⟩
  have hlX : (m.m.2.2 ++ x.E.getD m.p []).length ≤ 1000 := by rw [List.length_append]; omega
  have hlY : (m.n.2.2 ++ y.E.getD m.q []).length ≤ 1000 := by rw [List.length_append]; omega
  rw [← hPo]
  obtain ⟨nE, hnE⟩ : ∃ n, (x.E.getD m.p []).length = n := ⟨_, rfl⟩
  obtain ⟨nF, hnF⟩ : ∃ n, (y.E.getD m.q []).length = n := ⟨_, rfl⟩
  rw [hnE] at CTA0 S00
  rw [hnF] at CTB0 S00
  obtain ⟨X, hX⟩ : ∃ X, m.m.2.2 ++ x.E.getD m.p [] = X := ⟨_, rfl⟩
  obtain ⟨Y, hY⟩ : ∃ Y, m.n.2.2 ++ y.E.getD m.q [] = Y := ⟨_, rfl⟩
  rw [hX] at CTA0 HP0 hlX
  rw [hY] at CTB0 HP0 hlY
  have CTA : Hid (∀ (W : World) (g2 : Nat), w3.grownBy W none → C2 W g2 (.slice m.m.1 m.m.2.2.length m.m.2.1) (.slice r6 nE k6) → Calls Try.prog 27 #[.slice (some ⟨g2, 0, none⟩) 2 2] W (CatX X W)) := CTA0
  have CTB : Hid (∀ (W : World) (g2 : Nat), w3.grownBy W none → C2 W g2 (.slice m.n.1 m.n.2.2.length m.n.2.1) (.slice s6 nF l6) → Calls Try.prog 27 #[.slice (some ⟨g2, 0, none⟩) 2 2] W (CatX Y W)) := CTB0
  have S0 : Hid (SE w.heap.size (w.heap.size + 1) (w.heap.size + 1 + 1) m.p m.q (.slice m.m.1 m.m.2.2.length m.m.2.1) (.slice m.n.1 m.n.2.2.length m.n.2.1) (.slice (some ⟨b6, o6, none⟩) x.E.length ac6) (.slice (some ⟨d6, q6, none⟩) y.E.length bc6) b6 o6 (.slice r6 nE k6) d6 q6 (.slice s6 nF l6) w3) := S00
  have HP : Hid (∀ b W, (b = true ↔ X = Y) → w3.grownBy W none → Po (.returned (.bool b)) W) := HP0
  have CE : Hid (∀ W a c b d, Ints W a X → Ints W b Y → Calls Try.prog 28 #[.slice a X.length c, .slice b Y.length d] W (TellsB (X = Y) W)) := fun W a c b d h1 h2 => equalI_any X Y a b c d W h1 h2 hlX hlY
  have HW3 : Hid (w3 = _) := hw3
  clear CTA0 CTB0 S00 HP0 hX hY hnE hnF hPo hw3 g3 s3 bx by' bm hs6 hs6' h8 h8' hex hey hm hn hx hy rx ry hlX hlY
  go_enter Try.func18, Try.ntmps18
  go_wp2_with fail
  rw [← HW3.out]
  refine wp_region_held_drew (S := SE w.heap.size (w.heap.size + 1) (w.heap.size + 1 + 1) m.p m.q (.slice m.m.1 m.m.2.2.length m.m.2.1) (.slice m.n.1 m.n.2.2.length m.n.2.1) (.slice (some ⟨b6, o6, none⟩) x.E.length ac6) (.slice (some ⟨d6, q6, none⟩) y.E.length bc6) b6 o6 (.slice r6 nE k6) d6 q6 (.slice s6 nF l6)) (by kernel_rfl) (S0.out.kept (grown_drew (grown_refl _ _))) (fun hHeld => ?_)
  refine wpAnyH_take (i := 0) (v := ?_) rfl (by kernel_rfl) (by kernel_rfl) (by kernel_rfl) (fun _ _ _ h => h) (Or.inl ⟨by rfl, ?_⟩) (by assumption) ?_
  rotate_left
  · intro W hSw
    obtain ⟨t0, t1, t4, t5, ta, tb, tc, td⟩ := hSw
    go_simp
    with_reducible rfl
  try simp only [Act.put, List.getElem_toArray, List.getElem_cons_succ, List.getElem_cons_zero, List.setIfInBounds_toArray, List.set_cons_zero, List.set_cons_succ]
  refine wpAnyH_take (i := 1) (v := ?_) rfl (by kernel_rfl) (by kernel_rfl) (by kernel_rfl) (fun _ _ _ h => h) (Or.inl ⟨by rfl, ?_⟩) (by assumption) ?_
  rotate_left
  · intro W hSw
    obtain ⟨t0, t1, t4, t5, ta, tb, tc, td⟩ := hSw
    go_simp
    with_reducible rfl
  try simp only [Act.put, List.getElem_toArray, List.getElem_cons_succ, List.getElem_cons_zero, List.setIfInBounds_toArray, List.set_cons_zero, List.set_cons_succ]
  refine wpAnyH_take (i := 2) (v := ?_) rfl (by kernel_rfl) (by kernel_rfl) (by kernel_rfl) (fun _ _ _ h => h) (Or.inl ⟨by rfl, ?_⟩) (by assumption) ?_
  rotate_left
  · intro W hSw
    obtain ⟨t0, t1, t4, t5, ta, tb, tc, td⟩ := hSw
    go_simp
    with_reducible rfl
  try simp only [Act.put, List.getElem_toArray, List.getElem_cons_succ, List.getElem_cons_zero, List.setIfInBounds_toArray, List.set_cons_zero, List.set_cons_succ]
  refine wpAnyH_take (i := 3) (v := ?_) rfl (by kernel_rfl) (by kernel_rfl) (by kernel_rfl) (fun _ _ _ h => h) (Or.inl ⟨by rfl, ?_⟩) (by assumption) ?_
  rotate_left
  · intro W hSw
    obtain ⟨t0, t1, t4, t5, ta, tb, tc, td⟩ := hSw
    go_simp
    with_reducible rfl
  try simp only [Act.put, List.getElem_toArray, List.getElem_cons_succ, List.getElem_cons_zero, List.setIfInBounds_toArray, List.set_cons_zero, List.set_cons_succ]
  refine wpAnyH_take (i := 4) (v := ?_) rfl (by kernel_rfl) (by kernel_rfl) (by kernel_rfl) (fun _ _ _ h => h) (Or.inl ⟨by rfl, ?_⟩) (by assumption) ?_
  rotate_left
  · intro W hSw
    obtain ⟨t0, t1, t4, t5, ta, tb, tc, td⟩ := hSw
    go_simp
    with_reducible rfl
  try simp only [Act.put, List.getElem_toArray, List.getElem_cons_succ, List.getElem_cons_zero, List.setIfInBounds_toArray, List.set_cons_zero, List.set_cons_succ]
  refine wpAnyH_take (i := 5) (v := ?_) rfl (by kernel_rfl) (by kernel_rfl) (by kernel_rfl) (fun _ _ _ h => h) (Or.inl ⟨by rfl, ?_⟩) (by assumption) ?_
  rotate_left
  · intro W hSw
    obtain ⟨t0, t1, t4, t5, ta, tb, tc, td⟩ := hSw
    go_simp
    with_reducible rfl
  try simp only [Act.put, List.getElem_toArray, List.getElem_cons_succ, List.getElem_cons_zero, List.setIfInBounds_toArray, List.set_cons_zero, List.set_cons_succ]
  refine wpAnyH_take (i := 6) (v := ?_) rfl (by kernel_rfl) (by kernel_rfl) (by kernel_rfl) (fun _ _ _ h => h) (Or.inl ⟨by rfl, ?_⟩) (by assumption) ?_
  rotate_left
  · intro W hSw
    obtain ⟨t0, t1, t4, t5, ta, tb, tc, td⟩ := hSw
    go_simp
    with_reducible rfl
  try simp only [Act.put, List.getElem_toArray, List.getElem_cons_succ, List.getElem_cons_zero, List.setIfInBounds_toArray, List.set_cons_zero, List.set_cons_succ]
  refine wpAnyH_take (i := 7) (v := ?_) rfl (by kernel_rfl) (by kernel_rfl) (by kernel_rfl) (fun _ _ _ h => h) (Or.inl ⟨by rfl, ?_⟩) (by assumption) ?_
  rotate_left
  · intro W hSw
    obtain ⟨t0, t1, t4, t5, ta, tb, tc, td⟩ := hSw
    go_simp
    with_reducible rfl
  try simp only [Act.put, List.getElem_toArray, List.getElem_cons_succ, List.getElem_cons_zero, List.setIfInBounds_toArray, List.set_cons_zero, List.set_cons_succ]
  refine wpAnyH_take (i := 8) (v := ?_) rfl (by kernel_rfl) (by kernel_rfl) (by kernel_rfl) (fun _ _ _ h => h) (Or.inl ⟨by rfl, ?_⟩) (by assumption) ?_
  rotate_left
  · intro W hSw
    obtain ⟨t0, t1, t4, t5, ta, tb, tc, td⟩ := hSw
    go_simp
    with_reducible rfl
  try simp only [Act.put, List.getElem_toArray, List.getElem_cons_succ, List.getElem_cons_zero, List.setIfInBounds_toArray, List.set_cons_zero, List.set_cons_succ]
  refine wpAnyH_take (i := 9) (v := ?_) rfl (by kernel_rfl) (by kernel_rfl) (by kernel_rfl) (fun _ _ _ h => h) (Or.inl ⟨by rfl, ?_⟩) (by assumption) ?_
  rotate_left
  · intro W hSw
    obtain ⟨t0, t1, t4, t5, ta, tb, tc, td⟩ := hSw
    go_simp
    with_reducible rfl
  try simp only [Act.put, List.getElem_toArray, List.getElem_cons_succ, List.getElem_cons_zero, List.setIfInBounds_toArray, List.set_cons_zero, List.set_cons_succ]
  refine wpAnyH_take (i := 12) (v := ?_) rfl (by kernel_rfl) (by kernel_rfl) (by kernel_rfl) (fun _ _ _ h => h) (Or.inl ⟨by rfl, ?_⟩) (by assumption) ?_
  rotate_left
  · intro W hSw
    obtain ⟨t0, t1, t4, t5, ta, tb, tc, td⟩ := hSw
    go_simp
    with_reducible rfl
  try simp only [Act.put, List.getElem_toArray, List.getElem_cons_succ, List.getElem_cons_zero, List.setIfInBounds_toArray, List.set_cons_zero, List.set_cons_succ]
  refine wpAnyH_take (i := 13) (v := ?_) rfl (by kernel_rfl) (by kernel_rfl) (by kernel_rfl) (fun _ _ _ h => h) (Or.inl ⟨by rfl, ?_⟩) (by assumption) ?_
  rotate_left
  · intro W hSw
    obtain ⟨t0, t1, t4, t5, ta, tb, tc, td⟩ := hSw
    go_simp
    with_reducible rfl
  try simp only [Act.put, List.getElem_toArray, List.getElem_cons_succ, List.getElem_cons_zero, List.setIfInBounds_toArray, List.set_cons_zero, List.set_cons_succ]
  refine wpAnyH_take (i := 14) (v := ?_) rfl (by kernel_rfl) (by kernel_rfl) (by kernel_rfl) (fun _ _ _ h => h) (Or.inl ⟨by rfl, ?_⟩) (by assumption) ?_
  rotate_left
  · intro W hSw
    obtain ⟨t0, t1, t4, t5, ta, tb, tc, td⟩ := hSw
    go_simp
    with_reducible rfl
  try simp only [Act.put, List.getElem_toArray, List.getElem_cons_succ, List.getElem_cons_zero, List.setIfInBounds_toArray, List.set_cons_zero, List.set_cons_succ]
  refine wpAnyH_take (i := 15) (v := ?_) rfl (by kernel_rfl) (by kernel_rfl) (by kernel_rfl) (fun _ _ _ h => h) (Or.inl ⟨by rfl, ?_⟩) (by assumption) ?_
  rotate_left
  · intro W hSw
    obtain ⟨t0, t1, t4, t5, ta, tb, tc, td⟩ := hSw
    go_simp
    with_reducible rfl
  try simp only [Act.put, List.getElem_toArray, List.getElem_cons_succ, List.getElem_cons_zero, List.setIfInBounds_toArray, List.set_cons_zero, List.set_cons_succ]
  refine wpAnyH_take (i := 16) (v := ?_) rfl (by kernel_rfl) (by kernel_rfl) (by kernel_rfl) (fun _ _ _ h => h) (Or.inl ⟨by rfl, ?_⟩) (by assumption) ?_
  rotate_left
  · intro W hSw
    obtain ⟨t0, t1, t4, t5, ta, tb, tc, td⟩ := hSw
    go_simp
    with_reducible rfl
  try simp only [Act.put, List.getElem_toArray, List.getElem_cons_succ, List.getElem_cons_zero, List.setIfInBounds_toArray, List.set_cons_zero, List.set_cons_succ]
  refine wpAnyH_take (i := 17) (v := ?_) rfl (by kernel_rfl) (by kernel_rfl) (by kernel_rfl) (fun _ _ _ h => h) (Or.inl ⟨by rfl, ?_⟩) (by assumption) ?_
  rotate_left
  · intro W hSw
    obtain ⟨t0, t1, t4, t5, ta, tb, tc, td⟩ := hSw
    go_simp
    with_reducible rfl
  try simp only [Act.put, List.getElem_toArray, List.getElem_cons_succ, List.getElem_cons_zero, List.setIfInBounds_toArray, List.set_cons_zero, List.set_cons_succ]
  refine wpAnyH_take (i := 18) (v := ?_) rfl (by kernel_rfl) (by kernel_rfl) (by kernel_rfl) (fun _ _ _ h => h) (Or.inl ⟨by rfl, ?_⟩) (by assumption) ?_
  rotate_left
  · intro W hSw
    obtain ⟨t0, t1, t4, t5, ta, tb, tc, td⟩ := hSw
    go_simp
    with_reducible rfl
  try simp only [Act.put, List.getElem_toArray, List.getElem_cons_succ, List.getElem_cons_zero, List.setIfInBounds_toArray, List.set_cons_zero, List.set_cons_succ]
  refine wpAnyH_take (i := 19) (v := ?_) rfl (by kernel_rfl) (by kernel_rfl) (by kernel_rfl) (fun _ _ _ h => h) (Or.inl ⟨by rfl, ?_⟩) (by assumption) ?_
  rotate_left
  · intro W hSw
    obtain ⟨t0, t1, t4, t5, ta, tb, tc, td⟩ := hSw
    go_simp
    with_reducible rfl
  try simp only [Act.put, List.getElem_toArray, List.getElem_cons_succ, List.getElem_cons_zero, List.setIfInBounds_toArray, List.set_cons_zero, List.set_cons_succ]
  refine wpAnyH_take (i := 20) (v := ?_) rfl (by kernel_rfl) (by kernel_rfl) (by kernel_rfl) (fun _ _ _ h => h) (Or.inl ⟨by rfl, ?_⟩) (by assumption) ?_
  rotate_left
  · intro W hSw
    obtain ⟨t0, t1, t4, t5, ta, tb, tc, td⟩ := hSw
    go_simp
    with_reducible rfl
  try simp only [Act.put, List.getElem_toArray, List.getElem_cons_succ, List.getElem_cons_zero, List.setIfInBounds_toArray, List.set_cons_zero, List.set_cons_succ]
  refine wpAnyH_take (i := 21) (v := ?_) rfl (by kernel_rfl) (by kernel_rfl) (by kernel_rfl) (fun _ _ _ h => h) (Or.inl ⟨by rfl, ?_⟩) (by assumption) ?_
  rotate_left
  · intro W hSw
    obtain ⟨t0, t1, t4, t5, ta, tb, tc, td⟩ := hSw
    go_simp
    with_reducible rfl
  try simp only [Act.put, List.getElem_toArray, List.getElem_cons_succ, List.getElem_cons_zero, List.setIfInBounds_toArray, List.set_cons_zero, List.set_cons_succ]
  refine wpAnyH_ready (rs := [10, 22]) (by kernel_rfl) (by simp) ?_
  refine AllReadyH.cons (o := _) rfl (fun K' hK => ?_) ?_
  · go_simp
    refine hK.out _ _ (hHeld.kept (grown_alloc _ _)) (fun hHeld => ?_)
    clear hK K'
    try simp only [Act.put, List.getElem_toArray, List.getElem_cons_succ, List.getElem_cons_zero, List.setIfInBounds_toArray, List.set_cons_zero, List.set_cons_succ]
    refine wpAnyH_ready (rs := [11, 22]) (by kernel_rfl) (by simp) ?_
    refine AllReadyH.cons (o := _) rfl (fun K' hK => ?_) ?_
    · go_simp
      refine (CTA.out _ _ (gr_1 _ _) (c2_a _ (.slice m.m.1 m.m.2.2.length m.m.2.1) (.slice r6 nE k6) _)).mono ?_
      rintro E w6 ⟨ax, kx, rfl, hix, hgx, hnx, hcx⟩
      have GX : Hid (w3.grownBy w6 none) := grown_trans (gr_1 w3 _) hgx
      have HIX : Hid (Ints w6 ax X) := hix
      have HNX : Hid ((∀ y, ax = some y → w3.heap.size ≤ y.block ∧ y.block < w6.heap.size) ∧ X.length ≤ kx) := ⟨fun y hy => ⟨Nat.le_trans (gr_1 w3 _).size (hnx y hy).1, (hnx y hy).2⟩, hcx⟩
      clear hix hnx hcx
      go_wp2_with fail
      refine hK.out _ _ (hHeld.kept hgx) (fun hHeld => ?_)
      clear hK K'
      try simp only [Act.put, List.getElem_toArray, List.getElem_cons_succ, List.getElem_cons_zero, List.setIfInBounds_toArray, List.set_cons_zero, List.set_cons_succ]
      refine wpAnyH_ready (rs := [22]) (by kernel_rfl) (by simp) ?_
      refine AllReadyH.cons (o := _) rfl (fun K' hK => ?_) ?_
      · go_simp
        refine hK.out _ _ (hHeld.kept (grown_alloc _ _)) (fun hHeld => ?_)
        clear hK K'
        try simp only [Act.put, List.getElem_toArray, List.getElem_cons_succ, List.getElem_cons_zero, List.setIfInBounds_toArray, List.set_cons_zero, List.set_cons_succ]
        refine wpAnyH_ready (rs := [23]) (by kernel_rfl) (by simp) ?_
        refine AllReadyH.cons (o := _) rfl (fun K' hK => ?_) ?_
        · go_simp
          refine (CTB.out _ _ (grown_trans GX.out (grown_alloc _ _)) (c2_new _ (.slice m.n.1 m.n.2.2.length m.n.2.1) (.slice s6 nF l6) _)).mono ?_
          rintro E w7 ⟨ay, ky, rfl, hiy, hgy, hny, hcy⟩
          have G67 : Hid (w6.grownBy w7 none) := grown_trans (grown_alloc _ _) hgy
          have HIY : Hid (Ints w7 ay Y) := hiy
          have HNY : Hid ((∀ y, ay = some y → w3.heap.size ≤ y.block ∧ y.block < w7.heap.size) ∧ Y.length ≤ ky) := ⟨fun y hy => ⟨Nat.le_trans (grown_trans GX.out (grown_alloc _ _)).size (hny y hy).1, (hny y hy).2⟩, hcy⟩
          clear hiy hny hcy
          go_wp2_with fail
          refine hK.out _ _ (hHeld.kept hgy) (fun hHeld => ?_)
          clear hK K'
          try simp only [Act.put, List.getElem_toArray, List.getElem_cons_succ, List.getElem_cons_zero, List.setIfInBounds_toArray, List.set_cons_zero, List.set_cons_succ]
          refine wpAnyH_take (i := 24) (v := ?_) rfl (by kernel_rfl) (by kernel_rfl) (by kernel_rfl) (fun _ _ _ h => h) (Or.inl ⟨by rfl, ?_⟩) (by assumption) ?_
          rotate_left
          · intro W hSw
            obtain ⟨t0, t1, t4, t5, ta, tb, tc, td⟩ := hSw
            go_simp
            with_reducible rfl
          try simp only [Act.put, List.getElem_toArray, List.getElem_cons_succ, List.getElem_cons_zero, List.setIfInBounds_toArray, List.set_cons_zero, List.set_cons_succ]
          refine wpAnyH_take (i := 25) (v := ?_) rfl (by kernel_rfl) (by kernel_rfl) (by kernel_rfl) (fun _ _ _ h => h) (Or.inl ⟨by rfl, ?_⟩) (by assumption) ?_
          rotate_left
          · intro W hSw
            obtain ⟨t0, t1, t4, t5, ta, tb, tc, td⟩ := hSw
            go_simp
            with_reducible rfl
          try simp only [Act.put, List.getElem_toArray, List.getElem_cons_succ, List.getElem_cons_zero, List.setIfInBounds_toArray, List.set_cons_zero, List.set_cons_succ]
          refine wpAnyH_done (by kernel_rfl) ?_ _
          go_wp2_with fail
          refine (CE.out w7 ax kx ay ky (HIX.out.grown G67.out) HIY.out).mono ?_
          rintro E w8 ⟨bb, rfl, hbb, hg8⟩
          have F : Hid (Po (.returned (.bool bb)) w8) := HP.out bb w8 hbb (grown_trans GX.out (grown_trans G67.out hg8))
          clear hbb hg8
          go_wp2_with fail
          first | exact F.out | (go_ret; exact F.out)
        exact AllReadyH.nil
      exact AllReadyH.nil
    refine AllReadyH.cons (o := _) rfl (fun K' hK => ?_) ?_
    · go_simp
      refine hK.out _ _ (hHeld.kept (grown_alloc _ _)) (fun hHeld => ?_)
      clear hK K'
      try simp only [Act.put, List.getElem_toArray, List.getElem_cons_succ, List.getElem_cons_zero, List.setIfInBounds_toArray, List.set_cons_zero, List.set_cons_succ]
      refine wpAnyH_ready (rs := [11]) (by kernel_rfl) (by simp) ?_
      refine AllReadyH.cons (o := _) rfl (fun K' hK => ?_) ?_
      · go_simp
        refine (CTA.out _ _ (gr_2 _ _ _) (c2_b _ (.slice m.m.1 m.m.2.2.length m.m.2.1) (.slice r6 nE k6) _ _)).mono ?_
        rintro E w6 ⟨ax, kx, rfl, hix, hgx, hnx, hcx⟩
        have HB2 : Hid (C2 w6 (w3.heap.size + 1) (.slice m.n.1 m.n.2.2.length m.n.2.1) (.slice s6 nF l6)) := (c2_c w3 (.slice m.n.1 m.n.2.2.length m.n.2.1) (.slice s6 nF l6) _ _).kept hgx
        have GX : Hid (w3.grownBy w6 none) := grown_trans (gr_2 w3 _ _) hgx
        have HIX : Hid (Ints w6 ax X) := hix
        have HNX : Hid ((∀ y, ax = some y → w3.heap.size ≤ y.block ∧ y.block < w6.heap.size) ∧ X.length ≤ kx) := ⟨fun y hy => ⟨Nat.le_trans (gr_2 w3 _ _).size (hnx y hy).1, (hnx y hy).2⟩, hcx⟩
        clear hix hnx hcx
        go_wp2_with fail
        refine hK.out _ _ (hHeld.kept hgx) (fun hHeld => ?_)
        clear hK K'
        try simp only [Act.put, List.getElem_toArray, List.getElem_cons_succ, List.getElem_cons_zero, List.setIfInBounds_toArray, List.set_cons_zero, List.set_cons_succ]
        refine wpAnyH_ready (rs := [23]) (by kernel_rfl) (by simp) ?_
        refine AllReadyH.cons (o := _) rfl (fun K' hK => ?_) ?_
        · go_simp
          refine (CTB.out _ _ (GX.out) (HB2.out)).mono ?_
          rintro E w7 ⟨ay, ky, rfl, hiy, hgy, hny, hcy⟩
          have G67 : Hid (w6.grownBy w7 none) := grown_trans (grown_refl _ _) hgy
          have HIY : Hid (Ints w7 ay Y) := hiy
          have HNY : Hid ((∀ y, ay = some y → w3.heap.size ≤ y.block ∧ y.block < w7.heap.size) ∧ Y.length ≤ ky) := ⟨fun y hy => ⟨Nat.le_trans (GX.out).size (hny y hy).1, (hny y hy).2⟩, hcy⟩
          clear hiy hny hcy
          go_wp2_with fail
          refine hK.out _ _ (hHeld.kept hgy) (fun hHeld => ?_)
          clear hK K'
          try simp only [Act.put, List.getElem_toArray, List.getElem_cons_succ, List.getElem_cons_zero, List.setIfInBounds_toArray, List.set_cons_zero, List.set_cons_succ]
          refine wpAnyH_take (i := 24) (v := ?_) rfl (by kernel_rfl) (by kernel_rfl) (by kernel_rfl) (fun _ _ _ h => h) (Or.inl ⟨by rfl, ?_⟩) (by assumption) ?_
          rotate_left
          · intro W hSw
            obtain ⟨t0, t1, t4, t5, ta, tb, tc, td⟩ := hSw
            go_simp
            with_reducible rfl
          try simp only [Act.put, List.getElem_toArray, List.getElem_cons_succ, List.getElem_cons_zero, List.setIfInBounds_toArray, List.set_cons_zero, List.set_cons_succ]
          refine wpAnyH_take (i := 25) (v := ?_) rfl (by kernel_rfl) (by kernel_rfl) (by kernel_rfl) (fun _ _ _ h => h) (Or.inl ⟨by rfl, ?_⟩) (by assumption) ?_
          rotate_left
          · intro W hSw
            obtain ⟨t0, t1, t4, t5, ta, tb, tc, td⟩ := hSw
            go_simp
            with_reducible rfl
          try simp only [Act.put, List.getElem_toArray, List.getElem_cons_succ, List.getElem_cons_zero, List.setIfInBounds_toArray, List.set_cons_zero, List.set_cons_succ]
          refine wpAnyH_done (by kernel_rfl) ?_ _
          go_wp2_with fail
          refine (CE.out w7 ax kx ay ky (HIX.out.grown G67.out) HIY.out).mono ?_
          rintro E w8 ⟨bb, rfl, hbb, hg8⟩
          have F : Hid (Po (.returned (.bool bb)) w8) := HP.out bb w8 hbb (grown_trans GX.out (grown_trans G67.out hg8))
          clear hbb hg8
          go_wp2_with fail
          first | exact F.out | (go_ret; exact F.out)
        exact AllReadyH.nil
      exact AllReadyH.nil
    exact AllReadyH.nil
  refine AllReadyH.cons (o := _) rfl (fun K' hK => ?_) ?_
  · go_simp
    refine hK.out _ _ (hHeld.kept (grown_alloc _ _)) (fun hHeld => ?_)
    clear hK K'
    try simp only [Act.put, List.getElem_toArray, List.getElem_cons_succ, List.getElem_cons_zero, List.setIfInBounds_toArray, List.set_cons_zero, List.set_cons_succ]
    refine wpAnyH_ready (rs := [10]) (by kernel_rfl) (by simp) ?_
    refine AllReadyH.cons (o := _) rfl (fun K' hK => ?_) ?_
    · go_simp
      refine hK.out _ _ (hHeld.kept (grown_alloc _ _)) (fun hHeld => ?_)
      clear hK K'
      try simp only [Act.put, List.getElem_toArray, List.getElem_cons_succ, List.getElem_cons_zero, List.setIfInBounds_toArray, List.set_cons_zero, List.set_cons_succ]
      refine wpAnyH_ready (rs := [11]) (by kernel_rfl) (by simp) ?_
      refine AllReadyH.cons (o := _) rfl (fun K' hK => ?_) ?_
      · go_simp
        refine (CTA.out _ _ (gr_2 _ _ _) (c2_c _ (.slice m.m.1 m.m.2.2.length m.m.2.1) (.slice r6 nE k6) _ _)).mono ?_
        rintro E w6 ⟨ax, kx, rfl, hix, hgx, hnx, hcx⟩
        have HB2 : Hid (C2 w6 w3.heap.size (.slice m.n.1 m.n.2.2.length m.n.2.1) (.slice s6 nF l6)) := (c2_b w3 (.slice m.n.1 m.n.2.2.length m.n.2.1) (.slice s6 nF l6) _ _).kept hgx
        have GX : Hid (w3.grownBy w6 none) := grown_trans (gr_2 w3 _ _) hgx
        have HIX : Hid (Ints w6 ax X) := hix
        have HNX : Hid ((∀ y, ax = some y → w3.heap.size ≤ y.block ∧ y.block < w6.heap.size) ∧ X.length ≤ kx) := ⟨fun y hy => ⟨Nat.le_trans (gr_2 w3 _ _).size (hnx y hy).1, (hnx y hy).2⟩, hcx⟩
        clear hix hnx hcx
        go_wp2_with fail
        refine hK.out _ _ (hHeld.kept hgx) (fun hHeld => ?_)
        clear hK K'
        try simp only [Act.put, List.getElem_toArray, List.getElem_cons_succ, List.getElem_cons_zero, List.setIfInBounds_toArray, List.set_cons_zero, List.set_cons_succ]
        refine wpAnyH_ready (rs := [23]) (by kernel_rfl) (by simp) ?_
        refine AllReadyH.cons (o := _) rfl (fun K' hK => ?_) ?_
        · go_simp
          refine (CTB.out _ _ (GX.out) (HB2.out)).mono ?_
          rintro E w7 ⟨ay, ky, rfl, hiy, hgy, hny, hcy⟩
          have G67 : Hid (w6.grownBy w7 none) := grown_trans (grown_refl _ _) hgy
          have HIY : Hid (Ints w7 ay Y) := hiy
          have HNY : Hid ((∀ y, ay = some y → w3.heap.size ≤ y.block ∧ y.block < w7.heap.size) ∧ Y.length ≤ ky) := ⟨fun y hy => ⟨Nat.le_trans (GX.out).size (hny y hy).1, (hny y hy).2⟩, hcy⟩
          clear hiy hny hcy
          go_wp2_with fail
          refine hK.out _ _ (hHeld.kept hgy) (fun hHeld => ?_)
          clear hK K'
          try simp only [Act.put, List.getElem_toArray, List.getElem_cons_succ, List.getElem_cons_zero, List.setIfInBounds_toArray, List.set_cons_zero, List.set_cons_succ]
          refine wpAnyH_take (i := 24) (v := ?_) rfl (by kernel_rfl) (by kernel_rfl) (by kernel_rfl) (fun _ _ _ h => h) (Or.inl ⟨by rfl, ?_⟩) (by assumption) ?_
          rotate_left
          · intro W hSw
            obtain ⟨t0, t1, t4, t5, ta, tb, tc, td⟩ := hSw
            go_simp
            with_reducible rfl
          try simp only [Act.put, List.getElem_toArray, List.getElem_cons_succ, List.getElem_cons_zero, List.setIfInBounds_toArray, List.set_cons_zero, List.set_cons_succ]
          refine wpAnyH_take (i := 25) (v := ?_) rfl (by kernel_rfl) (by kernel_rfl) (by kernel_rfl) (fun _ _ _ h => h) (Or.inl ⟨by rfl, ?_⟩) (by assumption) ?_
          rotate_left
          · intro W hSw
            obtain ⟨t0, t1, t4, t5, ta, tb, tc, td⟩ := hSw
            go_simp
            with_reducible rfl
          try simp only [Act.put, List.getElem_toArray, List.getElem_cons_succ, List.getElem_cons_zero, List.setIfInBounds_toArray, List.set_cons_zero, List.set_cons_succ]
          refine wpAnyH_done (by kernel_rfl) ?_ _
          go_wp2_with fail
          refine (CE.out w7 ax kx ay ky (HIX.out.grown G67.out) HIY.out).mono ?_
          rintro E w8 ⟨bb, rfl, hbb, hg8⟩
          have F : Hid (Po (.returned (.bool bb)) w8) := HP.out bb w8 hbb (grown_trans GX.out (grown_trans G67.out hg8))
          clear hbb hg8
          go_wp2_with fail
          first | exact F.out | (go_ret; exact F.out)
        exact AllReadyH.nil
      exact AllReadyH.nil
    exact AllReadyH.nil
  exact AllReadyH.nil

end Go.Proofs.Ytdajdnilhjcniaa
