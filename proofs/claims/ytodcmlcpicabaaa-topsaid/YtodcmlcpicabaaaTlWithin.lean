/- Whether one has become too large: the program's within. -/
import Derived.Test.YtodcmlcpicabaaaTnSy
namespace Go.Proofs.Ytodcmlcpicabaaa
open Go.RowKit
set_option linter.unusedVariables false
set_option linter.unusedSimpArgs false

abbrev tnZ : Value := tnV 0 0 0 none 0 0 none 0 0 none 0 0 none 0 0
abbrev tnZO : Obj := .cells #[.int .i64 0, .int .i64 0, .int .i64 0, .slice none 0 0, .slice none 0 0, .slice none 0 0, .slice none 0 0] 26
theorem seven_store {W : World} {B : Nat} {t : TypeId} {u0 u1 u2 u3 u4 u5 u6 : Value} (h : W.heap[B]? = some (.cells #[u0, u1, u2, u3, u4, u5, u6] t (0, 0))) (v0 v1 v2 v3 v4 v5 v6 : Value) :
    (W.cell? ⟨B, 0, none⟩ = some u0 ∧ W.cell? ⟨B, 1, none⟩ = some u1 ∧ W.cell? ⟨B, 2, none⟩ = some u2 ∧ W.cell? ⟨B, 3, none⟩ = some u3 ∧ W.cell? ⟨B, 4, none⟩ = some u4 ∧ W.cell? ⟨B, 5, none⟩ = some u5 ∧ W.cell? ⟨B, 6, none⟩ = some u6) ∧ (∀ i, W.frozen? ⟨B, i, none⟩ = false) ∧ ∃ W', W' = ((((((W.setCell ⟨B, 0, none⟩ v0).setCell ⟨B, 1, none⟩ v1).setCell ⟨B, 2, none⟩ v2).setCell ⟨B, 3, none⟩ v3).setCell ⟨B, 4, none⟩ v4).setCell ⟨B, 5, none⟩ v5).setCell ⟨B, 6, none⟩ v6 ∧ W.grownBy W' (some B) ∧ W'.cell? ⟨B, 0, none⟩ = some v0 ∧ W'.cell? ⟨B, 1, none⟩ = some v1 ∧ W'.cell? ⟨B, 2, none⟩ = some v2 ∧ W'.cell? ⟨B, 3, none⟩ = some v3 ∧ W'.cell? ⟨B, 4, none⟩ = some v4 ∧ W'.cell? ⟨B, 5, none⟩ = some v5 ∧ W'.cell? ⟨B, 6, none⟩ = some v6 := by
  have hc : ∀ k v, #[u0, u1, u2, u3, u4, u5, u6][k]? = some v → W.cell? ⟨B, k, none⟩ = some v := fun k v hv => by rw [cell_of_row _ _ k _ _ (0, 0) h]; exact hv
  have h1 := heap_setCell_same W B 0 _ _ v0 h
  have h2 := heap_setCell_same _ B 1 _ _ v1 h1
  have h3 := heap_setCell_same _ B 2 _ _ v2 h2
  have h4 := heap_setCell_same _ B 3 _ _ v3 h3
  have h5 := heap_setCell_same _ B 4 _ _ v4 h4
  have h6 := heap_setCell_same _ B 5 _ _ v5 h5
  have h7 := heap_setCell_same _ B 6 _ _ v6 h6
  refine ⟨⟨hc 0 _ rfl, hc 1 _ rfl, hc 2 _ rfl, hc 3 _ rfl, hc 4 _ rfl, hc 5 _ rfl, hc 6 _ rfl⟩, fun i => frozen_of_row _ _ _ _ _ h, _, rfl, grown_trans (grown_set _ _ _) (grown_trans (grown_set _ _ _) (grown_trans (grown_set _ _ _) (grown_trans (grown_set _ _ _) (grown_trans (grown_set _ _ _) (grown_trans (grown_set _ _ _) (grown_set _ _ _)))))), ?_, ?_, ?_, ?_, ?_, ?_, ?_⟩
  all_goals (rw [cell_of_row _ _ _ _ _ (0, 0) h7]; simp)
inductive WithinP (x : TrI) (v : Value) (w : World) (e : Ending) (w' : World) : Prop
  | good (h : x.N.length ≤ 6 ∧ LittleT x) (he : e = .returned (.tuple #[v, .int .i64 0])) (g : w.grownBy w' none)
  | full (h : ¬ (x.N.length ≤ 6 ∧ LittleT x)) (he : e = .returned (.tuple #[tnZ, .int .i64 7])) (g : w.grownBy w' none)

set_option maxHeartbeats 3200000 in
set_option maxRecDepth 100000 in
theorem within_any (x : TrI) (a3 a4 a5 a6 : Option Addr) (c3 c4 c5 c6 : Nat) (w : World) (h : TnAt w x a3 a4 a5 a6) (he : x.E.length = x.Y.length) :
    Calls Try.prog 19 #[tnV x.I x.O x.S a3 x.F.length c3 a4 x.N.length c4 a5 x.Y.length c5 a6 x.E.length c6] w (WithinP x (tnV x.I x.O x.S a3 x.F.length c3 a4 x.N.length c4 a5 x.Y.length c5 a6 x.E.length c6) w) := by
  obtain ⟨W0, hW0, g0, s0, bx⟩ := box7_new w x.I x.O x.S a3 x.F.length c3 a4 x.N.length c4 a5 x.Y.length c5 a6 x.E.length c6
  obtain ⟨W1, hW1⟩ : ∃ W, W = W0.alloc tnZO := ⟨_, rfl⟩
  have g1 : W0.grownBy W1 none := by rw [hW1]; exact grown_alloc _ _
  have hrb : W1.heap[w.heap.size + 1]? = some (.cells #[.int .i64 0, .int .i64 0, .int .i64 0, .slice none 0 0, .slice none 0 0, .slice none 0 0, .slice none 0 0] 26 (0, 0)) := by
    have := heap_alloc_new W0 tnZO
    rw [← hW1, s0] at this
    exact this
  have sW : W1.heap.size = w.heap.size + 1 + 1 := by rw [hW1, World.size_alloc, s0]
  have HW1 : Hid (W1 = (w.alloc (tnO x.I x.O x.S a3 x.F.length c3 a4 x.N.length c4 a5 x.Y.length c5 a6 x.E.length c6)).alloc tnZO) := by show _ = _; rw [hW1, hW0]
  have G1 : Hid (w.grownBy W1 none) := grown_trans g0 g1
  have HL : Hid (Calls Try.prog 29 #[tnV x.I x.O x.S a3 x.F.length c3 a4 x.N.length c4 a5 x.Y.length c5 a6 x.E.length c6] W1 (TellsB (LittleT x) W1)) := saysLittle_any x a3 a4 a5 a6 c3 c4 c5 c6 W1 (h.grown (grown_trans g0 g1)) he
  have HX : Hid (∀ W, W1.grownBy W none → Box7 W w.heap.size x.I x.O x.S a3 x.F.length c3 a4 x.N.length c4 a5 x.Y.length c5 a6 x.E.length c6) := fun W hW => (bx.grown g1).grown hW
  have HRB : Hid (∀ W, W1.grownBy W none → W.heap[w.heap.size + 1]? = some (.cells #[.int .i64 0, .int .i64 0, .int .i64 0, .slice none 0 0, .slice none 0 0, .slice none 0 0, .slice none 0 0] 26 (0, 0))) := fun W hW => (hW.block _ (by omega) (by simp)).trans hrb
  have hm := h.m4
  unfold maxLen at hm
  have x0 := (bx.grown g1).b0
  have x1 := (bx.grown g1).b1
  have x2 := (bx.grown g1).b2
  have x3 := (bx.grown g1).b3
  have x4 := (bx.grown g1).b4
  have x5 := (bx.grown g1).b5
  have x6 := (bx.grown g1).b6
  obtain ⟨Po, hPo⟩ : ∃ P, P = WithinP x (tnV x.I x.O x.S a3 x.F.length c3 a4 x.N.length c4 a5 x.Y.length c5 a6 x.E.length c6) w := ⟨_, rfl⟩
  have HP1 : Hid (∀ W, x.N.length ≤ 6 ∧ LittleT x → w.grownBy W none → Po (.returned (.tuple #[tnV x.I x.O x.S a3 x.F.length c3 a4 x.N.length c4 a5 x.Y.length c5 a6 x.E.length c6, .int .i64 0])) W) := fun W h1 h2 => by rw [hPo]; exact .good h1 rfl h2
  have HP2 : Hid (∀ W, ¬ (x.N.length ≤ 6 ∧ LittleT x) → w.grownBy W none → Po (.returned (.tuple #[tnZ, .int .i64 7])) W) := fun W h1 h2 => by rw [hPo]; exact .full h1 rfl h2
  rw [← hPo]
  rw [HW1.out] at x0 x1 x2 x3 x4 x5 x6
  clear hW0 hW1 g0 g1 s0 bx h he hrb sW hPo
  by_cases n6 : x.N.length ≤ 6
  · have d1 : ¬ (6 : Int) < (x.N.length : Int) := by omega
    go_enter Try.func19, Try.ntmps19
    go_wp2_with fail
    rw [← HW1.out]
    refine HL.out.mono ?_
    rintro E w2 ⟨bl, rfl, hbl, hg2⟩
    have HB : Hid (bl = true ↔ LittleT x) := hbl
    have GW : Hid (w.grownBy w2 none) := grown_trans G1.out hg2
    clear x0 x1 x2 x3 x4 x5 x6
    have hx := HX.out w2 hg2
    have hb2 := HRB.out w2 hg2
    have x0 := hx.b0
    have x1 := hx.b1
    have x2 := hx.b2
    have x3 := hx.b3
    have x4 := hx.b4
    have x5 := hx.b5
    have x6 := hx.b6
    clear hbl hg2 hx
    cases bl with
    | true =>
      obtain ⟨⟨p0, p1, p2, p3, p4, p5, p6⟩, fz, W5, hW5, g5, y0, y1, y2, y3, y4, y5, y6⟩ := seven_store hb2 (.int .i64 x.I) (.int .i64 x.O) (.int .i64 x.S) (.slice a3 x.F.length c3) (.slice a4 x.N.length c4) (.slice a5 x.Y.length c5) (.slice a6 x.E.length c6)
      have F : Hid (Po (.returned (.tuple #[tnV x.I x.O x.S a3 x.F.length c3 a4 x.N.length c4 a5 x.Y.length c5 a6 x.E.length c6, .int .i64 0])) W5) := HP1.out W5 ⟨n6, HB.out.1 rfl⟩ (grown_new GW.out g5 (by omega))
      have HW5 : Hid (W5 = _) := hW5
      have f0 := fz 0
      have f1 := fz 1
      have f2 := fz 2
      have f3 := fz 3
      have f4 := fz 4
      have f5 := fz 5
      have f6 := fz 6
      clear hW5 g5 fz hb2
      go_wp2_with fail
      rw [← HW5.out]
      exact bodyPost_ret (v := .tuple #[tnV x.I x.O x.S a3 x.F.length c3 a4 x.N.length c4 a5 x.Y.length c5 a6 x.E.length c6, .int .i64 0]) (by simp [results, Try.results19, go_sem, y0, y1, y2, y3, y4, y5, y6]) rfl F.out
    | false =>
      obtain ⟨⟨p0, p1, p2, p3, p4, p5, p6⟩, fz, W5, hW5, g5, y0, y1, y2, y3, y4, y5, y6⟩ := seven_store hb2 (.int .i64 0) (.int .i64 0) (.int .i64 0) (.slice none 0 0) (.slice none 0 0) (.slice none 0 0) (.slice none 0 0)
      have F : Hid (Po (.returned (.tuple #[tnZ, .int .i64 7])) W5) := HP2.out W5 (fun e => by have := HB.out.2 e.2; cases this) (grown_new GW.out g5 (by omega))
      have HW5 : Hid (W5 = _) := hW5
      have f0 := fz 0
      have f1 := fz 1
      have f2 := fz 2
      have f3 := fz 3
      have f4 := fz 4
      have f5 := fz 5
      have f6 := fz 6
      clear hW5 g5 fz hb2
      go_wp2_with fail
      rw [← HW5.out]
      exact bodyPost_ret (v := .tuple #[tnZ, .int .i64 7]) (by simp [results, Try.results19, go_sem, y0, y1, y2, y3, y4, y5, y6]) rfl F.out
  · have d1 : (6 : Int) < (x.N.length : Int) := by omega
    have hb2 := HRB.out W1 (grown_refl _ _)
    have F : Hid (Po (.returned (.tuple #[tnZ, .int .i64 7])) W1) := HP2.out W1 (fun e => n6 e.1) G1.out
    have HC : Hid (∀ k v, #[Value.int .i64 0, .int .i64 0, .int .i64 0, .slice none 0 0, .slice none 0 0, .slice none 0 0, .slice none 0 0][k]? = some v → W1.cell? ⟨w.heap.size + 1, k, none⟩ = some v) := fun k v hv => by rw [cell_of_row _ _ k _ _ (0, 0) hb2]; exact hv
    clear hb2
    go_enter Try.func19, Try.ntmps19
    go_wp2_with fail
    rw [← HW1.out]
    have y0 := HC.out 0 _ rfl
    have y1 := HC.out 1 _ rfl
    have y2 := HC.out 2 _ rfl
    have y3 := HC.out 3 _ rfl
    have y4 := HC.out 4 _ rfl
    have y5 := HC.out 5 _ rfl
    have y6 := HC.out 6 _ rfl
    exact bodyPost_ret (v := .tuple #[tnZ, .int .i64 7]) (by simp [results, Try.results19, go_sem, y0, y1, y2, y3, y4, y5, y6]) rfl F.out

end Go.Proofs.Ytodcmlcpicabaaa
