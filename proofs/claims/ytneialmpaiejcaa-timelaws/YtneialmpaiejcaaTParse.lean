/- How the program reads a whole formula, and gives up: the deferred function that catches what a reader gives up with. -/
import Derived.Test.YtneialmpaiejcaaTRow
import Derived.Defers
import Derived.Recover
import Derived.Laws.Pointers
namespace Go.Proofs.Ytneialmpaiejcaa
open Go.RowKit
set_option linter.unusedVariables false

theorem asFF (w : World) (v : Value) : (Instr.typeAssert (.iface 29 v) 20 29 true).run Try.prog w = .ok (.tuple #[v, .bool true]) w := by kernel_rfl
theorem asFN (w : World) : (Instr.typeAssert .nilIface 20 29 true).run Try.prog w = .ok (.tuple #[.agg #[.int .i64 0, .int .i64 0], .bool false]) w := by kernel_rfl

theorem two_cellsT {w : World} {b : Nat} {u0 u1 : Value} {t : TypeId} (h : w.heap[b]? = some (.cells #[u0, u1] t (0, 0))) :
    w.cell? ⟨b, 0, none⟩ = some u0 ∧ w.cell? ⟨b, 1, none⟩ = some u1 ∧ w.frozen? ⟨b, 0, none⟩ = false ∧ w.frozen? ⟨b, 1, none⟩ = false :=
  ⟨by rw [cell_of_row w b 0 _ t (0, 0) h]; rfl, by rw [cell_of_row w b 1 _ t (0, 0) h]; rfl, frozen_of_row w b 0 _ t h, frozen_of_row w b 1 _ t h⟩
theorem one_cellT {w : World} {b : Nat} {u0 : Value} {t : TypeId} (h : w.heap[b]? = some (.cells #[u0] t (0, 0))) : w.cell? ⟨b, 0, none⟩ = some u0 ∧ w.frozen? ⟨b, 0, none⟩ = false :=
  ⟨by rw [cell_of_row w b 0 _ t (0, 0) h]; rfl, frozen_of_row w b 0 _ t h⟩

set_option maxRecDepth 100000 in
set_option maxHeartbeats 1600000 in
theorem catchT_fault (p q : Nat) (hpq : p ≠ q) (c j : Int) (x y z : Value) (w : World) (h0 : w.heap[p]? = some (.cells #[x] 32 (0, 0))) (h1 : w.heap[q]? = some (.cells #[y, z] 29 (0, 0))) :
    CallsD Try.prog 10 #[.pointer (some ⟨p, 0, none⟩), .pointer (some ⟨q, 0, none⟩)] (.panicking ({ v := .iface 29 (.agg #[.int .i64 c, .int .i64 j]), recovered := false } :: [])) w fun e u' w' =>
      e = .returned (.tuple #[]) ∧ u' = .panicking ({ v := .iface 29 (.agg #[.int .i64 c, .int .i64 j]), recovered := true } :: []) ∧ w'.heap[p]? = some (.cells #[.pointer none] 32 (0, 0)) ∧ w'.heap[q]? = some (.cells #[.int .i64 c, .int .i64 j] 29 (0, 0)) ∧ ∀ B, B ≤ p → B ≤ q → Below B w w' := by
  refine callsD_of_wpS Try.func10 rfl fun c₀ cs hu => ?_
  have as1 := asFF w (.agg #[.int .i64 c, .int .i64 j])
  apply wpS_seq
  apply wpS_region
  simp [wpOpsS, go_sem, recoverD, hu, Try.ntmps10, Exit.thenS, as1]
  refine wpS_of_wp ?_
  have hp := (Array.getElem?_eq_some_iff.1 h0).1
  have hq := (Array.getElem?_eq_some_iff.1 h1).1
  obtain ⟨W1, hW1⟩ : ∃ W1, W1 = w.alloc (.cells #[.int .i64 c, .int .i64 j] 29) := ⟨_, rfl⟩
  have hb1 := heap_alloc_new w (.cells #[.int .i64 c, .int .i64 j] 29)
  rw [← hW1] at hb1
  have g1 : w.grownBy W1 none := by rw [hW1]; exact grown_alloc _ _
  have k0 := (g1.block p hp (by simp)).trans h0
  have k1 := (g1.block q hq (by simp)).trans h1
  have m0 : (W1.setCell ⟨p, 0, none⟩ (.pointer none)).heap[p]? = some (.cells #[.pointer none] 32 (0, 0)) := by rw [heap_setCell_same W1 p 0 _ 32 _ k0]; rfl
  have m1 : (W1.setCell ⟨p, 0, none⟩ (.pointer none)).heap[q]? = some (.cells #[y, z] 29 (0, 0)) := (Below.heap_setCell _ _ _ _ (Ne.symm hpq)).trans k1
  have m2 : (W1.setCell ⟨p, 0, none⟩ (.pointer none)).heap[w.heap.size]? = some (.cells #[.int .i64 c, .int .i64 j] 29 (0, 0)) := (Below.heap_setCell _ _ _ _ (by show w.heap.size ≠ p; omega)).trans hb1
  obtain ⟨W4, hW4⟩ : ∃ W4, W4 = ((W1.setCell ⟨p, 0, none⟩ (.pointer none)).setCell ⟨q, 0, none⟩ (.int .i64 c)).setCell ⟨q, 1, none⟩ (.int .i64 j) := ⟨_, rfl⟩
  have n1 : W4.heap[q]? = some (.cells #[.int .i64 c, .int .i64 j] 29 (0, 0)) := by rw [hW4, heap_setCell_same _ q 1 _ 29 _ (heap_setCell_same _ q 0 _ 29 _ m1)]; rfl
  have n0 : W4.heap[p]? = some (.cells #[.pointer none] 32 (0, 0)) := by rw [hW4, Below.heap_setCell _ _ _ _ hpq, Below.heap_setCell _ _ _ _ hpq]; exact m0
  have bl : ∀ B, B ≤ p → B ≤ q → Below B w W4 := fun B hB1 hB2 => by
    rw [hW4]
    exact ((((below_of_grown g1).mono (show B ≤ w.heap.size by omega)).setCell hB1 _).setCell hB2 _).setCell hB2 _
  have N : Hid (W4.heap[p]? = some (.cells #[.pointer none] 32 (0, 0)) ∧ W4.heap[q]? = some (.cells #[.int .i64 c, .int .i64 j] 29 (0, 0)) ∧ ∀ B, B ≤ p → B ≤ q → Below B w W4) := ⟨n0, n1, bl⟩
  have HW4 : Hid (W4 = ((W1.setCell ⟨p, 0, none⟩ (.pointer none)).setCell ⟨q, 0, none⟩ (.int .i64 c)).setCell ⟨q, 1, none⟩ (.int .i64 j)) := hW4
  obtain ⟨x0, x1⟩ := one_cellT k0
  obtain ⟨y0, y1, y2, y3⟩ := two_cellsT k1
  obtain ⟨z0, z1, _, _⟩ := two_cellsT hb1
  obtain ⟨u0, u1, u2, u3⟩ := two_cellsT m1
  obtain ⟨v0, v1, _, _⟩ := two_cellsT m2
  rw [← hW1]
  generalize w.heap.size = H at *
  have ht : ∀ (e0 e1 e2 e3 e4 e5 : Value), (#[Value.pointer (some ⟨p, 0, none⟩), Value.pointer (some ⟨q, 0, none⟩)] ++ (((((((Array.replicate 9 undef).setIfInBounds 3 e0).setIfInBounds 4 e1).setIfInBounds 2 e2).setIfInBounds 5 e3).setIfInBounds 6 e4).setIfInBounds 0 e5).setIfInBounds 1 e4) = #[Value.pointer (some ⟨p, 0, none⟩), Value.pointer (some ⟨q, 0, none⟩), e5, e4, e2, e0, e1, e3, e4, undef, undef] := by intro e0 e1 e2 e3 e4 e5; kernel_rfl
  rw [ht]
  clear h0 h1 hu ht hp hq hb1 g1 k0 k1 m0 m1 m2 n0 n1 bl hW1 hW4 as1
  go_wp2_with fail
  go_region
  rw [← HW4.out]
  clear HW4 x0 x1 y0 y1 y2 y3 z0 z1 u0 u1 u2 u3 v0 v1
  go_wp2_with fail
  simp [bodyPostS, results, Try.results10]
  obtain ⟨n0, n1, n2⟩ := N.out
  exact ⟨n0, n1, fun B h1 h2 => (n2 B h1 h2).drew⟩

set_option maxRecDepth 100000 in
set_option maxHeartbeats 1600000 in
theorem catchT_idle (p q : Nat) (w : World) :
    CallsD Try.prog 10 #[.pointer (some ⟨p, 0, none⟩), .pointer (some ⟨q, 0, none⟩)] .returning w fun e u' w' => e = .returned (.tuple #[]) ∧ u' = .returning ∧ w.grownBy w' none := by
  refine callsD_of_wpS Try.func10 rfl fun c₀ cs hu => ?_
  have as1 := asFN w
  have G : Hid (∀ o, w.grownBy (w.alloc o) none) := fun o => grown_alloc w o
  apply wpS_seq
  apply wpS_region
  simp [wpOpsS, go_sem, recoverD, hu, Try.ntmps10, Exit.thenS, as1]
  refine wpS_of_wp ?_
  have ht : ∀ (e0 e1 e2 e3 e4 e5 : Value), (#[Value.pointer (some ⟨p, 0, none⟩), Value.pointer (some ⟨q, 0, none⟩)] ++ (((((((Array.replicate 9 undef).setIfInBounds 3 e0).setIfInBounds 4 e1).setIfInBounds 2 e2).setIfInBounds 5 e3).setIfInBounds 6 e4).setIfInBounds 0 e5).setIfInBounds 1 e4) = #[Value.pointer (some ⟨p, 0, none⟩), Value.pointer (some ⟨q, 0, none⟩), e5, e4, e2, e0, e1, e3, e4, undef, undef] := by intro e0 e1 e2 e3 e4 e5; kernel_rfl
  rw [ht]
  clear ht as1
  go_wp2_with fail
  cases c₀
  simp_all [bodyPostS, results, Try.results10]
  exact G.out _

/-- What reading a formula leaves behind. -/
def TParsed (w : World) (R : TRes) (e : Ending) (w' : World) : Prop :=
  Below w.heap.size w w' ∧ match R with
  | .good f _ _ _ => ∃ v, e = .returned (.tuple #[v, .agg #[.int .i64 0, .int .i64 0]]) ∧ TreeAt (fun k => w.heap.size ≤ k) w' v (trOf f)
  | .bad c j => e = .returned (.tuple #[.pointer none, .agg #[.int .i64 c, .int .i64 j]])

theorem three_new (w : World) (s : ByteArray) : ∃ W, W = (((w.alloc (.cells #[.pointer none] 32)).alloc (.cells #[.int .i64 0, .int .i64 0] 29)).alloc (.cells #[.string s, .int .i64 0, .int .i64 0, .int .i64 0, .int .i64 0] 44)) ∧ w.grownBy W none ∧ W.heap[w.heap.size]? = some (.cells #[.pointer none] 32 (0, 0)) ∧ W.heap[w.heap.size + 1]? = some (.cells #[.int .i64 0, .int .i64 0] 29 (0, 0)) ∧ TRd W (w.heap.size + 1 + 1) s 0 0 0 0 ∧ W.heap.size = w.heap.size + 3 := by
  have h0 := heap_alloc_new w (.cells #[.pointer none] 32)
  have h1 := heap_alloc_new (w.alloc (.cells #[.pointer none] 32)) (.cells #[.int .i64 0, .int .i64 0] 29)
  have h2 := heap_alloc_new ((w.alloc (.cells #[.pointer none] 32)).alloc (.cells #[.int .i64 0, .int .i64 0] 29)) (.cells #[.string s, .int .i64 0, .int .i64 0, .int .i64 0, .int .i64 0] 44)
  rw [World.size_alloc] at h1
  rw [World.size_alloc, World.size_alloc] at h2
  refine ⟨_, rfl, grown_trans (grown_alloc _ _) (grown_trans (grown_alloc _ _) (grown_alloc _ _)), ?_, ?_, h2, by simp⟩
  · rw [Below.heap_alloc _ _ _ (by simp; omega), Below.heap_alloc _ _ _ (by simp)]; exact h0
  · rw [Below.heap_alloc _ _ _ (by simp)]; exact h1

set_option maxRecDepth 100000 in
set_option maxHeartbeats 3200000 in
theorem readT_any (s : ByteArray) (w : World) (hm : s.size ≤ maxLen) : Calls Try.prog 6 #[.string s] w (TParsed w (parseQ s)) := by
  unfold maxLen at hm
  have hmf : ∀ (fn : Fn) (first cap : Array Value) (w : World), (Instr.makeFunc fn first cap).run Try.prog w = .ok (.func fn first cap) w := fun _ _ _ _ => rfl
  by_cases hs : 4000 < s.size
  · have hs' : (4000 : Int) < (s.size : Int) := by omega
    have hR : parseQ s = .bad 1 0 := by simp [parseQ, hs]
    rw [hR]
    go_enter_defers Try.func6, Try.ntmps6
    go_wp2
    exact ⟨.tuple #[.pointer none, .agg #[.int .i64 1, .int .i64 0]], by simp [results, Try.results6, go_sem], ((Below.refl _ _).alloc (Nat.le_refl _) _).alloc (by simp) _, rfl⟩
  · have hs' : ¬ (4000 : Int) < (s.size : Int) := by omega
    have hs4 : s.size ≤ 4000 := by omega
    obtain ⟨W0, hW0, g0, k0, k1, r0, z0⟩ := three_new w s
    have HW0 : Hid ((((w.alloc (.cells #[.pointer none] 32)).alloc (.cells #[.int .i64 0, .int .i64 0] 29)).alloc (.cells #[.string s, .int .i64 0, .int .i64 0, .int .i64 0, .int .i64 0] 44)) = W0) := hW0.symm
    have G0 : Hid (w.grownBy W0 none) := g0
    have K0 : Hid (W0.heap[w.heap.size]? = some (.cells #[.pointer none] 32 (0, 0))) := k0
    have K1 : Hid (W0.heap[w.heap.size + 1]? = some (.cells #[.int .i64 0, .int .i64 0] 29 (0, 0))) := k1
    have R0 : Hid (TRd W0 (w.heap.size + 1 + 1) s 0 0 0 0) := r0
    have Z0 : Hid (W0.heap.size = w.heap.size + 3) := z0
    have HW : Hid (∀ w1, TRd w1 (w.heap.size + 1 + 1) s 0 0 0 0 → Calls Try.prog 11 #[.pointer (some ⟨w.heap.size + 1 + 1, 0, none⟩)] w1 (TGives s (w.heap.size + 1 + 1) 0 w1 (formQ s (lvQ s (s.size + 1)).2 0 0 0 0))) := fun w1 h => formT_all s hs4 (s.size + 1) 0 0 0 0 _ w1 (by omega) (by omega) (by omega) (by omega) (by omega) h
    have hfw := formQ_fwd (s := s) (lvQ_fwd (s.size + 1)).2
    unfold parseQ
    rw [if_neg hs]
    clear hs hm hW0 g0 k0 k1 r0 z0
    cases hR : formQ s (lvQ s (s.size + 1)).2 0 0 0 0 with
    | bad c j =>
      rw [hR] at HW
      clear hR hfw
      simp only
      go_enter_defers Try.func6, Try.ntmps6
      go_wp2_with fail
      rw [HW0.out]
      refine (HW.out _ R0.out).mono ?_
      rintro e w3 ⟨hg3, rfl⟩
      have F0 : w3.heap[w.heap.size]? = some (.cells #[.pointer none] 32 (0, 0)) := (hg3.block _ (by have := Z0.out; omega) (by simp only [ne_eq, Option.some.injEq]; omega)).trans K0.out
      have F1 : w3.heap[w.heap.size + 1]? = some (.cells #[.int .i64 0, .int .i64 0] 29 (0, 0)) := (hg3.block _ (by have := Z0.out; omega) (by simp only [ne_eq, Option.some.injEq]; omega)).trans K1.out
      have B3 : Below w.heap.size w w3 := (below_of_grown G0.out).trans (grown_below hg3 (by omega) G0.out.size)
      refine leaves_cons (f := 10) (args := #[.pointer (some ⟨w.heap.size, 0, none⟩), .pointer (some ⟨w.heap.size + 1, 0, none⟩)]) (by simp) (by simp [go_sem]) ?_
      refine (catchT_fault w.heap.size (w.heap.size + 1) (by omega) _ _ _ _ _ _ F0 F1).mono ?_
      rintro e u' w4 ⟨rfl, rfl, n0, n1, n2⟩
      exact ⟨.tuple #[.pointer none, .agg #[.int .i64 c, .int .i64 j]], by simp [results, Try.results6, go_sem, (one_cellT n0).1, (two_cellsT n1).1, (two_cellsT n1).2.1], B3.trans (n2 _ (Nat.le_refl _) (by omega)), rfl⟩
    | good f j n t =>
      obtain ⟨a1, a2, a3, a4, a5⟩ := hfw.good hR (by omega) (by omega) (by omega)
      rw [hR] at HW
      clear hR hfw
      simp only
      have HX : Hid (∀ (w3 : World) (v : Value), W0.grownBy w3 (some (w.heap.size + 1 + 1)) → TRd w3 (w.heap.size + 1 + 1) s j 0 n t → TreeAt (fun k => W0.heap.size ≤ k) w3 v (trOf f) →
          w3.cell? ⟨w.heap.size, 0, none⟩ = some (.pointer none) ∧ w3.frozen? ⟨w.heap.size, 0, none⟩ = false ∧ (w3.setCell ⟨w.heap.size, 0, none⟩ v).heap[w.heap.size]? = some (.cells #[v] 32 (0, 0)) ∧ (w3.setCell ⟨w.heap.size, 0, none⟩ v).heap[w.heap.size + 1]? = some (.cells #[.int .i64 0, .int .i64 0] 29 (0, 0)) ∧ TRd (w3.setCell ⟨w.heap.size, 0, none⟩ v) (w.heap.size + 1 + 1) s j 0 n t ∧ Below w.heap.size w (w3.setCell ⟨w.heap.size, 0, none⟩ v) ∧ TreeAt (fun k => w.heap.size + 2 ≤ k) (w3.setCell ⟨w.heap.size, 0, none⟩ v) v (trOf f)) := fun w3 v hg hr ht => by
        have F0 : w3.heap[w.heap.size]? = some (.cells #[.pointer none] 32 (0, 0)) := (hg.block _ (by have := Z0.out; omega) (by simp only [ne_eq, Option.some.injEq]; omega)).trans K0.out
        have F1 : w3.heap[w.heap.size + 1]? = some (.cells #[.int .i64 0, .int .i64 0] 29 (0, 0)) := (hg.block _ (by have := Z0.out; omega) (by simp only [ne_eq, Option.some.injEq]; omega)).trans K1.out
        refine ⟨(one_cellT F0).1, (one_cellT F0).2, by rw [heap_setCell_same w3 w.heap.size 0 _ 32 _ F0]; rfl, (Below.heap_setCell _ _ _ _ (by simp)).trans F1, (Below.heap_setCell _ _ _ _ (by simp; omega)).trans hr, ((below_of_grown G0.out).trans (grown_below hg (by omega) G0.out.size)).setCell (Nat.le_refl _) _, ht.kept fun g hok hlt => ⟨by have := Z0.out; omega, Below.heap_setCell _ _ _ _ (by have := Z0.out; simp; omega)⟩⟩
      by_cases hjl : j < s.size
      · have hjl' : (j : Int) < (s.size : Int) := by omega
        rw [if_pos hjl]
        go_enter_defers Try.func6, Try.ntmps6
        go_wp2_with fail
        rw [HW0.out]
        refine (HW.out _ R0.out).mono ?_
        rintro e w3 ⟨hg3, v, rfl, hrd, hl⟩
        obtain ⟨x0, x1, x2, x3, x4, x5, x6⟩ := HX.out w3 v hg3 hrd hl
        have X2 : Hid ((w3.setCell ⟨w.heap.size, 0, none⟩ v).heap[w.heap.size]? = some (.cells #[v] 32 (0, 0))) := x2
        have X3 : Hid ((w3.setCell ⟨w.heap.size, 0, none⟩ v).heap[w.heap.size + 1]? = some (.cells #[.int .i64 0, .int .i64 0] 29 (0, 0))) := x3
        have X4 : Hid (TRd (w3.setCell ⟨w.heap.size, 0, none⟩ v) (w.heap.size + 1 + 1) s j 0 n t) := x4
        have X5 : Hid (Below w.heap.size w (w3.setCell ⟨w.heap.size, 0, none⟩ v)) := x5
        obtain ⟨xv, rfl⟩ := hl.form
        have c1 := X4.out.c1
        clear hg3 hrd hl x2 x3 x4 x5 x6 HX HW HW0 K0 K1 R0
        go_wp2_with fail
        refine (faultT_any s _ j 0 n t 4 _ X4.out).mono ?_
        rintro e w5 ⟨rfl, hg5⟩
        have F0 : Hid (w5.heap[w.heap.size]? = some (.cells #[.pointer xv] 32 (0, 0))) := (hg5.block _ (Array.getElem?_eq_some_iff.1 X2.out).1 (by simp)).trans X2.out
        have F1 : Hid (w5.heap[w.heap.size + 1]? = some (.cells #[.int .i64 0, .int .i64 0] 29 (0, 0))) := (hg5.block _ (Array.getElem?_eq_some_iff.1 X3.out).1 (by simp)).trans X3.out
        have B5 : Hid (Below w.heap.size w w5) := X5.out.trans ((below_of_grown hg5).mono X5.out.size)
        clear hg5 X2 X3 X4 X5 c1 x0 x1
        go_wp2_with fail
        refine leaves_cons (f := 10) (args := #[.pointer (some ⟨w.heap.size, 0, none⟩), .pointer (some ⟨w.heap.size + 1, 0, none⟩)]) (by simp) (by simp [go_sem]) ?_
        refine (catchT_fault w.heap.size (w.heap.size + 1) (by omega) _ _ _ _ _ _ F0.out F1.out).mono ?_
        rintro e u' w4 ⟨rfl, rfl, n0, n1, n2⟩
        exact ⟨.tuple #[.pointer none, .agg #[.int .i64 4, .int .i64 j]], by simp [results, Try.results6, go_sem, (one_cellT n0).1, (two_cellsT n1).1, (two_cellsT n1).2.1], B5.out.trans (n2 _ (Nat.le_refl _) (by omega)), rfl⟩
      · have hjl' : ¬ (j : Int) < (s.size : Int) := by omega
        rw [if_neg hjl]
        go_enter_defers Try.func6, Try.ntmps6
        go_wp2_with fail
        rw [HW0.out]
        refine (HW.out _ R0.out).mono ?_
        rintro e w3 ⟨hg3, v, rfl, hrd, hl⟩
        obtain ⟨x0, x1, x2, x3, x4, x5, x6⟩ := HX.out w3 v hg3 hrd hl
        obtain ⟨xv, rfl⟩ := hl.form
        obtain ⟨W5, hW5⟩ : ∃ W5, W5 = w3.setCell ⟨w.heap.size, 0, none⟩ (.pointer xv) := ⟨_, rfl⟩
        rw [← hW5] at x2 x3 x4 x5 x6
        have m0 : (W5.setCell ⟨w.heap.size, 0, none⟩ (.pointer xv)).heap[w.heap.size]? = some (.cells #[.pointer xv] 32 (0, 0)) := by rw [heap_setCell_same W5 w.heap.size 0 _ 32 _ x2]; rfl
        have m1 : (W5.setCell ⟨w.heap.size, 0, none⟩ (.pointer xv)).heap[w.heap.size + 1]? = some (.cells #[.int .i64 0, .int .i64 0] 29 (0, 0)) := (Below.heap_setCell _ _ _ _ (by simp)).trans x3
        obtain ⟨W6, hW6⟩ : ∃ W6, W6 = ((W5.setCell ⟨w.heap.size, 0, none⟩ (.pointer xv)).setCell ⟨w.heap.size + 1, 0, none⟩ (.int .i64 0)).setCell ⟨w.heap.size + 1, 1, none⟩ (.int .i64 0) := ⟨_, rfl⟩
        have n1 : W6.heap[w.heap.size + 1]? = some (.cells #[.int .i64 0, .int .i64 0] 29 (0, 0)) := by rw [hW6, heap_setCell_same _ (w.heap.size + 1) 1 _ 29 _ (heap_setCell_same _ (w.heap.size + 1) 0 _ 29 _ m1)]; rfl
        have n0 : W6.heap[w.heap.size]? = some (.cells #[.pointer xv] 32 (0, 0)) := by rw [hW6, Below.heap_setCell _ _ _ _ (by simp), Below.heap_setCell _ _ _ _ (by simp)]; exact m0
        have N0 : Hid (W6.heap[w.heap.size]? = some (.cells #[.pointer xv] 32 (0, 0))) := n0
        have N1 : Hid (W6.heap[w.heap.size + 1]? = some (.cells #[.int .i64 0, .int .i64 0] 29 (0, 0))) := n1
        have N2 : Hid (Below w.heap.size w W6) := by
          show Below _ _ _
          rw [hW6]; exact ((x5.setCell (Nat.le_refl _) _).setCell (by simp) _).setCell (by simp) _
        have N3 : Hid (TreeAt (fun k => w.heap.size ≤ k) W6 (.pointer xv) (trOf f)) := x6.kept fun g hok hlt => ⟨by omega, by rw [hW6, Below.heap_setCell _ _ _ _ (by simp; omega), Below.heap_setCell _ _ _ _ (by simp; omega), Below.heap_setCell _ _ _ _ (by simp; omega)]⟩
        have HW6 : Hid (W6 = (((w3.setCell ⟨w.heap.size, 0, none⟩ (.pointer xv)).setCell ⟨w.heap.size, 0, none⟩ (.pointer xv)).setCell ⟨w.heap.size + 1, 0, none⟩ (.int .i64 0)).setCell ⟨w.heap.size + 1, 1, none⟩ (.int .i64 0)) := by show _ = _; rw [hW6, hW5]
        have c1 := x4.c1
        obtain ⟨y0, y1⟩ := one_cellT x2
        obtain ⟨z0, z1, z2, z3⟩ := two_cellsT m1
        rw [hW5] at c1 y0 y1 z0 z1 z2 z3
        clear hg3 hrd hl x2 x3 x4 x5 x6 HX HW HW0 K0 K1 R0 hW5 hW6 n0 n1 m0 m1
        go_wp2_with fail
        rw [← HW6.out]
        refine leaves_cons (f := 10) (args := #[.pointer (some ⟨w.heap.size, 0, none⟩), .pointer (some ⟨w.heap.size + 1, 0, none⟩)]) (by simp) (by simp [go_sem]) ?_
        refine (catchT_idle w.heap.size (w.heap.size + 1) _).mono ?_
        rintro e u' w7 ⟨rfl, rfl, hg7⟩
        have q0 := (hg7.block _ (Array.getElem?_eq_some_iff.1 N0.out).1 (by simp)).trans N0.out
        have q1 := (hg7.block _ (Array.getElem?_eq_some_iff.1 N1.out).1 (by simp)).trans N1.out
        exact ⟨.tuple #[.pointer xv, .agg #[.int .i64 0, .int .i64 0]], by simp [results, Try.results6, go_sem, (one_cellT q0).1, (two_cellsT q1).1, (two_cellsT q1).2.1], N2.out.trans ((below_of_grown hg7).mono N2.out.size), _, rfl, N3.out.grown hg7⟩

def codeQ : TRes → Int | .good _ _ _ _ => 0 | .bad c _ => c
def atQ : TRes → Nat | .good _ _ _ _ => 0 | .bad _ j => j
theorem TParsed.flat {w w' : World} {R : TRes} {e : Ending} (h : TParsed w R e w') : ∃ v, e = .returned (.tuple #[v, .agg #[.int .i64 (codeQ R), .int .i64 (atQ R)]]) ∧ Below w.heap.size w w' := by
  obtain ⟨hb, h⟩ := h
  cases R with
  | good f i n t => obtain ⟨v, he, _⟩ := h; exact ⟨v, he, hb⟩
  | bad c j => exact ⟨_, h, hb⟩

theorem checkT_any (s : ByteArray) (w : World) (hm : s.size ≤ maxLen) : Calls Try.prog 5 #[.string s] w fun e w' => e = .returned (.agg #[.int .i64 (codeQ (parseQ s)), .int .i64 (atQ (parseQ s))]) ∧ Below w.heap.size w w' := by
  have H : Hid (∀ W, Calls Try.prog 6 #[.string s] W fun e w' => ∃ v, e = .returned (.tuple #[v, .agg #[.int .i64 (codeQ (parseQ s)), .int .i64 (atQ (parseQ s))]]) ∧ Below W.heap.size W w') := fun W => (readT_any s W hm).mono fun e w' h => h.flat
  generalize codeQ (parseQ s) = c at *
  generalize atQ (parseQ s) = a at *
  go_enter Try.func5, Try.ntmps5
  go_wp2_with fail
  refine (H.out _).mono ?_
  rintro e w2 ⟨v, rfl, hb⟩
  have d0 : w2.cell? ⟨w.heap.size, 0, none⟩ = some (.int .i64 0) := by rw [hb.cell (by simp)]; simp
  have d1 : w2.cell? ⟨w.heap.size, 1, none⟩ = some (.int .i64 0) := by rw [hb.cell (by simp)]; simp
  have e0 : w2.frozen? ⟨w.heap.size, 0, none⟩ = false := by rw [hb.frozen (by simp)]; simp
  have e1 : w2.frozen? ⟨w.heap.size, 1, none⟩ = false := by rw [hb.frozen (by simp)]; simp
  have hlt : w.heap.size < w2.heap.size := by have := hb.size; simp at this; omega
  have B : Hid (Below w.heap.size w w2) := ((Below.refl _ _).alloc (Nat.le_refl _) _).trans (hb.mono (by simp))
  have F : Hid (w2.heap[w.heap.size]? = some (.cells #[.int .i64 0, .int .i64 0] 29 (0, 0))) := (hb.block _ (by simp)).trans (heap_alloc_new w _)
  clear hb
  go_wp2_with fail
  have q0 : (((w2.setCell ⟨w.heap.size, 0, none⟩ (.int .i64 c)).setCell ⟨w.heap.size, 1, none⟩ (.int .i64 (a : Nat))).alloc (.cells #[.int .i64 c, .int .i64 a] 29)).heap[w.heap.size]? = some (.cells #[.int .i64 c, .int .i64 (a : Nat)] 29 (0, 0)) := by
    rw [Below.heap_alloc _ _ _ (by simpa [World.setCell] using hlt), heap_setCell_same _ w.heap.size 1 _ 29 _ (heap_setCell_same _ w.heap.size 0 _ 29 _ F.out)]; rfl
  have kB : Below w.heap.size w (((w2.setCell ⟨w.heap.size, 0, none⟩ (.int .i64 c)).setCell ⟨w.heap.size, 1, none⟩ (.int .i64 (a : Nat))).alloc (.cells #[.int .i64 c, .int .i64 a] 29)) := ((B.out.setCell (Nat.le_refl _) _).setCell (Nat.le_refl _) _).alloc (by simp [World.setCell]; omega) _
  generalize (((w2.setCell ⟨w.heap.size, 0, none⟩ (.int .i64 c)).setCell ⟨w.heap.size, 1, none⟩ (.int .i64 (a : Nat))).alloc (.cells #[.int .i64 c, .int .i64 a] 29)) = W5 at q0 kB ⊢
  exact bodyPost_ret (v := .agg #[.int .i64 c, .int .i64 a]) (by simp [results, Try.results5, go_sem, (two_cellsT q0).1, (two_cellsT q0).2.1]) rfl ⟨rfl, kB⟩

end Go.Proofs.Ytneialmpaiejcaa
