/- What it costs to read signs: the program's sum, cost, nowhere. -/
import Derived.Test.YthnbiiipfcogeaaSgMem
import Derived.Deep.RegionHeld3
namespace Go.Proofs.Ythnbiiipfcogeaa
open Go.RowKit Go.Maps
set_option linter.unusedVariables false
set_option linter.unusedSimpArgs false

set_option maxHeartbeats 1600000 in
set_option maxRecDepth 100000 in
theorem sum_any (x y : Nat) (w : World) (hx : x ≤ 2002) (hy : y ≤ 2002) : Calls Try.prog 23 #[.int .i64 (x : Int), .int .i64 (y : Int)] w fun e w' => e = .returned (.int .i64 (sumC x y : Int)) ∧ w' = w := by
  have hw : IntKind.i64.wrap ((x : Int) + (y : Int)) = (x : Int) + (y : Int) := by rw [IntKind.wrap_i64]; omega
  obtain ⟨r, hr⟩ : ∃ r, sumC x y = r := ⟨_, rfl⟩
  have HR : Hid (sumC x y = r) := hr
  rw [hr]
  clear hr
  have bx : ((x : Int) == 2002) = decide (x = 2002) := by
    by_cases e : x = 2002
    · subst e; rfl
    · rw [decide_eq_false e]; simp; omega
  have bY : ((y : Int) == 2002) = decide (y = 2002) := by
    by_cases e : y = 2002
    · subst e; rfl
    · rw [decide_eq_false e]; simp; omega
  have cl : ∀ (v : Int), v = (r : Int) → Ending.returned (.int .i64 v) = Ending.returned (.int .i64 (r : Int)) := fun v e => by rw [e]
  by_cases hxy : (x : Int) < (y : Int)
  · have hle : (x : Int) ≤ (y : Int) := by omega
    have hn : ¬ (y : Int) ≤ (x : Int) := by omega
    by_cases h : y = 2002
    · rw [decide_eq_true h] at bY
      have bZ : ((y : Int) == 2002) = true := bY
      go_enter Try.func23, Try.ntmps23
      go_wp2_with fail
      all_goals
        go_ret
        exact ⟨cl _ (by have := HR.out; unfold sumC at this; split at this <;> omega), rfl⟩
    · rw [decide_eq_false h] at bY
      by_cases h2 : (x : Int) + (y : Int) ≤ 2001
      · go_enter Try.func23, Try.ntmps23
        go_wp2_with fail
        all_goals
          go_ret
          exact ⟨cl _ (by have := HR.out; unfold sumC at this; split at this <;> omega), rfl⟩
      · have h3 : 2001 < (x : Int) + (y : Int) := by omega
        go_enter Try.func23, Try.ntmps23
        go_wp2_with fail
        all_goals
          go_ret
          exact ⟨cl _ (by have := HR.out; unfold sumC at this; split at this <;> omega), rfl⟩
  · have hle : (y : Int) ≤ (x : Int) := by omega
    by_cases h : x = 2002
    · rw [decide_eq_true h] at bx
      have bZ : ((x : Int) == 2002) = true := bx
      go_enter Try.func23, Try.ntmps23
      go_wp2_with fail
      all_goals
        go_ret
        exact ⟨cl _ (by have := HR.out; unfold sumC at this; split at this <;> omega), rfl⟩
    · rw [decide_eq_false h] at bx
      by_cases h2 : (x : Int) + (y : Int) ≤ 2001
      · go_enter Try.func23, Try.ntmps23
        go_wp2_with fail
        all_goals
          go_ret
          exact ⟨cl _ (by have := HR.out; unfold sumC at this; split at this <;> omega), rfl⟩
      · have h3 : 2001 < (x : Int) + (y : Int) := by omega
        go_enter Try.func23, Try.ntmps23
        go_wp2_with fail
        all_goals
          go_ret
          exact ⟨cl _ (by have := HR.out; unfold sumC at this; split at this <;> omega), rfl⟩

set_option maxHeartbeats 1600000 in
set_option maxRecDepth 100000 in
theorem cost_any (b : Nat) (E : Edg) (f s t : Nat) (w : World) (h : EdgesAt w b E) (hf : f < 6) (hs : s < 3) (ht : t < 6) : Calls Try.prog 24 #[.map (some b), vE f s t] w (Says (.int .i64 (E f s t : Int)) w) := by
  have h' : EdgesAt (w.alloc (.cells #[.int .i64 (f : Int), .int .i64 (s : Int), .int .i64 (t : Int)] 50)) b E := h.kept (grown_alloc _ _) (by simp)
  have hb := heap_alloc_new w (.cells #[.int .i64 (f : Int), .int .i64 (s : Int), .int .i64 (t : Int)] 50)
  have c0 : (w.alloc (.cells #[.int .i64 (f : Int), .int .i64 (s : Int), .int .i64 (t : Int)] 50)).cell? ⟨w.heap.size, 0, none⟩ = some (.int .i64 (f : Int)) := by rw [cell_of_row _ _ 0 _ _ (0, 0) hb]; rfl
  have c1 : (w.alloc (.cells #[.int .i64 (f : Int), .int .i64 (s : Int), .int .i64 (t : Int)] 50)).cell? ⟨w.heap.size, 1, none⟩ = some (.int .i64 (s : Int)) := by rw [cell_of_row _ _ 1 _ _ (0, 0) hb]; rfl
  have c2 : (w.alloc (.cells #[.int .i64 (f : Int), .int .i64 (s : Int), .int .i64 (t : Int)] 50)).cell? ⟨w.heap.size, 2, none⟩ = some (.int .i64 (t : Int)) := by rw [cell_of_row _ _ 2 _ _ (0, 0) hb]; rfl
  have HG : Hid (w.grownBy (w.alloc (.cells #[.int .i64 (f : Int), .int .i64 (s : Int), .int .i64 (t : Int)] 50)) none) := grown_alloc _ _
  obtain ⟨k1, k2⟩ := h'.look hf hs ht
  have hE := h.top f s t
  obtain ⟨c, hc⟩ : ∃ c, E f s t = c := ⟨_, rfl⟩
  rw [hc] at k1 k2 hE ⊢
  clear h h' hb hc
  by_cases hl : c < 2002
  · have hrun := k1 hl
    clear k1 k2
    go_enter Try.func24, Try.ntmps24
    go_wp2_with fail
    go_ret
    exact ⟨rfl, HG.out⟩
  · obtain ⟨c', hrun⟩ := k2 hl
    have : c = 2002 := by omega
    subst this
    clear k1 k2
    go_enter Try.func24, Try.ntmps24
    go_wp2_with fail
    go_ret
    exact ⟨rfl, HG.out⟩

theorem index_six (g : Nat → Nat) {k : Nat} (h : k < 6) (W : World) : (Instr.index 39 (rV g) (.int .i64 (k : Int))).run Try.prog W = .ok (.int .i64 (g k : Int)) W := by
  rcases six h with rfl | rfl | rfl | rfl | rfl | rfl
  all_goals simp [Instr.index, go_sem, run_underlying Try.underlying39]
/-- Six cells are written. -/
theorem box6_store {w : World} {b : Nat} {g : Nat → Nat} (h : Box6 w b g) (g' : Nat → Nat) : ∃ W, W = (((((w.setCell ⟨b, 0, none⟩ (.int .i64 (g' 0 : Int))).setCell ⟨b, 1, none⟩ (.int .i64 (g' 1 : Int))).setCell ⟨b, 2, none⟩ (.int .i64 (g' 2 : Int))).setCell ⟨b, 3, none⟩ (.int .i64 (g' 3 : Int))).setCell ⟨b, 4, none⟩ (.int .i64 (g' 4 : Int))).setCell ⟨b, 5, none⟩ (.int .i64 (g' 5 : Int)) ∧ Box6 W b g' ∧ w.grownBy W (some b) := by
  have h6 := (((((h.set (i := 0) (by omega) (g' 0)).set (i := 1) (by omega) (g' 1)).set (i := 2) (by omega) (g' 2)).set (i := 3) (by omega) (g' 3)).set (i := 4) (by omega) (g' 4)).set (i := 5) (by omega) (g' 5)
  refine ⟨_, rfl, h6.congr fun i hi => ?_, ?_⟩
  · rcases six hi with rfl | rfl | rfl | rfl | rfl | rfl <;> rfl
  · exact grown_trans (grown_trans (grown_trans (grown_trans (grown_trans (grown_set _ _ _) (grown_set _ _ _)) (grown_set _ _ _)) (grown_set _ _ _)) (grown_set _ _ _)) (grown_set _ _ _)
theorem box6_new (w : World) (g : Nat → Nat) : Box6 (w.alloc (.cells (rArr g) 39)) w.heap.size g := heap_alloc_new w _
theorem Box6.far {w w' : World} {b c : Nat} {g : Nat → Nat} (h : Box6 w b g) (hg : w.grownBy w' (some c)) (hne : b ≠ c) : Box6 w' b g := (hg.block b h.lt (by simpa using hne)).trans h

set_option maxHeartbeats 3200000 in
set_option maxRecDepth 100000 in
theorem nowhere_any (w : World) : Calls Try.prog 25 #[] w (Says (rV fun _ => 2002) w) := by
  obtain ⟨W1, hW1⟩ : ∃ W1, W1 = (w.alloc (.cells #[.int .i64 0, .int .i64 0, .int .i64 0, .int .i64 0, .int .i64 0, .int .i64 0] 39)).alloc (.cells #[.int .i64 0, .int .i64 0, .int .i64 0, .int .i64 0, .int .i64 0, .int .i64 0] 39) := ⟨_, rfl⟩
  have HW1 : Hid (W1 = _) := hW1
  have X0 : Hid (Box6 W1 w.heap.size (fun _ => 0) ∧ Box6 W1 (w.heap.size + 1) (fun _ => 0) ∧ w.grownBy W1 none) := by
    have b0 := box6_new w (fun _ => 0)
    have b1 := box6_new (w.alloc (.cells (rArr fun _ => 0) 39)) (fun _ => 0)
    rw [hW1]
    refine ⟨b0.kept (grown_alloc _ _), ?_, grown_trans (grown_alloc _ _) (grown_alloc _ _)⟩
    rw [show (w.alloc (.cells (rArr fun _ => 0) 39)).heap.size = w.heap.size + 1 by simp] at b1
    exact b1
  clear hW1
  go_enter Try.func25, Try.ntmps25
  go_wp2_with fail
  rw [← HW1.out]
  clear HW1
  go_loopw [3] (fun v wr => ∃ k : Nat, k ≤ 6 ∧ v = .int .i64 k ∧ Box6 wr w.heap.size (fun _ => 0) ∧ Box6 wr (w.heap.size + 1) (fun i => if i < k then 2002 else 0) ∧ w.grownBy wr none) (fun v _ => 6 - (intOf v).toNat)
  case atStart => exact ⟨0, by omega, rfl, X0.out.1, X0.out.2.1.congr (fun i _ => by simp), X0.out.2.2⟩
  case round =>
    clear X0
    obtain ⟨k, hk, rfl, h0, h1, hg⟩ := hrel
    by_cases hlt : k < 6
    · have hki : (k : Int) < 6 := by omega
      have c1 := h1.cell hlt
      have f1 := h1.fz k
      have HX : Hid (Box6 (wr.setCell ⟨w.heap.size + 1, k, none⟩ (.int .i64 2002)) w.heap.size (fun _ => 0) ∧ Box6 (wr.setCell ⟨w.heap.size + 1, k, none⟩ (.int .i64 2002)) (w.heap.size + 1) (fun i => if i < k + 1 then 2002 else 0) ∧ w.grownBy (wr.setCell ⟨w.heap.size + 1, k, none⟩ (.int .i64 2002)) none) := by
        refine ⟨h0.far (grown_set _ _ _) (by show w.heap.size ≠ w.heap.size + 1; omega), (h1.set hlt 2002).congr fun i hi => ?_, grown_new hg (grown_set _ _ _) (by show w.heap.size ≤ w.heap.size + 1; omega)⟩
        by_cases e : i = k
        · subst e; simp
        · by_cases h : i < k
          · rw [if_neg e, if_pos h, if_pos (by omega)]
          · rw [if_neg e, if_neg h, if_neg (by omega)]
      clear h0 h1 hg
      go_wp2_with fail
      go_roundw
      case rel => exact ⟨k + 1, by omega, by simp, HX.out.1, HX.out.2.1, HX.out.2.2⟩
      case measure => simp [intOf]; omega
    · have hki : ¬ (k : Int) < 6 := by omega
      obtain rfl : k = 6 := by omega
      have h1' := h1.congr (g' := fun _ => 2002) (fun i hi => by rw [if_pos hi])
      obtain ⟨q0, q1, q2, q3, q4, q5⟩ := h1'.get
      obtain ⟨p0, p1, p2, p3, p4, p5⟩ := h0.get
      have z0 := h0.fz 0
      have z1 := h0.fz 1
      have z2 := h0.fz 2
      have z3 := h0.fz 3
      have z4 := h0.fz 4
      have z5 := h0.fz 5
      obtain ⟨W9, hW9, hb9, hg9⟩ := box6_store h0 (fun _ => 2002)
      have c2 : ((2002 : Nat) : Int) = 2002 := rfl
      rw [c2] at hW9
      obtain ⟨r0, r1, r2, r3, r4, r5⟩ := hb9.get
      have G9 : Hid (w.grownBy W9 none) := grown_new hg hg9 (Nat.le_refl _)
      clear h0 h1 h1' hg hg9 hb9
      go_wp2_with fail
      rw [← hW9]
      exact bodyPost_ret (v := rV fun _ => 2002) (by simp [results, Try.results25, go_sem, r0, r1, r2, r3, r4, r5]) rfl ⟨rfl, G9.out⟩

end Go.Proofs.Ythnbiiipfcogeaa
