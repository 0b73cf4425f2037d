/- An edge by which a state was come to at a cost: the program's lastOf. -/
import Derived.Test.YthnbiiipfcogeaaSgTow
namespace Go.Proofs.Ythnbiiipfcogeaa
open Go.RowKit Go.Maps
set_option linter.unusedVariables false
set_option linter.unusedSimpArgs false

theorem BoxE.fz {W : World} {B f s t : Nat} (h : BoxE W B f s t) (i : Nat) : W.frozen? ⟨B, i, none⟩ = false := frozen_of_row _ _ i _ _ h
theorem BoxE.far {W W' : World} {B C f s t : Nat} (h : BoxE W B f s t) (hg : W.grownBy W' (some C)) (hne : B ≠ C) : BoxE W' B f s t := (hg.block B h.lt (by simpa using hne)).trans h
theorem BoxE.set0 {W : World} {B f s t : Nat} (h : BoxE W B f s t) (f' : Nat) : BoxE (W.setCell ⟨B, 0, none⟩ (.int .i64 (f' : Int))) B f' s t := by
  have := heap_setCell_same W B 0 _ _ (.int .i64 (f' : Int)) h
  unfold BoxE
  rw [this]; rfl
theorem boxE_store {W : World} {B f s t : Nat} (h : BoxE W B f s t) (f' s' t' : Nat) : ∃ V, V = ((W.setCell ⟨B, 0, none⟩ (.int .i64 (f' : Int))).setCell ⟨B, 1, none⟩ (.int .i64 (s' : Int))).setCell ⟨B, 2, none⟩ (.int .i64 (t' : Int)) ∧ BoxE V B f' s' t' ∧ W.grownBy V (some B) := by
  have h1 := heap_setCell_same W B 0 _ _ (.int .i64 (f' : Int)) h
  have h2 := heap_setCell_same _ B 1 _ _ (.int .i64 (s' : Int)) h1
  have h3 := heap_setCell_same _ B 2 _ _ (.int .i64 (t' : Int)) h2
  exact ⟨_, rfl, by unfold BoxE; rw [h3]; rfl, grown_trans (grown_trans (grown_set _ _ _) (grown_set _ _ _)) (grown_set _ _ _)⟩
theorem boxE_new (W : World) (f s t : Nat) : BoxE (W.alloc (.cells #[.int .i64 (f : Int), .int .i64 (s : Int), .int .i64 (t : Int)] 50)) W.heap.size f s t := heap_alloc_new W _
/-- What lastOf leaves behind. -/
def LastPost (E : Edg) (row : Nat → Nat) (s t c : Nat) (w : World) (e : Ending) (w' : World) : Prop := ∃ f, f < 6 ∧ e = .returned (vE f s t) ∧ ((∃ k, k < 6 ∧ sumC (row k) (E k s t) = c) → sumC (row f) (E f s t) = c) ∧ w.grownBy w' none

set_option maxHeartbeats 6400000 in
set_option maxRecDepth 100000 in
theorem lastOf_any (b s t c : Nat) (E : Edg) (row : Nat → Nat) (w : World) (h : EdgesAt w b E) (hr : ∀ f, row f ≤ 2002) (hs : s < 3) (ht : t < 6) (hc : c ≤ 2002) :
    Calls Try.prog 27 #[.map (some b), rV row, .int .i64 (s : Int), .int .i64 (t : Int), .int .i64 (c : Int)] w (LastPost E row s t c w) := by
  obtain ⟨W1, hW1⟩ : ∃ W1, W1 = ((w.alloc (.cells (rArr row) 39)).alloc (.cells #[.int .i64 0, .int .i64 0, .int .i64 0] 50)).alloc (.cells #[.int .i64 0, .int .i64 (s : Int), .int .i64 (t : Int)] 50) := ⟨_, rfl⟩
  have HW1 : Hid (W1 = _) := hW1
  have X1 : Hid (Box6 W1 w.heap.size row ∧ BoxE W1 (w.heap.size + 1) 0 0 0 ∧ BoxE W1 (w.heap.size + 2) 0 s t ∧ w.grownBy W1 none) := by
    have b0 := box6_new w row
    have b1 := boxE_new (w.alloc (.cells (rArr row) 39)) 0 0 0
    have b2 := boxE_new ((w.alloc (.cells (rArr row) 39)).alloc (.cells #[.int .i64 ((0 : Nat) : Int), .int .i64 ((0 : Nat) : Int), .int .i64 ((0 : Nat) : Int)] 50)) 0 s t
    rw [show (w.alloc (.cells (rArr row) 39)).heap.size = w.heap.size + 1 by simp] at b1
    rw [show ((w.alloc (.cells (rArr row) 39)).alloc (.cells #[.int .i64 ((0 : Nat) : Int), .int .i64 ((0 : Nat) : Int), .int .i64 ((0 : Nat) : Int)] 50)).heap.size = w.heap.size + 2 by simp] at b2
    rw [hW1]
    exact ⟨(b0.kept (grown_alloc _ _)).kept (grown_alloc _ _), b1.kept (grown_alloc _ _), b2, grown_trans (grown_trans (grown_alloc _ _) (grown_alloc _ _)) (grown_alloc _ _)⟩
  have HE : Hid (∀ V, w.grownBy V none → EdgesAt V b E) := fun V hV => h.kept hV (by simp)
  have HR : Hid (∀ f, row f ≤ 2002) := hr
  have HT : Hid (Top E) := h.top
  obtain ⟨q0, q1, q2, q3, q4, q5⟩ := X1.out.1.get
  rw [hW1] at q0 q1 q2 q3 q4 q5
  clear h hr hW1
  go_enter Try.func27, Try.ntmps27
  go_wp2_with fail
  rw [← HW1.out]
  clear HW1 q0 q1 q2 q3 q4 q5
  obtain ⟨br, hbr⟩ : ∃ br, w.heap.size + 1 = br := ⟨_, rfl⟩
  obtain ⟨be, hbe⟩ : ∃ be, w.heap.size + 2 = be := ⟨_, rfl⟩
  have HB : Hid (w.heap.size < br ∧ br < be) := ⟨by omega, by omega⟩
  have X2 : Hid (BoxE W1 br 0 0 0 ∧ BoxE W1 be 0 s t ∧ w.grownBy W1 none) := by rw [← hbr, ← hbe]; exact ⟨X1.out.2.1, X1.out.2.2.1, X1.out.2.2.2⟩
  all_goals (try rw [show w.heap.size + 1 + 1 = be by omega])
  all_goals (try rw [hbr])
  all_goals (try rw [hbe])
  clear hbr hbe X1
  go_loopw [18] (fun u wr => ∃ k f : Nat, k ≤ 6 ∧ u = .int .i64 k ∧ f < 6 ∧ (k = 6 → f = 5) ∧ BoxE wr br 0 0 0 ∧ BoxE wr be f s t ∧ (∀ j, j < k → sumC (row j) (E j s t) ≠ c) ∧ w.grownBy wr none) (fun u _ => 6 - (intOf u).toNat)
  case atStart => exact ⟨0, 0, by omega, rfl, by omega, by omega, X2.out.1, X2.out.2.1, fun j hj => by omega, X2.out.2.2⟩
  case round =>
    clear X2
    obtain ⟨k, f, hk, rfl, hf, hf5, h0, h1, hno, hg⟩ := hrel
    by_cases hlt : k < 6
    · have hki : (k : Int) < 6 := by omega
      have hix := index_six row hlt wr
      obtain ⟨p0, p1, p2⟩ := h1.get
      have z0 := h1.fz 0
      obtain ⟨W5, hW5⟩ : ∃ W5, W5 = wr.setCell ⟨be, 0, none⟩ (.int .i64 (k : Int)) := ⟨_, rfl⟩
      have HW5 : Hid (W5 = _) := hW5
      have g5 : wr.grownBy W5 (some be) := by rw [hW5]; exact grown_set _ _ _
      have X5 : Hid (BoxE W5 br 0 0 0 ∧ BoxE W5 be k s t ∧ w.grownBy W5 none) := ⟨h0.far g5 (by have := HB.out; omega), by rw [hW5]; exact h1.set0 k, grown_new hg g5 (by have := HB.out; omega)⟩
      obtain ⟨y0, y1, y2⟩ := X5.out.2.1.get
      rw [hW5] at y0 y1 y2
      have hrk := HR.out k
      have hek := HT.out k s t
      obtain ⟨ec, hec⟩ : ∃ ec, E k s t = ec := ⟨_, rfl⟩
      obtain ⟨rk, hrkk⟩ : ∃ rk, row k = rk := ⟨_, rfl⟩
      obtain ⟨sm, hsm⟩ : ∃ sm, sumC rk ec = sm := ⟨_, rfl⟩
      have HSm : Hid (sumC (row k) (E k s t) = sm) := by rw [hec, hrkk]; exact hsm
      rw [hrkk] at hix hrk
      rw [hec] at hek
      have CC : Hid (∀ V, w.grownBy V none → Calls Try.prog 24 #[.map (some b), vE k s t] V (Says (.int .i64 (ec : Int)) V)) := fun V hV => by
        have := cost_any b E k s t V (HE.out V hV) hlt hs ht
        rwa [hec] at this
      have CS : Hid (∀ V, Calls Try.prog 23 #[.int .i64 (rk : Int), .int .i64 (ec : Int)] V fun e w' => e = .returned (.int .i64 (sm : Int)) ∧ w' = V) := fun V => by
        have := sum_any rk ec V hrk hek
        rwa [hsm] at this
      have HNo : Hid (∀ j, j < k → sumC (row j) (E j s t) ≠ c) := hno
      clear h0 h1 hg hW5 g5 hec hrkk hsm hno
      go_wp2_with fail
      rw [← HW5.out]
      refine (CC.out W5 X5.out.2.2).mono ?_
      rintro e w6 ⟨rfl, hg6⟩
      have X6 : Hid (BoxE w6 br 0 0 0 ∧ BoxE w6 be k s t ∧ w.grownBy w6 none) := ⟨X5.out.1.kept hg6, X5.out.2.1.kept hg6, grown_trans X5.out.2.2 hg6⟩
      clear hg6 HW5 y0 y1 y2 p0 p1 p2 z0 hix X5
      go_wp2_with fail
      refine (CS.out w6).mono ?_
      rintro e w7 ⟨rfl, hw7⟩
      rw [hw7]
      clear hw7
      by_cases hm : sm = c
      · have hmi : ((sm : Int) == (c : Int)) = true := by simp [hm]
        obtain ⟨y0, y1, y2⟩ := X6.out.2.1.get
        obtain ⟨r0, r1, r2⟩ := X6.out.1.get
        have rz0 := X6.out.1.fz 0
        have rz1 := X6.out.1.fz 1
        have rz2 := X6.out.1.fz 2
        obtain ⟨W9, hW9, hb9, hg9⟩ := boxE_store X6.out.1 k s t
        obtain ⟨x0, x1, x2⟩ := hb9.get
        have F : Hid (LastPost E row s t c w (.returned (vE k s t)) W9) := ⟨k, hlt, rfl, fun _ => by rw [HSm.out]; exact hm, grown_new X6.out.2.2 hg9 (by have := HB.out; omega)⟩
        clear hb9 hg9 hm
        go_wp2_with fail
        rw [← hW9]
        exact bodyPost_ret (v := vE k s t) (by simp [results, Try.results27, go_sem, x0, x1, x2]) rfl F.out
      · have hmi : ((sm : Int) == (c : Int)) = false := by simp; omega
        have HNo2 : Hid (∀ j, j < k + 1 → sumC (row j) (E j s t) ≠ c) := fun j hj => by
          by_cases e : j = k
          · subst e; rw [HSm.out]; exact hm
          · exact HNo.out j (by omega)
        clear hm
        go_wp2_with fail
        go_roundw
        case rel => exact ⟨k + 1, k, by omega, by simp, hlt, by omega, X6.out.1, X6.out.2.1, HNo2.out, X6.out.2.2⟩
        case measure => simp [intOf]; omega
    · have hki : ¬ (k : Int) < 6 := by omega
      obtain rfl : k = 6 := by omega
      obtain ⟨y0, y1, y2⟩ := h1.get
      obtain ⟨r0, r1, r2⟩ := h0.get
      have rz0 := h0.fz 0
      have rz1 := h0.fz 1
      have rz2 := h0.fz 2
      obtain ⟨W9, hW9, hb9, hg9⟩ := boxE_store h0 f s t
      obtain ⟨x0, x1, x2⟩ := hb9.get
      have F : Hid (LastPost E row s t c w (.returned (vE f s t)) W9) := ⟨f, hf, rfl, fun ⟨j, hj, e⟩ => absurd e (hno j hj), grown_new hg hg9 (by have := HB.out; omega)⟩
      clear hb9 hg9 h0 h1 hno hg hf5
      go_wp2_with fail
      rw [← hW9]
      exact bodyPost_ret (v := vE f s t) (by simp [results, Try.results27, go_sem, x0, x1, x2]) rfl F.out

end Go.Proofs.Ythnbiiipfcogeaa
