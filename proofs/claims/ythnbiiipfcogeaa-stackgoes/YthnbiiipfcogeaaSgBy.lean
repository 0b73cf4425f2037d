/- What it costs to come to each state by one sign more: the program's edges.by. (Written by wip/tools/sgby.py.) -/
import Derived.Test.YthnbiiipfcogeaaSgRead
namespace Go.Proofs.Ythnbiiipfcogeaa
open Go.RowKit Go.Maps
set_option linter.unusedVariables false
set_option linter.unusedSimpArgs false

/-- While signs are read from the first k states, to the first j with the next. -/
def midB (E : Edg) (row : Nat → Nat) (s k j : Nat) : Nat → Nat := fun t => if t < j then minF (fun f => sumC (row f) (E f s t)) (k + 1) else minF (fun f => sumC (row f) (E f s t)) k

set_option maxHeartbeats 6400000 in
set_option maxRecDepth 100000 in
theorem by_any (b s : Nat) (E : Edg) (row : Nat → Nat) (w : World) (h : EdgesAt w b E) (hr : ∀ f, row f ≤ 2002) (hs : s < 3) : Calls Try.prog 26 #[.map (some b), rV row, .int .i64 (s : Int)] w (Says (rV (byC E row (s : Int))) w) := by
  obtain ⟨W1, hW1⟩ : ∃ W1, W1 = (w.alloc (.cells (rArr row) 39)).alloc (.cells #[.int .i64 0, .int .i64 0, .int .i64 0, .int .i64 0, .int .i64 0, .int .i64 0] 39) := ⟨_, rfl⟩
  have HW1 : Hid (W1 = _) := hW1
  have X1 : Hid (Box6 W1 w.heap.size row ∧ Box6 W1 (w.heap.size + 1) (fun _ => 0) ∧ w.grownBy W1 none) := by
    have b0 := box6_new w row
    have b1 := box6_new (w.alloc (.cells (rArr row) 39)) (fun _ => 0)
    rw [hW1]
    refine ⟨b0.kept (grown_alloc _ _), ?_, grown_trans (grown_alloc _ _) (grown_alloc _ _)⟩
    rw [show (w.alloc (.cells (rArr row) 39)).heap.size = w.heap.size + 1 by simp] at b1
    exact b1
  have HE : Hid (∀ V, w.grownBy V none → EdgesAt V b E) := fun V hV => h.kept hV (by simp)
  have hbl := h.block.1
  have HR : Hid (∀ f, row f ≤ 2002) := hr
  have htop := h.top
  have HT : Hid (Top E) := htop
  clear hW1 h hr htop
  go_enter Try.func26, Try.ntmps26
  go_wp2_with fail
  rw [← HW1.out]
  clear HW1
  refine (nowhere_any W1).mono ?_
  rintro e w2 ⟨rfl, hg2⟩
  obtain ⟨W3, hW3⟩ : ∃ W3, W3 = w2.alloc (.cells #[.int .i64 2002, .int .i64 2002, .int .i64 2002, .int .i64 2002, .int .i64 2002, .int .i64 2002] 39) := ⟨_, rfl⟩
  have HW3 : Hid (W3 = _) := hW3
  have g3 : w2.grownBy W3 none := by rw [hW3]; exact grown_alloc _ _
  have B3 : Box6 W3 w2.heap.size (fun _ => 2002) := by rw [hW3]; exact box6_new w2 (fun _ => 2002)
  have HB : Hid (w.heap.size + 1 < w2.heap.size) := by
    have := hg2.size
    have := X1.out.2.1.lt
    show _ < _
    omega
  have X3 : Hid (Box6 W3 (w.heap.size + 1) (fun _ => 0) ∧ Box6 W3 w2.heap.size (fun _ => 2002) ∧ EdgesAt W3 b E ∧ w.grownBy W3 none) := ⟨(X1.out.2.1.kept hg2).kept g3, B3, HE.out _ (grown_trans X1.out.2.2 (grown_trans hg2 g3)), grown_trans X1.out.2.2 (grown_trans hg2 g3)⟩
  obtain ⟨q0, q1, q2, q3, q4, q5⟩ := ((X1.out.1.kept hg2).kept g3).get
  rw [hW3] at q0 q1 q2 q3 q4 q5
  obtain ⟨bn, hbn⟩ : ∃ bn, w2.heap.size = bn := ⟨_, rfl⟩
  clear B3 g3 hW3 hg2 X1
  go_wp2_with fail
  rw [← HW3.out]
  clear HW3 q0 q1 q2 q3 q4 q5
  rw [hbn] at HB X3
  all_goals (try rw [hbn])
  clear hbn
  go_loopw [13] (fun v wr => ∃ k : Nat, k ≤ 6 ∧ v = .int .i64 k ∧ Box6 wr (w.heap.size + 1) (fun _ => 0) ∧ Box6 wr bn (midB E row s k 0) ∧ EdgesAt wr b E ∧ w.grownBy wr none) (fun v _ => 6 - (intOf v).toNat)
  case atStart => exact ⟨0, by omega, rfl, X3.out.1, X3.out.2.1.congr (fun i _ => rfl), X3.out.2.2.1, X3.out.2.2.2⟩
  case round =>
    clear X3
    obtain ⟨k, hk, rfl, h0, h1, h2, hg⟩ := hrel
    by_cases hlt : k < 6
    · have hki : (k : Int) < 6 := by omega
      have X0 : Hid (Box6 wr (w.heap.size + 1) (fun _ => 0) ∧ Box6 wr bn (midB E row s k 0) ∧ EdgesAt wr b E ∧ w.grownBy wr none) := ⟨h0, h1, h2, hg⟩
      have hix := index_six row hlt wr
      have hrk := HR.out k
      obtain ⟨rk, hrkk⟩ : ∃ rk, row k = rk := ⟨_, rfl⟩
      rw [hrkk] at hix hrk
      have HRK : Hid (row k = rk) := hrkk
      clear h0 h1 h2 hg hrkk
      go_wp2_with fail
      go_loopw [17] (fun v wr => ∃ j : Nat, j ≤ 6 ∧ v = .int .i64 j ∧ Box6 wr (w.heap.size + 1) (fun _ => 0) ∧ Box6 wr bn (midB E row s k j) ∧ EdgesAt wr b E ∧ w.grownBy wr none) (fun v _ => 6 - (intOf v).toNat)
      case atStart => exact ⟨0, by omega, rfl, X0.out.1, X0.out.2.1, X0.out.2.2.1, X0.out.2.2.2⟩
      case round =>
        clear X0
        obtain ⟨j, hj6, rfl, h0, h1, h2, hg⟩ := hrel
        by_cases hj : j < 6
        · have hji : (j : Int) < 6 := by omega
          have BN : Hid (Box6 wr bn (midB E row s k j)) := h1
          have r0 := h1.cell hj
          obtain ⟨cur, hcur⟩ : ∃ cur, midB E row s k j j = cur := ⟨_, rfl⟩
          rw [hcur] at r0
          have hce := HT.out k s j
          obtain ⟨ec, hec⟩ : ∃ ec, E k s j = ec := ⟨_, rfl⟩
          obtain ⟨sm, hsm⟩ : ∃ sm, sumC rk ec = sm := ⟨_, rfl⟩
          rw [hec] at hce
          have CC : Hid (∀ V, wr.grownBy V none → Calls Try.prog 24 #[.map (some b), vE k s j] V (Says (.int .i64 (ec : Int)) V)) := fun V hV => by
            have := cost_any b E k s j V (HE.out V (grown_trans hg hV)) (by omega) hs (by omega)
            rwa [hec] at this
          have CS : Hid (∀ V, Calls Try.prog 23 #[.int .i64 (rk : Int), .int .i64 (ec : Int)] V fun e w' => e = .returned (.int .i64 (sm : Int)) ∧ w' = V) := fun V => by
            have := sum_any rk ec V (by omega) hce
            rwa [hsm] at this
          have P8 : Hid (∀ V F, wr.grownBy V none → F = V.setCell ⟨bn, j, none⟩ (.int .i64 ((min cur sm : Nat) : Int)) → Box6 F (w.heap.size + 1) (fun _ => 0) ∧ Box6 F bn (midB E row s k (j + 1)) ∧ EdgesAt F b E ∧ w.grownBy F none) := fun V F hV e => by
            have hb1 := h1.kept hV
            have gF : V.grownBy F (some bn) := by rw [e]; exact grown_set _ _ _
            have hne : b ≠ bn := by have := HB.out; omega
            refine ⟨(h0.kept hV).far gF (by have := HB.out; omega), ?_, (h2.kept hV (by simp)).kept gF (by simpa using fun e => hne e.symm), grown_new (grown_trans hg hV) gF (by have := HB.out; omega)⟩
            rw [e]
            refine (hb1.set hj (min cur sm)).congr fun i hi => ?_
            by_cases ei : i = j
            · subst ei
              rw [if_pos rfl, ← hcur, ← hsm, ← HRK.out, ← hec]
              unfold midB
              rw [if_neg (Nat.lt_irrefl _), if_pos (Nat.lt_succ_self _)]
              rfl
            · rw [if_neg ei]
              unfold midB
              by_cases hlt2 : i < j
              · rw [if_pos hlt2, if_pos (by omega)]
              · rw [if_neg hlt2, if_neg (by omega)]
          have hGV : wr.grownBy wr none := grown_refl _ _
          clear h0 h1 h2 hg hcur hec hsm
          go_wp2_with fail
          by_cases hmn : (cur : Int) ≤ (sm : Int)
          · have hmv : ((min cur sm : Nat) : Int) = (cur : Int) := by omega
            rw [hmv] at P8
            have hmn2 : ¬ (sm : Int) < (cur : Int) := by omega
            refine wp_region_held_drew (S := fun _ => True) (by kernel_rfl) (trivial) (fun hHeld => ?_)
            refine wpAnyH_take (i := 0) (v := ?_) rfl (by kernel_rfl) (by kernel_rfl) (by kernel_rfl) (fun _ _ _ h => h) (Or.inl ⟨by rfl, ?_⟩) (by assumption) ?_
            rotate_left
            · intro W hSw
              go_simp
              with_reducible rfl
            try simp only [Act.put, List.getElem_toArray, List.getElem_cons_succ, List.getElem_cons_zero, List.setIfInBounds_toArray, List.set_cons_zero, List.set_cons_succ]
            refine wpAnyH_take (i := 1) (v := ?_) rfl (by kernel_rfl) (by kernel_rfl) (by kernel_rfl) (fun _ _ _ h => h) (Or.inl ⟨by rfl, ?_⟩) (by assumption) ?_
            rotate_left
            · intro W hSw
              go_simp
              with_reducible rfl
            try simp only [Act.put, List.getElem_toArray, List.getElem_cons_succ, List.getElem_cons_zero, List.setIfInBounds_toArray, List.set_cons_zero, List.set_cons_succ]
            refine wpAnyH_take (i := 2) (v := ?_) rfl (by kernel_rfl) (by kernel_rfl) (by kernel_rfl) (fun _ _ _ h => h) (Or.inl ⟨by rfl, ?_⟩) (by assumption) ?_
            rotate_left
            · intro W hSw
              go_simp
              with_reducible rfl
            try simp only [Act.put, List.getElem_toArray, List.getElem_cons_succ, List.getElem_cons_zero, List.setIfInBounds_toArray, List.set_cons_zero, List.set_cons_succ]
            refine wpAnyH_take (i := 4) (v := ?_) rfl (by kernel_rfl) (by kernel_rfl) (by kernel_rfl) (fun _ _ _ h => h) (Or.inl ⟨by rfl, ?_⟩) (by assumption) ?_
            rotate_left
            · intro W hSw
              go_simp
              with_reducible rfl
            try simp only [Act.put, List.getElem_toArray, List.getElem_cons_succ, List.getElem_cons_zero, List.setIfInBounds_toArray, List.set_cons_zero, List.set_cons_succ]
            refine wpAnyH_take (i := 5) (v := ?_) rfl (by kernel_rfl) (by kernel_rfl) (by kernel_rfl) (fun _ _ _ h => h) (Or.inl ⟨by rfl, ?_⟩) (by assumption) ?_
            rotate_left
            · intro W hSw
              go_simp
              with_reducible rfl
            try simp only [Act.put, List.getElem_toArray, List.getElem_cons_succ, List.getElem_cons_zero, List.setIfInBounds_toArray, List.set_cons_zero, List.set_cons_succ]
            refine wpAnyH_take (i := 6) (v := ?_) rfl (by kernel_rfl) (by kernel_rfl) (by kernel_rfl) (fun _ _ _ h => h) (Or.inl ⟨by rfl, ?_⟩) (by assumption) ?_
            rotate_left
            · intro W hSw
              go_simp
              with_reducible rfl
            try simp only [Act.put, List.getElem_toArray, List.getElem_cons_succ, List.getElem_cons_zero, List.setIfInBounds_toArray, List.set_cons_zero, List.set_cons_succ]
            refine wpAnyH_take (i := 7) (v := ?_) rfl (by kernel_rfl) (by kernel_rfl) (by kernel_rfl) (fun _ _ _ h => h) (Or.inl ⟨by rfl, ?_⟩) (by assumption) ?_
            rotate_left
            · intro W hSw
              go_simp
              with_reducible rfl
            try simp only [Act.put, List.getElem_toArray, List.getElem_cons_succ, List.getElem_cons_zero, List.setIfInBounds_toArray, List.set_cons_zero, List.set_cons_succ]
            refine wpAnyH_take (i := 8) (v := ?_) rfl (by kernel_rfl) (by kernel_rfl) (by kernel_rfl) (fun _ _ _ h => h) (Or.inl ⟨by rfl, ?_⟩) (by assumption) ?_
            rotate_left
            · intro W hSw
              go_simp
              with_reducible rfl
            try simp only [Act.put, List.getElem_toArray, List.getElem_cons_succ, List.getElem_cons_zero, List.setIfInBounds_toArray, List.set_cons_zero, List.set_cons_succ]
            refine wpAnyH_take (i := 9) (v := ?_) rfl (by kernel_rfl) (by kernel_rfl) (by kernel_rfl) (fun _ _ _ h => h) (Or.inl ⟨by rfl, ?_⟩) (by assumption) ?_
            rotate_left
            · intro W hSw
              go_simp
              with_reducible rfl
            try simp only [Act.put, List.getElem_toArray, List.getElem_cons_succ, List.getElem_cons_zero, List.setIfInBounds_toArray, List.set_cons_zero, List.set_cons_succ]
            refine wpAnyH_ready (rs := [3, 10]) (by kernel_rfl) (by simp) ?_
            refine AllReadyH.cons (o := _) rfl (fun K' hK => ?_) ?_
            · go_simp
              refine hK.out _ _ (trivial) (fun hHeld => ?_)
              clear hK K'
              try simp only [Act.put, List.getElem_toArray, List.getElem_cons_succ, List.getElem_cons_zero, List.setIfInBounds_toArray, List.set_cons_zero, List.set_cons_succ]
              refine wpAnyH_ready (rs := [10]) (by kernel_rfl) (by simp) ?_
              refine AllReadyH.cons (o := _) rfl (fun K' hK => ?_) ?_
              · go_simp
                refine (CC.out _ (by first | exact hGV | exact grown_trans hGV (grown_drew (grown_refl _ _)) | exact grown_drew (grown_refl _ _))).mono ?_
                rintro e w7 ⟨rfl, hg7⟩
                go_wp2_with fail
                refine hK.out _ _ (trivial) (fun hHeld => ?_)
                clear hK K'
                try simp only [Act.put, List.getElem_toArray, List.getElem_cons_succ, List.getElem_cons_zero, List.setIfInBounds_toArray, List.set_cons_zero, List.set_cons_succ]
                refine wpAnyH_ready (rs := [11]) (by kernel_rfl) (by simp) ?_
                refine AllReadyH.cons (o := _) rfl (fun K' hK => ?_) ?_
                · go_simp
                  refine (CS.out _).mono ?_
                  rintro e w8 ⟨rfl, hw8⟩
                  rw [hw8]
                  clear hw8
                  go_wp2_with fail
                  refine hK.out _ _ (trivial) (fun hHeld => ?_)
                  clear hK K'
                  try simp only [Act.put, List.getElem_toArray, List.getElem_cons_succ, List.getElem_cons_zero, List.setIfInBounds_toArray, List.set_cons_zero, List.set_cons_succ]
                  refine wpAnyH_take (i := 12) (v := ?_) rfl (by kernel_rfl) (by kernel_rfl) (by kernel_rfl) (fun _ _ _ h => h) (Or.inl ⟨by rfl, ?_⟩) (by assumption) ?_
                  rotate_left
                  · intro W hSw
                    go_simp
                    with_reducible rfl
                  try simp only [Act.put, List.getElem_toArray, List.getElem_cons_succ, List.getElem_cons_zero, List.setIfInBounds_toArray, List.set_cons_zero, List.set_cons_succ]
                  refine wpAnyH_take (i := 13) (v := ?_) rfl (by kernel_rfl) (by kernel_rfl) (by kernel_rfl) (fun _ _ _ h => h) (Or.inl ⟨by rfl, ?_⟩) (by assumption) ?_
                  rotate_left
                  · intro W hSw
                    go_simp
                    with_reducible rfl
                  try simp only [Act.put, List.getElem_toArray, List.getElem_cons_succ, List.getElem_cons_zero, List.setIfInBounds_toArray, List.set_cons_zero, List.set_cons_succ]
                  refine wpAnyH_ready (rs := [14]) (by kernel_rfl) (by simp) ?_
                  refine AllReadyH.cons (o := _) rfl (fun K' hK => ?_) ?_
                  · have gA := grown_trans (grown_drew (grown_refl _ _)) hg7
                    have q0 := (BN.out.kept gA).cell hj
                    have z0 := (BN.out.kept gA).fz j
                    go_simp
                    refine hK.out _ _ (trivial) (fun hHeld => ?_)
                    clear hK K'
                    try simp only [Act.put, List.getElem_toArray, List.getElem_cons_succ, List.getElem_cons_zero, List.setIfInBounds_toArray, List.set_cons_zero, List.set_cons_succ]
                    refine wpAnyH_done (by kernel_rfl) ?_ _
                    go_wp2_with fail
                    go_roundw
                    case rel =>
                      obtain ⟨x1, x2, x3, x4⟩ := P8.out _ _ gA rfl
                      exact ⟨j + 1, by omega, by simp, x1, x2, x3, x4⟩
                    case measure => simp [intOf]; omega
                  exact AllReadyH.nil
                exact AllReadyH.nil
              exact AllReadyH.nil
            refine AllReadyH.cons (o := _) rfl (fun K' hK => ?_) ?_
            · go_simp
              refine (CC.out _ (by first | exact hGV | exact grown_trans hGV (grown_drew (grown_refl _ _)) | exact grown_drew (grown_refl _ _))).mono ?_
              rintro e w7 ⟨rfl, hg7⟩
              go_wp2_with fail
              refine hK.out _ _ (trivial) (fun hHeld => ?_)
              clear hK K'
              try simp only [Act.put, List.getElem_toArray, List.getElem_cons_succ, List.getElem_cons_zero, List.setIfInBounds_toArray, List.set_cons_zero, List.set_cons_succ]
              refine wpAnyH_ready (rs := [3, 11]) (by kernel_rfl) (by simp) ?_
              refine AllReadyH.cons (o := _) rfl (fun K' hK => ?_) ?_
              · have r0' := (grown_trans (grown_drew (grown_refl _ _)) hg7).cell r0 (by simp)
                go_simp
                refine hK.out _ _ (trivial) (fun hHeld => ?_)
                clear hK K'
                try simp only [Act.put, List.getElem_toArray, List.getElem_cons_succ, List.getElem_cons_zero, List.setIfInBounds_toArray, List.set_cons_zero, List.set_cons_succ]
                refine wpAnyH_ready (rs := [11]) (by kernel_rfl) (by simp) ?_
                refine AllReadyH.cons (o := _) rfl (fun K' hK => ?_) ?_
                · go_simp
                  refine (CS.out _).mono ?_
                  rintro e w8 ⟨rfl, hw8⟩
                  rw [hw8]
                  clear hw8
                  go_wp2_with fail
                  refine hK.out _ _ (trivial) (fun hHeld => ?_)
                  clear hK K'
                  try simp only [Act.put, List.getElem_toArray, List.getElem_cons_succ, List.getElem_cons_zero, List.setIfInBounds_toArray, List.set_cons_zero, List.set_cons_succ]
                  refine wpAnyH_take (i := 12) (v := ?_) rfl (by kernel_rfl) (by kernel_rfl) (by kernel_rfl) (fun _ _ _ h => h) (Or.inl ⟨by rfl, ?_⟩) (by assumption) ?_
                  rotate_left
                  · intro W hSw
                    go_simp
                    with_reducible rfl
                  try simp only [Act.put, List.getElem_toArray, List.getElem_cons_succ, List.getElem_cons_zero, List.setIfInBounds_toArray, List.set_cons_zero, List.set_cons_succ]
                  refine wpAnyH_take (i := 13) (v := ?_) rfl (by kernel_rfl) (by kernel_rfl) (by kernel_rfl) (fun _ _ _ h => h) (Or.inl ⟨by rfl, ?_⟩) (by assumption) ?_
                  rotate_left
                  · intro W hSw
                    go_simp
                    with_reducible rfl
                  try simp only [Act.put, List.getElem_toArray, List.getElem_cons_succ, List.getElem_cons_zero, List.setIfInBounds_toArray, List.set_cons_zero, List.set_cons_succ]
                  refine wpAnyH_ready (rs := [14]) (by kernel_rfl) (by simp) ?_
                  refine AllReadyH.cons (o := _) rfl (fun K' hK => ?_) ?_
                  · have gA := grown_trans (grown_drew (grown_refl _ _)) hg7
                    have q0 := (BN.out.kept gA).cell hj
                    have z0 := (BN.out.kept gA).fz j
                    go_simp
                    refine hK.out _ _ (trivial) (fun hHeld => ?_)
                    clear hK K'
                    try simp only [Act.put, List.getElem_toArray, List.getElem_cons_succ, List.getElem_cons_zero, List.setIfInBounds_toArray, List.set_cons_zero, List.set_cons_succ]
                    refine wpAnyH_done (by kernel_rfl) ?_ _
                    go_wp2_with fail
                    go_roundw
                    case rel =>
                      obtain ⟨x1, x2, x3, x4⟩ := P8.out _ _ gA rfl
                      exact ⟨j + 1, by omega, by simp, x1, x2, x3, x4⟩
                    case measure => simp [intOf]; omega
                  exact AllReadyH.nil
                exact AllReadyH.nil
              refine AllReadyH.cons (o := _) rfl (fun K' hK => ?_) ?_
              · go_simp
                refine (CS.out _).mono ?_
                rintro e w8 ⟨rfl, hw8⟩
                rw [hw8]
                clear hw8
                go_wp2_with fail
                refine hK.out _ _ (trivial) (fun hHeld => ?_)
                clear hK K'
                try simp only [Act.put, List.getElem_toArray, List.getElem_cons_succ, List.getElem_cons_zero, List.setIfInBounds_toArray, List.set_cons_zero, List.set_cons_succ]
                refine wpAnyH_ready (rs := [3]) (by kernel_rfl) (by simp) ?_
                refine AllReadyH.cons (o := _) rfl (fun K' hK => ?_) ?_
                · have r0' := (grown_trans (grown_drew (grown_refl _ _)) hg7).cell r0 (by simp)
                  go_simp
                  refine hK.out _ _ (trivial) (fun hHeld => ?_)
                  clear hK K'
                  try simp only [Act.put, List.getElem_toArray, List.getElem_cons_succ, List.getElem_cons_zero, List.setIfInBounds_toArray, List.set_cons_zero, List.set_cons_succ]
                  refine wpAnyH_take (i := 12) (v := ?_) rfl (by kernel_rfl) (by kernel_rfl) (by kernel_rfl) (fun _ _ _ h => h) (Or.inl ⟨by rfl, ?_⟩) (by assumption) ?_
                  rotate_left
                  · intro W hSw
                    go_simp
                    with_reducible rfl
                  try simp only [Act.put, List.getElem_toArray, List.getElem_cons_succ, List.getElem_cons_zero, List.setIfInBounds_toArray, List.set_cons_zero, List.set_cons_succ]
                  refine wpAnyH_take (i := 13) (v := ?_) rfl (by kernel_rfl) (by kernel_rfl) (by kernel_rfl) (fun _ _ _ h => h) (Or.inl ⟨by rfl, ?_⟩) (by assumption) ?_
                  rotate_left
                  · intro W hSw
                    go_simp
                    with_reducible rfl
                  try simp only [Act.put, List.getElem_toArray, List.getElem_cons_succ, List.getElem_cons_zero, List.setIfInBounds_toArray, List.set_cons_zero, List.set_cons_succ]
                  refine wpAnyH_ready (rs := [14]) (by kernel_rfl) (by simp) ?_
                  refine AllReadyH.cons (o := _) rfl (fun K' hK => ?_) ?_
                  · have gA := grown_trans (grown_drew (grown_refl _ _)) hg7
                    have q0 := (BN.out.kept gA).cell hj
                    have z0 := (BN.out.kept gA).fz j
                    go_simp
                    refine hK.out _ _ (trivial) (fun hHeld => ?_)
                    clear hK K'
                    try simp only [Act.put, List.getElem_toArray, List.getElem_cons_succ, List.getElem_cons_zero, List.setIfInBounds_toArray, List.set_cons_zero, List.set_cons_succ]
                    refine wpAnyH_done (by kernel_rfl) ?_ _
                    go_wp2_with fail
                    go_roundw
                    case rel =>
                      obtain ⟨x1, x2, x3, x4⟩ := P8.out _ _ gA rfl
                      exact ⟨j + 1, by omega, by simp, x1, x2, x3, x4⟩
                    case measure => simp [intOf]; omega
                  exact AllReadyH.nil
                exact AllReadyH.nil
              exact AllReadyH.nil
            exact AllReadyH.nil
          · have hmv : ((min cur sm : Nat) : Int) = (sm : Int) := by omega
            rw [hmv] at P8
            have hmn2 : (sm : Int) < (cur : Int) := by omega
            refine wp_region_held_drew (S := fun _ => True) (by kernel_rfl) (trivial) (fun hHeld => ?_)
            refine wpAnyH_take (i := 0) (v := ?_) rfl (by kernel_rfl) (by kernel_rfl) (by kernel_rfl) (fun _ _ _ h => h) (Or.inl ⟨by rfl, ?_⟩) (by assumption) ?_
            rotate_left
            · intro W hSw
              go_simp
              with_reducible rfl
            try simp only [Act.put, List.getElem_toArray, List.getElem_cons_succ, List.getElem_cons_zero, List.setIfInBounds_toArray, List.set_cons_zero, List.set_cons_succ]
            refine wpAnyH_take (i := 1) (v := ?_) rfl (by kernel_rfl) (by kernel_rfl) (by kernel_rfl) (fun _ _ _ h => h) (Or.inl ⟨by rfl, ?_⟩) (by assumption) ?_
            rotate_left
            · intro W hSw
              go_simp
              with_reducible rfl
            try simp only [Act.put, List.getElem_toArray, List.getElem_cons_succ, List.getElem_cons_zero, List.setIfInBounds_toArray, List.set_cons_zero, List.set_cons_succ]
            refine wpAnyH_take (i := 2) (v := ?_) rfl (by kernel_rfl) (by kernel_rfl) (by kernel_rfl) (fun _ _ _ h => h) (Or.inl ⟨by rfl, ?_⟩) (by assumption) ?_
            rotate_left
            · intro W hSw
              go_simp
              with_reducible rfl
            try simp only [Act.put, List.getElem_toArray, List.getElem_cons_succ, List.getElem_cons_zero, List.setIfInBounds_toArray, List.set_cons_zero, List.set_cons_succ]
            refine wpAnyH_take (i := 4) (v := ?_) rfl (by kernel_rfl) (by kernel_rfl) (by kernel_rfl) (fun _ _ _ h => h) (Or.inl ⟨by rfl, ?_⟩) (by assumption) ?_
            rotate_left
            · intro W hSw
              go_simp
              with_reducible rfl
            try simp only [Act.put, List.getElem_toArray, List.getElem_cons_succ, List.getElem_cons_zero, List.setIfInBounds_toArray, List.set_cons_zero, List.set_cons_succ]
            refine wpAnyH_take (i := 5) (v := ?_) rfl (by kernel_rfl) (by kernel_rfl) (by kernel_rfl) (fun _ _ _ h => h) (Or.inl ⟨by rfl, ?_⟩) (by assumption) ?_
            rotate_left
            · intro W hSw
              go_simp
              with_reducible rfl
            try simp only [Act.put, List.getElem_toArray, List.getElem_cons_succ, List.getElem_cons_zero, List.setIfInBounds_toArray, List.set_cons_zero, List.set_cons_succ]
            refine wpAnyH_take (i := 6) (v := ?_) rfl (by kernel_rfl) (by kernel_rfl) (by kernel_rfl) (fun _ _ _ h => h) (Or.inl ⟨by rfl, ?_⟩) (by assumption) ?_
            rotate_left
            · intro W hSw
              go_simp
              with_reducible rfl
            try simp only [Act.put, List.getElem_toArray, List.getElem_cons_succ, List.getElem_cons_zero, List.setIfInBounds_toArray, List.set_cons_zero, List.set_cons_succ]
            refine wpAnyH_take (i := 7) (v := ?_) rfl (by kernel_rfl) (by kernel_rfl) (by kernel_rfl) (fun _ _ _ h => h) (Or.inl ⟨by rfl, ?_⟩) (by assumption) ?_
            rotate_left
            · intro W hSw
              go_simp
              with_reducible rfl
            try simp only [Act.put, List.getElem_toArray, List.getElem_cons_succ, List.getElem_cons_zero, List.setIfInBounds_toArray, List.set_cons_zero, List.set_cons_succ]
            refine wpAnyH_take (i := 8) (v := ?_) rfl (by kernel_rfl) (by kernel_rfl) (by kernel_rfl) (fun _ _ _ h => h) (Or.inl ⟨by rfl, ?_⟩) (by assumption) ?_
            rotate_left
            · intro W hSw
              go_simp
              with_reducible rfl
            try simp only [Act.put, List.getElem_toArray, List.getElem_cons_succ, List.getElem_cons_zero, List.setIfInBounds_toArray, List.set_cons_zero, List.set_cons_succ]
            refine wpAnyH_take (i := 9) (v := ?_) rfl (by kernel_rfl) (by kernel_rfl) (by kernel_rfl) (fun _ _ _ h => h) (Or.inl ⟨by rfl, ?_⟩) (by assumption) ?_
            rotate_left
            · intro W hSw
              go_simp
              with_reducible rfl
            try simp only [Act.put, List.getElem_toArray, List.getElem_cons_succ, List.getElem_cons_zero, List.setIfInBounds_toArray, List.set_cons_zero, List.set_cons_succ]
            refine wpAnyH_ready (rs := [3, 10]) (by kernel_rfl) (by simp) ?_
            refine AllReadyH.cons (o := _) rfl (fun K' hK => ?_) ?_
            · go_simp
              refine hK.out _ _ (trivial) (fun hHeld => ?_)
              clear hK K'
              try simp only [Act.put, List.getElem_toArray, List.getElem_cons_succ, List.getElem_cons_zero, List.setIfInBounds_toArray, List.set_cons_zero, List.set_cons_succ]
              refine wpAnyH_ready (rs := [10]) (by kernel_rfl) (by simp) ?_
              refine AllReadyH.cons (o := _) rfl (fun K' hK => ?_) ?_
              · go_simp
                refine (CC.out _ (by first | exact hGV | exact grown_trans hGV (grown_drew (grown_refl _ _)) | exact grown_drew (grown_refl _ _))).mono ?_
                rintro e w7 ⟨rfl, hg7⟩
                go_wp2_with fail
                refine hK.out _ _ (trivial) (fun hHeld => ?_)
                clear hK K'
                try simp only [Act.put, List.getElem_toArray, List.getElem_cons_succ, List.getElem_cons_zero, List.setIfInBounds_toArray, List.set_cons_zero, List.set_cons_succ]
                refine wpAnyH_ready (rs := [11]) (by kernel_rfl) (by simp) ?_
                refine AllReadyH.cons (o := _) rfl (fun K' hK => ?_) ?_
                · go_simp
                  refine (CS.out _).mono ?_
                  rintro e w8 ⟨rfl, hw8⟩
                  rw [hw8]
                  clear hw8
                  go_wp2_with fail
                  refine hK.out _ _ (trivial) (fun hHeld => ?_)
                  clear hK K'
                  try simp only [Act.put, List.getElem_toArray, List.getElem_cons_succ, List.getElem_cons_zero, List.setIfInBounds_toArray, List.set_cons_zero, List.set_cons_succ]
                  refine wpAnyH_take (i := 12) (v := ?_) rfl (by kernel_rfl) (by kernel_rfl) (by kernel_rfl) (fun _ _ _ h => h) (Or.inl ⟨by rfl, ?_⟩) (by assumption) ?_
                  rotate_left
                  · intro W hSw
                    go_simp
                    with_reducible rfl
                  try simp only [Act.put, List.getElem_toArray, List.getElem_cons_succ, List.getElem_cons_zero, List.setIfInBounds_toArray, List.set_cons_zero, List.set_cons_succ]
                  refine wpAnyH_take (i := 13) (v := ?_) rfl (by kernel_rfl) (by kernel_rfl) (by kernel_rfl) (fun _ _ _ h => h) (Or.inl ⟨by rfl, ?_⟩) (by assumption) ?_
                  rotate_left
                  · intro W hSw
                    go_simp
                    with_reducible rfl
                  try simp only [Act.put, List.getElem_toArray, List.getElem_cons_succ, List.getElem_cons_zero, List.setIfInBounds_toArray, List.set_cons_zero, List.set_cons_succ]
                  refine wpAnyH_ready (rs := [14]) (by kernel_rfl) (by simp) ?_
                  refine AllReadyH.cons (o := _) rfl (fun K' hK => ?_) ?_
                  · have gA := grown_trans (grown_drew (grown_refl _ _)) hg7
                    have q0 := (BN.out.kept gA).cell hj
                    have z0 := (BN.out.kept gA).fz j
                    go_simp
                    refine hK.out _ _ (trivial) (fun hHeld => ?_)
                    clear hK K'
                    try simp only [Act.put, List.getElem_toArray, List.getElem_cons_succ, List.getElem_cons_zero, List.setIfInBounds_toArray, List.set_cons_zero, List.set_cons_succ]
                    refine wpAnyH_done (by kernel_rfl) ?_ _
                    go_wp2_with fail
                    go_roundw
                    case rel =>
                      obtain ⟨x1, x2, x3, x4⟩ := P8.out _ _ gA rfl
                      exact ⟨j + 1, by omega, by simp, x1, x2, x3, x4⟩
                    case measure => simp [intOf]; omega
                  exact AllReadyH.nil
                exact AllReadyH.nil
              exact AllReadyH.nil
            refine AllReadyH.cons (o := _) rfl (fun K' hK => ?_) ?_
            · go_simp
              refine (CC.out _ (by first | exact hGV | exact grown_trans hGV (grown_drew (grown_refl _ _)) | exact grown_drew (grown_refl _ _))).mono ?_
              rintro e w7 ⟨rfl, hg7⟩
              go_wp2_with fail
              refine hK.out _ _ (trivial) (fun hHeld => ?_)
              clear hK K'
              try simp only [Act.put, List.getElem_toArray, List.getElem_cons_succ, List.getElem_cons_zero, List.setIfInBounds_toArray, List.set_cons_zero, List.set_cons_succ]
              refine wpAnyH_ready (rs := [3, 11]) (by kernel_rfl) (by simp) ?_
              refine AllReadyH.cons (o := _) rfl (fun K' hK => ?_) ?_
              · have r0' := (grown_trans (grown_drew (grown_refl _ _)) hg7).cell r0 (by simp)
                go_simp
                refine hK.out _ _ (trivial) (fun hHeld => ?_)
                clear hK K'
                try simp only [Act.put, List.getElem_toArray, List.getElem_cons_succ, List.getElem_cons_zero, List.setIfInBounds_toArray, List.set_cons_zero, List.set_cons_succ]
                refine wpAnyH_ready (rs := [11]) (by kernel_rfl) (by simp) ?_
                refine AllReadyH.cons (o := _) rfl (fun K' hK => ?_) ?_
                · go_simp
                  refine (CS.out _).mono ?_
                  rintro e w8 ⟨rfl, hw8⟩
                  rw [hw8]
                  clear hw8
                  go_wp2_with fail
                  refine hK.out _ _ (trivial) (fun hHeld => ?_)
                  clear hK K'
                  try simp only [Act.put, List.getElem_toArray, List.getElem_cons_succ, List.getElem_cons_zero, List.setIfInBounds_toArray, List.set_cons_zero, List.set_cons_succ]
                  refine wpAnyH_take (i := 12) (v := ?_) rfl (by kernel_rfl) (by kernel_rfl) (by kernel_rfl) (fun _ _ _ h => h) (Or.inl ⟨by rfl, ?_⟩) (by assumption) ?_
                  rotate_left
                  · intro W hSw
                    go_simp
                    with_reducible rfl
                  try simp only [Act.put, List.getElem_toArray, List.getElem_cons_succ, List.getElem_cons_zero, List.setIfInBounds_toArray, List.set_cons_zero, List.set_cons_succ]
                  refine wpAnyH_take (i := 13) (v := ?_) rfl (by kernel_rfl) (by kernel_rfl) (by kernel_rfl) (fun _ _ _ h => h) (Or.inl ⟨by rfl, ?_⟩) (by assumption) ?_
                  rotate_left
                  · intro W hSw
                    go_simp
                    with_reducible rfl
                  try simp only [Act.put, List.getElem_toArray, List.getElem_cons_succ, List.getElem_cons_zero, List.setIfInBounds_toArray, List.set_cons_zero, List.set_cons_succ]
                  refine wpAnyH_ready (rs := [14]) (by kernel_rfl) (by simp) ?_
                  refine AllReadyH.cons (o := _) rfl (fun K' hK => ?_) ?_
                  · have gA := grown_trans (grown_drew (grown_refl _ _)) hg7
                    have q0 := (BN.out.kept gA).cell hj
                    have z0 := (BN.out.kept gA).fz j
                    go_simp
                    refine hK.out _ _ (trivial) (fun hHeld => ?_)
                    clear hK K'
                    try simp only [Act.put, List.getElem_toArray, List.getElem_cons_succ, List.getElem_cons_zero, List.setIfInBounds_toArray, List.set_cons_zero, List.set_cons_succ]
                    refine wpAnyH_done (by kernel_rfl) ?_ _
                    go_wp2_with fail
                    go_roundw
                    case rel =>
                      obtain ⟨x1, x2, x3, x4⟩ := P8.out _ _ gA rfl
                      exact ⟨j + 1, by omega, by simp, x1, x2, x3, x4⟩
                    case measure => simp [intOf]; omega
                  exact AllReadyH.nil
                exact AllReadyH.nil
              refine AllReadyH.cons (o := _) rfl (fun K' hK => ?_) ?_
              · go_simp
                refine (CS.out _).mono ?_
                rintro e w8 ⟨rfl, hw8⟩
                rw [hw8]
                clear hw8
                go_wp2_with fail
                refine hK.out _ _ (trivial) (fun hHeld => ?_)
                clear hK K'
                try simp only [Act.put, List.getElem_toArray, List.getElem_cons_succ, List.getElem_cons_zero, List.setIfInBounds_toArray, List.set_cons_zero, List.set_cons_succ]
                refine wpAnyH_ready (rs := [3]) (by kernel_rfl) (by simp) ?_
                refine AllReadyH.cons (o := _) rfl (fun K' hK => ?_) ?_
                · have r0' := (grown_trans (grown_drew (grown_refl _ _)) hg7).cell r0 (by simp)
                  go_simp
                  refine hK.out _ _ (trivial) (fun hHeld => ?_)
                  clear hK K'
                  try simp only [Act.put, List.getElem_toArray, List.getElem_cons_succ, List.getElem_cons_zero, List.setIfInBounds_toArray, List.set_cons_zero, List.set_cons_succ]
                  refine wpAnyH_take (i := 12) (v := ?_) rfl (by kernel_rfl) (by kernel_rfl) (by kernel_rfl) (fun _ _ _ h => h) (Or.inl ⟨by rfl, ?_⟩) (by assumption) ?_
                  rotate_left
                  · intro W hSw
                    go_simp
                    with_reducible rfl
                  try simp only [Act.put, List.getElem_toArray, List.getElem_cons_succ, List.getElem_cons_zero, List.setIfInBounds_toArray, List.set_cons_zero, List.set_cons_succ]
                  refine wpAnyH_take (i := 13) (v := ?_) rfl (by kernel_rfl) (by kernel_rfl) (by kernel_rfl) (fun _ _ _ h => h) (Or.inl ⟨by rfl, ?_⟩) (by assumption) ?_
                  rotate_left
                  · intro W hSw
                    go_simp
                    with_reducible rfl
                  try simp only [Act.put, List.getElem_toArray, List.getElem_cons_succ, List.getElem_cons_zero, List.setIfInBounds_toArray, List.set_cons_zero, List.set_cons_succ]
                  refine wpAnyH_ready (rs := [14]) (by kernel_rfl) (by simp) ?_
                  refine AllReadyH.cons (o := _) rfl (fun K' hK => ?_) ?_
                  · have gA := grown_trans (grown_drew (grown_refl _ _)) hg7
                    have q0 := (BN.out.kept gA).cell hj
                    have z0 := (BN.out.kept gA).fz j
                    go_simp
                    refine hK.out _ _ (trivial) (fun hHeld => ?_)
                    clear hK K'
                    try simp only [Act.put, List.getElem_toArray, List.getElem_cons_succ, List.getElem_cons_zero, List.setIfInBounds_toArray, List.set_cons_zero, List.set_cons_succ]
                    refine wpAnyH_done (by kernel_rfl) ?_ _
                    go_wp2_with fail
                    go_roundw
                    case rel =>
                      obtain ⟨x1, x2, x3, x4⟩ := P8.out _ _ gA rfl
                      exact ⟨j + 1, by omega, by simp, x1, x2, x3, x4⟩
                    case measure => simp [intOf]; omega
                  exact AllReadyH.nil
                exact AllReadyH.nil
              exact AllReadyH.nil
            exact AllReadyH.nil
        · have hji : ¬ (j : Int) < 6 := by omega
          obtain rfl : j = 6 := by omega
          have HX : Hid (Box6 wr (w.heap.size + 1) (fun _ => 0) ∧ Box6 wr bn (midB E row s (k + 1) 0) ∧ EdgesAt wr b E ∧ w.grownBy wr none) := ⟨h0, h1.congr (fun i hi => by unfold midB; rw [if_pos hi, if_neg (by omega)]), h2, hg⟩
          clear h0 h1 h2 hg
          go_wp2_with fail
          exact ⟨⟨k + 1, by omega, by simp, HX.out.1, HX.out.2.1, HX.out.2.2.1, HX.out.2.2.2⟩, by simp [intOf]; omega⟩
    · have hki : ¬ (k : Int) < 6 := by omega
      obtain rfl : k = 6 := by omega
      have h1' := h1.congr (g' := byC E row (s : Int)) (fun i hi => by unfold midB byC; rw [if_neg (by omega), Int.toNat_natCast])
      obtain ⟨q0, q1, q2, q3, q4, q5⟩ := h1'.get
      obtain ⟨p0, p1, p2, p3, p4, p5⟩ := h0.get
      have z0 := h0.fz 0
      have z1 := h0.fz 1
      have z2 := h0.fz 2
      have z3 := h0.fz 3
      have z4 := h0.fz 4
      have z5 := h0.fz 5
      obtain ⟨W9, hW9, hb9, hg9⟩ := box6_store h0 (byC E row (s : Int))
      obtain ⟨r0, r1, r2, r3, r4, r5⟩ := hb9.get
      have G9 : Hid (w.grownBy W9 none) := grown_new hg hg9 (by omega)
      obtain ⟨g, hgg⟩ : ∃ g, byC E row (s : Int) = g := ⟨_, rfl⟩
      rw [hgg] at q0 q1 q2 q3 q4 q5 hW9 r0 r1 r2 r3 r4 r5 ⊢
      clear h0 h1 h1' h2 hg hg9 hb9
      go_wp2_with fail
      rw [← hW9]
      exact bodyPost_ret (v := rV g) (by simp [results, Try.results26, go_sem, r0, r1, r2, r3, r4, r5]) rfl ⟨rfl, G9.out⟩

end Go.Proofs.Ythnbiiipfcogeaa
