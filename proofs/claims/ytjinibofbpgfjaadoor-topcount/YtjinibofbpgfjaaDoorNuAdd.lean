/- Sums and differences of whole numbers; which is greater. -/
import Derived.Test.YtjinibofbpgfjaaDoorNuOf
namespace Go.Proofs.YtjinibofbpgfjaaDoor
open Go.RowKit
set_option linter.unusedVariables false
set_option linter.unusedSimpArgs false

theorem Nm.le {p q : Bool} {a b : List Int} (ha : Nm p a) (hb : Nm q b) (h : valN b ≤ valN a) : b.length ≤ a.length := by
  rcases Nat.lt_or_ge a.length b.length with h1 | h1
  · have := Nm.shorter ha hb h1; omega
  · exact h1

set_option maxHeartbeats 3200000 in
set_option maxRecDepth 100000 in
theorem add_any (b1 : Bool) (a1 : Option Addr) (n1 c1 : Nat) (z1 : Int) (b2 : Bool) (a2 : Option Addr) (n2 c2 : Nat) (z2 : Int) (w : World) (h1 : WhAt w b1 a1 n1 c1 z1) (h2 : WhAt w b2 a2 n2 c2 z2) (m1 : n1 ≤ 400) (m2 : n2 ≤ 400) :
    Calls Tryd.prog 36 #[whV b1 a1 n1 c1, whV b2 a2 n2 c2] w (WhN (z1 + z2) w) := by
  obtain ⟨l1, hl1, hc1, hi1, hn1, hz1⟩ := h1
  obtain ⟨l2, hl2, hc2, hi2, hn2, hz2⟩ := h2
  obtain ⟨W0, hW0, g0, s0, bx, _⟩ := box2_new w b1 a1 n1 c1
  obtain ⟨Wy, hWy, gy, sy, bY, _⟩ := box2_new W0 b2 a2 n2 c2
  obtain ⟨W1, hW1, g1, s1, _, hrb⟩ := box2_new Wy false none 0 0
  have s2 : Wy.heap.size = w.heap.size + 1 + 1 := by omega
  rw [s2] at hrb
  rw [s0] at bY
  have HRB : Hid (∀ W, W1.grownBy W none → W.heap[w.heap.size + 1 + 1]? = some (.cells #[.bool false, .slice none 0 0] 32 (0, 0))) := fun W hW => (hW.block _ (by omega) (by simp)).trans hrb
  have HW1 : Hid (W1 = ((w.alloc (whO b1 a1 n1 c1)).alloc (whO b2 a2 n2 c2)).alloc (whO false none 0 0)) := by show _ = _; rw [hW1, hWy, hW0]
  have G1 : Hid (w.grownBy W1 none) := grown_trans g0 (grown_trans gy g1)
  have S1 : Hid (W1.heap.size = w.heap.size + 1 + 1 + 1) := by show _ = _; omega
  have BX : Hid (∀ W, W1.grownBy W none → Box2 W w.heap.size b1 a1 n1 c1) := fun W hW => bx.grown (grown_trans gy (grown_trans g1 hW))
  have BY : Hid (∀ W, W1.grownBy W none → Box2 W (w.heap.size + 1) b2 a2 n2 c2) := fun W hW => bY.grown (grown_trans g1 hW)
  have HI : Hid (Ints W1 a1 l1 ∧ Ints W1 a2 l2) := ⟨hi1.grown G1.out, hi2.grown G1.out⟩
  have HN : Hid (Nm b1 l1 ∧ Nm b2 l2) := ⟨hn1, hn2⟩
  have HE : Hid (l1.length = n1 ∧ l2.length = n2) := ⟨hl1, hl2⟩
  have HZ : Hid (z1 = wvN b1 l1 ∧ z2 = wvN b2 l2) := ⟨hz1, hz2⟩
  have x0 := (BX.out W1 (grown_refl _ _)).b0
  have x1 := (BX.out W1 (grown_refl _ _)).b1
  have y0 := (BY.out W1 (grown_refl _ _)).b0
  have y1 := (BY.out W1 (grown_refl _ _)).b1
  rw [HW1.out] at x0 x1 y0 y1
  obtain ⟨Po, hPo⟩ : ∃ P, P = WhN (z1 + z2) w := ⟨_, rfl⟩
  have HPo : Hid (Po = WhN (z1 + z2) w) := hPo
  rw [← hPo]
  clear hl1 hc1 hi1 hn1 hz1 hl2 hc2 hi2 hn2 hz2 hW0 hWy hW1 g0 gy g1 s0 sy s1 s2 bx bY hrb hPo
  cases b1 with
  | true =>
    cases b2 with
    | true =>
      have HD : Hid (Calls Tryd.prog 53 #[.slice a1 n1 c1, .slice a2 n2 c2] W1 (DigP (valN l1 + valN l2) W1)) := plus_any l1 l2 a1 a2 n1 n2 c1 c2 W1 HI.out.1 HI.out.2 HN.out.1.wf HN.out.2.wf HE.out.1 HE.out.2 m1 m2
      have HG : Hid (∀ {W : World}, W1.grownBy W none → W1.grownBy W none) := fun h => h
      have HNw : Hid (∀ (W : World), W1.grownBy W none → ∀ {k : Nat}, W1.heap.size ≤ k → w.heap.size + 1 + 1 + 1 ≤ k) := fun W _ k hk => by have := S1.out; omega
      go_enter Tryd.func36, Tryd.ntmps36
      go_wp2_with fail
      rw [← HW1.out]
      clear x0 x1 y0 y1
      refine HD.out.mono ?_
      rintro E w3 ⟨aD, nD, cD, l, rfl, hl, hcD, hn4, hi, hwf, hv, hg3, hnew⟩
      have G3 : Hid (W1.grownBy w3 none) := HG.out hg3
      have HNew : Hid (∀ y, aD = some y → w.heap.size + 1 + 1 + 1 ≤ y.block) := fun y hy => HNw.out _ hg3 (hnew y hy)
      have HVl : Hid (wvN true l = z1 + z2) := by
        show _ = _
        rw [HZ.out.1, HZ.out.2]
        unfold wvN
        simp; omega
      have HTr : Hid (Calls Tryd.prog 52 #[.bool true, .slice aD nD cD] w3 (TrimP true l aD cD w3)) := trim_any true l aD cD nD w3 hi hwf hl hcD (by omega)
      have q0 := (BX.out w3 G3.out).b0
      have r0 := (BY.out w3 G3.out).b0
      have HnD : Hid (l.length = nD ∧ nD ≤ 401) := ⟨hl, hn4⟩
      clear hl hcD hn4 hi hwf hv hg3 hnew
      go_wp2_with fail
      clear q0 r0
      refine HTr.out.mono ?_
      rintro E w4 ⟨bb, m, rfl, hwh, hg4, hm⟩
      obtain ⟨⟨p0, p1⟩, fz, W5, hW5, g5, y0, y1, _⟩ := two_store (HRB.out w4 (grown_trans G3.out hg4)) (.bool bb) (.slice aD m cD)
      have HW5 : Hid (W5 = _) := hW5
      have F : Hid (Po (.returned (whV bb aD m cD)) W5) := by
        show Po _ _
        rw [HPo.out]
        rw [HVl.out] at hwh
        exact ⟨bb, aD, m, cD, rfl, hwh.far g5 (fun y hy => by have := HNew.out y hy; omega), by have := HnD.out; omega, grown_new (grown_trans G1.out (grown_trans G3.out hg4)) g5 (by omega), fun y hy => by have := HNew.out y hy; omega⟩
      have f0 := fz 0
      have f1 := fz 1
      clear fz hW5 g5 hwh hg4 hm
      go_wp2_with fail
      rw [← HW5.out]
      exact bodyPost_ret (v := whV bb aD m cD) (by simp [results, Tryd.results36, go_sem, y0, y1]) rfl F.out
    | false =>
      by_cases hlt : valN l1 < valN l2
      · have e0 : sgN (valN l1 - valN l2) = -1 := by unfold sgN; rw [if_pos (by omega)]
        have HD : Hid (∀ w2, W1.grownBy w2 none → Calls Tryd.prog 55 #[.slice a2 n2 c2, .slice a1 n1 c1] w2 (DigP (valN l2 - valN l1) w2)) := fun w2 hw2 => minus_any l2 l1 a2 a1 n2 n1 c2 c1 w2 (HI.out.2.grown hw2) (HI.out.1.grown hw2) HN.out.2.wf HN.out.1.wf HE.out.2 HE.out.1 (by omega) (by have h := Nm.le HN.out.2 HN.out.1 (by omega); have h2 := HE.out; omega) (by omega)
        obtain ⟨sg, hsg⟩ : ∃ sg, sgN (valN l1 - valN l2) = sg := ⟨_, rfl⟩
        rw [hsg] at e0
        have HS : Hid (Calls Tryd.prog 54 #[.slice a1 n1 c1, .slice a2 n2 c2] W1 (fun e w' => e = .returned (.int .i64 sg) ∧ W1.grownBy w' none)) := by
          have h := size_any true false l1 l2 a1 a2 n1 n2 c1 c2 W1 HI.out.1 HI.out.2 HN.out.1 HN.out.2 HE.out.1 HE.out.2 (by omega)
          unfold SizeP at h
          rw [hsg] at h
          exact h
        clear hsg
        go_enter Tryd.func36, Tryd.ntmps36
        go_wp2_with fail
        rw [← HW1.out]
        clear x0 x1 y0 y1
        refine HS.out.mono ?_
        rintro E w2 ⟨rfl, hg2⟩
        have G2 : Hid (W1.grownBy w2 none) := hg2
        have u0 : sg < 0 := by omega
        have q1 := (BX.out w2 hg2).b1
        have r1 := (BY.out w2 hg2).b1
        have HG : Hid (∀ {W : World}, w2.grownBy W none → W1.grownBy W none) := fun h => grown_trans G2.out h
        have HNw : Hid (∀ (W : World), w2.grownBy W none → ∀ {k : Nat}, w2.heap.size ≤ k → w.heap.size + 1 + 1 + 1 ≤ k) := fun W _ k hk => by have := S1.out; have := G2.out.size; omega
        clear hg2
        go_wp2_with fail
        clear q1 r1
        refine (HD.out w2 G2.out).mono ?_
        rintro E w3 ⟨aD, nD, cD, l, rfl, hl, hcD, hn4, hi, hwf, hv, hg3, hnew⟩
        have G3 : Hid (W1.grownBy w3 none) := HG.out hg3
        have HNew : Hid (∀ y, aD = some y → w.heap.size + 1 + 1 + 1 ≤ y.block) := fun y hy => HNw.out _ hg3 (hnew y hy)
        have HVl : Hid (wvN false l = z1 + z2) := by
          show _ = _
          rw [HZ.out.1, HZ.out.2]
          unfold wvN
          simp; omega
        have HTr : Hid (Calls Tryd.prog 52 #[.bool false, .slice aD nD cD] w3 (TrimP false l aD cD w3)) := trim_any false l aD cD nD w3 hi hwf hl hcD (by omega)
        have q0 := (BX.out w3 G3.out).b0
        have r0 := (BY.out w3 G3.out).b0
        have HnD : Hid (l.length = nD ∧ nD ≤ 401) := ⟨hl, hn4⟩
        clear hl hcD hn4 hi hwf hv hg3 hnew
        go_wp2_with fail
        clear q0 r0
        refine HTr.out.mono ?_
        rintro E w4 ⟨bb, m, rfl, hwh, hg4, hm⟩
        obtain ⟨⟨p0, p1⟩, fz, W5, hW5, g5, y0, y1, _⟩ := two_store (HRB.out w4 (grown_trans G3.out hg4)) (.bool bb) (.slice aD m cD)
        have HW5 : Hid (W5 = _) := hW5
        have F : Hid (Po (.returned (whV bb aD m cD)) W5) := by
          show Po _ _
          rw [HPo.out]
          rw [HVl.out] at hwh
          exact ⟨bb, aD, m, cD, rfl, hwh.far g5 (fun y hy => by have := HNew.out y hy; omega), by have := HnD.out; omega, grown_new (grown_trans G1.out (grown_trans G3.out hg4)) g5 (by omega), fun y hy => by have := HNew.out y hy; omega⟩
        have f0 := fz 0
        have f1 := fz 1
        clear fz hW5 g5 hwh hg4 hm
        go_wp2_with fail
        rw [← HW5.out]
        exact bodyPost_ret (v := whV bb aD m cD) (by simp [results, Tryd.results36, go_sem, y0, y1]) rfl F.out
      · have hge : valN l2 ≤ valN l1 := by omega
        have e0 : sgN (valN l1 - valN l2) ≥ 0 := by unfold sgN; rw [if_neg (by omega)]; split <;> omega
        have HD : Hid (∀ w2, W1.grownBy w2 none → Calls Tryd.prog 55 #[.slice a1 n1 c1, .slice a2 n2 c2] w2 (DigP (valN l1 - valN l2) w2)) := fun w2 hw2 => minus_any l1 l2 a1 a2 n1 n2 c1 c2 w2 (HI.out.1.grown hw2) (HI.out.2.grown hw2) HN.out.1.wf HN.out.2.wf HE.out.1 HE.out.2 (by omega) (by have h := Nm.le HN.out.1 HN.out.2 (by omega); have h2 := HE.out; omega) (by omega)
        obtain ⟨sg, hsg⟩ : ∃ sg, sgN (valN l1 - valN l2) = sg := ⟨_, rfl⟩
        rw [hsg] at e0
        have HS : Hid (Calls Tryd.prog 54 #[.slice a1 n1 c1, .slice a2 n2 c2] W1 (fun e w' => e = .returned (.int .i64 sg) ∧ W1.grownBy w' none)) := by
          have h := size_any true false l1 l2 a1 a2 n1 n2 c1 c2 W1 HI.out.1 HI.out.2 HN.out.1 HN.out.2 HE.out.1 HE.out.2 (by omega)
          unfold SizeP at h
          rw [hsg] at h
          exact h
        clear hsg
        go_enter Tryd.func36, Tryd.ntmps36
        go_wp2_with fail
        rw [← HW1.out]
        clear x0 x1 y0 y1
        refine HS.out.mono ?_
        rintro E w2 ⟨rfl, hg2⟩
        have G2 : Hid (W1.grownBy w2 none) := hg2
        have u0 : ¬ sg < 0 := by omega
        have q1 := (BX.out w2 hg2).b1
        have r1 := (BY.out w2 hg2).b1
        have HG : Hid (∀ {W : World}, w2.grownBy W none → W1.grownBy W none) := fun h => grown_trans G2.out h
        have HNw : Hid (∀ (W : World), w2.grownBy W none → ∀ {k : Nat}, w2.heap.size ≤ k → w.heap.size + 1 + 1 + 1 ≤ k) := fun W _ k hk => by have := S1.out; have := G2.out.size; omega
        clear hg2
        go_wp2_with fail
        clear q1 r1
        refine (HD.out w2 G2.out).mono ?_
        rintro E w3 ⟨aD, nD, cD, l, rfl, hl, hcD, hn4, hi, hwf, hv, hg3, hnew⟩
        have G3 : Hid (W1.grownBy w3 none) := HG.out hg3
        have HNew : Hid (∀ y, aD = some y → w.heap.size + 1 + 1 + 1 ≤ y.block) := fun y hy => HNw.out _ hg3 (hnew y hy)
        have HVl : Hid (wvN true l = z1 + z2) := by
          show _ = _
          rw [HZ.out.1, HZ.out.2]
          unfold wvN
          simp; omega
        have HTr : Hid (Calls Tryd.prog 52 #[.bool true, .slice aD nD cD] w3 (TrimP true l aD cD w3)) := trim_any true l aD cD nD w3 hi hwf hl hcD (by omega)
        have q0 := (BX.out w3 G3.out).b0
        have r0 := (BY.out w3 G3.out).b0
        have HnD : Hid (l.length = nD ∧ nD ≤ 401) := ⟨hl, hn4⟩
        clear hl hcD hn4 hi hwf hv hg3 hnew
        go_wp2_with fail
        clear q0 r0
        refine HTr.out.mono ?_
        rintro E w4 ⟨bb, m, rfl, hwh, hg4, hm⟩
        obtain ⟨⟨p0, p1⟩, fz, W5, hW5, g5, y0, y1, _⟩ := two_store (HRB.out w4 (grown_trans G3.out hg4)) (.bool bb) (.slice aD m cD)
        have HW5 : Hid (W5 = _) := hW5
        have F : Hid (Po (.returned (whV bb aD m cD)) W5) := by
          show Po _ _
          rw [HPo.out]
          rw [HVl.out] at hwh
          exact ⟨bb, aD, m, cD, rfl, hwh.far g5 (fun y hy => by have := HNew.out y hy; omega), by have := HnD.out; omega, grown_new (grown_trans G1.out (grown_trans G3.out hg4)) g5 (by omega), fun y hy => by have := HNew.out y hy; omega⟩
        have f0 := fz 0
        have f1 := fz 1
        clear fz hW5 g5 hwh hg4 hm
        go_wp2_with fail
        rw [← HW5.out]
        exact bodyPost_ret (v := whV bb aD m cD) (by simp [results, Tryd.results36, go_sem, y0, y1]) rfl F.out
  | false =>
    cases b2 with
    | true =>
      by_cases hlt : valN l1 < valN l2
      · have e0 : sgN (valN l1 - valN l2) = -1 := by unfold sgN; rw [if_pos (by omega)]
        have HD : Hid (∀ w2, W1.grownBy w2 none → Calls Tryd.prog 55 #[.slice a2 n2 c2, .slice a1 n1 c1] w2 (DigP (valN l2 - valN l1) w2)) := fun w2 hw2 => minus_any l2 l1 a2 a1 n2 n1 c2 c1 w2 (HI.out.2.grown hw2) (HI.out.1.grown hw2) HN.out.2.wf HN.out.1.wf HE.out.2 HE.out.1 (by omega) (by have h := Nm.le HN.out.2 HN.out.1 (by omega); have h2 := HE.out; omega) (by omega)
        obtain ⟨sg, hsg⟩ : ∃ sg, sgN (valN l1 - valN l2) = sg := ⟨_, rfl⟩
        rw [hsg] at e0
        have HS : Hid (Calls Tryd.prog 54 #[.slice a1 n1 c1, .slice a2 n2 c2] W1 (fun e w' => e = .returned (.int .i64 sg) ∧ W1.grownBy w' none)) := by
          have h := size_any false true l1 l2 a1 a2 n1 n2 c1 c2 W1 HI.out.1 HI.out.2 HN.out.1 HN.out.2 HE.out.1 HE.out.2 (by omega)
          unfold SizeP at h
          rw [hsg] at h
          exact h
        clear hsg
        go_enter Tryd.func36, Tryd.ntmps36
        go_wp2_with fail
        rw [← HW1.out]
        clear x0 x1 y0 y1
        refine HS.out.mono ?_
        rintro E w2 ⟨rfl, hg2⟩
        have G2 : Hid (W1.grownBy w2 none) := hg2
        have u0 : sg < 0 := by omega
        have q1 := (BX.out w2 hg2).b1
        have r1 := (BY.out w2 hg2).b1
        have HG : Hid (∀ {W : World}, w2.grownBy W none → W1.grownBy W none) := fun h => grown_trans G2.out h
        have HNw : Hid (∀ (W : World), w2.grownBy W none → ∀ {k : Nat}, w2.heap.size ≤ k → w.heap.size + 1 + 1 + 1 ≤ k) := fun W _ k hk => by have := S1.out; have := G2.out.size; omega
        clear hg2
        go_wp2_with fail
        clear q1 r1
        refine (HD.out w2 G2.out).mono ?_
        rintro E w3 ⟨aD, nD, cD, l, rfl, hl, hcD, hn4, hi, hwf, hv, hg3, hnew⟩
        have G3 : Hid (W1.grownBy w3 none) := HG.out hg3
        have HNew : Hid (∀ y, aD = some y → w.heap.size + 1 + 1 + 1 ≤ y.block) := fun y hy => HNw.out _ hg3 (hnew y hy)
        have HVl : Hid (wvN true l = z1 + z2) := by
          show _ = _
          rw [HZ.out.1, HZ.out.2]
          unfold wvN
          simp; omega
        have HTr : Hid (Calls Tryd.prog 52 #[.bool true, .slice aD nD cD] w3 (TrimP true l aD cD w3)) := trim_any true l aD cD nD w3 hi hwf hl hcD (by omega)
        have q0 := (BX.out w3 G3.out).b0
        have r0 := (BY.out w3 G3.out).b0
        have HnD : Hid (l.length = nD ∧ nD ≤ 401) := ⟨hl, hn4⟩
        clear hl hcD hn4 hi hwf hv hg3 hnew
        go_wp2_with fail
        clear q0 r0
        refine HTr.out.mono ?_
        rintro E w4 ⟨bb, m, rfl, hwh, hg4, hm⟩
        obtain ⟨⟨p0, p1⟩, fz, W5, hW5, g5, y0, y1, _⟩ := two_store (HRB.out w4 (grown_trans G3.out hg4)) (.bool bb) (.slice aD m cD)
        have HW5 : Hid (W5 = _) := hW5
        have F : Hid (Po (.returned (whV bb aD m cD)) W5) := by
          show Po _ _
          rw [HPo.out]
          rw [HVl.out] at hwh
          exact ⟨bb, aD, m, cD, rfl, hwh.far g5 (fun y hy => by have := HNew.out y hy; omega), by have := HnD.out; omega, grown_new (grown_trans G1.out (grown_trans G3.out hg4)) g5 (by omega), fun y hy => by have := HNew.out y hy; omega⟩
        have f0 := fz 0
        have f1 := fz 1
        clear fz hW5 g5 hwh hg4 hm
        go_wp2_with fail
        rw [← HW5.out]
        exact bodyPost_ret (v := whV bb aD m cD) (by simp [results, Tryd.results36, go_sem, y0, y1]) rfl F.out
      · have hge : valN l2 ≤ valN l1 := by omega
        have e0 : sgN (valN l1 - valN l2) ≥ 0 := by unfold sgN; rw [if_neg (by omega)]; split <;> omega
        have HD : Hid (∀ w2, W1.grownBy w2 none → Calls Tryd.prog 55 #[.slice a1 n1 c1, .slice a2 n2 c2] w2 (DigP (valN l1 - valN l2) w2)) := fun w2 hw2 => minus_any l1 l2 a1 a2 n1 n2 c1 c2 w2 (HI.out.1.grown hw2) (HI.out.2.grown hw2) HN.out.1.wf HN.out.2.wf HE.out.1 HE.out.2 (by omega) (by have h := Nm.le HN.out.1 HN.out.2 (by omega); have h2 := HE.out; omega) (by omega)
        obtain ⟨sg, hsg⟩ : ∃ sg, sgN (valN l1 - valN l2) = sg := ⟨_, rfl⟩
        rw [hsg] at e0
        have HS : Hid (Calls Tryd.prog 54 #[.slice a1 n1 c1, .slice a2 n2 c2] W1 (fun e w' => e = .returned (.int .i64 sg) ∧ W1.grownBy w' none)) := by
          have h := size_any false true l1 l2 a1 a2 n1 n2 c1 c2 W1 HI.out.1 HI.out.2 HN.out.1 HN.out.2 HE.out.1 HE.out.2 (by omega)
          unfold SizeP at h
          rw [hsg] at h
          exact h
        clear hsg
        go_enter Tryd.func36, Tryd.ntmps36
        go_wp2_with fail
        rw [← HW1.out]
        clear x0 x1 y0 y1
        refine HS.out.mono ?_
        rintro E w2 ⟨rfl, hg2⟩
        have G2 : Hid (W1.grownBy w2 none) := hg2
        have u0 : ¬ sg < 0 := by omega
        have q1 := (BX.out w2 hg2).b1
        have r1 := (BY.out w2 hg2).b1
        have HG : Hid (∀ {W : World}, w2.grownBy W none → W1.grownBy W none) := fun h => grown_trans G2.out h
        have HNw : Hid (∀ (W : World), w2.grownBy W none → ∀ {k : Nat}, w2.heap.size ≤ k → w.heap.size + 1 + 1 + 1 ≤ k) := fun W _ k hk => by have := S1.out; have := G2.out.size; omega
        clear hg2
        go_wp2_with fail
        clear q1 r1
        refine (HD.out w2 G2.out).mono ?_
        rintro E w3 ⟨aD, nD, cD, l, rfl, hl, hcD, hn4, hi, hwf, hv, hg3, hnew⟩
        have G3 : Hid (W1.grownBy w3 none) := HG.out hg3
        have HNew : Hid (∀ y, aD = some y → w.heap.size + 1 + 1 + 1 ≤ y.block) := fun y hy => HNw.out _ hg3 (hnew y hy)
        have HVl : Hid (wvN false l = z1 + z2) := by
          show _ = _
          rw [HZ.out.1, HZ.out.2]
          unfold wvN
          simp; omega
        have HTr : Hid (Calls Tryd.prog 52 #[.bool false, .slice aD nD cD] w3 (TrimP false l aD cD w3)) := trim_any false l aD cD nD w3 hi hwf hl hcD (by omega)
        have q0 := (BX.out w3 G3.out).b0
        have r0 := (BY.out w3 G3.out).b0
        have HnD : Hid (l.length = nD ∧ nD ≤ 401) := ⟨hl, hn4⟩
        clear hl hcD hn4 hi hwf hv hg3 hnew
        go_wp2_with fail
        clear q0 r0
        refine HTr.out.mono ?_
        rintro E w4 ⟨bb, m, rfl, hwh, hg4, hm⟩
        obtain ⟨⟨p0, p1⟩, fz, W5, hW5, g5, y0, y1, _⟩ := two_store (HRB.out w4 (grown_trans G3.out hg4)) (.bool bb) (.slice aD m cD)
        have HW5 : Hid (W5 = _) := hW5
        have F : Hid (Po (.returned (whV bb aD m cD)) W5) := by
          show Po _ _
          rw [HPo.out]
          rw [HVl.out] at hwh
          exact ⟨bb, aD, m, cD, rfl, hwh.far g5 (fun y hy => by have := HNew.out y hy; omega), by have := HnD.out; omega, grown_new (grown_trans G1.out (grown_trans G3.out hg4)) g5 (by omega), fun y hy => by have := HNew.out y hy; omega⟩
        have f0 := fz 0
        have f1 := fz 1
        clear fz hW5 g5 hwh hg4 hm
        go_wp2_with fail
        rw [← HW5.out]
        exact bodyPost_ret (v := whV bb aD m cD) (by simp [results, Tryd.results36, go_sem, y0, y1]) rfl F.out
    | false =>
      have HD : Hid (Calls Tryd.prog 53 #[.slice a1 n1 c1, .slice a2 n2 c2] W1 (DigP (valN l1 + valN l2) W1)) := plus_any l1 l2 a1 a2 n1 n2 c1 c2 W1 HI.out.1 HI.out.2 HN.out.1.wf HN.out.2.wf HE.out.1 HE.out.2 m1 m2
      have HG : Hid (∀ {W : World}, W1.grownBy W none → W1.grownBy W none) := fun h => h
      have HNw : Hid (∀ (W : World), W1.grownBy W none → ∀ {k : Nat}, W1.heap.size ≤ k → w.heap.size + 1 + 1 + 1 ≤ k) := fun W _ k hk => by have := S1.out; omega
      go_enter Tryd.func36, Tryd.ntmps36
      go_wp2_with fail
      rw [← HW1.out]
      clear x0 x1 y0 y1
      refine HD.out.mono ?_
      rintro E w3 ⟨aD, nD, cD, l, rfl, hl, hcD, hn4, hi, hwf, hv, hg3, hnew⟩
      have G3 : Hid (W1.grownBy w3 none) := HG.out hg3
      have HNew : Hid (∀ y, aD = some y → w.heap.size + 1 + 1 + 1 ≤ y.block) := fun y hy => HNw.out _ hg3 (hnew y hy)
      have HVl : Hid (wvN false l = z1 + z2) := by
        show _ = _
        rw [HZ.out.1, HZ.out.2]
        unfold wvN
        simp; omega
      have HTr : Hid (Calls Tryd.prog 52 #[.bool false, .slice aD nD cD] w3 (TrimP false l aD cD w3)) := trim_any false l aD cD nD w3 hi hwf hl hcD (by omega)
      have q0 := (BX.out w3 G3.out).b0
      have r0 := (BY.out w3 G3.out).b0
      have HnD : Hid (l.length = nD ∧ nD ≤ 401) := ⟨hl, hn4⟩
      clear hl hcD hn4 hi hwf hv hg3 hnew
      go_wp2_with fail
      clear q0 r0
      refine HTr.out.mono ?_
      rintro E w4 ⟨bb, m, rfl, hwh, hg4, hm⟩
      obtain ⟨⟨p0, p1⟩, fz, W5, hW5, g5, y0, y1, _⟩ := two_store (HRB.out w4 (grown_trans G3.out hg4)) (.bool bb) (.slice aD m cD)
      have HW5 : Hid (W5 = _) := hW5
      have F : Hid (Po (.returned (whV bb aD m cD)) W5) := by
        show Po _ _
        rw [HPo.out]
        rw [HVl.out] at hwh
        exact ⟨bb, aD, m, cD, rfl, hwh.far g5 (fun y hy => by have := HNew.out y hy; omega), by have := HnD.out; omega, grown_new (grown_trans G1.out (grown_trans G3.out hg4)) g5 (by omega), fun y hy => by have := HNew.out y hy; omega⟩
      have f0 := fz 0
      have f1 := fz 1
      clear fz hW5 g5 hwh hg4 hm
      go_wp2_with fail
      rw [← HW5.out]
      exact bodyPost_ret (v := whV bb aD m cD) (by simp [results, Tryd.results36, go_sem, y0, y1]) rfl F.out

end Go.Proofs.YtjinibofbpgfjaaDoor
