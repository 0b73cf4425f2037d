/- What is wrong with a game: the reference's check. -/
import Derived.Test.YtlnlgjbpkjfbjaaGCheck
namespace Go.Proofs.Ytlnlgjbpkjfbjaa
open Go.RowKit
set_option linter.unusedVariables false

set_option maxHeartbeats 6400000 in
set_option maxRecDepth 100000 in
theorem checkR10_any (zo zm : List Int) (R : List (List Int)) (ao am ax : Option Addr) (co cm cx : Nat) (w : World) (h : GArg w zo zm R ao am ax) :
    Calls Try.prog 12 #[gameV ao zo.length co am zm.length cm ax R.length cx] w (Says (.int .i64 (checkG zo zm R)) w) := by
  have H : Hid (GArg w zo zm R ao am ax) := h
  have lo := h.lo
  have lm := h.lm
  have lr := h.lr
  unfold maxLen at lo lm lr
  obtain ⟨z, hz⟩ : ∃ z, checkG zo zm R = z := ⟨_, rfl⟩
  have HZ : Hid (checkG zo zm R = z) := hz
  rw [hz]
  obtain ⟨n, hno⟩ : ∃ n, zo.length = n := ⟨_, rfl⟩
  obtain ⟨nm, hnm⟩ : ∃ nm, zm.length = nm := ⟨_, rfl⟩
  obtain ⟨nr, hnr⟩ : ∃ nr, R.length = nr := ⟨_, rfl⟩
  have HN : Hid (zo.length = n ∧ zm.length = nm ∧ R.length = nr) := ⟨hno, hnm, hnr⟩
  rw [hno] at lo ⊢
  rw [hnm] at lm ⊢
  rw [hnr] at lr ⊢
  obtain ⟨W1, hW1, g1, s1, bx1⟩ := box3_new w (.slice ao n co) (.slice am nm cm) (.slice ax nr cx) 33
  have G1 : Hid (w.grownBy W1 none) := g1
  have BX : Hid (∀ W', W1.grownBy W' none → W'.cell? ⟨w.heap.size, 0, none⟩ = some (.slice ao n co) ∧ W'.cell? ⟨w.heap.size, 1, none⟩ = some (.slice am nm cm) ∧ W'.cell? ⟨w.heap.size, 2, none⟩ = some (.slice ax nr cx)) := bx1
  obtain ⟨x0, x1, x2⟩ := bx1 W1 (grown_refl _ _)
  have HW1 : Hid (W1 = w.alloc (.cells #[.slice ao n co, .slice am nm cm, .slice ax nr cx] 33)) := hW1
  rw [hW1] at x0 x1 x2
  clear h hz hno hnm hnr hW1 g1 s1 bx1
  by_cases hs : n < 1 ∨ 60 < n
  · have HE : Hid (checkG zo zm R = 1) := by show _ = _; unfold checkG; rw [HN.out.1, if_pos hs]
    rcases hs with hs | hs
    · have a1 : decide ((n : Int) < 1) = true := by simp; omega
      go_enter Try.func12, Try.ntmps12
      go_wp2_with fail
      go_ret
      exact ⟨ret_int (by rw [← HZ.out, HE.out]), by rw [← HW1.out]; exact G1.out⟩
    · have a1 : decide ((n : Int) < 1) = false := by simp; omega
      have a2 : decide ((60 : Int) < (n : Int)) = true := by simp; omega
      go_enter Try.func12, Try.ntmps12
      go_wp2_with fail
      go_ret
      exact ⟨ret_int (by rw [← HZ.out, HE.out]), by rw [← HW1.out]; exact G1.out⟩
  have a1 : decide ((n : Int) < 1) = false := by simp; omega
  have a2 : decide ((60 : Int) < (n : Int)) = false := by simp; omega
  have HS : Hid (¬ (n < 1 ∨ 60 < n)) := hs
  by_cases hm : nm ≠ n ∨ nr ≠ n
  · have HE : Hid (checkG zo zm R = 3) := by show _ = _; unfold checkG; rw [HN.out.1, HN.out.2.1, HN.out.2.2, if_neg HS.out, if_pos hm]
    by_cases hm1 : nm = n
    · have a3 : ((nm : Int) != (n : Int)) = false := by simp; omega
      have a4 : ((nr : Int) != (n : Int)) = true := by simp; omega
      clear hm1
      go_enter Try.func12, Try.ntmps12
      go_wp2_with fail
      go_ret
      exact ⟨ret_int (by rw [← HZ.out, HE.out]), by rw [← HW1.out]; exact G1.out⟩
    · have a3 : ((nm : Int) != (n : Int)) = true := by simp; omega
      go_enter Try.func12, Try.ntmps12
      go_wp2_with fail
      go_ret
      exact ⟨ret_int (by rw [← HZ.out, HE.out]), by rw [← HW1.out]; exact G1.out⟩
  have HM : Hid (¬ (nm ≠ n ∨ nr ≠ n)) := hm
  have hm1 : nm = n := by omega
  have hm2 : nm = nr := by omega
  subst hm1
  subst hm2
  have a3 : ((nm : Int) != (nm : Int)) = false := by simp
  clear hm
  go_enter Try.func12, Try.ntmps12
  go_wp2_with fail
  rw [← HW1.out]
  clear x0 x1 x2
  go_loop [4] (fun i => ∃ k : Nat, k ≤ nm ∧ i = .int .i64 k ∧ ∀ j, j < k → plE zo zm j = true) (fun i => nm - (intOf i).toNat)
  case atStart => exact ⟨0, Nat.zero_le _, rfl, fun j hj => by omega⟩
  case round =>
    obtain ⟨k, hk, rfl, hg⟩ := hrel
    have HJ : Hid (∀ j, j < k → plE zo zm j = true) := hg
    clear hg
    obtain ⟨x0, x1, x2⟩ := BX.out W1 (grown_refl _ _)
    by_cases hlt : k < nm
    · have hki : (k : Int) < (nm : Int) := by omega
      obtain ⟨b, off, rfl, hc⟩ := (H.out.grown G1.out).own.at (k := k) (by rw [HN.out.1]; exact hlt)
      obtain ⟨b', off', rfl, hc'⟩ := (H.out.grown G1.out).mark.at (k := k) (by rw [HN.out.2.1]; exact hlt)
      have hck := hc k (by rw [HN.out.1]; exact hlt)
      have hck' := hc' k (by rw [HN.out.2.1]; exact hlt)
      obtain ⟨q, hq⟩ : ∃ q, zo.getD k 0 = q := ⟨_, rfl⟩
      obtain ⟨mm, hmm⟩ : ∃ mm, zm.getD k 0 = mm := ⟨_, rfl⟩
      have HQ : Hid (zo.getD k 0 = q ∧ zm.getD k 0 = mm) := ⟨hq, hmm⟩
      rw [hq] at hck
      rw [hmm] at hck'
      have HBad : Hid (¬ ((q = 0 ∨ q = 1) ∧ 0 ≤ mm ∧ mm ≤ 9) → checkG zo zm R = 2) := fun e => by
        unfold checkG
        rw [HN.out.1, HN.out.2.1, HN.out.2.2, if_neg HS.out, if_neg HM.out, if_pos (all_no hlt (plE_no HQ.out.1 HQ.out.2 e))]
      have HGood : Hid (((q = 0 ∨ q = 1) ∧ 0 ≤ mm ∧ mm ≤ 9) → plE zo zm k = true) := fun e => plE_yes HQ.out.1 HQ.out.2 e
      clear hc hc' hq hmm
      by_cases e0 : q = 0 ∨ q = 1
      case neg =>
        have e1' : (q != 0) = true := by simp; omega
        have e2' : (q != 1) = true := by simp; omega
        have HB2 : Hid _ := HBad.out (by omega)
        clear HBad HGood e0
        go_wp2_with fail
        go_ret
        exact ⟨ret_int (by rw [← HZ.out, HB2.out]), G1.out⟩
      obtain ⟨b1, hb1⟩ : ∃ b1, (q != 0) = b1 := ⟨_, rfl⟩
      have e2' : b1 = true → (q != 1) = false := fun e => by rw [e] at hb1; simp at hb1 ⊢; omega
      by_cases e3 : mm < 0
      · have e3' : decide (mm < 0) = true := by simpa using e3
        have HB2 : Hid _ := HBad.out (by omega)
        clear HBad HGood
        cases b1 with
        | false =>
          clear e2'
          go_wp2_with fail
          go_ret
          exact ⟨ret_int (by rw [← HZ.out, HB2.out]), G1.out⟩
        | true =>
          have e2 := e2' rfl
          clear e2'
          go_wp2_with fail
          go_ret
          exact ⟨ret_int (by rw [← HZ.out, HB2.out]), G1.out⟩
      have e3' : decide (mm < 0) = false := by simpa using e3
      by_cases e4 : 9 < mm
      · have e4' : decide (9 < mm) = true := by simpa using e4
        have HB2 : Hid _ := HBad.out (by omega)
        clear HBad HGood
        cases b1 with
        | false =>
          clear e2'
          go_wp2_with fail
          go_ret
          exact ⟨ret_int (by rw [← HZ.out, HB2.out]), G1.out⟩
        | true =>
          have e2 := e2' rfl
          clear e2'
          go_wp2_with fail
          go_ret
          exact ⟨ret_int (by rw [← HZ.out, HB2.out]), G1.out⟩
      have e4' : decide (9 < mm) = false := by simpa using e4
      have HG2 : Hid _ := HGood.out (by omega)
      clear HBad HGood e0
      cases b1 with
      | false =>
        clear e2'
        go_wp2_with fail
        go_round
        case rel =>
          refine ⟨k + 1, by omega, by go_num, fun j hj => ?_⟩
          by_cases hjk : j = k
          · subst hjk; exact HG2.out
          · exact HJ.out j (by omega)
        case measure => simp [intOf]; omega
      | true =>
        have e2 := e2' rfl
        clear e2'
        go_wp2_with fail
        go_round
        case rel =>
          refine ⟨k + 1, by omega, by go_num, fun j hj => ?_⟩
          by_cases hjk : j = k
          · subst hjk; exact HG2.out
          · exact HJ.out j (by omega)
        case measure => simp [intOf]; omega
    · have HA : Hid ((List.range nm).all (plE zo zm) = true) := all_yes (fun p hp => HJ.out p (by omega))
      have HRows : Hid (checkG zo zm R = rowsE nm R) := by
        show _ = _
        unfold checkG
        rw [HN.out.1, HN.out.2.1, HN.out.2.2, if_neg HS.out, if_neg HM.out, if_neg (by rw [HA.out]; simp)]
      have hn60 : nm ≤ 60 := by omega
      go_wp2_with fail
      clear x0 x1 x2 HJ
      go_loopw [5] (fun i wr => ∃ k : Nat, k ≤ nm ∧ i = .int .i64 k ∧ (∀ j, j < k → rowE nm (R.getD j []) = 0) ∧ W1.grownBy wr none) (fun i _ => nm - (intOf i).toNat)
      case atStart => exact ⟨0, Nat.zero_le _, rfl, fun j hj => by omega, grown_refl _ _⟩
      case round =>
        obtain ⟨k, hk, rfl, hj, hg⟩ := hrel
        have HJ : Hid (∀ j, j < k → rowE nm (R.getD j []) = 0) := hj
        have GG : Hid (W1.grownBy wr none) := hg
        clear hj hg
        by_cases hlt : k < nm
        · have hki : (k : Int) < (nm : Int) := by omega
          obtain ⟨b, off, rfl, hc⟩ := (H.out.grown (grown_trans G1.out GG.out)).rows.at (k := k) (by rw [HN.out.2.2]; exact hlt)
          obtain ⟨x, d, hx1, hx2, hx3⟩ := hc k (by rw [HN.out.2.2]; exact hlt)
          have HBad : Hid (rowE nm (R.getD k []) ≠ 0 → checkG zo zm R = rowE nm (R.getD k [])) := fun e => by
            rw [HRows.out]; exact rowsE_bad (by rw [HN.out.2.2]; exact hlt) HJ.out e
          have HOn : Hid (rowE nm (R.getD k []) = 0 → ∀ j, j < k + 1 → rowE nm (R.getD j []) = 0) := fun e j hj => by
            by_cases hjk : j = k
            · subst hjk; exact e
            · exact HJ.out j (by omega)
          obtain ⟨l, hl⟩ : ∃ l, R.getD k [] = l := ⟨_, rfl⟩
          rw [hl] at hx1 hx2 hx3 HBad HOn
          have HI : Hid (∀ W, wr.grownBy W none → Ints W x l) := fun W hW => hx2.grown hW
          unfold maxLen at hx3
          obtain ⟨ln, hln⟩ : ∃ ln, l.length = ln := ⟨_, rfl⟩
          have HL : Hid (l.length = ln) := hln
          rw [hln] at hx1 hx3
          obtain ⟨x0, x1, x2⟩ := BX.out wr GG.out
          clear hc hl hln hx2 HJ
          by_cases h0 : ln = 0
          · have h0' : ((ln : Int) == 0) = true := beq_iff_eq.2 (by omega)
            have HE : Hid (rowE nm l = 6) := rowE_none (by rw [HL.out]; exact h0)
            go_wp2_with fail
            go_ret
            exact ⟨ret_int (by rw [← HZ.out, HBad.out (by rw [HE.out]; simp), HE.out]), grown_trans G1.out GG.out⟩
          have h0' : ((ln : Int) == 0) = false := beq_eq_false_iff_ne.2 (by omega)
          go_wp2_with fail
          clear x0 x1 x2 hx1
          go_loop [7] (fun i => ∃ t : Nat, t ≤ ln ∧ i = .int .i64 t ∧ ∀ j, j < t → 0 ≤ l.getD j 0 ∧ l.getD j 0 < nm) (fun i => ln - (intOf i).toNat)
          case atStart => exact ⟨0, Nat.zero_le _, rfl, fun j hj => by omega⟩
          case round =>
            obtain ⟨t, ht, rfl, hg⟩ := hrel
            have HJ : Hid (∀ j, j < t → 0 ≤ l.getD j 0 ∧ l.getD j 0 < nm) := hg
            clear hg
            by_cases hlt2 : t < ln
            · have hkl : t < l.length := by rw [HL.out]; exact hlt2
              have hti : (t : Int) < (ln : Int) := by omega
              obtain ⟨b, off, rfl, hc⟩ := (HI.out wr (grown_refl _ _)).at hkl
              have hck := hc t hkl
              obtain ⟨q, hq⟩ : ∃ q, l.getD t 0 = q := ⟨_, rfl⟩
              have HX : Hid (l.getD t 0 = q) := hq
              rw [hq] at hck
              clear hc hq
              by_cases g0 : q < 0
              · have g0' : decide (q < 0) = true := by simpa using g0
                have HE : Hid (rowE nm l = 2) := rowE_out (by rw [HL.out]; exact h0) hkl (by rw [HX.out]; omega)
                go_wp2_with fail
                go_ret
                exact ⟨ret_int (by rw [← HZ.out, HBad.out (by rw [HE.out]; simp), HE.out]), grown_trans G1.out GG.out⟩
              · have g0' : decide (q < 0) = false := by simpa using g0
                by_cases g1 : (nm : Int) ≤ q
                · have g1' : decide ((nm : Int) ≤ q) = true := by simpa using g1
                  have HE : Hid (rowE nm l = 2) := rowE_out (by rw [HL.out]; exact h0) hkl (by rw [HX.out]; omega)
                  go_wp2_with fail
                  go_ret
                  exact ⟨ret_int (by rw [← HZ.out, HBad.out (by rw [HE.out]; simp), HE.out]), grown_trans G1.out GG.out⟩
                · have g1' : decide ((nm : Int) ≤ q) = false := by simpa using g1
                  go_wp2_with fail
                  go_round
                  case rel =>
                    refine ⟨t + 1, by omega, by go_num, fun j hj => ?_⟩
                    by_cases hjk : j = t
                    · subst hjk; rw [HX.out]; omega
                    · exact HJ.out j (by omega)
                  case measure => simp [intOf]; omega
            · have HIn : Hid (∀ k, k < l.length → 0 ≤ l.getD k 0 ∧ l.getD k 0 < nm) := fun j hj => HJ.out j (by have := HL.out; omega)
              clear HJ
              go_wp2_with fail
              obtain ⟨wx, hwx⟩ : ∃ wx, wr = wx := ⟨_, rfl⟩
              have HWx : Hid (wr = wx) := hwx
              rw [hwx] at HI GG ⊢
              clear hwx
              go_loopw [8] (fun i wr => ∃ t : Nat, 1 ≤ t ∧ t ≤ ln ∧ i = .int .i64 t ∧ (∀ j, 1 ≤ j → j < t → l.getD (j - 1) 0 < l.getD j 0) ∧ wx.grownBy wr none) (fun i _ => ln - (intOf i).toNat)
              case atStart => exact ⟨1, Nat.le_refl _, by omega, rfl, fun j hj hj' => by omega, grown_refl _ _⟩
              case round =>
                obtain ⟨t, ht1, ht, rfl, hj, hg⟩ := hrel
                have HJ : Hid (∀ j, 1 ≤ j → j < t → l.getD (j - 1) 0 < l.getD j 0) := hj
                rename World => wy
                have GY : Hid (wx.grownBy wy none) := hg
                clear hj hg
                by_cases hlt3 : t < ln
                · have hkl : t < l.length := by rw [HL.out]; exact hlt3
                  have hki3 : (t : Int) < (ln : Int) := by omega
                  obtain ⟨b, off, rfl, hc⟩ := (HI.out wy GY.out).at hkl
                  obtain ⟨k', rfl⟩ : ∃ k', t = k' + 1 := ⟨t - 1, by omega⟩
                  have hc1 := hc (k' + 1) hkl
                  have hc0 := hc k' (by omega)
                  have HB3 : Hid (l.getD (k' + 1) 0 ≤ l.getD k' 0 → rowE nm l = 3) := fun e => rowE_shape HIn.out ht1 hkl (by simp only [Nat.add_sub_cancel]; omega)
                  have w1 : IntKind.i64.wrap ((k' : Int) + 1 - 1) = (k' : Int) := by rw [IntKind.wrap_i64]; omega
                  have hkk : ((k' : Int) + 1 - 1) = (k' : Int) := by omega
                  have hki' : (k' : Int) < (ln : Int) := by omega
                  obtain ⟨q1, hq1⟩ : ∃ q1, l.getD (k' + 1) 0 = q1 := ⟨_, rfl⟩
                  obtain ⟨q0, hq0⟩ : ∃ q0, l.getD k' 0 = q0 := ⟨_, rfl⟩
                  have HQ : Hid (l.getD (k' + 1) 0 = q1 ∧ l.getD k' 0 = q0) := ⟨hq1, hq0⟩
                  rw [hq1] at hc1 HB3
                  rw [hq0] at hc0 HB3
                  clear hc hq1 hq0
                  by_cases e : q1 ≤ q0
                  · have e' : decide (q1 ≤ q0) = true := by simpa using e
                    have HE : Hid _ := HB3.out e
                    clear HB3 e
                    push_cast at *
                    go_wp2_with fail
                    go_quiet (fail)
                    go_wp2_with fail
                    go_ret
                    exact ⟨ret_int (by rw [← HZ.out, HBad.out (by rw [HE.out]; simp), HE.out]), grown_drewN (grown_trans (grown_trans G1.out GG.out) GY.out) _⟩
                  · have e' : decide (q1 ≤ q0) = false := by simpa using e
                    have HC2 : Hid (¬ q1 ≤ q0) := e
                    clear HB3 e
                    push_cast at *
                    go_wp2_with fail
                    go_quiet (fail)
                    go_wp2_with fail
                    go_roundw
                    case rel =>
                      refine ⟨k' + 1 + 1, by omega, by omega, by go_num, fun j hj1 hj2 => ?_, grown_drewN GY.out _⟩
                      by_cases ej : j = k' + 1
                      · subst ej
                        simp only [Nat.add_sub_cancel]
                        rw [HQ.out.1, HQ.out.2]
                        have := HC2.out
                        omega
                      · exact HJ.out j hj1 (by omega)
                    case measure => simp [intOf]; omega
                · have hki3 : ¬ (t : Int) < (ln : Int) := by omega
                  have HG0 : Hid (rowE nm l = 0) := rowE_good (by rw [HL.out]; exact h0) HIn.out (fun j hj1 hj2 => HJ.out j hj1 (by have := HL.out; omega))
                  have HOn2 : Hid _ := HOn.out HG0.out
                  go_wp2_with fail
                  go_roundw
                  case rel => exact ⟨k + 1, by omega, by go_num, HOn2.out, grown_trans GG.out GY.out⟩
                  case measure => simp [intOf]; omega
        · have hki : ¬ (k : Int) < (nm : Int) := by omega
          have HG : Hid (checkG zo zm R = 0) := by show _ = _; rw [HRows.out]; exact rowsE_good (fun i hi => HJ.out i (by rw [HN.out.2.2] at hi; omega))
          go_wp2_with fail
          go_ret
          exact ⟨ret_int (by rw [← HZ.out, HG.out]), grown_trans G1.out GG.out⟩

end Go.Proofs.Ytlnlgjbpkjfbjaa
