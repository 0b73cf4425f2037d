/- The reference's check of a machine. -/
import Derived.Test.YtlnlgjbpkjfbjaaYCheck
namespace Go.Proofs.Ytlnlgjbpkjfbjaa
open Go.RowKit
set_option linter.unusedVariables false

set_option maxHeartbeats 6400000 in
set_option maxRecDepth 100000 in
theorem checkYR_any (m : Mch) (a b : Option Addr) (c d : Nat) (w : World) (h : MchAt w m a b) :
    Calls Try.prog 17 #[mchV m.F m.S a m.A.length c b m.N.length d] w (Says (.int .i64 (checkY m)) w) := by
  have H : Hid (MchAt w m a b) := h
  have la := h.ma
  have lb := h.mb
  unfold maxLen at la lb
  obtain ⟨z, hz⟩ : ∃ z, checkY m = z := ⟨_, rfl⟩
  have HZ : Hid (checkY m = z) := hz
  rw [hz]
  obtain ⟨n, hno⟩ : ∃ n, m.A.length = n := ⟨_, rfl⟩
  obtain ⟨k, hnm⟩ : ∃ k, m.N.length = k := ⟨_, rfl⟩
  obtain ⟨F, hF⟩ : ∃ F, m.F = F := ⟨_, rfl⟩
  obtain ⟨S, hS⟩ : ∃ S, m.S = S := ⟨_, rfl⟩
  have HN : Hid (m.A.length = n ∧ m.N.length = k) := ⟨hno, hnm⟩
  have HF : Hid (m.F = F ∧ m.S = S) := ⟨hF, hS⟩
  rw [hno] at la ⊢
  rw [hnm] at lb ⊢
  rw [hF, hS]
  obtain ⟨W1, hW1, g1, s1, bx1⟩ := box4_new w (.bool F) (.int .i64 S) (.slice a n c) (.slice b k d) 24
  have G1 : Hid (w.grownBy W1 none) := g1
  have BX : Hid (∀ W', W1.grownBy W' none → W'.cell? ⟨w.heap.size, 0, none⟩ = some (.bool F) ∧ W'.cell? ⟨w.heap.size, 1, none⟩ = some (.int .i64 S) ∧ W'.cell? ⟨w.heap.size, 2, none⟩ = some (.slice a n c) ∧ W'.cell? ⟨w.heap.size, 3, none⟩ = some (.slice b k d)) := bx1
  obtain ⟨x0, x1, x2, x3⟩ := bx1 W1 (grown_refl _ _)
  have HW1 : Hid (W1 = w.alloc (.cells #[.bool F, .int .i64 S, .slice a n c, .slice b k d] 24)) := hW1
  rw [hW1] at x0 x1 x2 x3
  clear h hz hno hnm hF hS hW1 g1 s1 bx1
  by_cases hs : n < 1 ∨ 20000 < n ∨ k ≠ n
  · have HE : Hid (checkY m = 1) := checkY_size (by rw [HN.out.1, HN.out.2]; exact hs)
    by_cases h1 : n < 1
    · have a1 : decide ((n : Int) < 1) = true := by simp; omega
      go_enter Try.func17, Try.ntmps17
      go_wp2_with fail
      go_ret
      exact ⟨ret_int (by rw [← HZ.out, HE.out]), by rw [← HW1.out]; exact G1.out⟩
    have a1 : decide ((n : Int) < 1) = false := by simp; omega
    by_cases h2 : 20000 < n
    · have a2 : decide ((20000 : Int) < (n : Int)) = true := by simp; omega
      go_enter Try.func17, Try.ntmps17
      go_wp2_with fail
      go_ret
      exact ⟨ret_int (by rw [← HZ.out, HE.out]), by rw [← HW1.out]; exact G1.out⟩
    have a2 : decide ((20000 : Int) < (n : Int)) = false := by simp; omega
    have a3 : ((k : Int) != (n : Int)) = true := by simp; omega
    go_enter Try.func17, Try.ntmps17
    go_wp2_with fail
    go_ret
    exact ⟨ret_int (by rw [← HZ.out, HE.out]), by rw [← HW1.out]; exact G1.out⟩
  have a1 : decide ((n : Int) < 1) = false := by simp; omega
  have a2 : decide ((20000 : Int) < (n : Int)) = false := by simp; omega
  have hkn : k = n := by omega
  subst hkn
  have a3 : ((k : Int) != (k : Int)) = false := by simp
  have SH : Hid (Shp m k) := ⟨HN.out.1, HN.out.2, by omega, by omega⟩
  have hk2 : k ≤ 20000 := by omega
  clear hs
  by_cases hst : S < 0 ∨ (k : Int) ≤ S
  · have HE : Hid (checkY m = 2) := checkY_start SH.out (by rw [HF.out.2]; exact hst)
    by_cases h1 : S < 0
    · have a4 : decide (S < 0) = true := by simpa using h1
      go_enter Try.func17, Try.ntmps17
      go_wp2_with fail
      go_ret
      exact ⟨ret_int (by rw [← HZ.out, HE.out]), by rw [← HW1.out]; exact G1.out⟩
    have a4 : decide (S < 0) = false := by simpa using h1
    have a5 : decide ((k : Int) ≤ S) = true := by simp; omega
    go_enter Try.func17, Try.ntmps17
    go_wp2_with fail
    go_ret
    exact ⟨ret_int (by rw [← HZ.out, HE.out]), by rw [← HW1.out]; exact G1.out⟩
  have a4 : decide (S < 0) = false := by simp; omega
  have a5 : decide ((k : Int) ≤ S) = false := by simp; omega
  have RG : Hid (Rng m k) := ⟨SH.out, by rw [HF.out.2]; omega, by rw [HF.out.2]; omega⟩
  clear hst SH
  go_enter Try.func17, Try.ntmps17
  go_wp2_with fail
  rw [← HW1.out]
  clear x0 x1 x2 x3 a1 a2 a3 a4 a5
  go_loop [4] (fun i => ∃ q : Nat, q ≤ k ∧ i = .int .i64 q ∧ ∀ j, j < q → okY k m j 0 ∧ okY k m j 1) (fun i => k - (intOf i).toNat)
  case atStart => exact ⟨0, Nat.zero_le _, rfl, fun j hj => by omega⟩
  case round =>
    obtain ⟨q, hq, rfl, hg⟩ := hrel
    have HJ : Hid (∀ j, j < q → okY k m j 0 ∧ okY k m j 1) := hg
    clear hg
    by_cases hlt : q < k
    · have hki : (q : Int) < (k : Int) := by omega
      go_wp2_with fail
      go_loop [5] (fun i => ∃ x : Nat, x ≤ 2 ∧ i = .int .i64 x ∧ ∀ j, j < x → okY k m q j) (fun i => 2 - (intOf i).toNat)
      case atStart => exact ⟨0, Nat.zero_le _, rfl, fun j hj => by omega⟩
      case round =>
        obtain ⟨x, hx, rfl, hg⟩ := hrel
        have HX : Hid (∀ j, j < x → okY k m q j) := hg
        clear hg
        by_cases hx2 : x < 2
        · obtain ⟨x0, x1, x2, x3⟩ := BX.out W1 (grown_refl _ _)
          obtain ⟨ba, oa, rfl, hca⟩ := (H.out.grown G1.out).says.at (k := q) (by rw [HN.out.1]; exact hlt)
          obtain ⟨bb, ob, rfl, hcb⟩ := (H.out.grown G1.out).next.at (k := q) (by rw [HN.out.2]; exact hlt)
          obtain ⟨u0, u1⟩ := hca q (by rw [HN.out.1]; exact hlt)
          obtain ⟨v0, v1⟩ := hcb q (by rw [HN.out.2]; exact hlt)
          have cu : W1.cell? ⟨ba, oa + q * 2 + x, none⟩ = some (.int .i64 (pr2 (m.A.getD q (0, 0)) x)) := by
            rcases (by omega : x = 0 ∨ x = 1) with rfl | rfl
            · exact u0
            · exact u1
          have cv : W1.cell? ⟨bb, ob + q * 2 + x, none⟩ = some (.int .i64 (pr2 (m.N.getD q (0, 0)) x)) := by
            rcases (by omega : x = 0 ∨ x = 1) with rfl | rfl
            · exact v0
            · exact v1
          have HBad : Hid (¬ okY k m q x → checkY m = 2) := fun e => checkY_out RG.out hlt hx2 e
          obtain ⟨u, hu⟩ : ∃ u, pr2 (m.A.getD q (0, 0)) x = u := ⟨_, rfl⟩
          obtain ⟨v, hv⟩ : ∃ v, pr2 (m.N.getD q (0, 0)) x = v := ⟨_, rfl⟩
          have HO : Hid (okY k m q x ↔ 0 ≤ v ∧ v < k ∧ (u = 0 ∨ u = 1)) := okY_iff hu hv
          rw [hu] at cu
          rw [hv] at cv
          clear hu hv
          have hxi : (x : Int) < 2 := by omega
          clear u0 u1 v0 v1 hca hcb
          by_cases e1 : v < 0
          · have e1' : decide (v < 0) = true := by simpa using e1
            have HB2 : Hid _ := HBad.out (by rw [HO.out]; omega)
            clear HBad HO
            go_wp2_with fail
            go_ret
            exact ⟨ret_int (by rw [← HZ.out, HB2.out]), G1.out⟩
          have e1' : decide (v < 0) = false := by simpa using e1
          by_cases e2 : (k : Int) ≤ v
          · have e2' : decide ((k : Int) ≤ v) = true := by simpa using e2
            have HB2 : Hid _ := HBad.out (by rw [HO.out]; omega)
            clear HBad HO
            go_wp2_with fail
            go_ret
            exact ⟨ret_int (by rw [← HZ.out, HB2.out]), G1.out⟩
          have e2' : decide ((k : Int) ≤ v) = false := by simpa using e2
          by_cases e3 : u < 0
          · have e3' : decide (u < 0) = true := by simpa using e3
            have HB2 : Hid _ := HBad.out (by rw [HO.out]; omega)
            clear HBad HO
            go_wp2_with fail
            go_ret
            exact ⟨ret_int (by rw [← HZ.out, HB2.out]), G1.out⟩
          have e3' : decide (u < 0) = false := by simpa using e3
          by_cases e4 : 1 < u
          · have e4' : decide (1 < u) = true := by simpa using e4
            have HB2 : Hid _ := HBad.out (by rw [HO.out]; omega)
            clear HBad HO
            go_wp2_with fail
            go_ret
            exact ⟨ret_int (by rw [← HZ.out, HB2.out]), G1.out⟩
          · have e4' : decide (1 < u) = false := by simpa using e4
            have HG : Hid (okY k m q x) := HO.out.2 ⟨by omega, by omega, by omega⟩
            clear HBad HO
            go_wp2_with fail
            go_round
            case rel =>
              refine ⟨x + 1, by omega, by go_num, fun j hj => ?_⟩
              by_cases e : j = x
              · subst e; exact HG.out
              · exact HX.out j (by omega)
            case measure => simp [intOf]; omega
        · have hxi : ¬ (x : Int) < 2 := by omega
          go_wp2_with fail
          go_round
          case rel =>
            refine ⟨q + 1, by omega, by go_num, fun j hj => ?_⟩
            by_cases e : j = q
            · subst e; exact ⟨HX.out 0 (by omega), HX.out 1 (by omega)⟩
            · exact HJ.out j (by omega)
          case measure => simp [intOf]; omega
    · have hki : ¬ (q : Int) < (k : Int) := by omega
      have HA : Hid (∀ j, j < k → okY k m j 0 ∧ okY k m j 1) := fun j hj => HJ.out j (by omega)
      obtain ⟨x0, x1, x2, x3⟩ := BX.out W1 (grown_refl _ _)
      go_wp2_with fail
      clear x0 x1 x2 x3 HJ
      go_loopw [6] (fun i wr => ∃ j : Nat, j ≤ k ∧ i = .int .i64 j ∧ (F = true → ∀ i, i < j → (m.A.getD i (0, 0)).1 = (m.A.getD i (0, 0)).2) ∧ W1.grownBy wr none) (fun i _ => k - (intOf i).toNat)
      case atStart => exact ⟨0, Nat.zero_le _, rfl, fun _ j hj => by omega, grown_refl _ _⟩
      case round =>
        rename World => wr
        obtain ⟨j, hj, rfl, hE, hg⟩ := hrel
        have HE : Hid (F = true → ∀ i, i < j → (m.A.getD i (0, 0)).1 = (m.A.getD i (0, 0)).2) := hE
        have GG : Hid (W1.grownBy wr none) := hg
        clear hE hg
        by_cases hlt : j < k
        · have hji : (j : Int) < (k : Int) := by omega
          obtain ⟨ba, oa, rfl, hca⟩ := (H.out.grown (grown_trans G1.out GG.out)).says.at (k := j) (by rw [HN.out.1]; exact hlt)
          obtain ⟨u0, u1⟩ := hca j (by rw [HN.out.1]; exact hlt)
          obtain ⟨x0, x1, x2, x3⟩ := BX.out wr GG.out
          have HBad : Hid (F = true → (m.A.getD j (0, 0)).1 ≠ (m.A.getD j (0, 0)).2 → checkY m = 3) := fun e1 e2 => checkY_shape RG.out HA.out (by rw [HF.out.1]; exact e1) hlt e2
          have HNext : Hid (∀ p, m.A.getD j (0, 0) = p → (F = true → p.1 = p.2) → F = true → ∀ i, i < j + 1 → (m.A.getD i (0, 0)).1 = (m.A.getD i (0, 0)).2) := fun p hp hpp hFF i hi => by
            by_cases e : i = j
            · subst e; rw [hp]; exact hpp hFF
            · exact HE.out hFF i (by omega)
          obtain ⟨⟨p0, p1⟩, hp⟩ : ∃ p, m.A.getD j (0, 0) = p := ⟨_, rfl⟩
          rw [hp] at u0 u1 HBad
          have HNx2 : Hid _ := HNext.out _ hp
          clear HNext hp hca HE
          cases F with
          | false =>
            go_wp2_with fail
            go_quiet (fail)
            go_wp2_with fail
            go_roundw
            case rel => exact ⟨j + 1, by omega, by go_num, HNx2.out (by simp), grown_drewN GG.out _⟩
            case measure => simp [intOf]; omega
          | true =>
            by_cases hpp : p0 = p1
            · have hpp' : (p0 != p1) = false := by simpa using hpp
              have HP : Hid (p0 = p1) := hpp
              clear hpp
              go_wp2_with fail
              go_quiet (fail)
              go_wp2_with fail
              go_roundw
              case rel => exact ⟨j + 1, by omega, by go_num, fun _ => HNx2.out (fun _ => HP.out) (by simp), grown_drewN GG.out _⟩
              case measure => simp [intOf]; omega
            · have hpp' : (p0 != p1) = true := by simpa using hpp
              have HB2 : Hid _ := HBad.out rfl hpp
              clear HBad hpp
              go_wp2_with fail
              go_quiet (fail)
              go_wp2_with fail
              go_ret
              exact ⟨ret_int (by rw [← HZ.out, HB2.out]), grown_drewN (grown_trans G1.out GG.out) _⟩
        · have hji : ¬ (j : Int) < (k : Int) := by omega
          have HB : Hid (checkY m = 0) := checkY_ok RG.out HA.out (fun e i hi => HE.out (by rw [← HF.out.1]; exact e) i (by omega))
          go_wp2_with fail
          go_ret
          exact ⟨ret_int (by rw [← HZ.out, HB.out]), grown_trans G1.out GG.out⟩

end Go.Proofs.Ytlnlgjbpkjfbjaa
