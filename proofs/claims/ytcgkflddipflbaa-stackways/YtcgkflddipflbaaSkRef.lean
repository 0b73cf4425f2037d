/- The reference's Check and Config of stacks. (Written by wip/tools/skref.py.) -/
import Derived.Test.YtcgkflddipflbaaSkSpec
namespace Go.Proofs.Ytcgkflddipflbaa
open Go.RowKit
set_option linter.unusedVariables false

set_option maxHeartbeats 6400000 in
set_option maxRecDepth 100000 in
theorem checkSkR_any (a : Option Addr) (c : Nat) (L : List Psh) (w : World) (h : PushAt w a L) (hm : L.length ≤ maxLen) :
    Calls Try.prog 21 #[.slice a L.length c] w (Says (.int .i64 (checkSk L)) w) := by
  unfold maxLen at hm
  have HZ : Hid (PushAt w a L) := h
  have R1 : Hid (8 < L.length → checkSk L = 1) := checkSk_long
  have R2 : Hid (¬ 8 < L.length → ¬ PutsSk L → checkSk L = 1) := checkSk_put
  have R3 : Hid (¬ 8 < L.length → PutsSk L → ¬ NumsSk L → checkSk L = 2) := checkSk_num
  have R4 : Hid (¬ 8 < L.length → PutsSk L → NumsSk L → checkSk L = 0) := checkSk_ok
  generalize checkSk L = z at *
  obtain ⟨n, hn⟩ : ∃ n, L.length = n := ⟨_, rfl⟩
  have HN : Hid (L.length = n) := hn
  rw [hn] at hm R1 R2 R3 R4 ⊢
  clear h hn
  by_cases h8 : 8 < n
  · have e1 : decide ((8 : Int) < (n : Int)) = true := by simp; omega
    have Hz : Hid (z = 1) := R1.out h8
    clear R1 R2 R3 R4 h8
    go_enter Try.func21, Try.ntmps21
    go_wp2_with fail
    go_ret
    exact ⟨ret_int Hz.out.symm, grown_refl _ _⟩
  have e1 : decide ((8 : Int) < (n : Int)) = false := by simp; omega
  have HP2 : Hid _ := R2.out h8
  have HP3 : Hid _ := R3.out h8
  have HP4 : Hid _ := R4.out h8
  clear h8 R1 R2 R3 R4
  go_enter Try.func21, Try.ntmps21
  go_wp2_with fail
  clear e1
  go_loop [3] (fun v => ∃ k : Nat, k ≤ n ∧ v = .int .i64 k ∧ ∀ j, j < k → (L.getD j pu0).P.length ≤ 2) (fun v => n - (intOf v).toNat)
  case atStart => exact ⟨0, Nat.zero_le _, rfl, fun j hj => by omega⟩
  case round =>
    obtain ⟨k, hk, rfl, hg⟩ := hrel
    have HJ : Hid (∀ j, j < k → (L.getD j pu0).P.length ≤ 2) := hg
    clear hg
    by_cases hlt : k < n
    · have hlt' : k < L.length := by rw [HN.out]; exact hlt
      obtain ⟨bb, off, rfl, hc⟩ := HZ.out.at hlt'
      obtain ⟨y0, y1, y2, ap, cp, y3, y4, y5⟩ := hc k hlt'
      have hki : (k : Int) < (n : Int) := by omega
      have HNo : Hid (¬ (L.getD k pu0).P.length ≤ 2 → ¬ PutsSk L) := fun hx e => hx (e k hlt')
      have HYes : Hid ((L.getD k pu0).P.length ≤ 2 → ∀ j, j < k + 1 → (L.getD j pu0).P.length ≤ 2) := fun hx j hj => by
        by_cases e : j = k
        · subst e; exact hx
        · exact HJ.out j (by omega)
      clear hc y4 y0 y1 y2
      generalize L.getD k pu0 = x at *
      obtain ⟨a0, a1, a2, a3⟩ := x
      simp only at y3 y5
      unfold maxLen at y5
      generalize a3.length = n3 at *
      by_cases e2 : 2 < n3
      · have e3 : decide ((2 : Int) < (n3 : Int)) = true := by simp; omega
        have Hz : Hid (z = 1) := HP2.out (HNo.out (by omega))
        clear HNo HYes e2
        go_wp2_with fail
        go_ret
        exact ⟨ret_int Hz.out.symm, grown_refl _ _⟩
      · have e3 : decide ((2 : Int) < (n3 : Int)) = false := by simp; omega
        have HT2 : Hid _ := HYes.out (by omega)
        clear HNo HYes e2
        go_wp2_with fail
        go_round
        case rel => exact ⟨k + 1, by omega, by go_num, HT2.out⟩
        case measure => simp [intOf]; omega
    · have hki : ¬ (k : Int) < (n : Int) := by omega
      have PU : Hid (PutsSk L) := fun i hi => HJ.out i (by have := HN.out; omega)
      have HP5 : Hid _ := HP3.out PU.out
      have HP6 : Hid _ := HP4.out PU.out
      clear HP2 HP3 HP4 PU HJ
      go_wp2_with fail
      go_loopw [4] (fun v wr => ∃ k : Nat, k ≤ n ∧ v = .int .i64 k ∧ w.grownBy wr none ∧ ∀ j, j < k → PshSk (L.getD j pu0)) (fun v _ => n - (intOf v).toNat)
      case atStart => exact ⟨0, Nat.zero_le _, rfl, grown_refl _ _, fun j hj => by omega⟩
      case round =>
        clear hki hk
        obtain ⟨k, hk, rfl, hgw, hg⟩ := hrel
        have HJ : Hid (∀ j, j < k → PshSk (L.getD j pu0)) := hg
        have G : Hid (w.grownBy wr none) := hgw
        clear hg
        by_cases hlt : k < n
        · have hlt' : k < L.length := by rw [HN.out]; exact hlt
          obtain ⟨bb, off, rfl, hc⟩ := (HZ.out.grown hgw).at hlt'
          obtain ⟨y0, y1, y2, ap, cp, y3, y4, y5⟩ := hc k hlt'
          have hki : (k : Int) < (n : Int) := by omega
          have HNo : Hid (¬ PshSk (L.getD k pu0) → z = 2) := fun hx => HP5.out (fun e => hx (e k hlt'))
          have HYes : Hid (PshSk (L.getD k pu0) → ∀ j, j < k + 1 → PshSk (L.getD j pu0)) := fun hx j hj => by
            by_cases e : j = k
            · subst e; exact hx
            · exact HJ.out j (by omega)
          clear hc
          generalize L.getD k pu0 = x at *
          obtain ⟨a0, a1, a2, a3⟩ := x
          have HE : Hid (PshSk ⟨a0, a1, a2, a3⟩ ↔ (0 ≤ a0 ∧ a0 < 3) ∧ (0 ≤ a1 ∧ a1 < 3) ∧ (0 ≤ a2 ∧ a2 < 3) ∧ OnesSk a3) := by
            show PshSk _ ↔ _
            simp only [PshSk, oneSk_iff]
          simp only at y0 y1 y2 y3 y4 y5
          generalize PshSk ⟨a0, a1, a2, a3⟩ = PP at *
          unfold maxLen at y5
          have HI : Hid (Ints wr ap a3) := y4
          obtain ⟨n3, hn3⟩ : ∃ n3, a3.length = n3 := ⟨_, rfl⟩
          have HN3 : Hid (a3.length = n3) := hn3
          rw [hn3] at y3 y5
          clear y4 hn3
          obtain ⟨Wb, hWb, gb, sb, bx⟩ := box4s_new wr (.int .i64 a0) (.int .i64 a1) (.int .i64 a2) (.slice ap n3 cp) 43
          obtain ⟨t0, t1, t2, t3⟩ := bx Wb (grown_refl _ _)
          have HWb : Hid (Wb = _) := hWb
          have GB : Hid (w.grownBy Wb none) := grown_trans hgw gb
          have HI2 : Hid (Ints Wb ap a3) := HI.out.grown gb
          have BX : Hid (Wb.cell? ⟨wr.heap.size, 3, none⟩ = some (.slice ap n3 cp)) := t3
          clear sb bx gb hgw HI t0 t1 t2 t3 hWb
          by_cases ca0l : a0 < 0
          case pos =>
            have da0l : decide (a0 < 0) = true := by simpa using ca0l
            have Hz : Hid (z = 2) := HNo.out (fun e => by have := HE.out.1 e; omega)
            clear HNo HYes HE HP5 HP6
            go_wp2_with fail
            rw [← HWb.out]
            go_ret
            exact ⟨ret_int Hz.out.symm, GB.out⟩
          have da0l : decide (a0 < 0) = false := by simpa using ca0l
          by_cases ca0g : 2 < a0
          case pos =>
            have da0g : decide (2 < a0) = true := by simpa using ca0g
            have Hz : Hid (z = 2) := HNo.out (fun e => by have := HE.out.1 e; omega)
            clear HNo HYes HE HP5 HP6
            go_wp2_with fail
            rw [← HWb.out]
            go_ret
            exact ⟨ret_int Hz.out.symm, GB.out⟩
          have da0g : decide (2 < a0) = false := by simpa using ca0g
          by_cases ca1l : a1 < 0
          case pos =>
            have da1l : decide (a1 < 0) = true := by simpa using ca1l
            have Hz : Hid (z = 2) := HNo.out (fun e => by have := HE.out.1 e; omega)
            clear HNo HYes HE HP5 HP6
            go_wp2_with fail
            rw [← HWb.out]
            go_ret
            exact ⟨ret_int Hz.out.symm, GB.out⟩
          have da1l : decide (a1 < 0) = false := by simpa using ca1l
          by_cases ca1g : 2 < a1
          case pos =>
            have da1g : decide (2 < a1) = true := by simpa using ca1g
            have Hz : Hid (z = 2) := HNo.out (fun e => by have := HE.out.1 e; omega)
            clear HNo HYes HE HP5 HP6
            go_wp2_with fail
            rw [← HWb.out]
            go_ret
            exact ⟨ret_int Hz.out.symm, GB.out⟩
          have da1g : decide (2 < a1) = false := by simpa using ca1g
          by_cases ca2l : a2 < 0
          case pos =>
            have da2l : decide (a2 < 0) = true := by simpa using ca2l
            have Hz : Hid (z = 2) := HNo.out (fun e => by have := HE.out.1 e; omega)
            clear HNo HYes HE HP5 HP6
            go_wp2_with fail
            rw [← HWb.out]
            go_ret
            exact ⟨ret_int Hz.out.symm, GB.out⟩
          have da2l : decide (a2 < 0) = false := by simpa using ca2l
          by_cases ca2g : 2 < a2
          case pos =>
            have da2g : decide (2 < a2) = true := by simpa using ca2g
            have Hz : Hid (z = 2) := HNo.out (fun e => by have := HE.out.1 e; omega)
            clear HNo HYes HE HP5 HP6
            go_wp2_with fail
            rw [← HWb.out]
            go_ret
            exact ⟨ret_int Hz.out.symm, GB.out⟩
          have da2g : decide (2 < a2) = false := by simpa using ca2g
          have HNo2 : Hid (¬ OnesSk a3 → z = 2) := fun hx => HNo.out (fun e => hx (HE.out.1 e).2.2.2)
          have HYes2 : Hid (OnesSk a3 → ∀ j, j < k + 1 → PshSk (L.getD j pu0)) := fun hx => HYes.out (HE.out.2 ⟨by omega, by omega, by omega, hx⟩)
          clear HNo HYes HE HP5 HP6 ca0l ca0g ca1l ca1g ca2l ca2g
          go_wp2_with fail
          rw [← HWb.out]
          clear y0 y1 y2 y3 da0l da0g da1l da1g da2l da2g
          go_loop [6] (fun v => ∃ q : Nat, q ≤ n3 ∧ v = .int .i64 q ∧ ∀ j, j < q → oneSk (a3.getD j 0) = true) (fun v => n3 - (intOf v).toNat)
          case atStart => exact ⟨0, Nat.zero_le _, rfl, fun j hj => by omega⟩
          case round =>
            obtain ⟨q, hq, rfl, hg⟩ := hrel
            have HJq : Hid (∀ j, j < q → oneSk (a3.getD j 0) = true) := hg
            clear hg
            have t3 := BX.out
            by_cases hltq : q < n3
            · have hqi : (q : Int) < (n3 : Int) := by omega
              obtain ⟨bp, op, rfl, hcp⟩ := HI2.out.at (k := q) (by rw [HN3.out]; exact hltq)
              have hcq := hcp q (by rw [HN3.out]; exact hltq)
              have HNq : Hid (oneSk (a3.getD q 0) = false → z = 2) := fun hx => HNo2.out (fun e => by have := e q (by rw [HN3.out]; exact hltq); rw [hx] at this; cases this)
              have HYq : Hid (oneSk (a3.getD q 0) = true → ∀ j, j < q + 1 → oneSk (a3.getD j 0) = true) := fun hx j hj => by
                by_cases e : j = q
                · subst e; exact hx
                · exact HJq.out j (by omega)
              clear hcp
              generalize a3.getD q 0 = v at *
              by_cases c1 : v < 0
              · have d1 : decide (v < 0) = true := by simpa using c1
                have Hz : Hid (z = 2) := HNq.out (by simp [oneSk]; omega)
                clear HNq HYq c1
                go_wp2_with fail
                go_ret
                exact ⟨ret_int Hz.out.symm, GB.out⟩
              have d1 : decide (v < 0) = false := by simpa using c1
              by_cases c2 : 2 < v
              · have d2 : decide (2 < v) = true := by simpa using c2
                have Hz : Hid (z = 2) := HNq.out (by simp [oneSk]; omega)
                clear HNq HYq c1 c2
                go_wp2_with fail
                go_ret
                exact ⟨ret_int Hz.out.symm, GB.out⟩
              have d2 : decide (2 < v) = false := by simpa using c2
              have HT : Hid _ := HYq.out (by simp [oneSk]; omega)
              clear HNq HYq c1 c2
              go_wp2_with fail
              go_round
              case rel => exact ⟨q + 1, by omega, by go_num, HT.out⟩
              case measure => simp [intOf]; omega
            · have hqi : ¬ (q : Int) < (n3 : Int) := by omega
              have HT : Hid _ := HYes2.out (fun i hi => HJq.out i (by have := HN3.out; omega))
              go_wp2_with fail
              go_roundw
              case rel => exact ⟨k + 1, by omega, by go_num, GB.out, HT.out⟩
              case measure => simp [intOf]; omega
        · have hki : ¬ (k : Int) < (n : Int) := by omega
          have Hz : Hid (z = 0) := HP6.out (fun i hi => HJ.out i (by have := HN.out; omega))
          go_wp2_with fail
          go_ret
          exact ⟨ret_int Hz.out.symm, G.out⟩

set_option maxHeartbeats 3200000 in
theorem cfgSkR_any (c : Cfg) (a : Option Addr) (k : Nat) (w : World) (h : Ints w a c.2) (hm : c.2.length ≤ maxLen) :
    Calls Try.prog 22 #[cfgV c.1 a c.2.length k] w (Says (.int .i64 (cfgSk c)) w) := by
  unfold maxLen at hm
  obtain ⟨a0, a3⟩ := c
  have K1 : Hid (20 < a3.length → cfgSk (a0, a3) = 1) := cfgSk_long (c := (a0, a3))
  have K2 : Hid (¬ 20 < a3.length → ¬ (0 ≤ a0 ∧ a0 < 3) → cfgSk (a0, a3) = 2) := fun h1 h2 => cfgSk_one (c := (a0, a3)) h1 (by show oneSk a0 = false; simp [oneSk]; omega)
  have K3 : Hid (¬ 20 < a3.length → ¬ OnesSk a3 → cfgSk (a0, a3) = 2) := cfgSk_num (c := (a0, a3))
  have K4 : Hid (¬ 20 < a3.length → (0 ≤ a0 ∧ a0 < 3) → OnesSk a3 → cfgSk (a0, a3) = 0) := fun h1 h2 h3 => cfgSk_ok (c := (a0, a3)) h1 ((oneSk_iff _).2 h2) h3
  generalize cfgSk (a0, a3) = z at *
  simp only at h hm ⊢
  obtain ⟨n3, hn3⟩ : ∃ n3, a3.length = n3 := ⟨_, rfl⟩
  have HN3 : Hid (a3.length = n3) := hn3
  rw [hn3] at hm K1 K2 K3 K4 ⊢
  obtain ⟨Wb, hWb, gb, sb, bx⟩ := box2_new w (.int .i64 a0) (.slice a n3 k) 25
  obtain ⟨t0, t1⟩ := bx Wb (grown_refl _ _)
  have HWb : Hid (Wb = _) := hWb
  have GB : Hid (w.grownBy Wb none) := gb
  have HI2 : Hid (Ints Wb a a3) := h.grown gb
  have BX : Hid (Wb.cell? ⟨w.heap.size, 1, none⟩ = some (.slice a n3 k)) := t1
  rw [hWb] at t0 t1
  clear h hn3 hWb gb sb bx
  by_cases c20 : 20 < n3
  · have d20 : decide ((20 : Int) < (n3 : Int)) = true := by simp; omega
    have Hz : Hid (z = 1) := K1.out c20
    clear K1 K2 K3 K4 c20
    go_enter Try.func22, Try.ntmps22
    go_wp2_with fail
    rw [← HWb.out]
    go_ret
    exact ⟨ret_int Hz.out.symm, GB.out⟩
  have d20 : decide ((20 : Int) < (n3 : Int)) = false := by simp; omega
  have L2 : Hid _ := K2.out c20
  have L3 : Hid _ := K3.out c20
  have L4 : Hid _ := K4.out c20
  clear K1 K2 K3 K4 c20
  by_cases c1 : a0 < 0
  · have d1 : decide (a0 < 0) = true := by simpa using c1
    have Hz : Hid (z = 2) := L2.out (by omega)
    clear L2 L3 L4 c1
    go_enter Try.func22, Try.ntmps22
    go_wp2_with fail
    rw [← HWb.out]
    go_ret
    exact ⟨ret_int Hz.out.symm, GB.out⟩
  have d1 : decide (a0 < 0) = false := by simpa using c1
  by_cases c2 : 2 < a0
  · have d2 : decide (2 < a0) = true := by simpa using c2
    have Hz : Hid (z = 2) := L2.out (by omega)
    clear L2 L3 L4 c1 c2
    go_enter Try.func22, Try.ntmps22
    go_wp2_with fail
    rw [← HWb.out]
    go_ret
    exact ⟨ret_int Hz.out.symm, GB.out⟩
  have d2 : decide (2 < a0) = false := by simpa using c2
  have L5 : Hid _ := L4.out (by omega)
  clear L2 L4 c1 c2
  go_enter Try.func22, Try.ntmps22
  go_wp2_with fail
  rw [← HWb.out]
  clear t0 t1 d1 d2 d20
  go_loop [3] (fun v => ∃ q : Nat, q ≤ n3 ∧ v = .int .i64 q ∧ ∀ j, j < q → oneSk (a3.getD j 0) = true) (fun v => n3 - (intOf v).toNat)
  case atStart => exact ⟨0, Nat.zero_le _, rfl, fun j hj => by omega⟩
  case round =>
    obtain ⟨q, hq, rfl, hg⟩ := hrel
    have HJq : Hid (∀ j, j < q → oneSk (a3.getD j 0) = true) := hg
    clear hg
    have t3 := BX.out
    by_cases hltq : q < n3
    · have hqi : (q : Int) < (n3 : Int) := by omega
      obtain ⟨bp, op, rfl, hcp⟩ := HI2.out.at (k := q) (by rw [HN3.out]; exact hltq)
      have hcq := hcp q (by rw [HN3.out]; exact hltq)
      have HNq : Hid (oneSk (a3.getD q 0) = false → z = 2) := fun hx => L3.out (fun e => by have := e q (by rw [HN3.out]; exact hltq); rw [hx] at this; cases this)
      have HYq : Hid (oneSk (a3.getD q 0) = true → ∀ j, j < q + 1 → oneSk (a3.getD j 0) = true) := fun hx j hj => by
        by_cases e : j = q
        · subst e; exact hx
        · exact HJq.out j (by omega)
      clear hcp
      generalize a3.getD q 0 = v at *
      by_cases c1 : v < 0
      · have d1 : decide (v < 0) = true := by simpa using c1
        have Hz : Hid (z = 2) := HNq.out (by simp [oneSk]; omega)
        clear HNq HYq c1
        go_wp2_with fail
        go_ret
        exact ⟨ret_int Hz.out.symm, GB.out⟩
      have d1 : decide (v < 0) = false := by simpa using c1
      by_cases c2 : 2 < v
      · have d2 : decide (2 < v) = true := by simpa using c2
        have Hz : Hid (z = 2) := HNq.out (by simp [oneSk]; omega)
        clear HNq HYq c1 c2
        go_wp2_with fail
        go_ret
        exact ⟨ret_int Hz.out.symm, GB.out⟩
      have d2 : decide (2 < v) = false := by simpa using c2
      have HT : Hid _ := HYq.out (by simp [oneSk]; omega)
      clear HNq HYq c1 c2
      go_wp2_with fail
      go_round
      case rel => exact ⟨q + 1, by omega, by go_num, HT.out⟩
      case measure => simp [intOf]; omega
    · have hqi : ¬ (q : Int) < (n3 : Int) := by omega
      have Hz : Hid (z = 0) := L5.out (fun i hi => HJq.out i (by have := HN3.out; omega))
      go_wp2_with fail
      go_ret
      exact ⟨ret_int Hz.out.symm, GB.out⟩

end Go.Proofs.Ytcgkflddipflbaa
