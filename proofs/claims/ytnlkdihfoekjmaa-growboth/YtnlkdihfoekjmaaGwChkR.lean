/- What is wrong with an automaton of trees without an end: the reference's Check. (Written by wip/tools/gwcheckr.py.) -/
import Derived.Test.YtnlkdihfoekjmaaGwChk
import Derived.Test.YtnlkdihfoekjmaaTrAhead
namespace Go.Proofs.Ytnlkdihfoekjmaa
open Go.RowKit
set_option linter.unusedVariables false

set_option maxHeartbeats 12800000 in
set_option maxRecDepth 100000 in
theorem checkWR_any (x : Trs) (b e : Option Addr) (d f : Nat) (w : World) (h : TrsAt w x b e) :
    Calls Try.prog 8 #[trsV x.L x.N b x.R.length d x.S e x.M.length f] w (Says (.int .i64 (checkW x)) w) := by
  have HAh : Hid (∀ x y W, Calls Try.prog 19 #[ruleV x, ruleV y] W (Says (.bool (lexRB x y)) W)) := fun x y W => ahead_any x y W
  have HR : Hid (∀ W, w.grownBy W none → RulesAt W b x.R) := fun W hW => (h.grown hW).rules
  have HM : Hid (∀ W, w.grownBy W none → Ints W e x.M) := fun W hW => (h.grown hW).marks
  have hmr := h.mr
  have hmm := h.mm
  unfold maxLen at hmr hmm
  obtain ⟨W1, hW1, g1, s1, bx1⟩ := box5_new w (.int .i64 x.L) (.int .i64 x.N) (.slice b x.R.length d) (.int .i64 x.S) (.slice e x.M.length f) 25
  have HW1 : Hid (W1 = _) := hW1
  have G1 : Hid (w.grownBy W1 none) := g1
  have KK : Hid (∀ W', W1.grownBy W' none → W'.cell? ⟨w.heap.size, 0, none⟩ = some (.int .i64 x.L) ∧ W'.cell? ⟨w.heap.size, 1, none⟩ = some (.int .i64 x.N) ∧ W'.cell? ⟨w.heap.size, 2, none⟩ = some (.slice b x.R.length d) ∧ W'.cell? ⟨w.heap.size, 3, none⟩ = some (.int .i64 x.S) ∧ W'.cell? ⟨w.heap.size, 4, none⟩ = some (.slice e x.M.length f)) := bx1
  obtain ⟨z, hz⟩ : ∃ z, checkW x = z := ⟨_, rfl⟩
  rw [hz]
  have HZ : Hid (checkW x = z) := hz
  clear h hW1 g1 s1 bx1 hz
  obtain ⟨x0, x1, x2, x3, x4⟩ := KK.out W1 (grown_refl _ _)
  have HA : Hid (x.L < 1 ∨ 4 < x.L → z = 2) := fun h => by rw [← HZ.out]; exact checkW_range h
  have HB : Hid (¬ (x.L < 1 ∨ 4 < x.L) → x.N < 1 ∨ 6 < x.N ∨ 60 < x.R.length ∨ (x.M.length : Int) ≠ x.N → z = 1) := fun h h2 => by rw [← HZ.out]; exact checkW_size h h2
  have HS : Hid (¬ (x.L < 1 ∨ 4 < x.L) → ¬ (x.N < 1 ∨ 6 < x.N ∨ 60 < x.R.length ∨ (x.M.length : Int) ≠ x.N) → ShpW x) := fun h h2 => shpW h h2
  have HC1 : Hid (ShpW x → ¬ InW x.R x.L x.N → z = 2) := fun h h2 => by rw [← HZ.out]; exact checkW_ru h h2
  have HC2 : Hid (ShpW x → ¬ (0 ≤ x.S ∧ x.S < x.N) → z = 2) := fun h h2 => by rw [← HZ.out]; exact checkW_st h h2
  have HC3 : Hid (ShpW x → ¬ MkW x.M → z = 2) := fun h h2 => by rw [← HZ.out]; exact checkW_mk h h2
  have HC4 : Hid (ShpW x → InW x.R x.L x.N → (0 ≤ x.S ∧ x.S < x.N) → MkW x.M → ¬ RiseR x.R → z = 3) := fun h h1 h2 h3 h4 => by rw [← HZ.out]; exact checkW_ri h h1 h2 h3 h4
  have HC5 : Hid (ShpW x → InW x.R x.L x.N → (0 ≤ x.S ∧ x.S < x.N) → MkW x.M → RiseR x.R → z = 0) := fun h h1 h2 h3 h4 => by rw [← HZ.out]; exact checkW_ok h h1 h2 h3 h4
  obtain ⟨P1, hP1⟩ : ∃ P, P = ShpW x := ⟨_, rfl⟩
  rw [← hP1] at HS HC1 HC2 HC3 HC4 HC5
  obtain ⟨L, N, R, S, M⟩ := x
  simp only at *
  obtain ⟨nR, hnR⟩ : ∃ n, R.length = n := ⟨_, rfl⟩
  obtain ⟨nM, hnM⟩ : ∃ n, M.length = n := ⟨_, rfl⟩
  have HnR : Hid (R.length = nR) := hnR
  have HnM : Hid (M.length = nM) := hnM
  rw [hnR] at hmr x2 HB HS HW1 KK ⊢
  rw [hnM] at hmm x4 HB HS HW1 KK ⊢
  clear HZ hP1 hnR hnM
  rw [HW1.out] at x0 x1 x2 x3 x4

  by_cases cL1 : L < 1
  case pos =>
    have Hz : Hid (z = 2) := HA.out (.inl cL1)
    clear HA HB HS HC1 HC2 HC3 HC4 HC5
    have d1 : decide (L < 1) = true := by simpa using cL1
    go_enter Try.func8, Try.ntmps8
    go_wp2_with fail
    rw [← HW1.out]
    go_ret
    exact ⟨ret_int Hz.out.symm, G1.out⟩
  have dL1 : decide (L < 1) = false := by simpa using cL1
  by_cases cL2 : 4 < L
  case pos =>
    have Hz : Hid (z = 2) := HA.out (.inr cL2)
    clear HA HB HS HC1 HC2 HC3 HC4 HC5
    have d1 : decide (4 < L) = true := by simpa using cL2
    go_enter Try.func8, Try.ntmps8
    go_wp2_with fail
    rw [← HW1.out]
    go_ret
    exact ⟨ret_int Hz.out.symm, G1.out⟩
  have dL2 : decide (4 < L) = false := by simpa using cL2
  have HNc1 : Hid (¬ (L < 1 ∨ 4 < L)) := by show ¬ _; omega
  by_cases c1 : N < 1
  case pos =>
    have Hz : Hid (z = 1) := HB.out HNc1.out (.inl c1)
    clear HA HB HS HC1 HC2 HC3 HC4 HC5
    have d1 : decide (N < 1) = true := by simpa using c1
    go_enter Try.func8, Try.ntmps8
    go_wp2_with fail
    rw [← HW1.out]
    go_ret
    exact ⟨ret_int Hz.out.symm, G1.out⟩
  have d1 : decide (N < 1) = false := by simpa using c1
  by_cases c2 : 6 < N
  case pos =>
    have Hz : Hid (z = 1) := HB.out HNc1.out (.inr (.inl c2))
    clear HA HB HS HC1 HC2 HC3 HC4 HC5
    have d2 : decide (6 < N) = true := by simpa using c2
    go_enter Try.func8, Try.ntmps8
    go_wp2_with fail
    rw [← HW1.out]
    go_ret
    exact ⟨ret_int Hz.out.symm, G1.out⟩
  have d2 : decide (6 < N) = false := by simpa using c2
  by_cases c3 : 60 < nR
  case pos =>
    have Hz : Hid (z = 1) := HB.out HNc1.out (.inr (.inr (.inl c3)))
    clear HA HB HS HC1 HC2 HC3 HC4 HC5
    have d3 : decide ((60 : Int) < (nR : Int)) = true := by simp; omega
    go_enter Try.func8, Try.ntmps8
    go_wp2_with fail
    rw [← HW1.out]
    go_ret
    exact ⟨ret_int Hz.out.symm, G1.out⟩
  have d3 : decide ((60 : Int) < (nR : Int)) = false := by simp; omega
  by_cases c4 : (nM : Int) = N
  case neg =>
    have Hz : Hid (z = 1) := HB.out HNc1.out (.inr (.inr (.inr c4)))
    clear HA HB HS HC1 HC2 HC3 HC4 HC5
    have d4 : ((nM : Int) != N) = true := by simpa using c4
    go_enter Try.func8, Try.ntmps8
    go_wp2_with fail
    rw [← HW1.out]
    go_ret
    exact ⟨ret_int Hz.out.symm, G1.out⟩
  have d4 : ((nM : Int) != N) = false := by simpa using c4
  have SH : Hid P1 := HS.out HNc1.out (by omega)
  clear HA HB HS c4
  go_enter Try.func8, Try.ntmps8
  go_wp2_with fail
  rw [← HW1.out]
  clear x0 x1 x2 x3 x4 d1 d2 d3 d4 dL1 dL2
  go_loopw [3] (fun v wr => ∃ k : Nat, k ≤ nR ∧ v = .int .i64 k ∧ W1.grownBy wr none ∧ ∀ j, j < k → RuW L N (R.getD j ru0)) (fun v _ => nR - (intOf v).toNat)
  case atStart => exact ⟨0, by omega, rfl, grown_refl _ _, fun j hj => by omega⟩
  case round =>
    obtain ⟨k, hk, rfl, hgw, hg⟩ := hrel
    have HJ : Hid (∀ j, j < k → RuW L N (R.getD j ru0)) := hg
    have G : Hid (W1.grownBy wr none) := hgw
    clear hg
    obtain ⟨x0, x1, x2, x3, x4⟩ := KK.out wr hgw
    by_cases hlt : k < nR
    case pos =>
      clear HAh HC3 HC4 HC5 HC2
      obtain ⟨bb, off, rfl, hc⟩ := (HR.out wr (grown_trans G1.out hgw)).at (k := k) (by rw [HnR.out]; exact hlt)
      obtain ⟨y0, y1, y2, y3⟩ := hc k (by rw [HnR.out]; exact hlt)
      have hki : (k : Int) < (nR : Int) := by omega
      have HNo : Hid (¬ RuW L N (R.getD k ru0) → z = 2) := fun hx => HC1.out SH.out (fun e => hx (e k (by rw [HnR.out]; exact hlt)))
      have HYes : Hid (RuW L N (R.getD k ru0) → ∀ j, j < k + 1 → RuW L N (R.getD j ru0)) := fun hx j hj => by
        by_cases e : j = k
        · subst e; exact hx
        · exact HJ.out j (by omega)
      clear hc
      generalize R.getD k ru0 = x at *
      obtain ⟨a0, a1, a2, a3⟩ := x
      simp only at y0 y1 y2 y3
      have cL : ∀ o, (wr.alloc o).cell? ⟨w.heap.size, 0, none⟩ = some (.int .i64 L) := fun o => (grown_alloc _ o).cell x0 (by simp)
      have cN : ∀ o, (wr.alloc o).cell? ⟨w.heap.size, 1, none⟩ = some (.int .i64 N) := fun o => (grown_alloc _ o).cell x1 (by simp)
      have GA : Hid (∀ o, W1.grownBy (wr.alloc o) none) := fun o => grown_trans hgw (grown_alloc _ o)
      have HNo2 : Hid (¬ ((0 ≤ a0 ∧ a0 < L) ∧ (0 ≤ a1 ∧ a1 < N) ∧ (0 ≤ a2 ∧ a2 < N) ∧ (0 ≤ a3 ∧ a3 < N)) → z = 2) := HNo.out
      have HYes2 : Hid (((0 ≤ a0 ∧ a0 < L) ∧ (0 ≤ a1 ∧ a1 < N) ∧ (0 ≤ a2 ∧ a2 < N) ∧ (0 ≤ a3 ∧ a3 < N)) → ∀ j, j < k + 1 → RuW L N (R.getD j ru0)) := HYes.out
      clear hgw HNo HYes x0 x1 x3 x4
      generalize w.heap.size = b0 at *
      by_cases t0 : a0 < 0
      · have s0 : decide (a0 < 0) = true := by simpa using t0
        have Hz : Hid (z = 2) := HNo2.out (by omega)
        clear HNo2 HYes2
        go_wp2_with fail
        go_ret
        exact ⟨ret_int Hz.out.symm, grown_trans G1.out (GA.out _)⟩
      have s0 : decide (a0 < 0) = false := by simpa using t0
      by_cases t1 : L ≤ a0
      · have s1 : decide (L ≤ a0) = true := by simpa using t1
        have Hz : Hid (z = 2) := HNo2.out (by omega)
        clear HNo2 HYes2
        go_wp2_with fail
        go_ret
        exact ⟨ret_int Hz.out.symm, grown_trans G1.out (GA.out _)⟩
      have s1 : decide (L ≤ a0) = false := by simpa using t1
      by_cases t2 : a3 < 0
      · have s2 : decide (a3 < 0) = true := by simpa using t2
        have Hz : Hid (z = 2) := HNo2.out (by omega)
        clear HNo2 HYes2
        go_wp2_with fail
        go_ret
        exact ⟨ret_int Hz.out.symm, grown_trans G1.out (GA.out _)⟩
      have s2 : decide (a3 < 0) = false := by simpa using t2
      by_cases t3 : N ≤ a3
      · have s3 : decide (N ≤ a3) = true := by simpa using t3
        have Hz : Hid (z = 2) := HNo2.out (by omega)
        clear HNo2 HYes2
        go_wp2_with fail
        go_ret
        exact ⟨ret_int Hz.out.symm, grown_trans G1.out (GA.out _)⟩
      have s3 : decide (N ≤ a3) = false := by simpa using t3
      by_cases t4 : a1 < 0
      · have s4 : decide (a1 < 0) = true := by simpa using t4
        have Hz : Hid (z = 2) := HNo2.out (by omega)
        clear HNo2 HYes2
        go_wp2_with fail
        go_ret
        exact ⟨ret_int Hz.out.symm, grown_trans G1.out (GA.out _)⟩
      have s4 : decide (a1 < 0) = false := by simpa using t4
      by_cases t5 : N ≤ a1
      · have s5 : decide (N ≤ a1) = true := by simpa using t5
        have Hz : Hid (z = 2) := HNo2.out (by omega)
        clear HNo2 HYes2
        go_wp2_with fail
        go_ret
        exact ⟨ret_int Hz.out.symm, grown_trans G1.out (GA.out _)⟩
      have s5 : decide (N ≤ a1) = false := by simpa using t5
      by_cases t6 : a2 < 0
      · have s6 : decide (a2 < 0) = true := by simpa using t6
        have Hz : Hid (z = 2) := HNo2.out (by omega)
        clear HNo2 HYes2
        go_wp2_with fail
        go_ret
        exact ⟨ret_int Hz.out.symm, grown_trans G1.out (GA.out _)⟩
      have s6 : decide (a2 < 0) = false := by simpa using t6
      by_cases t7 : N ≤ a2
      · have s7 : decide (N ≤ a2) = true := by simpa using t7
        have Hz : Hid (z = 2) := HNo2.out (by omega)
        clear HNo2 HYes2
        go_wp2_with fail
        go_ret
        exact ⟨ret_int Hz.out.symm, grown_trans G1.out (GA.out _)⟩
      have s7 : decide (N ≤ a2) = false := by simpa using t7
      have HT : Hid _ := HYes2.out (by omega)
      clear HNo2 HYes2
      go_wp2_with fail
      go_roundw
      case rel => exact ⟨k + 1, by omega, by go_num, GA.out _, HT.out⟩
      case measure => simp [intOf]; omega
    have hki : ¬ (k : Int) < (nR : Int) := by omega
    have HIn : Hid (InW R L N) := fun i hi => HJ.out i (by have := HnR.out; omega)
    clear HJ HC1 hgw
    by_cases p0 : S < 0
    · have r0 : decide (S < 0) = true := by simpa using p0
      have Hz : Hid (z = 2) := HC2.out SH.out (by omega)
      clear HC2 HC3 HC4 HC5 HAh
      go_wp2_with fail
      go_ret
      exact ⟨ret_int Hz.out.symm, grown_trans G1.out G.out⟩
    have r0 : decide (S < 0) = false := by simpa using p0
    by_cases p1 : N ≤ S
    · have r1 : decide (N ≤ S) = true := by simpa using p1
      have Hz : Hid (z = 2) := HC2.out SH.out (by omega)
      clear HC2 HC3 HC4 HC5 HAh
      go_wp2_with fail
      go_ret
      exact ⟨ret_int Hz.out.symm, grown_trans G1.out G.out⟩
    have r1 : decide (N ≤ S) = false := by simpa using p1
    have HSt : Hid (0 ≤ S ∧ S < N) := ⟨by omega, by omega⟩
    clear HC2 p0 p1
    go_wp2_with fail
    clear x0 x1 x2 x3 x4 r0 r1
    go_loop [5] (fun v => ∃ k : Nat, k ≤ nM ∧ v = .int .i64 k ∧ ∀ j, j < k → 0 ≤ M.getD j 0 ∧ M.getD j 0 ≤ 9) (fun v => nM - (intOf v).toNat)
    case atStart => exact ⟨0, Nat.zero_le _, rfl, fun j hj => by omega⟩
    case round =>
      obtain ⟨k', hk', rfl, hg⟩ := hrel
      have HJ : Hid (∀ j, j < k' → 0 ≤ M.getD j 0 ∧ M.getD j 0 ≤ 9) := hg
      clear hg
      obtain ⟨x0, x1, x2, x3, x4⟩ := KK.out wr G.out
      by_cases hlt' : k' < nM
      case pos =>
        clear HAh HC4 HC5
        obtain ⟨bb, off, rfl, hc⟩ := (HM.out wr (grown_trans G1.out G.out)).at (k := k') (by rw [HnM.out]; exact hlt')
        have hki' : (k' : Int) < (nM : Int) := by omega
        have hck := hc k' (by rw [HnM.out]; exact hlt')
        clear hc
        obtain ⟨q, hq⟩ : ∃ q, M.getD k' 0 = q := ⟨_, rfl⟩
        rw [hq] at hck
        have HX : Hid (M.getD k' 0 = q) := hq
        clear hq
        have HT : Hid ((0 ≤ q ∧ q ≤ 9) → ∀ j, j < k' + 1 → 0 ≤ M.getD j 0 ∧ M.getD j 0 ≤ 9) := fun hh j hj => by
          by_cases hjk : j = k'
          · subst hjk; rw [HX.out]; exact hh
          · exact HJ.out j (by omega)
        have HF : Hid (¬ (0 ≤ q ∧ q ≤ 9) → z = 2) := fun hh => HC3.out SH.out (fun e => hh (by have := e k' (by rw [HnM.out]; exact hlt'); rwa [HX.out] at this))
        by_cases e0 : q < 0
        · have e1 : decide (q < 0) = true := by simpa using e0
          have Hz : Hid (z = 2) := HF.out (by omega)
          clear HT HF e0
          go_wp2_with fail
          go_ret
          exact ⟨ret_int Hz.out.symm, grown_trans G1.out G.out⟩
        · have e1 : decide (q < 0) = false := by simpa using e0
          by_cases e2 : 9 < q
          · have e3 : decide (9 < q) = true := by simpa using e2
            have Hz : Hid (z = 2) := HF.out (by omega)
            clear HT HF e0 e2
            go_wp2_with fail
            go_ret
            exact ⟨ret_int Hz.out.symm, grown_trans G1.out G.out⟩
          · have e3 : decide (9 < q) = false := by simpa using e2
            have HT2 : Hid _ := HT.out (by omega)
            clear HT HF e0 e2
            go_wp2_with fail
            go_round
            case rel => exact ⟨k' + 1, by omega, by go_num, HT2.out⟩
            case measure => simp [intOf]; omega
      have hki' : ¬ (k' : Int) < (nM : Int) := by omega
      have HMk : Hid (MkW M) := fun i hi => HJ.out i (by have := HnM.out; omega)
      clear HJ HC3
      go_wp2_with fail
      clear x0 x1 x2 x3 x4
      go_loopw [6] (fun v wq => ∃ k : Nat, 1 ≤ k ∧ (k ≤ nR ∨ k = 1) ∧ v = .int .i64 k ∧ W1.grownBy wq none ∧ ∀ j, j + 1 < k → LexR (R.getD j ru0) (R.getD (j + 1) ru0)) (fun v _ => nR - (intOf v).toNat)
      case atStart => exact ⟨1, by omega, .inr rfl, rfl, G.out, fun j hj => by omega⟩
      case round =>
        rename World => wq
        obtain ⟨p, hp1, hp, rfl, hgw, hg⟩ := hrel
        have HJ : Hid (∀ j, j + 1 < p → LexR (R.getD j ru0) (R.getD (j + 1) ru0)) := hg
        have GQ : Hid (W1.grownBy wq none) := hgw
        clear hg
        obtain ⟨x0, x1, x2, x3, x4⟩ := KK.out wq hgw
        by_cases hltp : p < nR
        case pos =>
          obtain ⟨bb, off, rfl, hc⟩ := (HR.out wq (grown_trans G1.out hgw)).at (k := p) (by rw [HnR.out]; exact hltp)
          obtain ⟨r, hr⟩ : ∃ r, p - 1 = r := ⟨_, rfl⟩
          have HP : Hid (p - 1 = r) := hr
          obtain ⟨y0, y1, y2, y3⟩ := hc p (by rw [HnR.out]; exact hltp)
          obtain ⟨u0, u1, u2, u3⟩ := hc r (by rw [HnR.out]; omega)
          have hwp : IntKind.i64.wrap ((p : Int) - 1) = (r : Int) := by rw [IntKind.wrap_i64]; omega
          have hrl : (r : Int) < (nR : Int) := by omega
          have hpl : (p : Int) < (nR : Int) := by omega
          have hr0 : (0 : Int) ≤ (r : Int) := by omega
          have hp0 : (0 : Int) ≤ (p : Int) := by omega
          have HCx : Hid (∀ W, Calls Try.prog 19 #[ruleV (R.getD r ru0), ruleV (R.getD p ru0)] W (Says (.bool (lexRB (R.getD r ru0) (R.getD p ru0))) W)) := fun W => HAh.out _ _ W
          have HJ2 : Hid (lexRB (R.getD r ru0) (R.getD p ru0) = true → ∀ j, j + 1 < p + 1 → LexR (R.getD j ru0) (R.getD (j + 1) ru0)) := fun hx => riseR_step hp1 HJ.out (by rw [HP.out]; exact (lexRB_iff _ _).1 hx)
          have HN2 : Hid (lexRB (R.getD r ru0) (R.getD p ru0) = false → z = 3) := fun hx => HC4.out SH.out HIn.out HSt.out HMk.out (fun e => by
            have := e (p - 1) (by rw [HnR.out]; omega)
            rw [show p - 1 + 1 = p by omega, HP.out] at this
            rw [(lexRB_iff _ _).2 this] at hx
            cases hx)
          clear hc hgw HAh hr HC4 HC5
          generalize lexRB (R.getD r ru0) (R.getD p ru0) = lb at *
          generalize R.getD r ru0 = rx at *
          generalize R.getD p ru0 = ry at *
          obtain ⟨xa, xb, xc, xd⟩ := rx
          obtain ⟨ya, yb, yc, yd⟩ := ry
          simp only [ruleV] at HCx u0 u1 u2 u3 y0 y1 y2 y3
          clear x0 x1 x3 x4
          cases lb
          · have Hz : Hid (z = 3) := HN2.out rfl
            clear HJ2 HN2
            go_wp2_with fail
            go_region_with (go_at_call 19; refine (HCx.out _).mono ?_; rintro e w3 ⟨rfl, hg3⟩; have G3 : Hid (W1.grownBy w3 none) := grown_trans (by first | exact GQ.out | exact grown_drewN GQ.out _ | exact grown_drew GQ.out) hg3)
            all_goals
              go_wp2_with fail
              go_ret
              exact ⟨ret_int Hz.out.symm, grown_trans G1.out G3.out⟩
          · have HT : Hid _ := HJ2.out rfl
            clear HJ2 HN2
            go_wp2_with fail
            go_region_with (go_at_call 19; refine (HCx.out _).mono ?_; rintro e w3 ⟨rfl, hg3⟩; have G3 : Hid (W1.grownBy w3 none) := grown_trans (by first | exact GQ.out | exact grown_drewN GQ.out _ | exact grown_drew GQ.out) hg3)
            all_goals
              go_wp2_with fail
              go_roundw
              case rel => exact ⟨p + 1, by omega, .inl (by omega), by go_num, G3.out, HT.out⟩
              case measure => simp [intOf]; omega
        have hpl : ¬ (p : Int) < (nR : Int) := by omega
        have HRi : Hid (RiseR R) := fun i hi => HJ.out i (by have := HnR.out; omega)
        clear hgw
        have Hz : Hid (z = 0) := HC5.out SH.out HIn.out HSt.out HMk.out HRi.out
        clear HC4 HC5 HAh
        go_wp2_with fail
        go_ret
        exact ⟨ret_int Hz.out.symm, grown_trans G1.out GQ.out⟩

end Go.Proofs.Ytnlkdihfoekjmaa
