/- What is wrong with an automaton of trees without an end: the program's Check. -/
import Derived.Test.YtnlkdihfoekjmaaTrRise
import Derived.Test.YtnlkdihfoekjmaaGwSpec
namespace Go.Proofs.Ytnlkdihfoekjmaa
open Go.RowKit
set_option linter.unusedVariables false

def ofW (x n : Int) : Bool := decide (0 ≤ x ∧ x < n)
theorem ofW_iff (x n : Int) : ofW x n = true ↔ 0 ≤ x ∧ x < n := decide_eq_true_iff
theorem isOfW_any (x n : Int) (w : World) : Calls Try.prog 16 #[.int .i64 x, .int .i64 n] w fun e w' => e = .returned (.bool (ofW x n)) ∧ w' = w := by
  obtain ⟨y, hy⟩ : ∃ y, ofW x n = y := ⟨_, rfl⟩
  have HY : Hid (ofW x n = y) := hy
  rw [hy]
  clear hy
  by_cases h0 : 0 ≤ x
  · have e0 : decide (0 ≤ x) = true := by simpa using h0
    have HE : Hid (ofW x n = decide (x < n)) := by show _ = _; simp [ofW, h0]
    obtain ⟨z, hz⟩ : ∃ z, decide (x < n) = z := ⟨_, rfl⟩
    rw [hz] at HE
    clear h0
    go_enter Try.func16, Try.ntmps16
    go_wp2_with fail
    go_ret
    exact ⟨by rw [← HY.out, HE.out]; rfl, rfl⟩
  · have e0 : decide (0 ≤ x) = false := by simpa using h0
    have HE : Hid (ofW x n = false) := by show _ = _; simp [ofW, h0]
    clear h0
    go_enter Try.func16, Try.ntmps16
    go_wp2_with fail
    go_ret
    exact ⟨by rw [← HY.out, HE.out]; rfl, rfl⟩
theorem ruW_bits (l n : Int) (a b c d : Int) : RuW l n (a, b, c, d) ↔ (ofW a l && ofW b n && ofW c n && ofW d n) = true := by
  simp only [RuW, Bool.and_eq_true, ofW_iff, and_assoc]

set_option maxHeartbeats 6400000 in
set_option maxRecDepth 100000 in
theorem rulesWithinW_any (L N S : Int) (b e : Option Addr) (d m f : Nat) (R : List RuleI) (w : World) (h : RulesAt w b R) (hm : R.length ≤ maxLen) :
    Calls Try.prog 15 #[trsV L N b R.length d S e m f] w (TellsB (InW R L N) w) := by
  unfold maxLen at hm
  have HZ : Hid (RulesAt w b R) := h
  have HOF : Hid (∀ x n W, Calls Try.prog 16 #[.int .i64 x, .int .i64 n] W fun e w' => e = .returned (.bool (ofW x n)) ∧ w' = W) := fun x n W => isOfW_any x n W
  obtain ⟨W1, hW1, g1, s1, bx1⟩ := box5_new w (.int .i64 L) (.int .i64 N) (.slice b R.length d) (.int .i64 S) (.slice e m f) 25
  have HW1 : Hid (W1 = _) := hW1
  have G1 : Hid (w.grownBy W1 none) := g1
  have B1 : Hid (∀ W', W1.grownBy W' none → W'.cell? ⟨w.heap.size, 0, none⟩ = some (.int .i64 L) ∧ W'.cell? ⟨w.heap.size, 1, none⟩ = some (.int .i64 N) ∧ W'.cell? ⟨w.heap.size, 2, none⟩ = some (.slice b R.length d) ∧ W'.cell? ⟨w.heap.size, 3, none⟩ = some (.int .i64 S) ∧ W'.cell? ⟨w.heap.size, 4, none⟩ = some (.slice e m f)) := bx1
  clear h hW1 g1 s1 bx1
  generalize hb0 : w.heap.size = b0 at *
  go_enter Try.func15, Try.ntmps15
  go_wp2_with fail
  rw [← HW1.out]
  go_loopw [8] (fun v wr => ∃ k : Nat, k ≤ R.length ∧ v = .int .i64 k ∧ W1.grownBy wr none ∧ ∀ j, j < k → RuW L N (R.getD j ru0)) (fun v _ => R.length - (intOf v).toNat)
  case atStart => exact ⟨0, by omega, rfl, grown_refl _ _, fun j hj => by omega⟩
  case round =>
    obtain ⟨k, hk, rfl, hgw, hg⟩ := hrel
    have HJ : Hid (∀ j, j < k → RuW L N (R.getD j ru0)) := hg
    have G : Hid (W1.grownBy wr none) := hgw
    clear hg
    by_cases hlt : k < R.length
    · obtain ⟨bb, off, rfl, hc⟩ := (HZ.out.grown (grown_trans G1.out hgw)).at hlt
      obtain ⟨y0, y1, y2, y3⟩ := hc k hlt
      have hki : (k : Int) < (R.length : Int) := by omega
      have HNo : Hid (¬ RuW L N (R.getD k ru0) → ¬ InW R L N) := fun hx e => hx (e k hlt)
      have HYes : Hid (RuW L N (R.getD k ru0) → ∀ j, j < k + 1 → RuW L N (R.getD j ru0)) := fun hx j hj => by
        by_cases e : j = k
        · subst e; exact hx
        · exact HJ.out j (by omega)
      clear hc
      generalize R.getD k ru0 = x at *
      obtain ⟨a0, a1, a2, a3⟩ := x
      simp only at y0 y1 y2 y3
      rw [ruW_bits] at HNo HYes
      have H0 : Hid (∀ W, Calls Try.prog 16 #[.int .i64 a0, .int .i64 L] W fun e w' => e = .returned (.bool (ofW a0 L)) ∧ w' = W) := HOF.out a0 L
      have H1 : Hid (∀ W, Calls Try.prog 16 #[.int .i64 a1, .int .i64 N] W fun e w' => e = .returned (.bool (ofW a1 N)) ∧ w' = W) := HOF.out a1 N
      have H2 : Hid (∀ W, Calls Try.prog 16 #[.int .i64 a2, .int .i64 N] W fun e w' => e = .returned (.bool (ofW a2 N)) ∧ w' = W) := HOF.out a2 N
      have H3 : Hid (∀ W, Calls Try.prog 16 #[.int .i64 a3, .int .i64 N] W fun e w' => e = .returned (.bool (ofW a3 N)) ∧ w' = W) := HOF.out a3 N
      have cW : ∀ o, (wr.alloc o).cell? ⟨b0, 0, none⟩ = some (.int .i64 L) ∧ (wr.alloc o).cell? ⟨b0, 1, none⟩ = some (.int .i64 N) := fun o => by
        have := B1.out _ (grown_trans hgw (grown_alloc _ o))
        exact ⟨this.1, this.2.1⟩
      have cL : ∀ o, (wr.alloc o).cell? ⟨b0, 0, none⟩ = some (.int .i64 L) := fun o => (cW o).1
      have cN : ∀ o, (wr.alloc o).cell? ⟨b0, 1, none⟩ = some (.int .i64 N) := fun o => (cW o).2
      have GA : Hid (∀ o, W1.grownBy (wr.alloc o) none) := fun o => grown_trans hgw (grown_alloc _ o)
      clear cW hgw HOF
      obtain ⟨q0, hq0⟩ : ∃ q, ofW a0 L = q := ⟨_, rfl⟩
      obtain ⟨q1, hq1⟩ : ∃ q, ofW a1 N = q := ⟨_, rfl⟩
      obtain ⟨q2, hq2⟩ : ∃ q, ofW a2 N = q := ⟨_, rfl⟩
      obtain ⟨q3, hq3⟩ : ∃ q, ofW a3 N = q := ⟨_, rfl⟩
      rw [hq0, hq1, hq2, hq3] at HNo HYes
      rw [hq0] at H0
      rw [hq1] at H1
      rw [hq2] at H2
      rw [hq3] at H3
      clear hq0 hq1 hq2 hq3
      go_wp2_with fail
      refine (H0.out _).mono ?_
      rintro E w2 ⟨rfl, rfl⟩
      cases q0
      · have HF : Hid (¬ InW R L N) := HNo.out (by simp)
        go_wp2_with fail
        go_ret
        exact tellsB false rfl ⟨(fun e => by cases e), fun e => absurd e HF.out⟩ (grown_trans G1.out (GA.out _))
      go_wp2_with fail
      refine (H1.out _).mono ?_
      rintro E w2 ⟨rfl, rfl⟩
      cases q1
      · have HF : Hid (¬ InW R L N) := HNo.out (by simp)
        go_wp2_with fail
        go_ret
        exact tellsB false rfl ⟨(fun e => by cases e), fun e => absurd e HF.out⟩ (grown_trans G1.out (GA.out _))
      go_wp2_with fail
      refine (H2.out _).mono ?_
      rintro E w2 ⟨rfl, rfl⟩
      cases q2
      · have HF : Hid (¬ InW R L N) := HNo.out (by simp)
        go_wp2_with fail
        go_ret
        exact tellsB false rfl ⟨(fun e => by cases e), fun e => absurd e HF.out⟩ (grown_trans G1.out (GA.out _))
      go_wp2_with fail
      refine (H3.out _).mono ?_
      rintro E w2 ⟨rfl, rfl⟩
      cases q3
      · have HF : Hid (¬ InW R L N) := HNo.out (by simp)
        go_wp2_with fail
        go_ret
        exact tellsB false rfl ⟨(fun e => by cases e), fun e => absurd e HF.out⟩ (grown_trans G1.out (GA.out _))
      have HT : Hid (∀ j, j < k + 1 → RuW L N (R.getD j ru0)) := HYes.out rfl
      clear HNo HYes
      go_wp2_with fail
      go_roundw
      case rel => exact ⟨k + 1, by omega, by go_num, GA.out _, HT.out⟩
      case measure => simp [intOf]; omega
    · have hki : ¬ (k : Int) < (R.length : Int) := by omega
      go_wp2_with fail
      go_ret
      exact tellsB true rfl ⟨fun _ => fun i hi => HJ.out i (by omega), fun _ => rfl⟩ (grown_trans G1.out G.out)

set_option maxHeartbeats 1600000 in
set_option maxRecDepth 100000 in
theorem marksWithinW_any (L N S : Int) (b e : Option Addr) (r d f : Nat) (M : List Int) (w : World) (h : Ints w e M) (hm : M.length ≤ maxLen) :
    Calls Try.prog 17 #[trsV L N b r d S e M.length f] w (TellsB (MkW M) w) := by
  unfold maxLen at hm
  have HZ : Hid (Ints w e M) := h
  obtain ⟨W1, hW1, g1, s1, bx1⟩ := box5_new w (.int .i64 L) (.int .i64 N) (.slice b r d) (.int .i64 S) (.slice e M.length f) 25
  have HW1 : Hid (W1 = _) := hW1
  have G1 : Hid (w.grownBy W1 none) := g1
  clear h hW1 g1 s1 bx1
  go_enter Try.func17, Try.ntmps17
  go_wp2_with fail
  rw [← HW1.out]
  go_loop [8] (fun v => ∃ k : Nat, k ≤ M.length ∧ v = .int .i64 k ∧ ∀ j, j < k → 0 ≤ M.getD j 0 ∧ M.getD j 0 ≤ 9) (fun v => M.length - (intOf v).toNat)
  case atStart => exact ⟨0, Nat.zero_le _, rfl, fun j hj => by omega⟩
  case round =>
    obtain ⟨k, hk, rfl, hg⟩ := hrel
    have HJ : Hid (∀ j, j < k → 0 ≤ M.getD j 0 ∧ M.getD j 0 ≤ 9) := hg
    clear hg
    by_cases hlt : k < M.length
    · obtain ⟨bb, off, rfl, hc⟩ := (HZ.out.grown G1.out).at hlt
      have hki : (k : Int) < (M.length : Int) := by omega
      have hck := hc k hlt
      clear hc
      obtain ⟨x, hx⟩ : ∃ x, M.getD k 0 = x := ⟨_, rfl⟩
      rw [hx] at hck
      have HX : Hid (M.getD k 0 = x) := hx
      clear hx
      have HT : Hid ((0 ≤ x ∧ x ≤ 9) → ∀ j, j < k + 1 → 0 ≤ M.getD j 0 ∧ M.getD j 0 ≤ 9) := fun hh j hj => by
        by_cases hjk : j = k
        · subst hjk; rw [HX.out]; exact hh
        · exact HJ.out j (by omega)
      have HF : Hid (¬ (0 ≤ x ∧ x ≤ 9) → ¬ MkW M) := fun hh e => hh (by have := e k hlt; rwa [HX.out] at this)
      by_cases e0 : x < 0
      · have e1 : decide (x < 0) = true := by simpa using e0
        have HF2 : Hid (¬ MkW M) := HF.out (by omega)
        clear HT HF e0
        go_wp2_with fail
        go_ret
        exact tellsB false rfl ⟨(fun e => by cases e), fun e => absurd e HF2.out⟩ G1.out
      · have e1 : decide (x < 0) = false := by simpa using e0
        by_cases e2 : 9 < x
        · have e3 : decide (9 < x) = true := by simpa using e2
          have HF2 : Hid (¬ MkW M) := HF.out (by omega)
          clear HT HF e0 e2
          go_wp2_with fail
          go_ret
          exact tellsB false rfl ⟨(fun e => by cases e), fun e => absurd e HF2.out⟩ G1.out
        · have e3 : decide (9 < x) = false := by simpa using e2
          have HT2 : Hid _ := HT.out (by omega)
          clear HT HF e0 e2
          go_wp2_with fail
          go_round
          case rel => exact ⟨k + 1, by omega, by go_num, HT2.out⟩
          case measure => simp [intOf]; omega
    · have hki : ¬ (k : Int) < (M.length : Int) := by omega
      go_wp2_with fail
      go_ret
      exact tellsB true rfl ⟨fun _ => fun i hi => HJ.out i (by omega), fun _ => rfl⟩ G1.out

set_option maxHeartbeats 3200000 in
set_option maxRecDepth 100000 in
theorem checkW_any (x : Trs) (b e : Option Addr) (d f : Nat) (w : World) (h : TrsAt w x b e) :
    Calls Try.prog 7 #[trsV x.L x.N b x.R.length d x.S e x.M.length f] w (Says (.int .i64 (checkW x)) w) := by
  have HR1 : Hid (∀ W, w.grownBy W none → Calls Try.prog 15 #[trsV x.L x.N b x.R.length d x.S e x.M.length f] W (TellsB (InW x.R x.L x.N) W)) := fun W hW => rulesWithinW_any _ _ _ _ _ _ _ _ _ _ (h.grown hW).rules h.mr
  have HO1 : Hid (∀ W, Calls Try.prog 16 #[.int .i64 x.S, .int .i64 x.N] W fun e w' => e = .returned (.bool (ofW x.S x.N)) ∧ w' = W) := fun W => isOfW_any _ _ _
  have HM1 : Hid (∀ W, w.grownBy W none → Calls Try.prog 17 #[trsV x.L x.N b x.R.length d x.S e x.M.length f] W (TellsB (MkW x.M) W)) := fun W hW => marksWithinW_any _ _ _ _ _ _ _ _ _ _ (h.grown hW).marks h.mm
  have HI1 : Hid (∀ W, w.grownBy W none → Calls Try.prog 18 #[.slice b x.R.length d] W (TellsB (RiseR x.R) W)) := fun W hW => riseT_any _ _ _ _ (h.grown hW).rules h.mr
  have hmr := h.mr
  have hmm := h.mm
  unfold maxLen at hmr hmm
  obtain ⟨W1, hW1, g1, s1, bx1⟩ := box5_new w (.int .i64 x.L) (.int .i64 x.N) (.slice b x.R.length d) (.int .i64 x.S) (.slice e x.M.length f) 25
  have HW1 : Hid (W1 = _) := hW1
  have G1 : Hid (w.grownBy W1 none) := g1
  have KK : Hid (∀ W', W1.grownBy W' none → W'.cell? ⟨w.heap.size, 0, none⟩ = some (.int .i64 x.L) ∧ W'.cell? ⟨w.heap.size, 1, none⟩ = some (.int .i64 x.N) ∧ W'.cell? ⟨w.heap.size, 2, none⟩ = some (.slice b x.R.length d) ∧ W'.cell? ⟨w.heap.size, 3, none⟩ = some (.int .i64 x.S) ∧ W'.cell? ⟨w.heap.size, 4, none⟩ = some (.slice e x.M.length f)) := bx1
  obtain ⟨z, hz⟩ : ∃ z, checkW x = z := ⟨_, rfl⟩
  rw [hz]
  have HZ : Hid (checkW x = z) := hz
  clear h hW1 g1 s1 bx1 hz
  obtain ⟨x0, x1, x2, x3, x4⟩ := KK.out W1 (grown_refl _ _)
  have HA : Hid (x.L < 1 ∨ 4 < x.L → z = 2) := fun h => by rw [← HZ.out]; exact checkW_range h
  have HB : Hid (¬ (x.L < 1 ∨ 4 < x.L) → x.N < 1 ∨ 6 < x.N ∨ 60 < x.R.length ∨ (x.M.length : Int) ≠ x.N → z = 1) := fun h h2 => by rw [← HZ.out]; exact checkW_size h h2
  have HS : Hid (¬ (x.L < 1 ∨ 4 < x.L) → ¬ (x.N < 1 ∨ 6 < x.N ∨ 60 < x.R.length ∨ (x.M.length : Int) ≠ x.N) → ShpW x) := fun h h2 => shpW h h2
  have HC1 : Hid (ShpW x → ¬ InW x.R x.L x.N → z = 2) := fun h h2 => by rw [← HZ.out]; exact checkW_ru h h2
  have HC2 : Hid (ShpW x → ofW x.S x.N = false → z = 2) := fun h h2 => by rw [← HZ.out]; exact checkW_st h (fun e => by rw [(ofW_iff _ _).2 e] at h2; cases h2)
  have HC3 : Hid (ShpW x → ¬ MkW x.M → z = 2) := fun h h2 => by rw [← HZ.out]; exact checkW_mk h h2
  have HC4 : Hid (ShpW x → InW x.R x.L x.N → ofW x.S x.N = true → MkW x.M → ¬ RiseR x.R → z = 3) := fun h h1 h2 h3 h4 => by rw [← HZ.out]; exact checkW_ri h h1 ((ofW_iff _ _).1 h2) h3 h4
  have HC5 : Hid (ShpW x → InW x.R x.L x.N → ofW x.S x.N = true → MkW x.M → RiseR x.R → z = 0) := fun h h1 h2 h3 h4 => by rw [← HZ.out]; exact checkW_ok h h1 ((ofW_iff _ _).1 h2) h3 h4
  obtain ⟨P1, hP1⟩ : ∃ P, P = ShpW x := ⟨_, rfl⟩
  rw [← hP1] at HS HC1 HC2 HC3 HC4 HC5
  obtain ⟨L, N, R, S, M⟩ := x
  simp only at *
  generalize R.length = nR at *
  generalize M.length = nM at *
  generalize ofW S N = ob at *
  generalize InW R L N = PR at *
  generalize MkW M = PM at *
  generalize RiseR R = PI at *
  clear HZ hP1
  rw [HW1.out] at x0 x1 x2 x3 x4
  go_enter Try.func7, Try.ntmps7
  by_cases a1 : L < 1
  · have Hz : Hid (z = 2) := HA.out (.inl a1)
    clear HA HB HS HC1 HC2 HC3 HC4 HC5 HR1 HM1 HI1 HO1
    have d1 : decide (L < 1) = true := by simpa using a1
    go_wp2_with fail
    rw [← HW1.out]
    go_ret
    exact ⟨ret_int Hz.out.symm, G1.out⟩
  have e1 : decide (L < 1) = false := by simpa using a1
  by_cases a2 : 4 < L
  · have Hz : Hid (z = 2) := HA.out (.inr a2)
    clear HA HB HS HC1 HC2 HC3 HC4 HC5 HR1 HM1 HI1 HO1
    have d1 : decide (4 < L) = true := by simpa using a2
    go_wp2_with fail
    rw [← HW1.out]
    go_ret
    exact ⟨ret_int Hz.out.symm, G1.out⟩
  have e2 : decide (4 < L) = false := by simpa using a2
  have HNc1 : Hid (¬ (L < 1 ∨ 4 < L)) := fun e => e.elim a1 a2
  clear HA a1 a2
  by_cases c1 : N < 1
  · have Hz : Hid (z = 1) := HB.out HNc1.out (.inl c1)
    clear HB HS HC1 HC2 HC3 HC4 HC5 HR1 HM1 HI1 HO1
    have d1 : decide (N < 1) = true := by simpa using c1
    go_wp2_with fail
    rw [← HW1.out]
    go_ret
    exact ⟨ret_int Hz.out.symm, G1.out⟩
  have d1 : decide (N < 1) = false := by simpa using c1
  by_cases c2 : 6 < N
  · have Hz : Hid (z = 1) := HB.out HNc1.out (.inr (.inl c2))
    clear HB HS HC1 HC2 HC3 HC4 HC5 HR1 HM1 HI1 HO1
    have d2 : decide (6 < N) = true := by simpa using c2
    go_wp2_with fail
    rw [← HW1.out]
    go_ret
    exact ⟨ret_int Hz.out.symm, G1.out⟩
  have d2 : decide (6 < N) = false := by simpa using c2
  by_cases c3 : 60 < nR
  · have Hz : Hid (z = 1) := HB.out HNc1.out (.inr (.inr (.inl c3)))
    clear HB HS HC1 HC2 HC3 HC4 HC5 HR1 HM1 HI1 HO1
    have d3 : decide ((60 : Int) < (nR : Int)) = true := by simp; omega
    go_wp2_with fail
    rw [← HW1.out]
    go_ret
    exact ⟨ret_int Hz.out.symm, G1.out⟩
  have d3 : decide ((60 : Int) < (nR : Int)) = false := by simp; omega
  by_cases c4 : (nM : Int) = N
  case neg =>
    have Hz : Hid (z = 1) := HB.out HNc1.out (.inr (.inr (.inr c4)))
    clear HB HS HC1 HC2 HC3 HC4 HC5 HR1 HM1 HI1 HO1
    have d4 : ((nM : Int) != N) = true := by simpa using c4
    go_wp2_with fail
    rw [← HW1.out]
    go_ret
    exact ⟨ret_int Hz.out.symm, G1.out⟩
  have d4 : ((nM : Int) != N) = false := by simpa using c4
  have SH : Hid P1 := HS.out HNc1.out (by omega)
  clear HB HS c4
  go_wp2_with fail
  rw [← HW1.out]
  refine (HR1.out _ G1.out).mono ?_
  rintro E w2 ⟨b2, rfl, hb2, hg2⟩
  have G2 : Hid (W1.grownBy w2 none) := hg2
  obtain ⟨y0, y1, y2, y3, y4⟩ := KK.out w2 hg2
  clear hg2 x0 x1 x2 x3 x4
  cases b2 with
  | false =>
    have Hz : Hid (z = 2) := HC1.out SH.out (fun e => by have := hb2.2 e; cases this)
    have GF := grown_trans G1.out G2.out
    clear hb2
    go_wp2_with fail
    go_ret
    exact ⟨ret_int Hz.out.symm, GF⟩
  | true =>
  have HP2 : Hid PR := hb2.1 rfl
  clear hb2 HC1
  go_wp2_with fail
  refine (HO1.out _).mono ?_
  rintro E w3 ⟨rfl, hw3⟩
  subst hw3
  cases ob with
  | false =>
    have Hz : Hid (z = 2) := HC2.out SH.out rfl
    have GF := grown_trans G1.out G2.out
    go_wp2_with fail
    go_ret
    exact ⟨ret_int Hz.out.symm, GF⟩
  | true =>
  go_wp2_with fail
  refine (HM1.out _ (grown_trans G1.out G2.out)).mono ?_
  rintro E w4 ⟨b3, rfl, hb3, hg3⟩
  have G3 : Hid (W1.grownBy w4 none) := grown_trans G2.out hg3
  obtain ⟨x0, x1, x2, x3, x4⟩ := KK.out w4 G3.out
  clear hg3 y0 y1 y2 y3 y4
  cases b3 with
  | false =>
    have Hz : Hid (z = 2) := HC3.out SH.out (fun e => by have := hb3.2 e; cases this)
    have GF := grown_trans G1.out G3.out
    clear hb3
    go_wp2_with fail
    go_ret
    exact ⟨ret_int Hz.out.symm, GF⟩
  | true =>
  have HP3 : Hid PM := hb3.1 rfl
  clear hb3 HC3
  go_wp2_with fail
  refine (HI1.out _ (grown_trans G1.out G3.out)).mono ?_
  rintro E w5 ⟨b4, rfl, hb4, hg4⟩
  have GF : Hid (w.grownBy w5 none) := grown_trans G1.out (grown_trans G3.out hg4)
  clear hg4 x0 x1 x2 x3 x4
  cases b4 with
  | false =>
    have Hz : Hid (z = 3) := HC4.out SH.out HP2.out (by first | trivial | rfl) HP3.out (fun e => by have := hb4.2 e; cases this)
    clear hb4
    go_wp2_with fail
    go_ret
    exact ⟨ret_int Hz.out.symm, GF.out⟩
  | true =>
    have Hz : Hid (z = 0) := HC5.out SH.out HP2.out (by first | trivial | rfl) HP3.out (hb4.1 rfl)
    clear hb4
    go_wp2_with fail
    go_ret
    exact ⟨ret_int Hz.out.symm, GF.out⟩

end Go.Proofs.Ytnlkdihfoekjmaa
