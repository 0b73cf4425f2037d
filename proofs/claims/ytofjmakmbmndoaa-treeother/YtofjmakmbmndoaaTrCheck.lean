/- What is wrong with an automaton of trees: the program's Check. -/
import Derived.Test.YtofjmakmbmndoaaTrCmp
namespace Go.Proofs.Ytofjmakmbmndoaa
open Go.RowKit
set_option linter.unusedVariables false

def letB (l : Int) : Bool := decide (1 ≤ l ∧ l ≤ 4)
def ofB (x n : Int) : Bool := decide (0 ≤ x ∧ x < n)
theorem ofB_iff (x n : Int) : ofB x n = true ↔ 0 ≤ x ∧ x < n := decide_eq_true_iff
theorem isLetters_any (l : Int) (w : World) : Calls Try.prog 16 #[.int .i64 l] w fun e w' => e = .returned (.bool (letB l)) ∧ w' = w := by
  obtain ⟨y, hy⟩ : ∃ y, letB l = y := ⟨_, rfl⟩
  have HY : Hid (letB l = y) := hy
  rw [hy]
  clear hy
  by_cases h0 : 1 ≤ l
  · have e0 : decide (1 ≤ l) = true := by simpa using h0
    have HE : Hid (letB l = decide (l ≤ 4)) := by show _ = _; simp [letB, h0]
    obtain ⟨z, hz⟩ : ∃ z, decide (l ≤ 4) = z := ⟨_, rfl⟩
    rw [hz] at HE
    clear h0
    go_enter Try.func16, Try.ntmps16
    go_wp2_with fail
    go_ret
    exact ⟨by rw [← HY.out, HE.out]; rfl, rfl⟩
  · have e0 : decide (1 ≤ l) = false := by simpa using h0
    have HE : Hid (letB l = false) := by show _ = _; simp [letB, h0]
    clear h0
    go_enter Try.func16, Try.ntmps16
    go_wp2_with fail
    go_ret
    exact ⟨by rw [← HY.out, HE.out]; rfl, rfl⟩
theorem isOf_any (x n : Int) (w : World) : Calls Try.prog 21 #[.int .i64 x, .int .i64 n] w fun e w' => e = .returned (.bool (ofB x n)) ∧ w' = w := by
  obtain ⟨y, hy⟩ : ∃ y, ofB x n = y := ⟨_, rfl⟩
  have HY : Hid (ofB x n = y) := hy
  rw [hy]
  clear hy
  by_cases h0 : 0 ≤ x
  · have e0 : decide (0 ≤ x) = true := by simpa using h0
    have HE : Hid (ofB x n = decide (x < n)) := by show _ = _; simp [ofB, h0]
    obtain ⟨z, hz⟩ : ∃ z, decide (x < n) = z := ⟨_, rfl⟩
    rw [hz] at HE
    clear h0
    go_enter Try.func21, Try.ntmps21
    go_wp2_with fail
    go_ret
    exact ⟨by rw [← HY.out, HE.out]; rfl, rfl⟩
  · have e0 : decide (0 ≤ x) = false := by simpa using h0
    have HE : Hid (ofB x n = false) := by show _ = _; simp [ofB, h0]
    clear h0
    go_enter Try.func21, Try.ntmps21
    go_wp2_with fail
    go_ret
    exact ⟨by rw [← HY.out, HE.out]; rfl, rfl⟩

theorem ruIn_bits (l n : Int) (a b c d : Int) : RuIn l n (a, b, c, d) ↔ (ofB a l && ofB d n && ((ofB b n && ofB c n) || (b == -1 && c == -1))) = true := by
  simp only [RuIn, Bool.and_eq_true, Bool.or_eq_true, ofB_iff, beq_iff_eq]
  omega

set_option maxHeartbeats 6400000 in
set_option maxRecDepth 100000 in
theorem rulesWithin_any (L N S : Int) (b e : Option Addr) (d m f : Nat) (R : List RuleI) (w : World) (h : RulesAt w b R) (hm : R.length ≤ maxLen) :
    Calls Try.prog 17 #[trsV L N b R.length d S e m f] w (TellsB (InRu R L N) w) := by
  unfold maxLen at hm
  have HZ : Hid (RulesAt w b R) := h
  have HOf : ∀ x n W, Calls Try.prog 21 #[.int .i64 x, .int .i64 n] W fun e w' => e = .returned (.bool (ofB x n)) ∧ w' = W := fun x n W => isOf_any x n W
  have HOF : Hid (∀ x n W, Calls Try.prog 21 #[.int .i64 x, .int .i64 n] W fun e w' => e = .returned (.bool (ofB x n)) ∧ w' = W) := HOf
  obtain ⟨W1, hW1, g1, s1, bx1⟩ := box5_new w (.int .i64 L) (.int .i64 N) (.slice b R.length d) (.int .i64 S) (.slice e m f) 25
  have HW1 : Hid (W1 = _) := hW1
  have G1 : Hid (w.grownBy W1 none) := g1
  have B1 : Hid (∀ W', W1.grownBy W' none → W'.cell? ⟨w.heap.size, 0, none⟩ = some (.int .i64 L) ∧ W'.cell? ⟨w.heap.size, 1, none⟩ = some (.int .i64 N) ∧ W'.cell? ⟨w.heap.size, 2, none⟩ = some (.slice b R.length d) ∧ W'.cell? ⟨w.heap.size, 3, none⟩ = some (.int .i64 S) ∧ W'.cell? ⟨w.heap.size, 4, none⟩ = some (.slice e m f)) := bx1
  clear h hW1 g1 s1 bx1 HOf
  generalize hb0 : w.heap.size = b0 at *
  go_enter Try.func17, Try.ntmps17
  go_wp2_with fail
  rw [← HW1.out]
  go_loopw [10] (fun v wr => ∃ k : Nat, k ≤ R.length ∧ v = .int .i64 k ∧ W1.grownBy wr none ∧ ∀ j, j < k → RuIn L N (R.getD j ru0)) (fun v _ => R.length - (intOf v).toNat)
  case atStart => exact ⟨0, by omega, rfl, grown_refl _ _, fun j hj => by omega⟩
  case round =>
    obtain ⟨k, hk, rfl, hgw, hg⟩ := hrel
    have HJ : Hid (∀ j, j < k → RuIn L N (R.getD j ru0)) := hg
    have G : Hid (W1.grownBy wr none) := hgw
    clear hg
    by_cases hlt : k < R.length
    · obtain ⟨bb, off, rfl, hc⟩ := (HZ.out.grown (grown_trans G1.out hgw)).at hlt
      obtain ⟨y0, y1, y2, y3⟩ := hc k hlt
      have hki : (k : Int) < (R.length : Int) := by omega
      have HNo : Hid (¬ RuIn L N (R.getD k ru0) → ¬ InRu R L N) := fun hx e => hx (e k hlt)
      have HYes : Hid (RuIn L N (R.getD k ru0) → ∀ j, j < k + 1 → RuIn L N (R.getD j ru0)) := fun hx j hj => by
        by_cases e : j = k
        · subst e; exact hx
        · exact HJ.out j (by omega)
      clear hc
      generalize R.getD k ru0 = x at *
      obtain ⟨a0, a1, a2, a3⟩ := x
      simp only at y0 y1 y2 y3
      rw [ruIn_bits] at HNo HYes
      have H0 : Hid (∀ W, Calls Try.prog 21 #[.int .i64 a0, .int .i64 L] W fun e w' => e = .returned (.bool (ofB a0 L)) ∧ w' = W) := HOF.out a0 L
      have H1 : Hid (∀ W, Calls Try.prog 21 #[.int .i64 a1, .int .i64 N] W fun e w' => e = .returned (.bool (ofB a1 N)) ∧ w' = W) := HOF.out a1 N
      have H2 : Hid (∀ W, Calls Try.prog 21 #[.int .i64 a2, .int .i64 N] W fun e w' => e = .returned (.bool (ofB a2 N)) ∧ w' = W) := HOF.out a2 N
      have H3 : Hid (∀ W, Calls Try.prog 21 #[.int .i64 a3, .int .i64 N] W fun e w' => e = .returned (.bool (ofB a3 N)) ∧ w' = W) := HOF.out a3 N
      have HNN : Hid ((a1 == -1) = true → ofB a1 N = false) := fun e => by
        have : a1 = -1 := by simpa using e
        subst this; simp [ofB]
      have cW : ∀ o, (wr.alloc o).cell? ⟨b0, 0, none⟩ = some (.int .i64 L) ∧ (wr.alloc o).cell? ⟨b0, 1, none⟩ = some (.int .i64 N) := fun o => by
        have := B1.out _ (grown_trans hgw (grown_alloc _ o))
        exact ⟨this.1, this.2.1⟩
      have cL : ∀ o, (wr.alloc o).cell? ⟨b0, 0, none⟩ = some (.int .i64 L) := fun o => (cW o).1
      have cN : ∀ o, (wr.alloc o).cell? ⟨b0, 1, none⟩ = some (.int .i64 N) := fun o => (cW o).2
      have GA : Hid (∀ o, W1.grownBy (wr.alloc o) none) := fun o => grown_trans hgw (grown_alloc _ o)
      clear cW hgw HOF
      obtain ⟨q0, hq0⟩ : ∃ q, ofB a0 L = q := ⟨_, rfl⟩
      obtain ⟨q1, hq1⟩ : ∃ q, ofB a1 N = q := ⟨_, rfl⟩
      obtain ⟨q2, hq2⟩ : ∃ q, ofB a2 N = q := ⟨_, rfl⟩
      obtain ⟨q3, hq3⟩ : ∃ q, ofB a3 N = q := ⟨_, rfl⟩
      obtain ⟨m1, hm1⟩ : ∃ q, (a1 == -1) = q := ⟨_, rfl⟩
      obtain ⟨m2, hm2⟩ : ∃ q, (a2 == -1) = q := ⟨_, rfl⟩
      rw [hq0, hq1, hq2, hq3, hm1, hm2] at HNo HYes
      rw [hq0] at H0
      rw [hq1] at H1
      rw [hq2] at H2
      rw [hq3] at H3
      rw [hm1, hq1] at HNN
      clear hq0 hq1 hq2 hq3
      cases m1 <;> cases q1
      case true.true => exact absurd (HNN.out rfl) (by simp)
      case false.false =>
        clear HNN hm2
        go_wp2_with fail
        refine (H1.out _).mono ?_
        rintro E w2 ⟨rfl, rfl⟩
        go_wp2_with fail
        refine (H0.out _).mono ?_
        rintro E w2 ⟨rfl, rfl⟩
        have HF : Hid (¬ InRu R L N) := HNo.out (by simp)
        clear HNo HYes
        cases q0
        · go_wp2_with fail
          go_ret
          exact tellsB false rfl ⟨(fun e => by cases e), fun e => absurd e HF.out⟩ (grown_trans G1.out (GA.out _))
        · go_wp2_with fail
          refine (H3.out _).mono ?_
          rintro E w2 ⟨rfl, rfl⟩
          cases q3
          · go_wp2_with fail
            go_ret
            exact tellsB false rfl ⟨(fun e => by cases e), fun e => absurd e HF.out⟩ (grown_trans G1.out (GA.out _))
          · go_wp2_with fail
            go_ret
            exact tellsB false rfl ⟨(fun e => by cases e), fun e => absurd e HF.out⟩ (grown_trans G1.out (GA.out _))
      case false.true =>
        clear HNN hm2
        go_wp2_with fail
        refine (H1.out _).mono ?_
        rintro E w2 ⟨rfl, rfl⟩
        go_wp2_with fail
        refine (H2.out _).mono ?_
        rintro E w2 ⟨rfl, rfl⟩
        cases q2
        · have HF : Hid (¬ InRu R L N) := HNo.out (by simp)
          clear HNo HYes
          go_wp2_with fail
          refine (H0.out _).mono ?_
          rintro E w2 ⟨rfl, rfl⟩
          cases q0
          · go_wp2_with fail
            go_ret
            exact tellsB false rfl ⟨(fun e => by cases e), fun e => absurd e HF.out⟩ (grown_trans G1.out (GA.out _))
          · go_wp2_with fail
            refine (H3.out _).mono ?_
            rintro E w2 ⟨rfl, rfl⟩
            cases q3
            · go_wp2_with fail
              go_ret
              exact tellsB false rfl ⟨(fun e => by cases e), fun e => absurd e HF.out⟩ (grown_trans G1.out (GA.out _))
            · go_wp2_with fail
              go_ret
              exact tellsB false rfl ⟨(fun e => by cases e), fun e => absurd e HF.out⟩ (grown_trans G1.out (GA.out _))
        · go_wp2_with fail
          refine (H0.out _).mono ?_
          rintro E w2 ⟨rfl, rfl⟩
          cases q0
          · have HF : Hid (¬ InRu R L N) := HNo.out (by simp)
            clear HNo HYes
            go_wp2_with fail
            go_ret
            exact tellsB false rfl ⟨(fun e => by cases e), fun e => absurd e HF.out⟩ (grown_trans G1.out (GA.out _))
          · go_wp2_with fail
            refine (H3.out _).mono ?_
            rintro E w2 ⟨rfl, rfl⟩
            cases q3
            · have HF : Hid (¬ InRu R L N) := HNo.out (by simp)
              clear HNo HYes
              go_wp2_with fail
              go_ret
              exact tellsB false rfl ⟨(fun e => by cases e), fun e => absurd e HF.out⟩ (grown_trans G1.out (GA.out _))
            · have HT : Hid _ := HYes.out (by simp)
              clear HNo HYes
              go_wp2_with fail
              go_roundw
              case rel => exact ⟨k + 1, by omega, by go_num, GA.out _, HT.out⟩
              case measure => simp [intOf]; omega
      case true.false =>
        clear HNN
        go_wp2_with fail
        refine (H1.out _).mono ?_
        rintro E w2 ⟨rfl, rfl⟩
        cases m2
        · have HF : Hid (¬ InRu R L N) := HNo.out (by simp)
          clear HNo HYes
          go_wp2_with fail
          refine (H0.out _).mono ?_
          rintro E w2 ⟨rfl, rfl⟩
          cases q0
          · go_wp2_with fail
            go_ret
            exact tellsB false rfl ⟨(fun e => by cases e), fun e => absurd e HF.out⟩ (grown_trans G1.out (GA.out _))
          · go_wp2_with fail
            refine (H3.out _).mono ?_
            rintro E w2 ⟨rfl, rfl⟩
            cases q3
            · go_wp2_with fail
              go_ret
              exact tellsB false rfl ⟨(fun e => by cases e), fun e => absurd e HF.out⟩ (grown_trans G1.out (GA.out _))
            · go_wp2_with fail
              go_ret
              exact tellsB false rfl ⟨(fun e => by cases e), fun e => absurd e HF.out⟩ (grown_trans G1.out (GA.out _))
        · go_wp2_with fail
          refine (H0.out _).mono ?_
          rintro E w2 ⟨rfl, rfl⟩
          cases q0
          · have HF : Hid (¬ InRu R L N) := HNo.out (by simp)
            clear HNo HYes
            go_wp2_with fail
            go_ret
            exact tellsB false rfl ⟨(fun e => by cases e), fun e => absurd e HF.out⟩ (grown_trans G1.out (GA.out _))
          · go_wp2_with fail
            refine (H3.out _).mono ?_
            rintro E w2 ⟨rfl, rfl⟩
            cases q3
            · have HF : Hid (¬ InRu R L N) := HNo.out (by simp)
              clear HNo HYes
              go_wp2_with fail
              go_ret
              exact tellsB false rfl ⟨(fun e => by cases e), fun e => absurd e HF.out⟩ (grown_trans G1.out (GA.out _))
            · have HT : Hid _ := HYes.out (by simp)
              clear HNo HYes
              go_wp2_with fail
              go_roundw
              case rel => exact ⟨k + 1, by omega, by go_num, GA.out _, HT.out⟩
              case measure => simp [intOf]; omega
    · have hki : ¬ (k : Int) < (R.length : Int) := by omega
      go_wp2_with fail
      go_ret
      exact tellsB true rfl ⟨fun _ => fun i hi => HJ.out i (by omega), fun _ => rfl⟩ (grown_trans G1.out G.out)

end Go.Proofs.Ytofjmakmbmndoaa
