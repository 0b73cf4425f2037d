/- The reference's given and good: sets of states from one place up, without the child that is none. -/
import Derived.Test.YtppikfgfmlipmaaTrSetW
import Derived.Test.YtppikfgfmlipmaaTrWith
namespace Go.Proofs.Ytppikfgfmlipmaa
open Go.RowKit
set_option linter.unusedVariables false

theorem two_bit (s q : Nat) : (2 * s).testBit (q + 1) = s.testBit q := by
  rw [Nat.testBit_succ]
  congr 1
  omega
theorem two_zero (s : Nat) : (2 * s).testBit 0 = false := by simp
theorem shrT {s : Nat} (hs : s < 64) (q : Nat) : bits .and .i64 ((s : Int) / 2 ^ q) 1 = if s.testBit q = true then 1 else 0 := by
  have e1 : ((s : Int) / 2 ^ q) = ((s / 2 ^ q : Nat) : Int) := by simp
  have h1 : s / 2 ^ q < 4096 := Nat.lt_of_le_of_lt (Nat.div_le_self _ _) (by omega)
  have e2 := andT h1 (show 1 < 4096 by omega)
  rw [e1]
  have e3 : ((1 : Nat) : Int) = 1 := rfl
  rw [e3] at e2
  rw [e2, Nat.and_one_is_mod, Nat.testBit_eq_decide_div_mod_eq]
  have := Nat.mod_two_eq_zero_or_one (s / 2 ^ q)
  rcases this with h | h <;> simp [h]
theorem two_or (x u : Nat) : 2 * x ||| 2 ^ (u + 1) = 2 * (x ||| 2 ^ u) := by
  refine Nat.eq_of_testBit_eq fun i => ?_
  cases i with
  | zero => rw [Nat.testBit_or, two_zero, two_zero, Nat.testBit_two_pow]; simp
  | succ i => rw [Nat.testBit_or, two_bit, two_bit, Nat.testBit_or, Nat.testBit_two_pow, Nat.testBit_two_pow]; simp

set_option maxHeartbeats 3200000 in
theorem good_any (L S0 : Int) (N s : Nat) (M : List Int) (b e : Option Addr) (nR d f : Nat) (w : World) (hM : M.length = N) (hN : N ≤ 6) (hs : s < 64) (h : Ints w e M) :
    Calls Try.prog 15 #[trsV L (N : Int) b nR d S0 e N f, .int .i64 (s : Int)] w (Says (.bool (mkS M (2 * s) N)) w) := by
  have HM : Hid (∀ W, w.grownBy W none → Ints W e M) := fun W hW => h.grown hW
  have HL : Hid (M.length = N) := hM
  obtain ⟨W0, hW0, g0, s0, bx0⟩ := box5_new w (.int .i64 L) (.int .i64 (N : Int)) (.slice b nR d) (.int .i64 S0) (.slice e N f) 25
  have HW0 : Hid (W0 = _) := hW0
  have G0 : Hid (w.grownBy W0 none) := g0
  have B0 : Hid (∀ W', W0.grownBy W' none → W'.cell? ⟨w.heap.size, 1, none⟩ = some (.int .i64 (N : Int)) ∧ W'.cell? ⟨w.heap.size, 4, none⟩ = some (.slice e N f)) := fun W' hW' => ⟨(bx0 W' hW').2.1, (bx0 W' hW').2.2.2.2⟩
  clear h hM hW0 g0 s0 bx0
  go_enter Try.func15, Try.ntmps15
  go_wp2_with fail
  rw [← HW0.out]
  go_loopw [5] (fun v wr => ∃ (q : Nat), v = .int .i64 (q : Int) ∧ q ≤ N ∧ mkS M (2 * s) q = false ∧ W0.grownBy wr none) (fun v _ => N - (intOf v).toNat)
  case atStart => exact ⟨0, rfl, by omega, rfl, grown_refl _ _⟩
  case round =>
    obtain ⟨q, rfl, hq, hmk, hg⟩ := hrel
    have G1 : Hid (W0.grownBy wr none) := hg
    have HK : Hid (mkS M (2 * s) q = false) := hmk
    obtain ⟨x1, x4⟩ := B0.out wr hg
    clear hg hmk
    by_cases hqn : q < N
    · have qq : (q : Int) < (N : Int) := by omega
      obtain ⟨gb, goff, rfl, hc⟩ := (HM.out wr (grown_trans G0.out G1.out)).at (k := q) (by rw [HL.out]; exact hqn)
      have ck := hc q (by rw [HL.out]; exact hqn)
      have HS : Hid (mkS M (2 * s) (q + 1) = (mkS M (2 * s) q || ((M.getD q 0 == 1) && (2 * s).testBit (q + 1)))) := rfl
      clear hc
      obtain ⟨m, hm⟩ : ∃ m, M.getD q 0 = m := ⟨_, rfl⟩
      have HV : Hid (M.getD q 0 = m) := hm
      rw [hm] at ck HS
      clear hm
      have hq0 : ¬ (q : Int) < 0 := by omega
      have hb := shrT hs q
      rw [two_bit] at HS
      obtain ⟨bq, hbq⟩ : ∃ bq, s.testBit q = bq := ⟨_, rfl⟩
      have HT : Hid ((2 * s).testBit (q + 1) = bq) := by show _ = _; rw [two_bit, hbq]
      rw [hbq] at hb HS
      clear hbq
      cases bq
      · have HN : Hid (mkS M (2 * s) (q + 1) = false) := by show _ = _; rw [HS.out, HK.out]; simp
        simp only [Bool.false_eq_true, if_false] at hb
        go_wp2_with fail
        go_roundw
        case rel => exact ⟨q + 1, by go_num, by omega, HN.out, G1.out⟩
        case measure => simp [intOf]; omega
      · simp only [if_true] at hb
        by_cases hm : m = 1
        · have HN : Hid (mkS M (2 * s) N = true) := mkS_iff.2 ⟨q, hqn, HV.out.trans hm, HT.out⟩
          subst hm
          go_wp2_with fail
          go_ret
          exact ⟨by rw [HN.out]; rfl, grown_trans G0.out G1.out⟩
        · have HN : Hid (mkS M (2 * s) (q + 1) = false) := by show _ = _; rw [HS.out, HK.out]; simp [hm]
          go_wp2_with fail
          go_roundw
          case rel => exact ⟨q + 1, by go_num, by omega, HN.out, G1.out⟩
          case measure => simp [intOf]; omega
    · have qq : ¬ (q : Int) < (N : Int) := by omega
      obtain rfl : q = N := by omega
      go_wp2_with fail
      go_ret
      exact ⟨by rw [HK.out]; rfl, grown_trans G0.out G1.out⟩

set_option maxHeartbeats 6400000 in
theorem given_leaf (R : List RuleI) (L S0 l : Int) (N nR d nM f : Nat) (b e : Option Addr) (w : World) (hR : InRu R L N) (hN : N ≤ 6) (hnR : R.length = nR) (h4 : nR ≤ 1000000) (h : RulesAt w b R) (x : Nat) (hx : nxA R l 1 1 = 2 * x) :
    Calls Try.prog 14 #[trsV L (N : Int) b nR d S0 e nM f, .int .i64 l, .int .i64 (-1), .int .i64 (-1)] w (Says (.int .i64 (x : Int)) w) := by
  have HR : Hid (∀ W, w.grownBy W none → RulesAt W b R) := fun W hW => h.grown hW
  have HRu : Hid (InRu R L N) := hR
  have HnR : Hid (R.length = nR) := hnR
  have HB : Hid (∀ k, k ≤ nR → nxS R l 1 1 k < 4096) := fun k hk => by
    have h1 := nxS_lt hR (l := l) (s := 1) (t := 1) (k := k) (by omega)
    have h2 : 2 ^ (N + 1) ≤ 2 ^ 12 := Nat.pow_le_pow_right (by decide) (by omega)
    exact Nat.lt_of_lt_of_le h1 (by simpa using h2)
  have HZ : Hid (nxS R l 1 1 nR = 2 * x) := by show _ = _; rw [← hx, ← hnR]; rfl
  obtain ⟨W0, hW0, g0, s0, bx0⟩ := box5_new w (.int .i64 L) (.int .i64 (N : Int)) (.slice b nR d) (.int .i64 S0) (.slice e nM f) 25
  have HW0 : Hid (W0 = _) := hW0
  have G0 : Hid (w.grownBy W0 none) := g0
  have B0 : Hid (∀ W', W0.grownBy W' none → W'.cell? ⟨w.heap.size, 2, none⟩ = some (.slice b nR d)) := fun W' hW' => (bx0 W' hW').2.2.1
  clear h hR hnR hx hW0 g0 s0 bx0
  go_enter Try.func14, Try.ntmps14
  go_wp2_with fail
  rw [← HW0.out]
  go_loopw [9, 10] (fun v9 v10 wr => ∃ (k y : Nat), v9 = .int .i64 (y : Int) ∧ v10 = .int .i64 (k : Int) ∧ k ≤ nR ∧ nxS R l 1 1 k = 2 * y ∧ W0.grownBy wr none) (fun _ v10 _ => nR - (intOf v10).toNat)
  case atStart => exact ⟨0, 0, rfl, rfl, by omega, rfl, grown_refl _ _⟩
  case round =>
    obtain ⟨k, y, rfl, rfl, hk, hy, hg⟩ := hrel
    have HX : Hid (nxS R l 1 1 k = 2 * y) := hy
    have G : Hid (W0.grownBy wr none) := hg
    have x2 := B0.out wr hg
    clear hy hg
    by_cases hkn : k < nR
    · have qk : (k : Int) < (nR : Int) := by omega
      obtain ⟨bb, off, rfl, hc⟩ := (HR.out wr (grown_trans G0.out G.out)).at (k := k) (by rw [HnR.out]; exact hkn)
      obtain ⟨y0, y1, y2, y3⟩ := hc k (by rw [HnR.out]; exact hkn)
      have hin : RuIn L N (R.getD k ru0) := HRu.out k (by rw [HnR.out]; exact hkn)
      have HNx : Hid (nxS R l 1 1 (k + 1) = if hitS l 1 1 (R.getD k ru0) = true then 2 * y ||| 2 ^ plc (R.getD k ru0).2.2.2 else 2 * y) := by show _ = _; rw [nxS, HX.out]
      have hy4 : y < 4096 := by have := HB.out k (by omega); rw [HX.out] at this; omega
      unfold RuIn at hin
      clear hc
      generalize R.getD k ru0 = r at *
      obtain ⟨r0, r1, r2, r3⟩ := r
      simp only at y0 y1 y2 y3 hin HNx
      obtain ⟨u, rfl⟩ : ∃ u : Nat, r3 = u := ⟨r3.toNat, by omega⟩
      have hu : u < 12 := by omega
      have hw := pow_wrapT hu
      have hpl := pow_ltT hu
      have ho := orT hy4 hpl
      have HOr : Hid (2 * y ||| 2 ^ plc (u : Int) = 2 * (y ||| 2 ^ u)) := by show _ = _; rw [plc_nat, two_or]
      generalize 2 ^ u = v at *
      generalize y ||| v = yv at *
      have hu0 : ¬ ((u : Int) < 0) := by omega
      have GA : Hid (∀ o, W0.grownBy (wr.alloc o) none) := fun o => grown_trans G.out (grown_alloc _ o)
      by_cases e0 : r0 = l
      · subst e0
        by_cases h1 : r1 = -1
        · subst h1
          have h2 : r2 = -1 := by omega
          subst h2
          have HN : Hid (nxS R r0 1 1 (k + 1) = 2 * yv) := by show _ = _; rw [HNx.out, if_pos (by unfold hitS; simp [plc_none])]; exact HOr.out
          go_wp2_with fail
          go_roundw
          case rel => exact ⟨k + 1, yv, rfl, by go_num, by omega, HN.out, GA.out _⟩
          case measure => simp [intOf]; omega
        · have b1 : (r1 == -1) = false := beq_eq_false_iff_ne.2 h1
          have HN : Hid (nxS R r0 1 1 (k + 1) = 2 * y) := by show _ = _; rw [HNx.out, if_neg (by obtain ⟨p, rfl⟩ : ∃ p : Nat, r1 = p := ⟨r1.toNat, by omega⟩; unfold hitS; simp [plc_nat, Nat.testBit_succ])]
          go_wp2_with fail
          go_roundw
          case rel => exact ⟨k + 1, y, rfl, by go_num, by omega, HN.out, GA.out _⟩
          case measure => simp [intOf]; omega
      · have HN : Hid (nxS R l 1 1 (k + 1) = 2 * y) := by show _ = _; rw [HNx.out, if_neg (by unfold hitS; simp [e0])]
        go_wp2_with fail
        go_roundw
        case rel => exact ⟨k + 1, y, rfl, by go_num, by omega, HN.out, GA.out _⟩
        case measure => simp [intOf]; omega
    · have qk : ¬ (k : Int) < (nR : Int) := by omega
      obtain rfl : k = nR := by omega
      have Hz : Hid (x = y) := by show _ = _; have := HZ.out; have := HX.out; omega
      go_wp2_with fail
      go_ret
      exact ⟨ret_int (by rw [Hz.out]), grown_trans G0.out G.out⟩

set_option maxHeartbeats 6400000 in
theorem given_node (R : List RuleI) (L S0 l : Int) (N nR d nM f : Nat) (s t : Nat) (hs : s < 64) (ht : t < 64) (b e : Option Addr) (w : World) (hR : InRu R L N) (hN : N ≤ 6) (hnR : R.length = nR) (h4 : nR ≤ 1000000) (h : RulesAt w b R) (x : Nat) (hx : nxA R l (2 * s) (2 * t) = 2 * x) :
    Calls Try.prog 14 #[trsV L (N : Int) b nR d S0 e nM f, .int .i64 l, .int .i64 (s : Int), .int .i64 (t : Int)] w (Says (.int .i64 (x : Int)) w) := by
  have HR : Hid (∀ W, w.grownBy W none → RulesAt W b R) := fun W hW => h.grown hW
  have HRu : Hid (InRu R L N) := hR
  have HnR : Hid (R.length = nR) := hnR
  have HB : Hid (∀ k, k ≤ nR → nxS R l (2 * s) (2 * t) k < 4096) := fun k hk => by
    have h1 := nxS_lt hR (l := l) (s := (2 * s)) (t := (2 * t)) (k := k) (by omega)
    have h2 : 2 ^ (N + 1) ≤ 2 ^ 12 := Nat.pow_le_pow_right (by decide) (by omega)
    exact Nat.lt_of_lt_of_le h1 (by simpa using h2)
  have HZ : Hid (nxS R l (2 * s) (2 * t) nR = 2 * x) := by show _ = _; rw [← hx, ← hnR]; rfl
  obtain ⟨W0, hW0, g0, s0, bx0⟩ := box5_new w (.int .i64 L) (.int .i64 (N : Int)) (.slice b nR d) (.int .i64 S0) (.slice e nM f) 25
  have HW0 : Hid (W0 = _) := hW0
  have G0 : Hid (w.grownBy W0 none) := g0
  have B0 : Hid (∀ W', W0.grownBy W' none → W'.cell? ⟨w.heap.size, 2, none⟩ = some (.slice b nR d)) := fun W' hW' => (bx0 W' hW').2.2.1
  clear h hR hnR hx hW0 g0 s0 bx0
  go_enter Try.func14, Try.ntmps14
  go_wp2_with fail
  rw [← HW0.out]
  go_loopw [9, 10] (fun v9 v10 wr => ∃ (k y : Nat), v9 = .int .i64 (y : Int) ∧ v10 = .int .i64 (k : Int) ∧ k ≤ nR ∧ nxS R l (2 * s) (2 * t) k = 2 * y ∧ W0.grownBy wr none) (fun _ v10 _ => nR - (intOf v10).toNat)
  case atStart => exact ⟨0, 0, rfl, rfl, by omega, rfl, grown_refl _ _⟩
  case round =>
    obtain ⟨k, y, rfl, rfl, hk, hy, hg⟩ := hrel
    have HX : Hid (nxS R l (2 * s) (2 * t) k = 2 * y) := hy
    have G : Hid (W0.grownBy wr none) := hg
    have x2 := B0.out wr hg
    clear hy hg
    by_cases hkn : k < nR
    · have qk : (k : Int) < (nR : Int) := by omega
      obtain ⟨bb, off, rfl, hc⟩ := (HR.out wr (grown_trans G0.out G.out)).at (k := k) (by rw [HnR.out]; exact hkn)
      obtain ⟨y0, y1, y2, y3⟩ := hc k (by rw [HnR.out]; exact hkn)
      have hin : RuIn L N (R.getD k ru0) := HRu.out k (by rw [HnR.out]; exact hkn)
      have HNx : Hid (nxS R l (2 * s) (2 * t) (k + 1) = if hitS l (2 * s) (2 * t) (R.getD k ru0) = true then 2 * y ||| 2 ^ plc (R.getD k ru0).2.2.2 else 2 * y) := by show _ = _; rw [nxS, HX.out]
      have hy4 : y < 4096 := by have := HB.out k (by omega); rw [HX.out] at this; omega
      unfold RuIn at hin
      clear hc
      generalize R.getD k ru0 = r at *
      obtain ⟨r0, r1, r2, r3⟩ := r
      simp only at y0 y1 y2 y3 hin HNx
      obtain ⟨u, rfl⟩ : ∃ u : Nat, r3 = u := ⟨r3.toNat, by omega⟩
      have hu : u < 12 := by omega
      have hw := pow_wrapT hu
      have hpl := pow_ltT hu
      have ho := orT hy4 hpl
      have HOr : Hid (2 * y ||| 2 ^ plc (u : Int) = 2 * (y ||| 2 ^ u)) := by show _ = _; rw [plc_nat, two_or]
      generalize 2 ^ u = v at *
      generalize y ||| v = yv at *
      have hu0 : ¬ ((u : Int) < 0) := by omega
      have GA : Hid (∀ o, W0.grownBy (wr.alloc o) none) := fun o => grown_trans G.out (grown_alloc _ o)
      by_cases e0 : r0 = l
      · subst e0
        by_cases h1 : r1 = -1
        · have HN : Hid (nxS R r0 (2 * s) (2 * t) (k + 1) = 2 * y) := by show _ = _; rw [HNx.out, if_neg (by unfold hitS; simp [h1, plc_none])]
          go_wp2_with fail
          go_roundw
          case rel => exact ⟨k + 1, y, rfl, by go_num, by omega, HN.out, GA.out _⟩
          case measure => simp [intOf]; omega
        · obtain ⟨p, rfl⟩ : ∃ p : Nat, r1 = p := ⟨r1.toNat, by omega⟩
          obtain ⟨q, rfl⟩ : ∃ q : Nat, r2 = q := ⟨r2.toNat, by omega⟩
          have hp0 : ¬ ((p : Int) < 0) := by omega
          have hq0 : ¬ ((q : Int) < 0) := by omega
          have hbp := shrT hs p
          have hbq := shrT ht q
          have HH : Hid (hitS r0 (2 * s) (2 * t) (r0, (p : Int), (q : Int), (u : Int)) = (s.testBit p && t.testBit q)) := by
            show _ = _
            unfold hitS
            simp only [plc_nat, two_bit]
            simp
          generalize s.testBit p = bp at *
          generalize t.testBit q = bq at *
          have hp12 : p < 12 := by omega
          have hq12 : q < 12 := by omega
          clear hin
          cases bp
          · simp only [Bool.false_eq_true, if_false] at hbp
            have HN : Hid (nxS R r0 (2 * s) (2 * t) (k + 1) = 2 * y) := by show _ = _; rw [HNx.out, if_neg (by rw [HH.out]; simp)]
            go_wp2_with fail
            go_roundw
            case rel => exact ⟨k + 1, y, rfl, by go_num, by omega, HN.out, GA.out _⟩
            case measure => simp [intOf]; omega
          · simp only [if_true] at hbp
            cases bq
            · simp only [Bool.false_eq_true, if_false] at hbq
              have HN : Hid (nxS R r0 (2 * s) (2 * t) (k + 1) = 2 * y) := by show _ = _; rw [HNx.out, if_neg (by rw [HH.out]; simp)]
              go_wp2_with fail
              go_roundw
              case rel => exact ⟨k + 1, y, rfl, by go_num, by omega, HN.out, GA.out _⟩
              case measure => simp [intOf]; omega
            · simp only [if_true] at hbq
              have HN : Hid (nxS R r0 (2 * s) (2 * t) (k + 1) = 2 * yv) := by show _ = _; rw [HNx.out, if_pos (by rw [HH.out]; rfl)]; exact HOr.out
              go_wp2_with fail
              go_roundw
              case rel => exact ⟨k + 1, yv, rfl, by go_num, by omega, HN.out, GA.out _⟩
              case measure => simp [intOf]; omega
      · have HN : Hid (nxS R l (2 * s) (2 * t) (k + 1) = 2 * y) := by show _ = _; rw [HNx.out, if_neg (by unfold hitS; simp [e0])]
        go_wp2_with fail
        go_roundw
        case rel => exact ⟨k + 1, y, rfl, by go_num, by omega, HN.out, GA.out _⟩
        case measure => simp [intOf]; omega
    · have qk : ¬ (k : Int) < (nR : Int) := by omega
      obtain rfl : k = nR := by omega
      have Hz : Hid (x = y) := by show _ = _; have := HZ.out; have := HX.out; omega
      go_wp2_with fail
      go_ret
      exact ⟨ret_int (by rw [Hz.out]), grown_trans G0.out G.out⟩

end Go.Proofs.Ytppikfgfmlipmaa
