/- What is wrong with rules, and with configs: the program's Check and checkAll. -/
import Derived.Test.YtcgkflddipflbaaSkSpec
namespace Go.Proofs.Ytcgkflddipflbaa
open Go.RowKit
set_option linter.unusedVariables false

theorem isOneSk_any (x : Int) (w : World) : Calls Try.prog 26 #[.int .i64 x] w fun e w' => e = .returned (.bool (oneSk x)) ∧ w' = w := by
  obtain ⟨y, hy⟩ : ∃ y, oneSk x = y := ⟨_, rfl⟩
  have HY : Hid (oneSk x = y) := hy
  rw [hy]
  clear hy
  by_cases h0 : 0 ≤ x
  · have e0 : decide (0 ≤ x) = true := by simpa using h0
    have HE : Hid (oneSk x = decide (x < 3)) := by show _ = _; simp [oneSk, h0]
    obtain ⟨z, hz⟩ : ∃ z, decide (x < 3) = z := ⟨_, rfl⟩
    rw [hz] at HE
    clear h0
    go_enter Try.func26, Try.ntmps26
    go_wp2_with fail
    go_ret
    exact ⟨by rw [← HY.out, HE.out]; rfl, rfl⟩
  · have e0 : decide (0 ≤ x) = false := by simpa using h0
    have HE : Hid (oneSk x = false) := by show _ = _; simp [oneSk, h0]
    clear h0
    go_enter Try.func26, Try.ntmps26
    go_wp2_with fail
    go_ret
    exact ⟨by rw [← HY.out, HE.out]; rfl, rfl⟩

set_option maxHeartbeats 1600000 in
theorem allOnesSk_any (a : Option Addr) (c : Nat) (zs : List Int) (w : World) (h : Ints w a zs) (hm : zs.length ≤ maxLen) :
    Calls Try.prog 27 #[.slice a zs.length c] w (TellsB (OnesSk zs) w) := by
  unfold maxLen at hm
  have HZ : Hid (Ints w a zs) := h
  have HO : Hid (∀ x W, Calls Try.prog 26 #[.int .i64 x] W fun e w' => e = .returned (.bool (oneSk x)) ∧ w' = W) := fun x W => isOneSk_any x W
  clear h
  go_enter Try.func27, Try.ntmps27
  go_wp2_with fail
  go_loop [7] (fun v => ∃ k : Nat, k ≤ zs.length ∧ v = .int .i64 k ∧ ∀ j, j < k → oneSk (zs.getD j 0) = true) (fun v => zs.length - (intOf v).toNat)
  case atStart => exact ⟨0, Nat.zero_le _, rfl, fun j hj => by omega⟩
  case round =>
    obtain ⟨k, hk, rfl, hg⟩ := hrel
    have HJ : Hid (∀ j, j < k → oneSk (zs.getD j 0) = true) := hg
    clear hg
    by_cases hlt : k < zs.length
    · obtain ⟨bb, off, rfl, hc⟩ := HZ.out.at hlt
      have hki : (k : Int) < (zs.length : Int) := by omega
      have hck := hc k hlt
      clear hc
      obtain ⟨x, hx⟩ : ∃ x, zs.getD k 0 = x := ⟨_, rfl⟩
      rw [hx] at hck
      have H1 : Hid (∀ W, Calls Try.prog 26 #[.int .i64 x] W fun e w' => e = .returned (.bool (oneSk x)) ∧ w' = W) := HO.out x
      have HT : Hid (oneSk x = true → ∀ j, j < k + 1 → oneSk (zs.getD j 0) = true) := fun hh j hj => by
        by_cases hjk : j = k
        · subst hjk; rw [hx]; exact hh
        · exact HJ.out j (by omega)
      have HF : Hid (oneSk x = false → ¬ OnesSk zs) := fun hh e => by have := e k hlt; rw [hx, hh] at this; cases this
      clear hx
      generalize oneSk x = q at *
      go_wp2_with fail
      refine (H1.out _).mono ?_
      rintro E w2 ⟨rfl, rfl⟩
      cases q
      · have HF2 : Hid (¬ OnesSk zs) := HF.out rfl
        clear HT HF
        go_wp2_with fail
        go_ret
        exact tellsB false rfl ⟨(fun e => by cases e), fun e => absurd e HF2.out⟩ (grown_refl _ _)
      · have HT2 : Hid _ := HT.out rfl
        clear HT HF
        go_wp2_with fail
        go_round
        case rel => exact ⟨k + 1, by omega, by go_num, HT2.out⟩
        case measure => simp [intOf]; omega
    · have hki : ¬ (k : Int) < (zs.length : Int) := by omega
      go_wp2_with fail
      go_ret
      exact tellsB true rfl ⟨fun _ => fun i hi => HJ.out i (by omega), fun _ => rfl⟩ (grown_refl _ _)

set_option maxHeartbeats 1600000 in
theorem putsSk_any (a : Option Addr) (c : Nat) (L : List Psh) (w : World) (h : PushAt w a L) (hm : L.length ≤ maxLen) :
    Calls Try.prog 35 #[.slice a L.length c] w (TellsB (PutsSk L) w) := by
  unfold maxLen at hm
  have HZ : Hid (PushAt w a L) := h
  clear h
  go_enter Try.func35, Try.ntmps35
  go_wp2_with fail
  go_loopw [7] (fun v wr => ∃ k : Nat, k ≤ L.length ∧ v = .int .i64 k ∧ w.grownBy wr none ∧ ∀ j, j < k → (L.getD j pu0).P.length ≤ 2) (fun v _ => L.length - (intOf v).toNat)
  case atStart => exact ⟨0, Nat.zero_le _, rfl, grown_refl _ _, fun j hj => by omega⟩
  case round =>
    obtain ⟨k, hk, rfl, hgw, hg⟩ := hrel
    have HJ : Hid (∀ j, j < k → (L.getD j pu0).P.length ≤ 2) := hg
    have G : Hid (w.grownBy wr none) := hgw
    clear hg
    by_cases hlt : k < L.length
    · obtain ⟨bb, off, rfl, hc⟩ := (HZ.out.grown hgw).at hlt
      obtain ⟨y0, y1, y2, ap, cp, y3, y4, y5⟩ := hc k hlt
      have hki : (k : Int) < (L.length : Int) := by omega
      have HNo : Hid (¬ (L.getD k pu0).P.length ≤ 2 → ¬ PutsSk L) := fun hx e => hx (e k hlt)
      have HYes : Hid ((L.getD k pu0).P.length ≤ 2 → ∀ j, j < k + 1 → (L.getD j pu0).P.length ≤ 2) := fun hx j hj => by
        by_cases e : j = k
        · subst e; exact hx
        · exact HJ.out j (by omega)
      have GA : Hid (∀ o, w.grownBy (wr.alloc o) none) := fun o => grown_trans hgw (grown_alloc _ o)
      clear hc y4 hgw
      generalize L.getD k pu0 = x at *
      obtain ⟨a0, a1, a2, a3⟩ := x
      simp only at y0 y1 y2 y3 y5
      unfold maxLen at y5
      generalize a3.length = n3 at *
      by_cases e2 : 2 < n3
      · have e3 : decide ((2 : Int) < (n3 : Int)) = true := by simp; omega
        have HF2 : Hid (¬ PutsSk L) := HNo.out (by omega)
        clear HNo HYes e2
        go_wp2_with fail
        go_ret
        exact tellsB false rfl ⟨(fun e => by cases e), fun e => absurd e HF2.out⟩ (GA.out _)
      · have e3 : decide ((2 : Int) < (n3 : Int)) = false := by simp; omega
        have HT2 : Hid _ := HYes.out (by omega)
        clear HNo HYes e2
        go_wp2_with fail
        go_roundw
        case rel => exact ⟨k + 1, by omega, by go_num, GA.out _, HT2.out⟩
        case measure => simp [intOf]; omega
    · have hki : ¬ (k : Int) < (L.length : Int) := by omega
      go_wp2_with fail
      go_ret
      exact tellsB true rfl ⟨fun _ => fun i hi => HJ.out i (by omega), fun _ => rfl⟩ G.out

set_option maxHeartbeats 6400000 in
set_option maxRecDepth 100000 in
theorem numsSk_any (a : Option Addr) (c : Nat) (L : List Psh) (w : World) (h : PushAt w a L) (hm : L.length ≤ maxLen) :
    Calls Try.prog 36 #[.slice a L.length c] w (TellsB (NumsSk L) w) := by
  unfold maxLen at hm
  have HZ : Hid (PushAt w a L) := h
  have HO : Hid (∀ x W, Calls Try.prog 26 #[.int .i64 x] W fun e w' => e = .returned (.bool (oneSk x)) ∧ w' = W) := fun x W => isOneSk_any x W
  clear h
  go_enter Try.func36, Try.ntmps36
  go_wp2_with fail
  go_loopw [7] (fun v wr => ∃ k : Nat, k ≤ L.length ∧ v = .int .i64 k ∧ w.grownBy wr none ∧ ∀ j, j < k → PshSk (L.getD j pu0)) (fun v _ => L.length - (intOf v).toNat)
  case atStart => exact ⟨0, Nat.zero_le _, rfl, grown_refl _ _, fun j hj => by omega⟩
  case round =>
    obtain ⟨k, hk, rfl, hgw, hg⟩ := hrel
    have HJ : Hid (∀ j, j < k → PshSk (L.getD j pu0)) := hg
    have G : Hid (w.grownBy wr none) := hgw
    clear hg
    by_cases hlt : k < L.length
    · obtain ⟨bb, off, rfl, hc⟩ := (HZ.out.grown hgw).at hlt
      obtain ⟨y0, y1, y2, ap, cp, y3, y4, y5⟩ := hc k hlt
      have hki : (k : Int) < (L.length : Int) := by omega
      have HNo : Hid (¬ PshSk (L.getD k pu0) → ¬ NumsSk L) := fun hx e => hx (e k hlt)
      have HYes : Hid (PshSk (L.getD k pu0) → ∀ j, j < k + 1 → PshSk (L.getD j pu0)) := fun hx j hj => by
        by_cases e : j = k
        · subst e; exact hx
        · exact HJ.out j (by omega)
      have GA : Hid (∀ o, w.grownBy (wr.alloc o) none) := fun o => grown_trans hgw (grown_alloc _ o)
      have H3 : Hid (∀ W, wr.grownBy W none → Calls Try.prog 27 #[.slice ap (L.getD k pu0).P.length cp] W (TellsB (OnesSk (L.getD k pu0).P) W)) := fun W hW => allOnesSk_any _ _ _ _ (y4.grown hW) y5
      clear hc y4 y5 hgw
      generalize L.getD k pu0 = x at *
      obtain ⟨a0, a1, a2, a3⟩ := x
      have HE : Hid (PshSk ⟨a0, a1, a2, a3⟩ ↔ oneSk a0 = true ∧ oneSk a1 = true ∧ oneSk a2 = true ∧ OnesSk a3) := Iff.rfl
      simp only at y0 y1 y2 y3 H3
      generalize PshSk ⟨a0, a1, a2, a3⟩ = PP at *
      generalize OnesSk a3 = P3 at *
      generalize a3.length = n3 at *
      have H0 : Hid (∀ W, Calls Try.prog 26 #[.int .i64 a0] W fun e w' => e = .returned (.bool (oneSk a0)) ∧ w' = W) := HO.out a0
      have H1 : Hid (∀ W, Calls Try.prog 26 #[.int .i64 a1] W fun e w' => e = .returned (.bool (oneSk a1)) ∧ w' = W) := HO.out a1
      have H2 : Hid (∀ W, Calls Try.prog 26 #[.int .i64 a2] W fun e w' => e = .returned (.bool (oneSk a2)) ∧ w' = W) := HO.out a2
      generalize oneSk a0 = q0 at *
      generalize oneSk a1 = q1 at *
      generalize oneSk a2 = q2 at *
      clear HO
      go_wp2_with fail
      refine (H0.out _).mono ?_
      rintro E w2 ⟨rfl, rfl⟩
      cases q0
      · have HF : Hid (¬ NumsSk L) := HNo.out (fun e => by have := (HE.out.1 e).1; cases this)
        go_wp2_with fail
        go_ret
        exact tellsB false rfl ⟨(fun e => by cases e), fun e => absurd e HF.out⟩ (GA.out _)
      go_wp2_with fail
      refine (H1.out _).mono ?_
      rintro E w2 ⟨rfl, rfl⟩
      cases q1
      · have HF : Hid (¬ NumsSk L) := HNo.out (fun e => by have := (HE.out.1 e).2.1; cases this)
        go_wp2_with fail
        go_ret
        exact tellsB false rfl ⟨(fun e => by cases e), fun e => absurd e HF.out⟩ (GA.out _)
      go_wp2_with fail
      refine (H2.out _).mono ?_
      rintro E w2 ⟨rfl, rfl⟩
      cases q2
      · have HF : Hid (¬ NumsSk L) := HNo.out (fun e => by have := (HE.out.1 e).2.2.1; cases this)
        go_wp2_with fail
        go_ret
        exact tellsB false rfl ⟨(fun e => by cases e), fun e => absurd e HF.out⟩ (GA.out _)
      go_wp2_with fail
      refine (H3.out _ (grown_alloc _ _)).mono ?_
      rintro E w2 ⟨q3, rfl, hq3, hg2⟩
      have GF : Hid (w.grownBy w2 none) := grown_trans (GA.out _) hg2
      clear hg2
      cases q3
      · have HF : Hid (¬ NumsSk L) := HNo.out (fun e => by have := hq3.2 (HE.out.1 e).2.2.2; cases this)
        clear hq3
        go_wp2_with fail
        go_ret
        exact tellsB false rfl ⟨(fun e => by cases e), fun e => absurd e HF.out⟩ GF.out
      have HT : Hid (∀ j, j < k + 1 → PshSk (L.getD j pu0)) := HYes.out (HE.out.2 ⟨by first | trivial | rfl, by first | trivial | rfl, by first | trivial | rfl, hq3.1 rfl⟩)
      clear HNo HYes hq3 HE
      go_wp2_with fail
      go_roundw
      case rel => exact ⟨k + 1, by omega, by go_num, GF.out, HT.out⟩
      case measure => simp [intOf]; omega
    · have hki : ¬ (k : Int) < (L.length : Int) := by omega
      go_wp2_with fail
      go_ret
      exact tellsB true rfl ⟨fun _ => fun i hi => HJ.out i (by omega), fun _ => rfl⟩ G.out

set_option maxHeartbeats 1600000 in
theorem checkSk_any (a : Option Addr) (c : Nat) (L : List Psh) (w : World) (h : PushAt w a L) (hm : L.length ≤ maxLen) :
    Calls Try.prog 25 #[.slice a L.length c] w (Says (.int .i64 (checkSk L)) w) := by
  have HP : Hid (∀ W, w.grownBy W none → Calls Try.prog 35 #[.slice a L.length c] W (TellsB (PutsSk L) W)) := fun W hW => putsSk_any _ _ _ _ (h.grown hW) hm
  have HN : Hid (∀ W, w.grownBy W none → Calls Try.prog 36 #[.slice a L.length c] W (TellsB (NumsSk L) W)) := fun W hW => numsSk_any _ _ _ _ (h.grown hW) hm
  unfold maxLen at hm
  have R1 : Hid (8 < L.length → checkSk L = 1) := checkSk_long
  have R2 : Hid (¬ 8 < L.length → ¬ PutsSk L → checkSk L = 1) := checkSk_put
  have R3 : Hid (¬ 8 < L.length → PutsSk L → ¬ NumsSk L → checkSk L = 2) := checkSk_num
  have R4 : Hid (¬ 8 < L.length → PutsSk L → NumsSk L → checkSk L = 0) := checkSk_ok
  generalize checkSk L = z at *
  generalize PutsSk L = PP at *
  generalize NumsSk L = PN at *
  generalize L.length = n at *
  clear h
  by_cases h8 : 8 < n
  · have e1 : decide ((8 : Int) < (n : Int)) = true := by simp; omega
    have Hz : Hid (z = 1) := R1.out h8
    clear R1 R2 R3 R4 h8
    go_enter Try.func25, Try.ntmps25
    go_wp2_with fail
    go_ret
    exact ⟨ret_int Hz.out.symm, grown_refl _ _⟩
  have e1 : decide ((8 : Int) < (n : Int)) = false := by simp; omega
  have H8 : Hid (¬ 8 < n) := h8
  clear h8 R1
  go_enter Try.func25, Try.ntmps25
  go_wp2_with fail
  refine (HP.out _ (grown_refl _ _)).mono ?_
  rintro E w2 ⟨b2, rfl, hb2, hg2⟩
  have G2 : Hid (w.grownBy w2 none) := hg2
  clear hg2
  cases b2
  · have Hz : Hid (z = 1) := R2.out H8.out (fun e => by have := hb2.2 e; cases this)
    clear R2 R3 R4 hb2
    go_wp2_with fail
    go_ret
    exact ⟨ret_int Hz.out.symm, G2.out⟩
  have P2 : Hid PP := hb2.1 rfl
  clear hb2 R2
  go_wp2_with fail
  refine (HN.out _ G2.out).mono ?_
  rintro E w3 ⟨b3, rfl, hb3, hg3⟩
  have G3 : Hid (w.grownBy w3 none) := grown_trans G2.out hg3
  clear hg3
  cases b3
  · have Hz : Hid (z = 2) := R3.out H8.out P2.out (fun e => by have := hb3.2 e; cases this)
    clear R3 R4 hb3
    go_wp2_with fail
    go_ret
    exact ⟨ret_int Hz.out.symm, G3.out⟩
  · have Hz : Hid (z = 0) := R4.out H8.out P2.out (hb3.1 rfl)
    clear R3 R4 hb3
    go_wp2_with fail
    go_ret
    exact ⟨ret_int Hz.out.symm, G3.out⟩

/-- What is wrong with rules, then with configs. -/
def allSk (L : List Psh) (cs : List Cfg) : Int := if checkSk L = 0 then cfgsSk cs else checkSk L
theorem allSk_bad {L : List Psh} {cs : List Cfg} (h : checkSk L ≠ 0) : allSk L cs = checkSk L := by unfold allSk; rw [if_neg h]
theorem allSk_good {L : List Psh} {cs : List Cfg} (h : checkSk L = 0) : allSk L cs = cfgsSk cs := by unfold allSk; rw [if_pos h]

set_option maxHeartbeats 3200000 in
set_option maxRecDepth 100000 in
theorem checkAll_any (a : Option Addr) (c g : Nat) (L : List Psh) (cs : List Cfg) (w : World) (h : PushAt w a L) (hm : L.length ≤ maxLen) (hc : CfgsAt w g cs) (hl : cs.length ≤ 10) :
    Calls Try.prog 15 #[.slice a L.length c, .slice (some ⟨g, 0, none⟩) cs.length cs.length] w (Says (.int .i64 (allSk L cs)) w) := by
  have HK : Hid (Calls Try.prog 25 #[.slice a L.length c] w (Says (.int .i64 (checkSk L)) w)) := checkSk_any _ _ _ _ h hm
  have HO : Hid (∀ x W, Calls Try.prog 26 #[.int .i64 x] W fun e w' => e = .returned (.bool (oneSk x)) ∧ w' = W) := fun x W => isOneSk_any x W
  have HC : Hid (∀ W, w.grownBy W none → CfgsAt W g cs) := fun W hW => hc.grown hW
  have HB : Hid (checkSk L = 0 → ∀ k, k < cs.length → (∀ j, j < k → cfgSk (cs.getD j cf0) = 0) → cfgSk (cs.getD k cf0) ≠ 0 → allSk L cs = cfgSk (cs.getD k cf0)) := fun h0 k hk h1 h2 => by rw [allSk_good h0]; exact cfgsSk_bad cs k hk h1 h2
  have HG : Hid (checkSk L = 0 → (∀ j, j < cs.length → cfgSk (cs.getD j cf0) = 0) → allSk L cs = 0) := fun h0 h1 => by rw [allSk_good h0]; exact cfgsSk_ok cs h1
  have HN : Hid (checkSk L ≠ 0 → allSk L cs = checkSk L) := allSk_bad
  generalize allSk L cs = z at *
  generalize checkSk L = y at *
  generalize L.length = n at *
  clear h hc hm
  by_cases hy : y = 0
  case neg =>
    have e1 : (y != 0) = true := by simpa using hy
    have Hz : Hid (z = y) := HN.out hy
    clear HB HG HN hy
    go_enter Try.func15, Try.ntmps15
    go_wp2_with fail
    refine HK.out.mono ?_
    rintro E w2 ⟨rfl, hg2⟩
    have G2 : Hid (w.grownBy w2 none) := hg2
    clear hg2
    go_wp2_with fail
    go_ret
    exact ⟨ret_int Hz.out.symm, G2.out⟩
  have HB0 : Hid _ := HB.out hy
  have HG0 : Hid _ := HG.out hy
  rw [hy] at HK
  clear HB HG HN hy
  obtain ⟨m, hmm⟩ : ∃ m, cs.length = m := ⟨_, rfl⟩
  have HM : Hid (cs.length = m) := hmm
  rw [hmm] at hl ⊢
  clear hmm
  go_enter Try.func15, Try.ntmps15
  go_wp2_with fail
  refine HK.out.mono ?_
  rintro E w2 ⟨rfl, hg2⟩
  have G2 : Hid (w.grownBy w2 none) := hg2
  clear hg2
  go_wp2_with fail
  go_loopw [15] (fun v wr => ∃ k : Nat, k ≤ m ∧ v = .int .i64 k ∧ w.grownBy wr none ∧ ∀ j, j < k → cfgSk (cs.getD j cf0) = 0) (fun v _ => m - (intOf v).toNat)
  case atStart => exact ⟨0, Nat.zero_le _, rfl, G2.out, fun j hj => by omega⟩
  case round =>
    obtain ⟨k, hk, rfl, hgw, hg⟩ := hrel
    have HJ : Hid (∀ j, j < k → cfgSk (cs.getD j cf0) = 0) := hg
    have G : Hid (w.grownBy wr none) := hgw
    clear hg
    by_cases hlt : k < m
    · have hlt' : k < cs.length := by rw [HM.out]; exact hlt
      obtain ⟨y0, ap, cp, y1, y4, y5⟩ := HC.out wr hgw k hlt'
      have hki : (k : Int) < (m : Int) := by omega
      have HNo : Hid (cfgSk (cs.getD k cf0) ≠ 0 → z = cfgSk (cs.getD k cf0)) := fun hx => HB0.out k hlt' HJ.out hx
      have HYes : Hid (cfgSk (cs.getD k cf0) = 0 → ∀ j, j < k + 1 → cfgSk (cs.getD j cf0) = 0) := fun hx j hj => by
        by_cases e : j = k
        · subst e; exact hx
        · exact HJ.out j (by omega)
      have GA : Hid (∀ o, w.grownBy (wr.alloc o) none) := fun o => grown_trans hgw (grown_alloc _ o)
      have H3 : Hid (∀ W, wr.grownBy W none → Calls Try.prog 27 #[.slice ap (cs.getD k cf0).2.length cp] W (TellsB (OnesSk (cs.getD k cf0).2) W)) := fun W hW => allOnesSk_any _ _ _ _ (y4.grown hW) y5
      clear y4 hgw HB0
      unfold maxLen at y5
      generalize cs.getD k cf0 = x at *
      obtain ⟨a0, a3⟩ := x
      simp only at y0 y1 y5 H3
      have K1 : Hid (20 < a3.length → cfgSk (a0, a3) = 1) := cfgSk_long (c := (a0, a3))
      have K2 : Hid (¬ 20 < a3.length → oneSk a0 = false → cfgSk (a0, a3) = 2) := cfgSk_one (c := (a0, a3))
      have K3 : Hid (¬ 20 < a3.length → ¬ OnesSk a3 → cfgSk (a0, a3) = 2) := cfgSk_num (c := (a0, a3))
      have K4 : Hid (¬ 20 < a3.length → oneSk a0 = true → OnesSk a3 → cfgSk (a0, a3) = 0) := cfgSk_ok (c := (a0, a3))
      generalize cfgSk (a0, a3) = zc at *
      generalize OnesSk a3 = P3 at *
      generalize a3.length = n3 at *
      have H0 : Hid (∀ W, Calls Try.prog 26 #[.int .i64 a0] W fun e w' => e = .returned (.bool (oneSk a0)) ∧ w' = W) := HO.out a0
      generalize oneSk a0 = q0 at *
      by_cases e20 : 20 < n3
      · have e1 : decide ((20 : Int) < (n3 : Int)) = true := by simp; omega
        have Hz : Hid (z = 1) := (HNo.out (by rw [K1.out e20]; decide)).trans (K1.out e20)
        clear K1 K2 K3 K4 HNo HYes e20
        go_wp2_with fail
        go_ret
        exact ⟨ret_int Hz.out.symm, GA.out _⟩
      have e1 : decide ((20 : Int) < (n3 : Int)) = false := by simp; omega
      have H20 : Hid (¬ 20 < n3) := e20
      clear e20 K1
      go_wp2_with fail
      refine (H0.out _).mono ?_
      rintro E w3 ⟨rfl, rfl⟩
      cases q0
      · have Hz : Hid (z = 2) := (HNo.out (by rw [K2.out H20.out rfl]; decide)).trans (K2.out H20.out rfl)
        clear K2 K3 K4 HNo HYes
        go_wp2_with fail
        go_ret
        exact ⟨ret_int Hz.out.symm, GA.out _⟩
      go_wp2_with fail
      refine (H3.out _ (grown_alloc _ _)).mono ?_
      rintro E w3 ⟨q3, rfl, hq3, hg3⟩
      have GF : Hid (w.grownBy w3 none) := grown_trans (GA.out _) hg3
      clear hg3
      cases q3
      · have e2 := K3.out H20.out (fun e => by have := hq3.2 e; cases this)
        have Hz : Hid (z = 2) := (HNo.out (by rw [e2]; decide)).trans e2
        clear K2 K3 K4 HNo HYes hq3 e2
        go_wp2_with fail
        go_ret
        exact ⟨ret_int Hz.out.symm, GF.out⟩
      have HT : Hid _ := HYes.out (K4.out H20.out (by first | trivial | rfl) (hq3.1 rfl))
      clear K2 K3 K4 HNo HYes hq3
      go_wp2_with fail
      go_roundw
      case rel => exact ⟨k + 1, by omega, by go_num, GF.out, HT.out⟩
      case measure => simp [intOf]; omega
    · have hki : ¬ (k : Int) < (m : Int) := by omega
      have Hz : Hid (z = 0) := HG0.out (fun j hj => HJ.out j (by have := HM.out; omega))
      go_wp2_with fail
      go_ret
      exact ⟨ret_int Hz.out.symm, G.out⟩

end Go.Proofs.Ytcgkflddipflbaa
