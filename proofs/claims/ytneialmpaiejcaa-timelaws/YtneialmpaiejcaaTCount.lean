/- How the program counts a node, and goes on behind its byte. -/
import Derived.Test.YtneialmpaiejcaaTBase
namespace Go.Proofs.Ytneialmpaiejcaa
open Go.RowKit
set_option linter.unusedVariables false

/-- A reader's panic. -/
abbrev FPan (c : Int) (j : Nat) : Ending := .panicked [{ v := .iface 29 (.agg #[.int .i64 c, .int .i64 j]), recovered := false }]

set_option maxHeartbeats 1600000 in
theorem countT_full (s : ByteArray) (b i d n t : Nat) (w : World) (hs : s.size ≤ 4000) (hi : i ≤ s.size) (hn : n ≤ 30) (ht : t ≤ 5) (hf : fullC (byT s i) n t = true) (h : TRd w b s i d n t) :
    Calls Try.prog 21 #[.pointer (some ⟨b, 0, none⟩)] w fun e w' => e = FPan 7 i ∧ w.grownBy w' (some b) := by
  unfold fullC at hf
  simp only [Bool.or_eq_true, decide_eq_true_eq] at hf
  cases hT : isT (byT s i) with
  | true =>
    have hE : tmC (byT s i) t = t + 1 := by unfold tmC; rw [hT]; rfl
    rw [hE] at hf
    by_cases h1 : 30 < n + 1
    · have q1 : (30 : Int) < (n : Int) + 1 := by omega
      clear hf hE
      have hT : isT (byT s i) = true := hT
      have R1 : Hid (TRd (w.setCell ⟨b, 3, none⟩ (.int .i64 ((n : Int) + 1))) b s i d (n + 1) t) := h.set3 (n + 1) (by omega)
      have G1 : Hid (w.grownBy (w.setCell ⟨b, 3, none⟩ (.int .i64 ((n : Int) + 1))) (some b)) := grown_set _ _ _
      have c3 := h.c3
      have f3 := h.f 3
      have HP : Hid (∀ W, TRd W b s i d (n + 1) t → Calls Try.prog 20 #[.pointer (some ⟨b, 0, none⟩)] W fun e w' => e = .returned (.int .u8 (byT s i)) ∧ W.grownBy w' none) := fun W hW => peekT_any s b i d (n + 1) t W hs hi hW
      clear h
      go_enter Try.func21, Try.ntmps21
      go_wp2_with fail
      refine (HP.out _ R1.out).mono ?_
      rintro e w2 ⟨rfl, hg2⟩
      have R2 : Hid (TRd w2 b s i d (n + 1) t) := R1.out.kept hg2
      have G2 : Hid (w.grownBy w2 (some b)) := grown_trans G1.out (grown_some hg2)
      clear hg2 R1 G1 c3 f3 HP
      go_wp2_with fail
      refine (isTime_any _ _).mono ?_
      rintro e w3 ⟨rfl, rfl⟩
      rw [hT]
      have c1 := R2.out.c1
      have f1 := R2.out.f 1
      have c3 := R2.out.c3
      have f3 := R2.out.f 3
      have c4 := R2.out.c4
      have f4 := R2.out.f 4
      have R3 : Hid (TRd (w3.setCell ⟨b, 4, none⟩ (.int .i64 ((t : Int) + 1))) b s i d (n + 1) (t + 1)) := R2.out.set4 (t + 1) (by omega)
      have G3 : Hid (w.grownBy (w3.setCell ⟨b, 4, none⟩ (.int .i64 ((t : Int) + 1))) (some b)) := grown_trans G2.out (grown_set _ _ _)
      have d1 := R3.out.c1
      have d3 := R3.out.c3
      have d4 := R3.out.c4
      have e1 := R3.out.f 1
      go_wp2_with fail
      refine (faultT_any s b i d (n + 1) (t + 1) 7 _ R3.out).mono ?_
      rintro e w5 ⟨rfl, hg5⟩
      have G5 : Hid (w.grownBy w5 (some b)) := grown_trans G3.out (grown_some hg5)
      clear hg5
      go_wp2_with fail
      exact ⟨rfl, rfl, G5.out⟩
    · have q1 : ¬ (30 : Int) < (n : Int) + 1 := by omega
      have q2 : (5 : Int) < (t : Int) + 1 := by omega
      clear hf hE
      have hT : isT (byT s i) = true := hT
      have R1 : Hid (TRd (w.setCell ⟨b, 3, none⟩ (.int .i64 ((n : Int) + 1))) b s i d (n + 1) t) := h.set3 (n + 1) (by omega)
      have G1 : Hid (w.grownBy (w.setCell ⟨b, 3, none⟩ (.int .i64 ((n : Int) + 1))) (some b)) := grown_set _ _ _
      have c3 := h.c3
      have f3 := h.f 3
      have HP : Hid (∀ W, TRd W b s i d (n + 1) t → Calls Try.prog 20 #[.pointer (some ⟨b, 0, none⟩)] W fun e w' => e = .returned (.int .u8 (byT s i)) ∧ W.grownBy w' none) := fun W hW => peekT_any s b i d (n + 1) t W hs hi hW
      clear h
      go_enter Try.func21, Try.ntmps21
      go_wp2_with fail
      refine (HP.out _ R1.out).mono ?_
      rintro e w2 ⟨rfl, hg2⟩
      have R2 : Hid (TRd w2 b s i d (n + 1) t) := R1.out.kept hg2
      have G2 : Hid (w.grownBy w2 (some b)) := grown_trans G1.out (grown_some hg2)
      clear hg2 R1 G1 c3 f3 HP
      go_wp2_with fail
      refine (isTime_any _ _).mono ?_
      rintro e w3 ⟨rfl, rfl⟩
      rw [hT]
      have c1 := R2.out.c1
      have f1 := R2.out.f 1
      have c3 := R2.out.c3
      have f3 := R2.out.f 3
      have c4 := R2.out.c4
      have f4 := R2.out.f 4
      have R3 : Hid (TRd (w3.setCell ⟨b, 4, none⟩ (.int .i64 ((t : Int) + 1))) b s i d (n + 1) (t + 1)) := R2.out.set4 (t + 1) (by omega)
      have G3 : Hid (w.grownBy (w3.setCell ⟨b, 4, none⟩ (.int .i64 ((t : Int) + 1))) (some b)) := grown_trans G2.out (grown_set _ _ _)
      have d1 := R3.out.c1
      have d3 := R3.out.c3
      have d4 := R3.out.c4
      have e1 := R3.out.f 1
      go_wp2_with fail
      refine (faultT_any s b i d (n + 1) (t + 1) 7 _ R3.out).mono ?_
      rintro e w5 ⟨rfl, hg5⟩
      have G5 : Hid (w.grownBy w5 (some b)) := grown_trans G3.out (grown_some hg5)
      clear hg5
      go_wp2_with fail
      exact ⟨rfl, rfl, G5.out⟩
  | false =>
    have hE : tmC (byT s i) t = t := by unfold tmC; rw [hT]; rfl
    rw [hE] at hf
    have q1 : (30 : Int) < (n : Int) + 1 := by omega
    clear hf hE
    have hT : isT (byT s i) = false := hT
    have R1 : Hid (TRd (w.setCell ⟨b, 3, none⟩ (.int .i64 ((n : Int) + 1))) b s i d (n + 1) t) := h.set3 (n + 1) (by omega)
    have G1 : Hid (w.grownBy (w.setCell ⟨b, 3, none⟩ (.int .i64 ((n : Int) + 1))) (some b)) := grown_set _ _ _
    have c3 := h.c3
    have f3 := h.f 3
    have HP : Hid (∀ W, TRd W b s i d (n + 1) t → Calls Try.prog 20 #[.pointer (some ⟨b, 0, none⟩)] W fun e w' => e = .returned (.int .u8 (byT s i)) ∧ W.grownBy w' none) := fun W hW => peekT_any s b i d (n + 1) t W hs hi hW
    clear h
    go_enter Try.func21, Try.ntmps21
    go_wp2_with fail
    refine (HP.out _ R1.out).mono ?_
    rintro e w2 ⟨rfl, hg2⟩
    have R2 : Hid (TRd w2 b s i d (n + 1) t) := R1.out.kept hg2
    have G2 : Hid (w.grownBy w2 (some b)) := grown_trans G1.out (grown_some hg2)
    clear hg2 R1 G1 c3 f3 HP
    go_wp2_with fail
    refine (isTime_any _ _).mono ?_
    rintro e w3 ⟨rfl, rfl⟩
    rw [hT]
    have c1 := R2.out.c1
    have f1 := R2.out.f 1
    have c3 := R2.out.c3
    have f3 := R2.out.f 3
    have c4 := R2.out.c4
    have f4 := R2.out.f 4
    go_wp2_with fail
    refine (faultT_any s b i d (n + 1) t 7 _ R2.out).mono ?_
    rintro e w5 ⟨rfl, hg5⟩
    have G5 : Hid (w.grownBy w5 (some b)) := grown_trans G2.out (grown_some hg5)
    clear hg5
    go_wp2_with fail
    exact ⟨rfl, rfl, G5.out⟩

set_option maxHeartbeats 1600000 in
theorem countT_go (s : ByteArray) (b i d n t : Nat) (w : World) (hs : s.size ≤ 4000) (hi : i ≤ s.size) (hn : n ≤ 30) (ht : t ≤ 5) (hf : ¬ fullC (byT s i) n t = true) (h : TRd w b s i d n t) :
    Calls Try.prog 21 #[.pointer (some ⟨b, 0, none⟩)] w fun e w' => e = .returned (.tuple #[]) ∧ w.grownBy w' (some b) ∧ TRd w' b s (i + 1) d (n + 1) (tmC (byT s i) t) := by
  obtain ⟨q1, q2⟩ := full_not hf
  clear hf
  have q3 : ¬ (30 : Int) < (n : Int) + 1 := by omega
  cases hT : isT (byT s i) with
  | true =>
    have hE : tmC (byT s i) t = t + 1 := by unfold tmC; rw [hT]; rfl
    rw [hE] at q2
    rw [hE]
    have q4 : ¬ (5 : Int) < (t : Int) + 1 := by omega
    clear hE
    have hT : isT (byT s i) = true := hT
    have R1 : Hid (TRd (w.setCell ⟨b, 3, none⟩ (.int .i64 ((n : Int) + 1))) b s i d (n + 1) t) := h.set3 (n + 1) (by omega)
    have G1 : Hid (w.grownBy (w.setCell ⟨b, 3, none⟩ (.int .i64 ((n : Int) + 1))) (some b)) := grown_set _ _ _
    have c3 := h.c3
    have f3 := h.f 3
    have HP : Hid (∀ W, TRd W b s i d (n + 1) t → Calls Try.prog 20 #[.pointer (some ⟨b, 0, none⟩)] W fun e w' => e = .returned (.int .u8 (byT s i)) ∧ W.grownBy w' none) := fun W hW => peekT_any s b i d (n + 1) t W hs hi hW
    clear h
    go_enter Try.func21, Try.ntmps21
    go_wp2_with fail
    refine (HP.out _ R1.out).mono ?_
    rintro e w2 ⟨rfl, hg2⟩
    have R2 : Hid (TRd w2 b s i d (n + 1) t) := R1.out.kept hg2
    have G2 : Hid (w.grownBy w2 (some b)) := grown_trans G1.out (grown_some hg2)
    clear hg2 R1 G1 c3 f3 HP
    go_wp2_with fail
    refine (isTime_any _ _).mono ?_
    rintro e w3 ⟨rfl, rfl⟩
    rw [hT]
    have c1 := R2.out.c1
    have f1 := R2.out.f 1
    have c3 := R2.out.c3
    have f3 := R2.out.f 3
    have c4 := R2.out.c4
    have f4 := R2.out.f 4
    have R3 : Hid (TRd (w3.setCell ⟨b, 4, none⟩ (.int .i64 ((t : Int) + 1))) b s i d (n + 1) (t + 1)) := R2.out.set4 (t + 1) (by omega)
    have G3 : Hid (w.grownBy (w3.setCell ⟨b, 4, none⟩ (.int .i64 ((t : Int) + 1))) (some b)) := grown_trans G2.out (grown_set _ _ _)
    have d1 := R3.out.c1
    have d3 := R3.out.c3
    have d4 := R3.out.c4
    have e1 := R3.out.f 1
    have R4 : Hid (TRd ((w3.setCell ⟨b, 4, none⟩ (.int .i64 ((t : Int) + 1))).setCell ⟨b, 1, none⟩ (.int .i64 ((i : Int) + 1))) b s (i + 1) d (n + 1) (t + 1)) := R3.out.set1 (i + 1) (by omega)
    have G4 : Hid (w.grownBy ((w3.setCell ⟨b, 4, none⟩ (.int .i64 ((t : Int) + 1))).setCell ⟨b, 1, none⟩ (.int .i64 ((i : Int) + 1))) (some b)) := grown_trans G3.out (grown_set _ _ _)
    go_wp2_with fail
    go_end0
    exact ⟨rfl, G4.out, R4.out⟩
  | false =>
    have hE : tmC (byT s i) t = t := by unfold tmC; rw [hT]; rfl
    rw [hE]
    have q4 : ¬ (5 : Int) < (t : Int) := by omega
    clear q2 hE
    have hT : isT (byT s i) = false := hT
    have R1 : Hid (TRd (w.setCell ⟨b, 3, none⟩ (.int .i64 ((n : Int) + 1))) b s i d (n + 1) t) := h.set3 (n + 1) (by omega)
    have G1 : Hid (w.grownBy (w.setCell ⟨b, 3, none⟩ (.int .i64 ((n : Int) + 1))) (some b)) := grown_set _ _ _
    have c3 := h.c3
    have f3 := h.f 3
    have HP : Hid (∀ W, TRd W b s i d (n + 1) t → Calls Try.prog 20 #[.pointer (some ⟨b, 0, none⟩)] W fun e w' => e = .returned (.int .u8 (byT s i)) ∧ W.grownBy w' none) := fun W hW => peekT_any s b i d (n + 1) t W hs hi hW
    clear h
    go_enter Try.func21, Try.ntmps21
    go_wp2_with fail
    refine (HP.out _ R1.out).mono ?_
    rintro e w2 ⟨rfl, hg2⟩
    have R2 : Hid (TRd w2 b s i d (n + 1) t) := R1.out.kept hg2
    have G2 : Hid (w.grownBy w2 (some b)) := grown_trans G1.out (grown_some hg2)
    clear hg2 R1 G1 c3 f3 HP
    go_wp2_with fail
    refine (isTime_any _ _).mono ?_
    rintro e w3 ⟨rfl, rfl⟩
    rw [hT]
    have c1 := R2.out.c1
    have f1 := R2.out.f 1
    have c3 := R2.out.c3
    have f3 := R2.out.f 3
    have c4 := R2.out.c4
    have f4 := R2.out.f 4
    have R4 : Hid (TRd (w3.setCell ⟨b, 1, none⟩ (.int .i64 ((i : Int) + 1))) b s (i + 1) d (n + 1) t) := R2.out.set1 (i + 1) (by omega)
    have G4 : Hid (w.grownBy (w3.setCell ⟨b, 1, none⟩ (.int .i64 ((i : Int) + 1))) (some b)) := grown_trans G2.out (grown_set _ _ _)
    go_wp2_with fail
    go_end0
    exact ⟨rfl, G4.out, R4.out⟩

end Go.Proofs.Ytneialmpaiejcaa
