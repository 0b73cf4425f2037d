/- A part with its stars, as the reference reads it. -/
import Derived.Test.YticmfgclkepgoaaRPart
namespace Go.Proofs.Yticmfgclkepgoaa
open Go.RowKit
set_option linter.unusedVariables false

/-- A star in new memory. -/
theorem star_kids {W : World} {b kk : Nat} {L : Value} {ps : List PartR} (hp : Parts W b L ps) (hb : b < W.heap.size) :
    KidsAt (fun g => b < g ∧ L.ownBlock ≠ some g) (W.alloc (.cells #[.int .i64 kk] 3)) ⟨5, 0, .slice (some ⟨W.heap.size, 0, none⟩) 1 1, [Int.ofNat kk]⟩ := by
  refine ⟨⟨_, _, _, rfl⟩, .inr ⟨W.heap.size, 1, ⟨hb, fun e => by have := hp.block _ e; omega⟩, rfl, fun k hk => ?_⟩⟩
  have : k = 0 := by simpa using hk
  subst this
  rw [cell_of_row _ W.heap.size 0 _ _ (0, 0) (heap_alloc_new W _)]
  rfl

set_option maxHeartbeats 1600000 in
theorem rone_does (s : ByteArray) (P : Nat → Nat → Res) (n : Nat) (hs : s.size ≤ 4000) (hadv : Adv s P) (hP : RDoes 53 s P 2 0 n) : RDoes 41 s (oneS s P) 2 0 n := by
  intro i d b w L ps hi hn hd hps h hp
  have HC : Hid (Calls Try.prog 53 #[.pointer (some ⟨b, 0, none⟩)] w (RGives s b d i w L ps 2 0 (P i d))) := hP i d b w L ps hi hn hd hps h hp
  clear h hp hP
  unfold oneS
  cases hR : P i d with
  | bad c j =>
    rw [hR] at HC
    clear hR
    go_enter Try.func41, Try.ntmps41
    go_wp2_with fail
    refine HC.out.mono ?_
    rintro e w4 ⟨L4, qs, hF4, hP4, hN4, ⟨k, rfl⟩, hR4, hc0, hj1, hj2, hq⟩
    have R4 : Hid (RRd w4 b s j d L4 c j) := hR4
    have E : Hid (∀ w5, w4.grownBy w5 none → RGives s b d i w L ps 2 0 (.bad c j) (.returned (.int .i64 k)) w5) := fun w5 hg => ⟨L4, qs, hF4.trans (Fr.grown' hg), hP4.kept' hg, hN4.step hP4 (Fr.grown' hg) (Nat.le_refl _), ⟨k, rfl⟩, hR4.kept hg (by simp), hc0, hj1, hj2, hq⟩
    have hc0' : (c == 0) = false := by simpa using hc0
    clear hF4 hP4 hN4 hR4 HC
    go_wp2_with fail
    go_loopw [3] (fun v wr => v = .int .i64 k ∧ wr = w4) (fun _ _ => 0)
    case atStart => exact ⟨rfl, rfl⟩
    case round =>
      obtain ⟨rfl, hwr⟩ := hrel
      subst hwr
      go_wp2_with fail
      refine (now_any s b j d L4 c j _ hs hj2 R4.out).mono ?_
      rintro e w5 ⟨rfl, hg5⟩
      have R5 : Hid (RRd w5 b s j d L4 c j) := R4.out.kept hg5 (by simp)
      have E5 := E.out w5 hg5
      have HE5 : Hid (RGives s b d i w L ps 2 0 (.bad c j) (.returned (.int .i64 k)) w5) := E5
      clear hg5 R4 E E5
      go_wp2_with fail
      refine (ok_any s b j d L4 c j _ R5.out).mono ?_
      rintro e w6 ⟨rfl, hw6⟩
      obtain rfl : w5 = w6 := hw6.symm
      rw [hc0']
      go_wp2_with fail
      go_ret
      exact HE5.out
  | good m j =>
    have hj := hadv _ _ _ _ hR
    rw [hR] at HC
    clear hR
    show Calls Try.prog 41 #[.pointer (some ⟨b, 0, none⟩)] w (RGives s b d i w L ps 2 0 (starL s (s.size + 1) m j))
    go_enter Try.func41, Try.ntmps41
    go_wp2_with fail
    refine HC.out.mono ?_
    rintro e w4 ⟨L4, qs, hF4, hP4, hN4, kk, hkk, rfl, hq0, hR4, hM4, hq⟩
    have A4 : Hid (∃ (L4 : Value) (qs : List PartR), Fr w w4 b L L4 ∧ Parts w4 b L4 (ps ++ qs) ∧ New w.heap.size w4 qs ∧ kk + 1 = ps.length + qs.length ∧ 0 < qs.length ∧ RRd w4 b s j d L4 0 0 ∧ Means (ps ++ qs) ps.length kk m ∧ qs.length + 2 ≤ 3 * (j - i)) := ⟨L4, qs, hF4, hP4, hN4, hkk, hq0, hR4, hM4, hq⟩
    clear hF4 hP4 hN4 hR4 HC hkk hq0 hM4 hq
    go_wp2_with fail
    go_loopw [3] (fun v wr => ∃ (kk q k : Nat) (m' : Sense) (L4 : Value) (qs : List PartR), v = .int .i64 kk ∧ q ≤ s.size ∧ j ≤ q ∧ s.size - q < k ∧ Fr w wr b L L4 ∧ Parts wr b L4 (ps ++ qs) ∧ New w.heap.size wr qs ∧ kk + 1 = ps.length + qs.length ∧ 0 < qs.length ∧ RRd wr b s q d L4 0 0 ∧ Means (ps ++ qs) ps.length kk m' ∧ qs.length + 2 ≤ 3 * (q - i) ∧ starL s (s.size + 1) m j = starL s k m' q) (fun _ wr => s.size - placeOf wr b)
    case atStart =>
      obtain ⟨L4, qs, h1, h2, h3, h4, h5, h6, h7, h8⟩ := A4.out
      exact ⟨kk, j, s.size + 1, m, L4, qs, rfl, by omega, by omega, by omega, h1, h2, h3, h4, h5, h6, h7, h8, rfl⟩
    case round =>
      clear A4
      obtain ⟨kk, q, k, m', L4, qs, rfl, hq1, hjq, hk, hF4, hP4, hN4, hkk, hq0, hR4, hM4, hq, hst⟩ := hrel
      have R4 : Hid (RRd wr b s q d L4 0 0) := hR4
      have P4 : Hid (Parts wr b L4 (ps ++ qs)) := hP4
      have F4 : Hid (Fr w wr b L L4) := hF4
      have N4 : Hid (New w.heap.size wr qs) := hN4
      have M4 : Hid (Means (ps ++ qs) ps.length kk m') := hM4
      have HST : Hid (starL s (s.size + 1) m j = starL s k m' q) := hst
      have PL : placeOf wr b = q := hR4.place
      have HKK : Hid (kk + 1 = ps.length + qs.length) := hkk
      clear hR4 hP4 hF4 hN4 hM4 hst hkk
      obtain ⟨k', rfl⟩ : ∃ k', k = k' + 1 := ⟨k - 1, by omega⟩
      by_cases h42 : byteAt s q = 42
      · have hql := byte_lt h42 (by omega)
        go_wp2_with fail
        refine (now_any s b q d L4 0 0 _ hs hq1 R4.out).mono ?_
        rintro e w5 ⟨rfl, hg5⟩
        rw [h42]
        have R5 : Hid (RRd w5 b s q d L4 0 0) := R4.out.kept hg5 (by simp)
        have P5 : Hid (Parts w5 b L4 (ps ++ qs)) := P4.out.kept' hg5
        have N5 : Hid (New w.heap.size w5 qs) := N4.out.step P4.out (Fr.grown' hg5) (Nat.le_refl _)
        have F5 : Hid (Fr w w5 b L L4) := F4.out.trans (Fr.grown' hg5)
        clear R4 P4 F4 N4 hg5
        go_wp2_with fail
        refine (ok_any s b q d L4 0 0 _ R5.out).mono ?_
        rintro e w6 ⟨rfl, hw6⟩
        obtain rfl : w5 = w6 := hw6.symm
        have c1 := R5.out.c1
        have f1 := R5.out.f 1
        have G6 : Hid (w5.grownBy ((w5.setCell ⟨b, 1, none⟩ (.int .i64 ((q : Int) + 1))).alloc (.cells #[.int .i64 kk] 3)) (some b)) := grown_trans (grown_set _ _ _) (World.grownBy_alloc _ _ _)
        have R6 : Hid (RRd ((w5.setCell ⟨b, 1, none⟩ (.int .i64 ((q : Int) + 1))).alloc (.cells #[.int .i64 kk] 3)) b s (q + 1) d L4 0 0) := (R5.out.set1 (q + 1) (by omega)).kept (World.grownBy_alloc _ _ none) (by simp)
        have P6 : Hid (Parts ((w5.setCell ⟨b, 1, none⟩ (.int .i64 ((q : Int) + 1))).alloc (.cells #[.int .i64 kk] 3)) b L4 (ps ++ qs)) := (P5.out.set 1 _).kept' (World.grownBy_alloc _ _ _)
        have N6 : Hid (New w.heap.size ((w5.setCell ⟨b, 1, none⟩ (.int .i64 ((q : Int) + 1))).alloc (.cells #[.int .i64 kk] 3)) qs) := N5.out.step P5.out (Fr.grown G6.out) (Nat.le_refl _)
        have F6 : Hid (Fr w ((w5.setCell ⟨b, 1, none⟩ (.int .i64 ((q : Int) + 1))).alloc (.cells #[.int .i64 kk] 3)) b L L4) := F5.out.trans (Fr.grown G6.out)
        have K6 : Hid (KidsAt (fun g => b < g ∧ L4.ownBlock ≠ some g) ((w5.setCell ⟨b, 1, none⟩ (.int .i64 ((q : Int) + 1))).alloc (.cells #[.int .i64 kk] 3)) ⟨5, 0, .slice (some ⟨w5.heap.size, 0, none⟩) 1 1, [Int.ofNat kk]⟩) := by
          have := star_kids (kk := kk) (P5.out.set 1 (.int .i64 ((q : Int) + 1))) (by have := R5.out.lt; simpa [World.setCell] using this)
          show KidsAt _ _ _
          simpa [World.setCell] using this
        have Z5 : Hid (w.heap.size ≤ w5.heap.size) := F5.out.size
        clear R5 P5 N5 F5 G6
        go_wp2_with fail
        refine (put_any s b (q + 1) d L4 0 0 _ (ps ++ qs) ⟨5, 0, .slice (some ⟨w5.heap.size, 0, none⟩) 1 1, [Int.ofNat kk]⟩ (by simp; omega) R6.out P6.out K6.out).mono ?_
        rintro e w7 ⟨rfl, L7, hR7, hP7, hF7⟩
        rw [List.append_assoc] at hP7
        have R7 : Hid (RRd w7 b s (q + 1) d L7 0 0) := hR7
        have P7 : Hid (Parts w7 b L7 (ps ++ (qs ++ [⟨5, 0, .slice (some ⟨w5.heap.size, 0, none⟩) 1 1, [Int.ofNat kk]⟩]))) := hP7
        have F7 : Hid (Fr w w7 b L L7) := F6.out.trans hF7
        have N7 : Hid (New w.heap.size w7 (qs ++ [⟨5, 0, .slice (some ⟨w5.heap.size, 0, none⟩) 1 1, [Int.ofNat kk]⟩])) := by
          intro p hp
          rcases List.mem_append.1 hp with hp | hp
          · exact (N6.out.step P6.out hF7 (Nat.le_refl _)) p hp
          · have h1 := hP7.at_ p (List.mem_append_right _ (List.mem_append_right _ hp))
            have : p = ⟨5, 0, .slice (some ⟨w5.heap.size, 0, none⟩) 1 1, [Int.ofNat kk]⟩ := by simpa using hp
            subst this
            have h2 : KidsAt (fun g => g = w5.heap.size) w7 ⟨5, 0, .slice (some ⟨w5.heap.size, 0, none⟩) 1 1, [Int.ofNat kk]⟩ := by
              obtain ⟨h0, h | ⟨g, cap, _, hv, hc⟩⟩ := h1
              · simp at h
              · refine ⟨h0, .inr ⟨g, cap, ?_, hv, hc⟩⟩
                simp at hv
                exact hv.1.symm
            exact h2.kept fun g hg _ => ⟨by rw [hg]; exact Z5.out, rfl⟩
        have M7 : Hid (Means (ps ++ (qs ++ [⟨5, 0, .slice (some ⟨w5.heap.size, 0, none⟩) 1 1, [Int.ofNat kk]⟩])) ps.length (ps ++ qs).length (starS m')) := by
          show Means _ _ _ _
          rw [← List.append_assoc]
          exact .star _ _ ⟨5, 0, .slice (some ⟨w5.heap.size, 0, none⟩) 1 1, [Int.ofNat kk]⟩ kk m' (by simp) rfl rfl M4.out.mono (by have := HKK.out; simpa using this)
        clear hR7 hP7 hF7 R6 P6 N6 F6 K6 M4
        generalize hlen : (ps ++ qs).length = kl at *
        have HL : Hid ((ps ++ qs).length = kl) := hlen
        clear hlen
        go_wp2_with fail
        go_roundw
        case rel =>
          have e1 : ps.length + qs.length = kl := by have := HL.out; simpa using this
          exact ⟨kl, q + 1, k', starS m', L7, _, rfl, by omega, by omega, by omega, F7.out, P7.out, N7.out, by simp; omega, by simp, R7.out, M7.out, by simp; omega, by rw [HST.out]; simp [starL, h42]⟩
        case measure =>
          rw [R7.out.place, PL]
          omega
      · have h42' : ((byteAt s q : Int) == 42) = false := by simp; omega
        have hf : starL s (s.size + 1) m j = .good m' q := by rw [HST.out]; simp [starL, h42]
        have HF : Hid (starL s (s.size + 1) m j = .good m' q) := hf
        clear hf HST
        go_wp2_with fail
        refine (now_any s b q d L4 0 0 _ hs hq1 R4.out).mono ?_
        rintro e w5 ⟨rfl, hg5⟩
        have R5 : Hid (RRd w5 b s q d L4 0 0) := R4.out.kept hg5 (by simp)
        have E : Hid (RGives s b d i w L ps 2 0 (.good m' q) (.returned (.int .i64 kk)) w5) := ⟨L4, qs, F4.out.trans (Fr.grown' hg5), P4.out.kept' hg5, N4.out.step P4.out (Fr.grown' hg5) (Nat.le_refl _), kk, HKK.out, rfl, hq0, R4.out.kept hg5 (by simp), M4.out, hq⟩
        clear R4 P4 F4 N4 hg5 M4
        go_wp2_with fail
        refine (ok_any s b q d L4 0 0 _ R5.out).mono ?_
        rintro e w6 ⟨rfl, hw6⟩
        obtain rfl : w5 = w6 := hw6.symm
        go_wp2_with fail
        go_ret
        rw [HF.out]
        exact E.out

end Go.Proofs.Yticmfgclkepgoaa
