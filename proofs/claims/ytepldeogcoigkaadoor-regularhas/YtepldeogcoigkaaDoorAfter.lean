/- Where a span leads from any of a set of places. -/
import Derived.Test.YtepldeogcoigkaaDoorSpan
namespace Go.Proofs.YtepldeogcoigkaaDoor
open Go.RowKit
set_option linter.unusedVariables false

theorem bit_lt {x k n : Nat} (h : x < 2 ^ n) (hk : x.testBit k = true) : k < n := by
  apply Nat.lt_of_not_le
  intro hle
  have h1 := Nat.testBit_lt_two_pow (Nat.lt_of_lt_of_le h (Nat.pow_le_pow_right (by decide) hle))
  rw [h1] at hk
  cases hk

set_option maxHeartbeats 800000 in
theorem after_any (b : Nat) (f : Nat → Nat) (p : Nat) (w : World) (h : SpanAt w b f) (hT : TabAt w) (hp : p < 2 ^ 61) (hf : ∀ k, k < 61 → f k < 2 ^ 61) :
    Calls Tryd.prog 27 #[.pointer (some ⟨b, 0, none⟩), .int .u64 p] w fun e w' => ∃ r : Nat, e = .returned (.int .u64 r) ∧ r < 2 ^ 61 ∧ (∀ j, r.testBit j = true ↔ ∃ k, p.testBit k = true ∧ (f k).testBit j = true) ∧ w.grownBy w' none := by
  have H : Hid (SpanAt w b f) := h
  have HT : Hid (TabAt w) := hT
  have HF : Hid (∀ k, k < 61 → f k < 2 ^ 61) := hf
  clear h hT hf
  go_enter Tryd.func27, Tryd.ntmps27
  go_wp2_with fail
  go_loopw [1, 5] (fun v1 v5 wr => ∃ (p' o : Nat), v1 = .int .u64 p' ∧ v5 = .int .u64 o ∧ p' < 2 ^ 61 ∧ o < 2 ^ 61 ∧ w.grownBy wr none ∧ (∀ j, (o.testBit j = true ∨ ∃ k, p'.testBit k = true ∧ (f k).testBit j = true) ↔ ∃ k, p.testBit k = true ∧ (f k).testBit j = true)) (fun v1 _ _ => (intOf v1).toNat)
  case atStart => exact ⟨p, 0, rfl, rfl, hp, by decide, grown_refl _ _, fun j => by simp⟩
  case round =>
    obtain ⟨p', o, rfl, rfl, hp', ho, hg, hj⟩ := hrel
    have G : Hid (w.grownBy wr none) := hg
    have HJ : Hid (∀ j, (o.testBit j = true ∨ ∃ k, p'.testBit k = true ∧ (f k).testBit j = true) ↔ ∃ k, p.testBit k = true ∧ (f k).testBit j = true) := hj
    clear hg hj
    by_cases h0 : p' = 0
    · subst h0
      go_wp2_with fail
      go_ret
      exact ⟨o, rfl, ho, fun j => by have := HJ.out j; simpa using this, G.out⟩
    · have h0' : ((p' : Int) == 0) = false := by simp; omega
      have hp64 : p' < 18446744073709551616 := Nat.lt_of_lt_of_le hp' (by decide)
      obtain ⟨l1, l2, l3⟩ := low_facts p' h0 hp64
      have T : Hid (Calls Tryd.prog 31 #[.int .u64 p'] wr fun e w' => e = .returned (.int .i64 (Lib.ctz 64 p')) ∧ w' = wr) := tz_any p' h0 hp64 wr (HT.out.kept G.out (by simp))
      have hT' : Hid (∀ W, wr.grownBy W none → Calls Tryd.prog 31 #[.int .u64 p'] W fun e w' => e = .returned (.int .i64 (Lib.ctz 64 p')) ∧ w' = W) := fun W hW => tz_any p' h0 hp64 W (HT.out.kept (grown_trans G.out hW) (by simp))
      have hc : Lib.ctz 64 p' < 61 := bit_lt hp' l1
      generalize Lib.ctz 64 p' = c at *
      have S := H.out.kept G.out (by simp)
      have cc := S.cell hc
      have cf := S.fz c
      have hfc := HF.out c hc
      have L2 : Hid (∀ k, (p' &&& (p' - 1)).testBit k = (p'.testBit k && decide (k ≠ c))) := l2
      have L1 : Hid (p'.testBit c = true) := l1
      have e1 : IntKind.u64.wrap ((p' : Int) - 1) = ((p' - 1 : Nat) : Int) := by rw [IntKind.wrap_u64]; omega
      have e2 : bits .and .u64 (p' : Int) ((p' - 1 : Nat) : Int) = ((p' &&& (p' - 1) : Nat) : Int) := bits_and_u64_nat _ _ hp64 (by omega)
      have e3 : bits .or .u64 (o : Int) (f c : Int) = ((o ||| f c : Nat) : Int) := bits_or_u64_nat _ _ (Nat.lt_of_lt_of_le ho (by decide)) (Nat.lt_of_lt_of_le hfc (by decide))
      have h61 : (c : Int) < 61 := by omega
      have hc0 : (0 : Int) ≤ (c : Int) := by omega
      clear S l1 l2 T
      go_wp2_with fail
      go_quiet ((go_at_call 31; refine Calls.quiet_of_same (hT'.out _ (by first | exact grown_refl _ _ | exact grown_drewN (grown_refl _ _) _))))
      go_wp2_with fail
      go_roundw
      case rel =>
        have hpb : p' &&& (p' - 1) < 2 ^ 61 := by omega
        have hob : o ||| f c < 2 ^ 61 := Nat.or_lt_two_pow ho hfc
        refine ⟨p' &&& (p' - 1), o ||| f c, rfl, rfl, hpb, hob, grown_drewN G.out _, fun j => ?_⟩
        rw [← HJ.out j, Nat.testBit_or, Bool.or_eq_true]
        constructor
        · rintro ((h | h) | ⟨k, hk, h⟩)
          · exact .inl h
          · exact .inr ⟨c, L1.out, h⟩
          · rw [L2.out k] at hk
            simp at hk
            exact .inr ⟨k, hk.1, h⟩
        · rintro (h | ⟨k, hk, h⟩)
          · exact .inl (.inl h)
          · by_cases hkc : k = c
            · subst hkc; exact .inl (.inr h)
            · exact .inr ⟨k, by rw [L2.out k]; simp [hk, hkc], h⟩
      case measure => simp [intOf]; omega

end Go.Proofs.YtepldeogcoigkaaDoor
