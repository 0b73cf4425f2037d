/- The reference's Check of a transducer. -/
import Derived.Test.YtodcmlcpicabaaaTnRefA
import Derived.Test.YtodcmlcpicabaaaTnCk
import Derived.Deep.RegionHeld3
namespace Go.Proofs.Ytodcmlcpicabaaa
open Go.RowKit
set_option linter.unusedVariables false
set_option linter.unusedSimpArgs false

theorem sayR_len {x : TrI} (h1 : x.N.length ≤ 6) (h2 : x.I ≤ 4) (h3 : ShapeT x) : (sayR x).length ≤ 1000 := by
  obtain ⟨hy, he, hr⟩ := h3
  have hf : ∀ (L : List (List (List Int))), (∀ r, r ∈ L → r.length ≤ 4) → L.flatten.length ≤ 4 * L.length := by
    intro L
    induction L with
    | nil => intro _; simp
    | cons r L ih =>
      intro h
      have h1 := h r (List.mem_cons.2 (.inl rfl))
      have h2 := ih (fun s hs => h s (List.mem_cons.2 (.inr hs)))
      simp only [List.flatten_cons, List.length_append, List.length_cons]
      omega
  have hl := hf x.Y (fun r hm => by
    obtain ⟨s, hs, rfl⟩ := List.getElem_of_mem hm
    have := (hr s (by omega)).2
    rw [List.getD, List.getElem?_eq_getElem hs, Option.getD_some] at this
    omega)
  simp only [sayR, List.length_cons, List.length_append]
  omega

set_option maxHeartbeats 12800000 in
set_option maxRecDepth 100000 in
theorem checkR16_any (x : TrI) (a3 a4 a5 a6 : Option Addr) (c3 c4 c5 c6 : Nat) (w : World) (h : TnAt w x a3 a4 a5 a6) :
    Calls Try.prog 7 #[tnV x.I x.O x.S a3 x.F.length c3 a4 x.N.length c4 a5 x.Y.length c5 a6 x.E.length c6] w (ChkP x w) := by
  obtain ⟨W1, hW1, g1, s1, bx⟩ := box7_new w x.I x.O x.S a3 x.F.length c3 a4 x.N.length c4 a5 x.Y.length c5 a6 x.E.length c6
  have HLo : Hid (∀ W, w.grownBy W none → (sayR x).length ≤ 1000 → Calls Try.prog 9 #[tnV x.I x.O x.S a3 x.F.length c3 a4 x.N.length c4 a5 x.Y.length c5 a6 x.E.length c6] W (TellsB (¬ ShortW (sayR x)) W)) := fun W hW hl => longR_any _ _ _ _ _ _ _ _ _ _ (h.grown hW) hl
  have HWo : Hid (∀ W, w.grownBy W none → (sayR x).length ≤ 1000 → Calls Try.prog 22 #[tnV x.I x.O x.S a3 x.F.length c3 a4 x.N.length c4 a5 x.Y.length c5 a6 x.E.length c6] W (WordsRP x W)) := fun W hW hl => wordsR16_any _ _ _ _ _ _ _ _ _ _ (h.grown hW) hl
  have HLe : Hid (∀ W u a c, Ints W a u → u.length ≤ maxLen → Calls Try.prog 23 #[.slice a u.length c, .int .i64 x.O] W (LettersP x.O u W)) := fun W u a c hu hm => lettersR_any u a c x.O W hu hm
  have HW1 : Hid (W1 = _) := hW1
  have G1 : Hid (w.grownBy W1 none) := g1
  have HT : Hid (TnAt W1 x a3 a4 a5 a6) := h.grown g1
  have BX : Hid (∀ W, W1.grownBy W none → Box7 W w.heap.size x.I x.O x.S a3 x.F.length c3 a4 x.N.length c4 a5 x.Y.length c5 a6 x.E.length c6) := fun W hW => bx.grown hW
  have m4 := h.m4
  have m5 := h.m5
  have m6 := h.m6
  unfold maxLen at m4 m5 m6
  have x0 := bx.b0
  have x1 := bx.b1
  have x2 := bx.b2
  have x3 := bx.b3
  have x4 := bx.b4
  have x5 := bx.b5
  have x6 := bx.b6
  obtain ⟨Po, hPo⟩ : ∃ P, P = ChkP x w := ⟨_, rfl⟩
  have HP : Hid (∀ z W, ChkIs x z → W1.grownBy W none → Po (.returned (.int .i64 z)) W) := fun z W h1 h2 => by rw [hPo]; exact ⟨z, rfl, h1, grown_trans G1.out h2⟩
  have HP0 : Hid (∀ z, ChkIs x z → Po (.returned (.int .i64 z)) W1) := fun z h1 => HP.out z W1 h1 (grown_refl _ _)
  have HMI : Hid ((ManyT x.I ↔ 1 ≤ x.I ∧ x.I ≤ 4) ∧ (ManyT x.O ↔ 1 ≤ x.O ∧ x.O ≤ 4) ∧ (SizeT x ↔ 1 ≤ x.N.length ∧ x.N.length ≤ 6)) := ⟨Iff.rfl, Iff.rfl, Iff.rfl⟩
  rw [← hPo]
  clear s1 bx h hPo
  rw [hW1] at x0 x1 x2 x3 x4 x5 x6
  clear hW1 g1
  by_cases i1 : x.I < 1
  · have di1 : decide (x.I < 1) = true := by simpa using i1
    have F : Hid (Po (.returned (.int .i64 2)) W1) := HP0.out 2 (chk_many fun hh => by have := (HMI.out.1.1 hh.1).1; omega)
    clear HLo HWo HLe HP HP0 i1
    go_enter Try.func7, Try.ntmps7
    go_wp2_with fail
    rw [← HW1.out]
    first | exact F.out | (go_ret; exact F.out)
  have di1 : decide (x.I < 1) = false := by simpa using i1
  by_cases i2 : 4 < x.I
  · have di2 : decide (4 < x.I) = true := by simpa using i2
    have F : Hid (Po (.returned (.int .i64 2)) W1) := HP0.out 2 (chk_many fun hh => by have := (HMI.out.1.1 hh.1).2; omega)
    clear HLo HWo HLe HP HP0 i2
    go_enter Try.func7, Try.ntmps7
    go_wp2_with fail
    rw [← HW1.out]
    first | exact F.out | (go_ret; exact F.out)
  have di2 : decide (4 < x.I) = false := by simpa using i2
  by_cases i3 : x.O < 1
  · have di3 : decide (x.O < 1) = true := by simpa using i3
    have F : Hid (Po (.returned (.int .i64 2)) W1) := HP0.out 2 (chk_many fun hh => by have := (HMI.out.2.1.1 hh.2).1; omega)
    clear HLo HWo HLe HP HP0 i3
    go_enter Try.func7, Try.ntmps7
    go_wp2_with fail
    rw [← HW1.out]
    first | exact F.out | (go_ret; exact F.out)
  have di3 : decide (x.O < 1) = false := by simpa using i3
  by_cases i4 : 4 < x.O
  · have di4 : decide (4 < x.O) = true := by simpa using i4
    have F : Hid (Po (.returned (.int .i64 2)) W1) := HP0.out 2 (chk_many fun hh => by have := (HMI.out.2.1.1 hh.2).2; omega)
    clear HLo HWo HLe HP HP0 i4
    go_enter Try.func7, Try.ntmps7
    go_wp2_with fail
    rw [← HW1.out]
    first | exact F.out | (go_ret; exact F.out)
  have di4 : decide (4 < x.O) = false := by simpa using i4
  have HMM : Hid (ManyT x.I ∧ ManyT x.O) := ⟨HMI.out.1.2 ⟨by omega, by omega⟩, HMI.out.2.1.2 ⟨by omega, by omega⟩⟩
  by_cases i5 : (x.N.length : Int) < 1
  · have di5 : decide ((x.N.length : Int) < 1) = true := by simpa using i5
    have F : Hid (Po (.returned (.int .i64 1)) W1) := HP0.out 1 (chk_size HMM.out fun hh => by have := (HMI.out.2.2.1 hh).1; omega)
    clear HLo HWo HLe HP HP0 i5
    go_enter Try.func7, Try.ntmps7
    go_wp2_with fail
    rw [← HW1.out]
    first | exact F.out | (go_ret; exact F.out)
  have di5 : decide ((x.N.length : Int) < 1) = false := by simpa using i5
  by_cases i6 : (6 : Int) < (x.N.length : Int)
  · have di6 : decide ((6 : Int) < (x.N.length : Int)) = true := by simpa using i6
    have F : Hid (Po (.returned (.int .i64 1)) W1) := HP0.out 1 (chk_size HMM.out fun hh => by have := (HMI.out.2.2.1 hh).2; omega)
    clear HLo HWo HLe HP HP0 i6
    go_enter Try.func7, Try.ntmps7
    go_wp2_with fail
    rw [← HW1.out]
    first | exact F.out | (go_ret; exact F.out)
  have di6 : decide ((6 : Int) < (x.N.length : Int)) = false := by simpa using i6
  have HSz : Hid (SizeT x) := HMI.out.2.2.2 ⟨by omega, by omega⟩
  by_cases i7 : x.Y.length = x.N.length
  rotate_left
  · have di7 : ((x.Y.length : Int) != (x.N.length : Int)) = true := by simp; omega
    have F : Hid (Po (.returned (.int .i64 3)) W1) := HP0.out 3 (chk_shape HMM.out HSz.out fun hh => i7 hh.1)
    clear HLo HWo HLe HP HP0 i7
    go_enter Try.func7, Try.ntmps7
    go_wp2_with fail
    rw [← HW1.out]
    first | exact F.out | (go_ret; exact F.out)
  have di7 : ((x.Y.length : Int) != (x.N.length : Int)) = false := by simp; omega
  have H7 : Hid (x.Y.length = x.N.length) := i7
  clear i7
  by_cases i8 : x.E.length = x.N.length
  rotate_left
  · have di8 : ((x.E.length : Int) != (x.N.length : Int)) = true := by simp; omega
    have F : Hid (Po (.returned (.int .i64 3)) W1) := HP0.out 3 (chk_shape HMM.out HSz.out fun hh => i8 hh.2.1)
    clear HLo HWo HLe HP HP0 i8
    go_enter Try.func7, Try.ntmps7
    go_wp2_with fail
    rw [← HW1.out]
    first | exact F.out | (go_ret; exact F.out)
  have di8 : ((x.E.length : Int) != (x.N.length : Int)) = false := by simp; omega
  have HE : Hid (x.Y.length = x.N.length ∧ x.E.length = x.N.length) := ⟨H7.out, i8⟩
  have n4 : x.I ≤ 4 := by omega
  have n6 : x.N.length ≤ 6 := by omega
  have n1 : 0 < x.I := by omega
  clear i8 HMI
  go_enter Try.func7, Try.ntmps7
  go_wp2_with fail
  rw [← HW1.out]
  clear x0 x1 x2 x3 x4 x5 x6 di1 di2 di3 di4 di5 di6 di7 di8 i1 i2 i3 i4 i5 i6
  go_loopw [4] (fun v W => ∃ k : Nat, k ≤ x.N.length ∧ v = .int .i64 k ∧ W1.grownBy W none ∧ ∀ s, s < k → ((x.N.getD s []).length : Int) = x.I ∧ ((x.Y.getD s []).length : Int) = x.I) (fun v _ => x.N.length - (intOf v).toNat)
  case atStart => exact ⟨0, Nat.zero_le _, rfl, grown_refl _ _, fun j hj => by omega⟩
  case round =>
    obtain ⟨wa, hwa⟩ : ∃ W, W = wr := ⟨_, rfl⟩
    subst hwa
    obtain ⟨k, hk, rfl, hgw, hg⟩ := hrel
    have HJ : Hid (∀ s, s < k → ((x.N.getD s []).length : Int) = x.I ∧ ((x.Y.getD s []).length : Int) = x.I) := hg
    have HGW : Hid (W1.grownBy wa none) := hgw
    have y0 := (BX.out wa hgw).b0
    have y4 := (BX.out wa hgw).b4
    have y5 := (BX.out wa hgw).b5
    clear hg hgw
    by_cases hlt : k < x.N.length
    · obtain ⟨b4, o4, rfl, hc4⟩ := (HT.out.next.grown HGW.out).at hlt
      obtain ⟨r4, k4, c4', _, _⟩ := hc4 k hlt
      obtain ⟨b5, o5, rfl, hc5⟩ := (HT.out.says.grown HGW.out).at (k := k) (by have := HE.out; omega)
      obtain ⟨r5, k5, c5', _, _⟩ := hc5 k (by have := HE.out; omega)
      have i5 : (k : Int) < (x.Y.length : Int) := by have := HE.out; omega
      have i4 : (k : Int) < (x.N.length : Int) := by omega
      clear hc4 hc5
      by_cases f1 : ((x.N.getD k []).length : Int) = x.I
      · have q1 : (((x.N.getD k []).length : Int) != x.I) = false := by simpa using f1
        by_cases f2 : ((x.Y.getD k []).length : Int) = x.I
        · have q2 : (((x.Y.getD k []).length : Int) != x.I) = false := by simpa using f2
          have HF : Hid (∀ s, s < k + 1 → ((x.N.getD s []).length : Int) = x.I ∧ ((x.Y.getD s []).length : Int) = x.I) := fun s hs => by
            by_cases hsk : s = k
            · subst hsk; exact ⟨f1, f2⟩
            · exact HJ.out s (by omega)
          clear f1 f2
          generalize (x.N.getD k []).length = nr at *
          generalize (x.Y.getD k []).length = ny at *
          go_wp2_with fail
          go_quiet (fail)
          go_wp2_with fail
          go_roundw
          case rel => exact ⟨k + 1, by omega, by go_num, grown_drewN HGW.out _, HF.out⟩
          case measure => simp [intOf]; omega
        · have q2 : (((x.Y.getD k []).length : Int) != x.I) = true := by simpa using f2
          have F : Hid (∀ q, Po (.returned (.int .i64 3)) (wa.drewN q)) := fun q => HP.out 3 _ (chk_shape HMM.out HSz.out fun hs => f2 (hs.2.2 k hlt).2) (grown_drewN HGW.out _)
          clear f1 f2
          generalize (x.N.getD k []).length = nr at *
          generalize (x.Y.getD k []).length = ny at *
          go_wp2_with fail
          go_quiet (fail)
          go_wp2_with fail
          first | exact F.out _ | (go_ret; exact F.out _)
      · have q1 : (((x.N.getD k []).length : Int) != x.I) = true := by simpa using f1
        have F : Hid (∀ q, Po (.returned (.int .i64 3)) (wa.drewN q)) := fun q => HP.out 3 _ (chk_shape HMM.out HSz.out fun hs => f1 (hs.2.2 k hlt).1) (grown_drewN HGW.out _)
        clear f1
        generalize (x.N.getD k []).length = nr at *
        go_wp2_with fail
        go_quiet (fail)
        go_wp2_with fail
        first | exact F.out _ | (go_ret; exact F.out _)
    · have i4 : ¬ (k : Int) < (x.N.length : Int) := by omega
      have HS : Hid (ShapeT x) := ⟨HE.out.1, HE.out.2, fun s hs => HJ.out s (by omega)⟩
      have HLn : Hid ((sayR x).length ≤ 1000) := sayR_len n6 n4 HS.out
      have y2 := (BX.out wa HGW.out).b2
      clear y0 y4 y5 HJ
      by_cases e1 : x.S < 0
      · have d1 : decide (x.S < 0) = true := by simpa using e1
        have F : Hid (Po (.returned (.int .i64 2)) wa) := HP.out 2 _ (chk_with HMM.out HSz.out HS.out fun hs => by have := hs.2.1; omega) HGW.out
        clear e1
        go_wp2_with fail
        first | exact F.out | (go_ret; exact F.out)
      have d1 : decide (x.S < 0) = false := by simpa using e1
      by_cases e2 : (x.N.length : Int) ≤ x.S
      · have d2 : decide ((x.N.length : Int) ≤ x.S) = true := by simpa using e2
        have F : Hid (Po (.returned (.int .i64 2)) wa) := HP.out 2 _ (chk_with HMM.out HSz.out HS.out fun hs => by have := hs.2.2; omega) HGW.out
        clear e1 e2
        go_wp2_with fail
        first | exact F.out | (go_ret; exact F.out)
      have d2 : decide ((x.N.length : Int) ≤ x.S) = false := by simpa using e2
      have HSt : Hid (StT x.N.length x.S) := ⟨by omega, by omega⟩
      clear e1 e2
      go_wp2_with fail
      clear d1 d2 y2 i4
      go_loopw [5] (fun v W => ∃ k : Nat, k ≤ x.N.length ∧ v = .int .i64 k ∧ W = wa ∧ ∀ s, s < k → ∀ l, l < (x.N.getD s []).length → StT x.N.length ((x.N.getD s []).getD l 0)) (fun v _ => x.N.length - (intOf v).toNat)
      case atStart => exact ⟨0, Nat.zero_le _, rfl, rfl, fun j hj => by omega⟩
      case round =>
        obtain ⟨k2, hk2, rfl, hwr, hg2⟩ := hrel
        subst hwr
        have HJ : Hid (∀ s, s < k2 → ∀ l, l < (x.N.getD s []).length → StT x.N.length ((x.N.getD s []).getD l 0)) := hg2
        clear hg2
        by_cases hlt2 : k2 < x.N.length
        · obtain ⟨b4, o4, ha4, hc4⟩ := (HT.out.next.grown HGW.out).at hlt2
          obtain ⟨r4, k4, c4', hr4, hm4⟩ := hc4 k2 hlt2
          have i4 : (k2 : Int) < (x.N.length : Int) := by omega
          obtain ⟨R, hR⟩ : ∃ R, x.N.getD k2 [] = R := ⟨_, rfl⟩
          rw [hR] at c4' hr4 hm4
          have hRI : (R.length : Int) = x.I := by rw [← hR]; exact (HS.out.2.2 k2 hlt2).1
          have HRI : Hid ((R.length : Int) = x.I) := hRI
          have HR : Hid (x.N.getD k2 [] = R) := hR
          have HI : Hid (Ints wr r4 R) := hr4
          have y0 := (BX.out wr HGW.out).b0
          have y4 := (BX.out wr HGW.out).b4
          rw [← hRI] at y0
          unfold maxLen at hm4
          subst ha4
          clear hc4 hR hr4 hRI
          go_wp2_with fail
          go_loop [6] (fun v => ∃ l : Nat, l ≤ R.length ∧ v = .int .i64 l ∧ ∀ j, j < l → StT x.N.length (R.getD j 0)) (fun v => R.length - (intOf v).toNat)
          case atStart => exact ⟨0, Nat.zero_le _, rfl, fun j hj => by omega⟩
          case round =>
            obtain ⟨l, hl, rfl, hi⟩ := hrel
            have HL : Hid (∀ j, j < l → StT x.N.length (R.getD j 0)) := hi
            clear hi
            by_cases hll : l < R.length
            · obtain ⟨br, ob, rfl, hcr⟩ := HI.out.at hll
              have hcl := hcr l hll
              have il : (l : Int) < (R.length : Int) := by omega
              obtain ⟨z, hz⟩ : ∃ z, R.getD l 0 = z := ⟨_, rfl⟩
              rw [hz] at hcl
              have HZ : Hid (R.getD l 0 = z) := hz
              have HN : Hid (¬ StT x.N.length z → ¬ WithT x) := fun hz' hh => hz' (by
                have h1 := hh.1 k2 hlt2 l (by rw [HR.out]; exact hll)
                rwa [HR.out, HZ.out] at h1)
              clear hcr hz
              by_cases f1 : z < 0
              · have d1 : decide (z < 0) = true := by simpa using f1
                have F : Hid (Po (.returned (.int .i64 2)) wr) := HP.out 2 _ (chk_with HMM.out HSz.out HS.out (HN.out fun hh => by have := hh.1; omega)) HGW.out
                clear f1
                go_wp2_with fail
                first | exact F.out | (go_ret; exact F.out)
              · have d1 : decide (z < 0) = false := by simpa using f1
                by_cases f2 : (x.N.length : Int) ≤ z
                · have d2 : decide ((x.N.length : Int) ≤ z) = true := by simpa using f2
                  have F : Hid (Po (.returned (.int .i64 2)) wr) := HP.out 2 _ (chk_with HMM.out HSz.out HS.out (HN.out fun hh => by have := hh.2; omega)) HGW.out
                  clear f1 f2
                  go_wp2_with fail
                  first | exact F.out | (go_ret; exact F.out)
                · have d2 : decide ((x.N.length : Int) ≤ z) = false := by simpa using f2
                  have HN2 : Hid (∀ j, j < l + 1 → StT x.N.length (R.getD j 0)) := fun j hj => by
                    by_cases hjl : j = l
                    · subst hjl; rw [HZ.out]; exact ⟨by omega, by omega⟩
                    · exact HL.out j (by omega)
                  clear f1 f2
                  go_wp2_with fail
                  go_round
                  case rel => exact ⟨l + 1, by omega, by go_num, HN2.out⟩
                  case measure => simp [intOf]; omega
            · have il : ¬ (l : Int) < (R.length : Int) := by omega
              have HN : Hid (∀ s, s < k2 + 1 → ∀ l, l < (x.N.getD s []).length → StT x.N.length ((x.N.getD s []).getD l 0)) := fun s hs => by
                by_cases hsk : s = k2
                · subst hsk; rw [HR.out]; intro j hj; exact HL.out j (by omega)
                · exact HJ.out s (by omega)
              go_wp2_with fail
              go_roundw
              case rel => exact ⟨k2 + 1, by omega, by go_num, by trivial, HN.out⟩
              case measure => simp [intOf]; omega
        · have i4 : ¬ (k2 : Int) < (x.N.length : Int) := by omega
          have HWt : Hid (WithT x) := ⟨fun s hs => HJ.out s (by omega), HSt.out⟩
          have y0 := (BX.out wr HGW.out).b0
          have y1 := (BX.out wr HGW.out).b1
          have y2 := (BX.out wr HGW.out).b2
          have y3 := (BX.out wr HGW.out).b3
          have y4 := (BX.out wr HGW.out).b4
          have y5 := (BX.out wr HGW.out).b5
          have y6 := (BX.out wr HGW.out).b6
          clear HJ
          go_wp2_with fail
          refine (HLo.out wr (grown_trans G1.out HGW.out) HLn.out).mono ?_
          rintro E w1 ⟨bL, rfl, hL, g5⟩
          have HL : Hid (bL = true ↔ ¬ ShortW (sayR x)) := hL
          have HG5 : Hid (W1.grownBy w1 none) := grown_trans HGW.out g5
          clear hL g5 y0 y1 y2 y3 y4 y5 y6
          cases bL with
          | true =>
            have F : Hid (Po (.returned (.int .i64 1)) w1) := HP.out 1 _ (chk_little HMM.out HSz.out HS.out HWt.out fun hh => (HL.out.1 rfl) fun u hu => hh u ((sayR_mem HS.out u).1 hu)) HG5.out
            go_wp2_with fail
            first | exact F.out | (go_ret; exact F.out)
          | false =>
          have HLi : Hid (LittleT x) := fun u hu => Classical.byContradiction fun hh => by
            have := HL.out.2 (fun h2 => hh (h2 u ((sayR_mem HS.out u).2 hu)))
            cases this
          have y0 := (BX.out w1 HG5.out).b0
          have y1 := (BX.out w1 HG5.out).b1
          have y2 := (BX.out w1 HG5.out).b2
          have y3 := (BX.out w1 HG5.out).b3
          have y4 := (BX.out w1 HG5.out).b4
          have y5 := (BX.out w1 HG5.out).b5
          have y6 := (BX.out w1 HG5.out).b6
          clear HL
          go_wp2_with fail
          refine (HWo.out w1 (grown_trans G1.out HG5.out) HLn.out).mono ?_
          rintro E w2 ⟨a, c, rfl, hr, hg, hn⟩
          have HG6 : Hid (W1.grownBy w2 none) := grown_trans HG5.out hg
          have HR : Hid (RowsAt w2 a (sayR x)) := hr
          clear y0 y1 y2 y3 y4 y5 y6 hr hg hn
          obtain ⟨R, hR⟩ : ∃ R, sayR x = R := ⟨_, rfl⟩
          have HRR : Hid (∀ u, u ∈ R ↔ u ∈ sayT x) := fun u => by rw [← hR]; exact sayR_mem HS.out u
          have hRl : R.length ≤ 1000 := by rw [← hR]; exact HLn.out
          rw [hR] at HR
          simp only [hR]
          clear hR HLo HWo HLn
          go_wp2_with fail
          go_loopw [9] (fun v W => ∃ k : Nat, k ≤ R.length ∧ v = .int .i64 k ∧ w2.grownBy W none ∧ ∀ j, j < k → LetT x.O (R.getD j [])) (fun v _ => R.length - (intOf v).toNat)
          case atStart => exact ⟨0, Nat.zero_le _, rfl, grown_refl _ _, fun j hj => by omega⟩
          case round =>
            obtain ⟨wl, hwl⟩ : ∃ W, W = wr := ⟨_, rfl⟩
            subst hwl
            obtain ⟨k3, hk3, rfl, hg3, hj3⟩ := hrel
            have HJ : Hid (∀ j, j < k3 → LetT x.O (R.getD j [])) := hj3
            have HG7 : Hid (w2.grownBy wl none) := hg3
            have y1 := (BX.out wl (grown_trans HG6.out hg3)).b1
            clear hj3 hg3
            by_cases hlt3 : k3 < R.length
            · obtain ⟨b, o, rfl, hc⟩ := HR.out.at hlt3
              obtain ⟨r, kk, dd, hi, hm⟩ := hc k3 hlt3
              have ee := HG7.out.cell dd (by simp)
              have ik : (k3 : Int) < (R.length : Int) := by omega
              have hmem : R.getD k3 [] ∈ R := by rw [List.getD, List.getElem?_eq_getElem hlt3, Option.getD_some]; exact List.getElem_mem hlt3
              obtain ⟨u, hu⟩ : ∃ u, R.getD k3 [] = u := ⟨_, rfl⟩
              have HU : Hid (R.getD k3 [] = u ∧ u ∈ R) := ⟨hu, by rw [← hu]; exact hmem⟩
              rw [hu] at ee hi hm
              have CL : Hid (∀ q, Calls Try.prog 23 #[.slice r u.length kk, .int .i64 x.O] (wl.drewN q) (LettersP x.O u (wl.drewN q))) := fun q => HLe.out _ u r kk (hi.grown (grown_drewN HG7.out q)) hm
              have CD : Hid (Calls Try.prog 23 #[.slice r u.length kk, .int .i64 x.O] wl.drew (LettersP x.O u wl.drew)) := HLe.out _ u r kk (hi.grown (grown_drew HG7.out)) hm
              have KK : Hid (wl.drew.cell? ⟨b, o + k3, none⟩ = some (.slice r u.length kk) ∧ wl.drew.cell? ⟨w.heap.size, 1, none⟩ = some (.int .i64 x.O)) := ⟨ee, y1⟩
              clear hc dd hmem hu hi hm
              go_wp2_with fail
              go_region_held3 (fun W => W.cell? ⟨b, o + k3, none⟩ = some (.slice r u.length kk) ∧ W.cell? ⟨w.heap.size, 1, none⟩ = some (.int .i64 x.O))
                (first | (with_reducible exact KK.out) | assumption)
                (first | (go_at_call 23; refine CD.out.mono ?_; rintro E w9 ⟨z, rfl, hz1, hz2, rfl⟩; have kk9 := KK.out))
              all_goals
                have HZ3 : Hid ((LetT x.O u → z = 0) ∧ (¬ LetT x.O u → z = 2)) := ⟨hz1, hz2⟩
                clear hz1 hz2
                by_cases fz : LetT x.O u
                · have e0 : z = 0 := HZ3.out.1 fz
                  subst e0
                  have HN : Hid (∀ j, j < k3 + 1 → LetT x.O (R.getD j [])) := fun j hj => by
                    by_cases hjk : j = k3
                    · subst hjk; rw [HU.out.1]; exact fz
                    · exact HJ.out j (by omega)
                  clear fz HZ3
                  go_wp2_with fail
                  go_roundw
                  case rel => exact ⟨k3 + 1, by omega, by go_num, grown_drew HG7.out, HN.out⟩
                  case measure => simp [intOf]; omega
                · have e0 : z = 2 := HZ3.out.2 fz
                  subst e0
                  have F : Hid (Po (.returned (.int .i64 2)) wl.drew) := HP.out 2 _ (chk_lets HMM.out HSz.out HS.out HWt.out HLi.out fun hh => fz (hh u ((HRR.out u).1 HU.out.2))) (grown_trans HG6.out (grown_drew HG7.out))
                  clear fz HZ3
                  go_wp2_with fail
                  first | exact F.out | (go_ret; exact F.out)
            · have ik : ¬ (k3 : Int) < (R.length : Int) := by omega
              have HLt : Hid (LetsT x) := fun u hu => by
                have hu' := (HRR.out u).2 hu
                obtain ⟨j, hj, rfl⟩ := List.getElem_of_mem hu'
                have := HJ.out j (by omega)
                rwa [List.getD, List.getElem?_eq_getElem hj, Option.getD_some] at this
              have F : Hid (Po (.returned (.int .i64 0)) wl) := HP.out 0 _ (chk_good HMM.out HSz.out HS.out HWt.out HLi.out HLt.out) (grown_trans HG6.out HG7.out)
              go_wp2_with fail
              first | exact F.out | (go_ret; exact F.out)

end Go.Proofs.Ytodcmlcpicabaaa
