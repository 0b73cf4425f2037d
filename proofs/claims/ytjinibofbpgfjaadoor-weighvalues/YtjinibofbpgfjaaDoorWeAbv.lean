/- The reference's Above. -/
import Derived.Test.YtjinibofbpgfjaaDoorWeChk2
namespace Go.Proofs.YtjinibofbpgfjaaDoor
open Go.RowKit
set_option linter.unusedVariables false
set_option linter.unusedSimpArgs false

theorem not_and_or_c {p q : Prop} : ¬ (p ∧ q) ↔ ¬ p ∨ ¬ q := Classical.not_and_iff_not_or_not

set_option maxHeartbeats 3200000 in
set_option maxRecDepth 100000 in
theorem aboveA_any (x : WgI) (a1 a2 a3 : Option Addr) (c1 c2 c3 : Nat) (most : Int) (w : World) (h : WgAt w x a1 a2 a3) (h0 : 0 ≤ most ∧ most ≤ 1000) :
    Calls Tryd.prog 14 #[wgV x.L a1 x.F.length c1 a2 x.S.length c2 a3 x.E.length c3, .int .i64 most] w (TellsB (¬ InA x most) w) := by
  have HO : Hid (0 ≤ most ∧ most ≤ 1000) := h0
  obtain ⟨W1, hW1, g1, s1, bx⟩ := box4_new w x.L a1 x.F.length c1 a2 x.S.length c2 a3 x.E.length c3
  have HW1 : Hid (W1 = _) := hW1
  have G : Hid (w.grownBy W1 none) := g1
  have HT : Hid (WgAt W1 x a1 a2 a3) := h.grown g1
  have HX : Hid (∀ W, W1.grownBy W none → Box4 W w.heap.size x.L a1 x.F.length c1 a2 x.S.length c2 a3 x.E.length c3) := fun W hW => bx.grown hW
  have x0 := bx.b0
  have x1 := bx.b1
  have x2 := bx.b2
  have x3 := bx.b3
  rw [hW1] at x0 x1 x2 x3
  have m1 := h.m1
  have m2 := h.m2
  have m3 := h.m3
  unfold maxLen at m1 m2 m3
  clear hW1 g1 s1 bx h h0
  have HA1 : Hid (Calls Tryd.prog 26 #[.slice a1 x.F.length c1, .int .i64 most] W1 (TellsB (¬ InW x.F most) W1)) := above_any _ _ _ _ _ _ HT.out.first rfl HT.out.m1 HO.out
  have HA3 : Hid (∀ W, W1.grownBy W none → Calls Tryd.prog 26 #[.slice a3 x.E.length c3, .int .i64 most] W (TellsB (¬ InW x.E most) W)) := fun W hW => above_any _ _ _ _ _ _ (HT.out.last.grown hW) rfl HT.out.m3 HO.out
  go_enter Tryd.func14, Tryd.ntmps14
  go_wp2_with fail
  rw [← HW1.out]
  refine HA1.out.mono ?_
  rintro E w2 ⟨bb, rfl, hbb, hg2⟩
  have HB : Hid (bb = true ↔ ¬ InW x.F most) := hbb
  have G2 : Hid (W1.grownBy w2 none) := hg2
  have y3 := (HX.out w2 hg2).b3
  clear hbb hg2 HA1 x0 x1 x2 x3
  go_wp2_with fail
  refine (HA3.out w2 G2.out).mono ?_
  rintro E w3 ⟨b3, rfl, hbb, hg3⟩
  have HB3 : Hid (b3 = true ↔ ¬ InW x.E most) := hbb
  have G3 : Hid (W1.grownBy w3 none) := grown_trans G2.out hg3
  clear hbb hg3 HA3 y3
  go_wp2_with fail
  go_loopw [7, 5] (fun v u W => ∃ (k : Nat) (b : Bool), k ≤ x.S.length ∧ v = .int .i64 k ∧ u = .bool b ∧ W1.grownBy W none ∧ (b = true ↔ ¬ (InW x.F most ∧ ∀ s, s < k → ∀ r, r < (x.S.getD s []).length → InW ((x.S.getD s []).getD r []) most))) (fun v _ _ => x.S.length - (intOf v).toNat)
  case atStart => exact ⟨0, bb, Nat.zero_le _, rfl, rfl, G3.out, by rw [HB.out]; exact ⟨fun e hh => e hh.1, fun e hh => e ⟨hh, fun s hs => by omega⟩⟩⟩
  case round =>
    clear G2 G3 HB
    obtain ⟨wo, hwo⟩ : ∃ W, W = wr := ⟨_, rfl⟩
    subst hwo
    obtain ⟨k, bo, hk, rfl, rfl, hgw, hg⟩ := hrel
    have HJ : Hid (bo = true ↔ ¬ (InW x.F most ∧ ∀ s, s < k → ∀ r, r < (x.S.getD s []).length → InW ((x.S.getD s []).getD r []) most)) := hg
    have HGW : Hid (W1.grownBy wo none) := hgw
    have x2 := (HX.out wo hgw).b2
    clear hg hgw
    by_cases hlt : k < x.S.length
    · have i4 : (k : Int) < (x.S.length : Int) := by omega
      go_wp2_with fail
      clear x2
      go_loopw [8, 5] (fun v u W => ∃ (l : Nat) (b : Bool), l ≤ (x.S.getD k []).length ∧ v = .int .i64 l ∧ u = .bool b ∧ W1.grownBy W none ∧ (b = true ↔ bo = true ∨ ¬ ∀ r, r < l → InW ((x.S.getD k []).getD r []) most)) (fun v _ _ => (x.S.getD k []).length - (intOf v).toNat)
      case atStart => exact ⟨0, bo, Nat.zero_le _, rfl, rfl, HGW.out, ⟨fun e => .inl e, fun e => e.elim id (fun e => absurd (fun r hr => by omega) e)⟩⟩
      case round =>
        clear HGW
        obtain ⟨wi, hwi⟩ : ∃ W, W = wr := ⟨_, rfl⟩
        subst hwi
        obtain ⟨l, b, hl, rfl, rfl, hgi, hi⟩ := hrel
        have HGI : Hid (W1.grownBy wi none) := hgi
        have HL : Hid (b = true ↔ bo = true ∨ ¬ ∀ r, r < l → InW ((x.S.getD k []).getD r []) most) := hi
        have x2 := (HX.out wi hgi).b2
        clear hi hgi
        obtain ⟨b4, o4, ha4, hc4⟩ := (HT.out.step.grown HGI.out).at hlt
        obtain ⟨r4, k4, c4', hr4, hm4⟩ := hc4 k hlt
        subst ha4
        obtain ⟨T, hT⟩ : ∃ R, x.S.getD k [] = R := ⟨_, rfl⟩
        rw [hT] at c4' hr4 hm4 hl
        have HTT : Hid (x.S.getD k [] = T) := hT
        have HI : Hid (RowsAt wi r4 T) := hr4
        unfold maxLen at hm4
        clear hc4 hT hr4
        by_cases hll : l < T.length
        · obtain ⟨br, ob, rfl, hcr⟩ := HI.out.at hll
          obtain ⟨r5, k5, c5, hr5, hm5⟩ := hcr l hll
          have il : (l : Int) < (T.length : Int) := by omega
          obtain ⟨R, hR⟩ : ∃ R, T.getD l [] = R := ⟨_, rfl⟩
          rw [hR] at c5 hr5 hm5
          have HR : Hid (T.getD l [] = R) := hR
          have HS : Hid (Calls Tryd.prog 26 #[.slice r5 R.length k5, .int .i64 most] wi (TellsB (¬ InW R most) wi)) := above_any _ _ _ _ _ _ hr5 rfl hm5 HO.out
          clear hcr hR hr5 hm5
          go_wp2_with fail
          refine HS.out.mono ?_
          rintro E w2 ⟨bb, rfl, hbb, hg2⟩
          have HN : Hid ((b || bb) = true ↔ bo = true ∨ ¬ ∀ r, r < l + 1 → InW ((x.S.getD k []).getD r []) most) := by
            show _ ↔ _
            rw [Bool.or_eq_true, HL.out, hbb, or_assoc]
            have e : (¬ (∀ r, r < l + 1 → InW ((x.S.getD k []).getD r []) most)) ↔ ((¬ ∀ r, r < l → InW ((x.S.getD k []).getD r []) most) ∨ ¬ InW R most) := by
              rw [← not_and_or_c]
              refine not_congr ⟨fun hh => ⟨fun r hr => hh r (by omega), by have := hh l (by omega); rw [HTT.out, HR.out] at this; exact this⟩, fun hh r hr => ?_⟩
              by_cases e : r = l
              · subst e; rw [HTT.out, HR.out]; exact hh.2
              · exact hh.1 r (by omega)
            rw [e]
          have HG2 : Hid (W1.grownBy w2 none) := grown_trans HGI.out hg2
          clear hbb hg2 c5 c4' x2 HL HGI HS
          cases b <;>
          · go_wp2_with fail
            go_roundw
            case rel => exact ⟨l + 1, _, by rw [HTT.out]; omega, by go_num, rfl, HG2.out, HN.out⟩
            case measure => rw [HTT.out]; simp [intOf]; omega
        · have il : ¬ (l : Int) < (T.length : Int) := by omega
          have HN : Hid (b = true ↔ ¬ (InW x.F most ∧ ∀ s, s < k + 1 → ∀ r, r < (x.S.getD s []).length → InW ((x.S.getD s []).getD r []) most)) := by
            show _ ↔ _
            rw [HL.out, HJ.out, ← not_and_or_c]
            refine not_congr ⟨fun hh => ⟨hh.1.1, fun s hs => ?_⟩, fun hh => ⟨⟨hh.1, fun s hs => hh.2 s (by omega)⟩, fun r hr => hh.2 k (by omega) r (by rw [HTT.out]; omega)⟩⟩
            by_cases e : s = k
            · subst e; intro r hr; rw [HTT.out] at hr; exact hh.2 r (by omega)
            · exact hh.1.2 s (by omega)
          go_wp2_with fail
          go_roundw
          case rel => exact ⟨k + 1, b, by omega, by go_num, rfl, HGI.out, HN.out⟩
          case measure => simp [intOf]; omega
    · have i4 : ¬ (k : Int) < (x.S.length : Int) := by omega
      have HN : Hid ((bo || b3) = true ↔ ¬ InA x most) := by
        show _ ↔ _
        rw [Bool.or_eq_true, HJ.out, HB3.out, ← not_and_or_c]
        refine not_congr ⟨fun hh => ⟨hh.1.1, hh.2, all_getD.2 fun s hs => all_getD.2 (hh.1.2 s (by omega))⟩, fun hh => ⟨⟨hh.1, fun s hs => all_getD.1 (hh.2.2 _ (mem_getD (by omega)))⟩, hh.2.1⟩⟩
      have GG : Hid (w.grownBy wo none) := grown_trans G.out HGW.out
      clear HJ HB3
      cases bo <;>
      · go_wp2_with fail
        go_ret
        exact ⟨_, rfl, HN.out, GG.out⟩

end Go.Proofs.YtjinibofbpgfjaaDoor
