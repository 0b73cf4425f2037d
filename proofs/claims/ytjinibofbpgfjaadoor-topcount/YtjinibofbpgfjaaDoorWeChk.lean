/- The program's within and shaped. -/
import Derived.Test.YtjinibofbpgfjaaDoorWeIn
namespace Go.Proofs.YtjinibofbpgfjaaDoor
open Go.RowKit
set_option linter.unusedVariables false
set_option linter.unusedSimpArgs false

theorem mem_getD {α : Type} {T : List (List α)} {k : Nat} (hk : k < T.length) : T.getD k [] ∈ T := by
  rw [List.getD_eq_getElem?_getD, List.getElem?_eq_getElem hk]
  exact List.getElem_mem hk
theorem all_getD {α : Type} {T : List (List α)} {P : List α → Prop} : (∀ t, t ∈ T → P t) ↔ ∀ k, k < T.length → P (T.getD k []) := by
  constructor
  · intro h k hk
    exact h _ (mem_getD hk)
  · intro h t ht
    obtain ⟨k, hk, rfl⟩ := List.mem_iff_getElem.1 ht
    have := h k hk
    rw [List.getD_eq_getElem?_getD, List.getElem?_eq_getElem hk] at this
    exact this

set_option maxHeartbeats 3200000 in
set_option maxRecDepth 100000 in
theorem within_any (x : WgI) (a1 a2 a3 : Option Addr) (c1 c2 c3 : Nat) (most : Int) (w : World) (h : WgAt w x a1 a2 a3) (h0 : 0 ≤ most ∧ most ≤ 1000) :
    Calls Tryd.prog 13 #[wgV x.L a1 x.F.length c1 a2 x.S.length c2 a3 x.E.length c3, .int .i64 most] w (TellsB (InA x most) w) := by
  have HO : Hid (0 ≤ most ∧ most ≤ 1000) := h0
  obtain ⟨W1, hW1, g1, s1, bx⟩ := box4_new w x.L a1 x.F.length c1 a2 x.S.length c2 a3 x.E.length c3
  have HW1 : Hid (W1 = _) := hW1
  have G : Hid (w.grownBy W1 none) := g1
  have HT : Hid (WgAt W1 x a1 a2 a3) := h.grown g1
  have HX : Hid (∀ W, W1.grownBy W none → Box4 W w.heap.size x.L a1 x.F.length c1 a2 x.S.length c2 a3 x.E.length c3) := fun W hW => bx.grown hW
  have x0 := bx.b0
  have x1 := bx.b1
  have x2 := bx.b2
  have x3 := bx.b3
  rw [hW1] at x0 x1 x2 x3
  have m1 := h.m1
  have m2 := h.m2
  have m3 := h.m3
  unfold maxLen at m1 m2 m3
  clear hW1 g1 s1 bx h
  clear h0
  have HA1 : Hid (Calls Tryd.prog 25 #[.slice a1 x.F.length c1, .int .i64 most] W1 (TellsB (InW x.F most) W1)) := allWithin_any _ _ _ _ _ _ HT.out.first rfl HT.out.m1 HO.out
  have HA3 : Hid (∀ W, W1.grownBy W none → Calls Tryd.prog 25 #[.slice a3 x.E.length c3, .int .i64 most] W (TellsB (InW x.E most) W)) := fun W hW => allWithin_any _ _ _ _ _ _ (HT.out.last.grown hW) rfl HT.out.m3 HO.out
  go_enter Tryd.func13, Tryd.ntmps13
  go_wp2_with fail
  rw [← HW1.out]
  refine HA1.out.mono ?_
  rintro E w2 ⟨bb, rfl, hbb, hg2⟩
  have HB : Hid (bb = true ↔ InW x.F most) := hbb
  have G2 : Hid (W1.grownBy w2 none) := hg2
  have y3 := (HX.out w2 hg2).b3
  clear hbb hg2 HA1 x0 x1 x2 x3
  cases bb with
  | false =>
    have HN : Hid (¬ InA x most) := fun hh => by have := HB.out.2 hh.1; cases this
    go_wp2_with fail
    go_ret
    exact tellsB false rfl ⟨(fun e => by cases e), fun e => absurd e HN.out⟩ (grown_trans G.out G2.out)
  | true =>
    go_wp2_with fail
    refine (HA3.out w2 G2.out).mono ?_
    rintro E w3 ⟨bb, rfl, hbb, hg3⟩
    have HB3 : Hid (bb = true ↔ InW x.E most) := hbb
    have G3 : Hid (W1.grownBy w3 none) := grown_trans G2.out hg3
    have y2 := (HX.out w3 G3.out).b2
    clear hbb hg3 HA3 y3
    cases bb with
    | false =>
      have HN : Hid (¬ InA x most) := fun hh => by have := HB3.out.2 hh.2.1; cases this
      go_wp2_with fail
      go_ret
      exact tellsB false rfl ⟨(fun e => by cases e), fun e => absurd e HN.out⟩ (grown_trans G.out G3.out)
    | true =>
      go_wp2_with fail
      clear y2
      go_loopw [24] (fun v W => ∃ k : Nat, k ≤ x.S.length ∧ v = .int .i64 k ∧ W1.grownBy W none ∧ ∀ s, s < k → ∀ r, r < (x.S.getD s []).length → InW ((x.S.getD s []).getD r []) most) (fun v _ => x.S.length - (intOf v).toNat)
      case atStart => exact ⟨0, Nat.zero_le _, rfl, G3.out, fun j hj => by omega⟩
      case round =>
        clear G2 G3
        obtain ⟨wo, hwo⟩ : ∃ W, W = wr := ⟨_, rfl⟩
        subst hwo
        obtain ⟨k, hk, rfl, hgw, hg⟩ := hrel
        have HJ : Hid (∀ s, s < k → ∀ r, r < (x.S.getD s []).length → InW ((x.S.getD s []).getD r []) most) := hg
        have HGW : Hid (W1.grownBy wo none) := hgw
        clear hg hgw
        by_cases hlt : k < x.S.length
        · obtain ⟨b4, o4, ha4, hc4⟩ := (HT.out.step.grown HGW.out).at hlt
          obtain ⟨r4, k4, c4', hr4, hm4⟩ := hc4 k hlt
          have i4 : (k : Int) < (x.S.length : Int) := by omega
          obtain ⟨T, hT⟩ : ∃ R, x.S.getD k [] = R := ⟨_, rfl⟩
          rw [hT] at c4' hr4 hm4
          have HTT : Hid (x.S.getD k [] = T) := hT
          have HI : Hid (RowsAt wo r4 T) := hr4
          unfold maxLen at hm4
          subst ha4
          clear hc4 hT hr4
          go_wp2_with fail
          clear c4'
          go_loopw [30] (fun v W => ∃ l : Nat, l ≤ T.length ∧ v = .int .i64 l ∧ wo.grownBy W none ∧ ∀ j, j < l → InW (T.getD j []) most) (fun v _ => T.length - (intOf v).toNat)
          case atStart => exact ⟨0, Nat.zero_le _, rfl, grown_refl _ _, fun j hj => by omega⟩
          case round =>
            obtain ⟨wi, hwi⟩ : ∃ W, W = wr := ⟨_, rfl⟩
            subst hwi
            obtain ⟨l, hl, rfl, hgi, hi⟩ := hrel
            have HL : Hid (∀ j, j < l → InW (T.getD j []) most) := hi
            have HGI : Hid (wo.grownBy wi none) := hgi
            clear hi hgi
            by_cases hll : l < T.length
            · obtain ⟨br, ob, rfl, hcr⟩ := (HI.out.grown HGI.out).at hll
              obtain ⟨r5, k5, c5, hr5, hm5⟩ := hcr l hll
              have il : (l : Int) < (T.length : Int) := by omega
              obtain ⟨R, hR⟩ : ∃ R, T.getD l [] = R := ⟨_, rfl⟩
              rw [hR] at c5 hr5 hm5
              have HR : Hid (T.getD l [] = R) := hR
              have HS : Hid (Calls Tryd.prog 25 #[.slice r5 R.length k5, .int .i64 most] wi (TellsB (InW R most) wi)) := allWithin_any _ _ _ _ _ _ hr5 rfl hm5 HO.out
              clear hcr hR hr5 hm5
              go_wp2_with fail
              refine HS.out.mono ?_
              rintro E w2 ⟨bb, rfl, hbb, hg2⟩
              have HB : Hid (bb = true ↔ InW R most) := hbb
              have HG2 : Hid (wi.grownBy w2 none) := hg2
              clear hbb hg2 c5
              cases bb with
              | true =>
                have HN : Hid (∀ j, j < l + 1 → InW (T.getD j []) most) := fun j hj => by
                  by_cases hjl : j = l
                  · subst hjl; rw [HR.out]; exact HB.out.1 rfl
                  · exact HL.out j (by omega)
                go_wp2_with fail
                go_roundw
                case rel => exact ⟨l + 1, by omega, by go_num, grown_trans HGI.out HG2.out, HN.out⟩
                case measure => simp [intOf]; omega
              | false =>
                have HN : Hid (¬ InA x most) := fun hh => by
                  have h1 := all_getD.1 (hh.2.2 _ (mem_getD hlt)) l (by rw [HTT.out]; exact hll)
                  rw [HTT.out, HR.out] at h1
                  have := HB.out.2 h1
                  cases this
                go_wp2_with fail
                go_ret
                exact tellsB false rfl ⟨(fun e => by cases e), fun e => absurd e HN.out⟩ (grown_trans G.out (grown_trans HGW.out (grown_trans HGI.out HG2.out)))
            · have il : ¬ (l : Int) < (T.length : Int) := by omega
              have HN : Hid (∀ s, s < k + 1 → ∀ r, r < (x.S.getD s []).length → InW ((x.S.getD s []).getD r []) most) := fun s hs => by
                by_cases hsk : s = k
                · subst hsk; rw [HTT.out]; intro j hj; exact HL.out j (by omega)
                · exact HJ.out s (by omega)
              go_wp2_with fail
              go_roundw
              case rel => exact ⟨k + 1, by omega, by go_num, grown_trans HGW.out HGI.out, HN.out⟩
              case measure => simp [intOf]; omega
        · have i4 : ¬ (k : Int) < (x.S.length : Int) := by omega
          have HN : Hid (InA x most) := ⟨HB.out.1 (by simp), HB3.out.1 (by simp), all_getD.2 fun s hs => all_getD.2 (HJ.out s (by omega))⟩
          go_wp2_with fail
          go_ret
          exact tellsB true rfl ⟨fun _ => HN.out, fun _ => rfl⟩ (grown_trans G.out HGW.out)

set_option maxHeartbeats 3200000 in
set_option maxRecDepth 100000 in
theorem shaped_any (x : WgI) (a1 a2 a3 : Option Addr) (c1 c2 c3 : Nat) (w : World) (h : WgAt w x a1 a2 a3) :
    Calls Tryd.prog 12 #[wgV x.L a1 x.F.length c1 a2 x.S.length c2 a3 x.E.length c3] w (TellsB (ShapeW x) w) := by
  obtain ⟨W1, hW1, g1, s1, bx⟩ := box4_new w x.L a1 x.F.length c1 a2 x.S.length c2 a3 x.E.length c3
  have HW1 : Hid (W1 = _) := hW1
  have G : Hid (w.grownBy W1 none) := g1
  have HT : Hid (WgAt W1 x a1 a2 a3) := h.grown g1
  have HX : Hid (∀ W, W1.grownBy W none → Box4 W w.heap.size x.L a1 x.F.length c1 a2 x.S.length c2 a3 x.E.length c3) := fun W hW => bx.grown hW
  have x0 := bx.b0
  have x1 := bx.b1
  have x2 := bx.b2
  have x3 := bx.b3
  rw [hW1] at x0 x1 x2 x3
  have m1 := h.m1
  have m2 := h.m2
  have m3 := h.m3
  unfold maxLen at m1 m2 m3
  clear hW1 g1 s1 bx h
  obtain ⟨n, hn⟩ : ∃ n, x.F.length = n := ⟨_, rfl⟩
  have HNF : Hid (x.F.length = n) := hn
  rw [hn] at HW1 HX x1 m1 ⊢
  clear hn
  by_cases e1 : x.E.length = n
  · have d1 : ((x.E.length : Int) != (n : Int)) = false := by simp [e1]
    have HE1 : Hid (x.E.length = n) := e1
    clear e1
    by_cases e2 : (x.S.length : Int) = x.L
    · have d2 : ((x.S.length : Int) != x.L) = false := by simpa using e2
      have HE2 : Hid ((x.S.length : Int) = x.L) := e2
      clear e2
      go_enter Tryd.func12, Tryd.ntmps12
      go_wp2_with fail
      rw [← HW1.out]
      clear x0 x1 x2 x3 d1 d2
      go_loopw [27] (fun v W => ∃ k : Nat, k ≤ x.S.length ∧ v = .int .i64 k ∧ W1.grownBy W none ∧ ∀ s, s < k → (x.S.getD s []).length = n ∧ ∀ r, r < (x.S.getD s []).length → ((x.S.getD s []).getD r []).length = n) (fun v _ => x.S.length - (intOf v).toNat)
      case atStart => exact ⟨0, Nat.zero_le _, rfl, grown_refl _ _, fun j hj => by omega⟩
      case round =>
        obtain ⟨wo, hwo⟩ : ∃ W, W = wr := ⟨_, rfl⟩
        subst hwo
        obtain ⟨k, hk, rfl, hgw, hg⟩ := hrel
        have HJ : Hid (∀ s, s < k → (x.S.getD s []).length = n ∧ ∀ r, r < (x.S.getD s []).length → ((x.S.getD s []).getD r []).length = n) := hg
        have HGW : Hid (W1.grownBy wo none) := hgw
        clear hg hgw
        by_cases hlt : k < x.S.length
        · obtain ⟨b4, o4, ha4, hc4⟩ := (HT.out.step.grown HGW.out).at hlt
          obtain ⟨r4, k4, c4', hr4, hm4⟩ := hc4 k hlt
          have i4 : (k : Int) < (x.S.length : Int) := by omega
          obtain ⟨T, hT⟩ : ∃ R, x.S.getD k [] = R := ⟨_, rfl⟩
          rw [hT] at c4' hr4 hm4
          have HTT : Hid (x.S.getD k [] = T) := hT
          have HI : Hid (RowsAt wo r4 T) := hr4
          unfold maxLen at hm4
          subst ha4
          clear hc4 hT hr4
          by_cases f1 : T.length = n
          · have d1 : ((T.length : Int) != (n : Int)) = false := by simp [f1]
            have HF1 : Hid (T.length = n) := f1
            clear f1
            go_wp2_with fail
            clear c4' d1
            go_loopw [37] (fun v W => ∃ l : Nat, l ≤ T.length ∧ v = .int .i64 l ∧ wo.grownBy W none ∧ ∀ j, j < l → (T.getD j []).length = n) (fun v _ => T.length - (intOf v).toNat)
            case atStart => exact ⟨0, Nat.zero_le _, rfl, grown_refl _ _, fun j hj => by omega⟩
            case round =>
              obtain ⟨wi, hwi⟩ : ∃ W, W = wr := ⟨_, rfl⟩
              subst hwi
              obtain ⟨l, hl, rfl, hgi, hi⟩ := hrel
              have HL : Hid (∀ j, j < l → (T.getD j []).length = n) := hi
              have HGI : Hid (wo.grownBy wi none) := hgi
              clear hi hgi
              by_cases hll : l < T.length
              · obtain ⟨br, ob, rfl, hcr⟩ := (HI.out.grown HGI.out).at hll
                obtain ⟨r5, k5, c5, hr5, hm5⟩ := hcr l hll
                have il : (l : Int) < (T.length : Int) := by omega
                obtain ⟨R, hR⟩ : ∃ R, T.getD l [] = R := ⟨_, rfl⟩
                rw [hR] at c5 hr5 hm5
                have HR : Hid (T.getD l [] = R) := hR
                clear hcr hR hr5 hm5
                by_cases f2 : R.length = n
                · have d2 : ((R.length : Int) != (n : Int)) = false := by simp [f2]
                  have HN : Hid (∀ j, j < l + 1 → (T.getD j []).length = n) := fun j hj => by
                    by_cases hjl : j = l
                    · subst hjl; rw [HR.out]; exact f2
                    · exact HL.out j (by omega)
                  clear f2
                  go_wp2_with fail
                  go_roundw
                  case rel => exact ⟨l + 1, by omega, by go_num, HGI.out, HN.out⟩
                  case measure => simp [intOf]; omega
                · have d2 : ((R.length : Int) != (n : Int)) = true := by simp; omega
                  have HN : Hid (¬ ShapeW x) := fun hh => by
                    have h1 := all_getD.1 (hh.2.2 _ (mem_getD hlt)).2 l (by rw [HTT.out]; exact hll)
                    rw [HTT.out, HR.out, HNF.out] at h1
                    exact f2 h1
                  clear f2
                  go_wp2_with fail
                  go_ret
                  exact tellsB false rfl ⟨(fun e => by cases e), fun e => absurd e HN.out⟩ (grown_trans G.out (grown_trans HGW.out HGI.out))
              · have il : ¬ (l : Int) < (T.length : Int) := by omega
                have HN : Hid (∀ s, s < k + 1 → (x.S.getD s []).length = n ∧ ∀ r, r < (x.S.getD s []).length → ((x.S.getD s []).getD r []).length = n) := fun s hs => by
                  by_cases hsk : s = k
                  · subst hsk; rw [HTT.out]; exact ⟨HF1.out, fun j hj => HL.out j (by omega)⟩
                  · exact HJ.out s (by omega)
                go_wp2_with fail
                go_roundw
                case rel => exact ⟨k + 1, by omega, by go_num, grown_trans HGW.out HGI.out, HN.out⟩
                case measure => simp [intOf]; omega
          · have d1 : ((T.length : Int) != (n : Int)) = true := by simp; omega
            have HN : Hid (¬ ShapeW x) := fun hh => by
              have h1 := (hh.2.2 _ (mem_getD hlt)).1
              rw [HTT.out, HNF.out] at h1
              exact f1 h1
            clear f1
            go_wp2_with fail
            go_ret
            exact tellsB false rfl ⟨(fun e => by cases e), fun e => absurd e HN.out⟩ (grown_trans G.out HGW.out)
        · have i4 : ¬ (k : Int) < (x.S.length : Int) := by omega
          have HN : Hid (ShapeW x) := ⟨by rw [HE1.out, HNF.out], HE2.out, all_getD.2 fun s hs => by rw [HNF.out]; exact ⟨(HJ.out s (by omega)).1, all_getD.2 (HJ.out s (by omega)).2⟩⟩
          go_wp2_with fail
          go_ret
          exact tellsB true rfl ⟨fun _ => HN.out, fun _ => rfl⟩ (grown_trans G.out HGW.out)
    · have d2 : ((x.S.length : Int) != x.L) = true := by simp; omega
      have HN : Hid (¬ ShapeW x) := fun hs => e2 hs.2.1
      clear e2
      go_enter Tryd.func12, Tryd.ntmps12
      go_wp2_with fail
      rw [← HW1.out]
      go_ret
      exact tellsB false rfl ⟨(fun e => by cases e), fun e => absurd e HN.out⟩ G.out
  · have d1 : ((x.E.length : Int) != (n : Int)) = true := by simp; omega
    have HN : Hid (¬ ShapeW x) := fun hs => e1 (by rw [hs.1, HNF.out])
    clear e1
    go_enter Tryd.func12, Tryd.ntmps12
    go_wp2_with fail
    rw [← HW1.out]
    go_ret
    exact tellsB false rfl ⟨(fun e => by cases e), fun e => absurd e HN.out⟩ G.out

end Go.Proofs.YtjinibofbpgfjaaDoor
