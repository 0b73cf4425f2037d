/- The reference's Check. -/
import Derived.Test.YtjinibofbpgfjaaDoorWeAbv
namespace Go.Proofs.YtjinibofbpgfjaaDoor
open Go.RowKit
set_option linter.unusedVariables false
set_option linter.unusedSimpArgs false

set_option maxHeartbeats 3200000 in
set_option maxRecDepth 100000 in
theorem checkR18_any (x : WgI) (a1 a2 a3 : Option Addr) (c1 c2 c3 : Nat) (w : World) (h : WgAt w x a1 a2 a3) :
    Calls Tryd.prog 6 #[wgV x.L a1 x.F.length c1 a2 x.S.length c2 a3 x.E.length c3] w (ErrP (checkW x) w) := by
  obtain ⟨W1, hW1, g1, s1, bx⟩ := box4_new w x.L a1 x.F.length c1 a2 x.S.length c2 a3 x.E.length c3
  have HW1 : Hid (W1 = _) := hW1
  have G : Hid (w.grownBy W1 none) := g1
  have HT : Hid (WgAt W1 x a1 a2 a3) := h.grown g1
  have HX : Hid (∀ W, W1.grownBy W none → Box4 W w.heap.size x.L a1 x.F.length c1 a2 x.S.length c2 a3 x.E.length c3) := fun W hW => bx.grown hW
  have x0 := bx.b0
  have x1 := bx.b1
  have x2 := bx.b2
  have x3 := bx.b3
  rw [hW1] at x0 x1 x2 x3
  have m1 := h.m1
  have m2 := h.m2
  have m3 := h.m3
  unfold maxLen at m1 m2 m3
  have HAb : Hid (∀ W, W1.grownBy W none → Calls Tryd.prog 14 #[wgV x.L a1 x.F.length c1 a2 x.S.length c2 a3 x.E.length c3, .int .i64 9] W (TellsB (¬ InA x 9) W)) := fun W hW => aboveA_any x a1 a2 a3 c1 c2 c3 9 W (HT.out.grown hW) (by omega)
  obtain ⟨z, hz⟩ : ∃ z, checkW x = z := ⟨_, rfl⟩
  have HZ : Hid (checkW x = z) := hz
  rw [hz]
  clear hW1 g1 s1 bx h hz
  obtain ⟨n, hn⟩ : ∃ n, x.F.length = n := ⟨_, rfl⟩
  have HNF : Hid (x.F.length = n) := hn
  rw [hn] at HW1 HX x1 m1 HAb ⊢
  clear hn
  by_cases h1 : x.L < 1
  · have ez : z = 2 := by rw [← HZ.out]; exact chk1 (fun hh => by have := hh.1; omega)
    subst ez
    go_enter Tryd.func6, Tryd.ntmps6
    go_wp2_with fail
    rw [← HW1.out]
    go_ret
    exact ⟨rfl, G.out⟩
  · by_cases h2 : 4 < x.L
    · have ez : z = 2 := by rw [← HZ.out]; exact chk1 (fun hh => by have := hh.2; omega)
      subst ez
      go_enter Tryd.func6, Tryd.ntmps6
      go_wp2_with fail
      rw [← HW1.out]
      go_ret
      exact ⟨rfl, G.out⟩
    · have HL0 : Hid (LetW x) := ⟨by omega, by omega⟩
      by_cases h3 : (n : Int) < 1
      · have ez : z = 1 := by rw [← HZ.out]; exact chk2 HL0.out (fun hh => by have := hh.1; have := HNF.out; omega)
        subst ez
        go_enter Tryd.func6, Tryd.ntmps6
        go_wp2_with fail
        rw [← HW1.out]
        go_ret
        exact ⟨rfl, G.out⟩
      · by_cases h4 : 8 < (n : Int)
        · have ez : z = 1 := by rw [← HZ.out]; exact chk2 HL0.out (fun hh => by have := hh.2; have := HNF.out; omega)
          subst ez
          go_enter Tryd.func6, Tryd.ntmps6
          go_wp2_with fail
          rw [← HW1.out]
          go_ret
          exact ⟨rfl, G.out⟩
        · have HSz : Hid (SizeW x) := ⟨by have := HNF.out; omega, by have := HNF.out; omega⟩
          by_cases e1 : x.E.length = n
          · have d1 : ((x.E.length : Int) != (n : Int)) = false := by simp [e1]
            have HE1 : Hid (x.E.length = n) := e1
            clear e1
            by_cases e2 : (x.S.length : Int) = x.L
            · have d2 : ((x.S.length : Int) != x.L) = false := by simpa using e2
              have HE2 : Hid ((x.S.length : Int) = x.L) := e2
              clear e2
              go_enter Tryd.func6, Tryd.ntmps6
              go_wp2_with fail
              rw [← HW1.out]
              clear x0 x1 x2 x3 d1 d2 h1 h2 h3 h4
              go_loopw [4] (fun v W => ∃ k : Nat, k ≤ x.S.length ∧ v = .int .i64 k ∧ W1.grownBy W none ∧ ∀ s, s < k → (x.S.getD s []).length = n ∧ ∀ r, r < (x.S.getD s []).length → ((x.S.getD s []).getD r []).length = n) (fun v _ => x.S.length - (intOf v).toNat)
              case atStart => exact ⟨0, Nat.zero_le _, rfl, grown_refl _ _, fun j hj => by omega⟩
              case round =>
                obtain ⟨wo, hwo⟩ : ∃ W, W = wr := ⟨_, rfl⟩
                subst hwo
                obtain ⟨k, hk, rfl, hgw, hg⟩ := hrel
                have HJ : Hid (∀ s, s < k → (x.S.getD s []).length = n ∧ ∀ r, r < (x.S.getD s []).length → ((x.S.getD s []).getD r []).length = n) := hg
                have HGW : Hid (W1.grownBy wo none) := hgw
                have x2 := (HX.out wo hgw).b2
                clear hg hgw
                by_cases hlt : k < x.S.length
                · obtain ⟨b4, o4, rfl, hc4⟩ := (HT.out.step.grown HGW.out).at hlt
                  obtain ⟨r4, k4, c4', hr4, hm4⟩ := hc4 k hlt
                  have i4 : (k : Int) < (x.S.length : Int) := by omega
                  obtain ⟨T, hT⟩ : ∃ R, x.S.getD k [] = R := ⟨_, rfl⟩
                  rw [hT] at c4' hr4 hm4
                  have HTT : Hid (x.S.getD k [] = T) := hT
                  have HI : Hid (RowsAt wo r4 T) := hr4
                  have HC4 : Hid (∀ W, wo.grownBy W none → W.cell? ⟨b4, o4 + k, none⟩ = some (.slice r4 T.length k4)) := fun W hW => hW.cell c4' (by simp)
                  unfold maxLen at hm4
                  clear hc4 hT hr4
                  by_cases f1 : T.length = n
                  · have d1 : ((T.length : Int) != (n : Int)) = false := by simp [f1]
                    have HF1 : Hid (T.length = n) := f1
                    clear f1
                    go_wp2_with fail
                    clear c4' d1 x2
                    go_loopw [5] (fun v W => ∃ l : Nat, l ≤ n ∧ v = .int .i64 l ∧ wo.grownBy W none ∧ ∀ j, j < l → (T.getD j []).length = n) (fun v _ => n - (intOf v).toNat)
                    case atStart => exact ⟨0, Nat.zero_le _, rfl, grown_refl _ _, fun j hj => by omega⟩
                    case round =>
                      obtain ⟨wi, hwi⟩ : ∃ W, W = wr := ⟨_, rfl⟩
                      subst hwi
                      obtain ⟨l, hl, rfl, hgi, hi⟩ := hrel
                      have HL : Hid (∀ j, j < l → (T.getD j []).length = n) := hi
                      have HGI : Hid (wo.grownBy wi none) := hgi
                      have x2 := (HX.out wi (grown_trans HGW.out hgi)).b2
                      have c4' := HC4.out wi hgi
                      clear hi hgi
                      by_cases hll : l < n
                      · have il : (l : Int) < (n : Int) := by omega
                        have hlT : l < T.length := by rw [HF1.out]; exact hll
                        have il2 : (l : Int) < (T.length : Int) := by omega
                        obtain ⟨br, ob, rfl, hcr⟩ := (HI.out.grown HGI.out).at hlT
                        obtain ⟨r5, k5, c5, hr5, hm5⟩ := hcr l hlT
                        obtain ⟨R, hR⟩ : ∃ R, T.getD l [] = R := ⟨_, rfl⟩
                        rw [hR] at c5 hr5 hm5
                        have HR : Hid (T.getD l [] = R) := hR
                        clear hcr hR hr5 hm5
                        by_cases f2 : R.length = n
                        · have d2 : ((R.length : Int) != (n : Int)) = false := by simp [f2]
                          have HN : Hid (∀ j, j < l + 1 → (T.getD j []).length = n) := fun j hj => by
                            by_cases hjl : j = l
                            · subst hjl; rw [HR.out]; exact f2
                            · exact HL.out j (by omega)
                          clear f2
                          go_wp2_with fail
                          go_roundw
                          case rel => exact ⟨l + 1, by omega, by go_num, HGI.out, HN.out⟩
                          case measure => simp [intOf]; omega
                        · have d2 : ((R.length : Int) != (n : Int)) = true := by simp; omega
                          have HN : Hid (¬ ShapeW x) := fun hh => by
                            have h1 := all_getD.1 (hh.2.2 _ (mem_getD hlt)).2 l (by rw [HTT.out]; exact hlT)
                            rw [HTT.out, HR.out, HNF.out] at h1
                            exact f2 h1
                          clear f2
                          have ez : z = 3 := by rw [← HZ.out]; exact chk3 HL0.out HSz.out HN.out
                          subst ez
                          go_wp2_with fail
                          go_ret
                          exact ⟨rfl, grown_trans G.out (grown_trans HGW.out HGI.out)⟩
                      · have il : ¬ (l : Int) < (n : Int) := by omega
                        have HN : Hid (∀ s, s < k + 1 → (x.S.getD s []).length = n ∧ ∀ r, r < (x.S.getD s []).length → ((x.S.getD s []).getD r []).length = n) := fun s hs => by
                          by_cases hsk : s = k
                          · subst hsk; rw [HTT.out]; exact ⟨HF1.out, fun j hj => HL.out j (by have := HF1.out; omega)⟩
                          · exact HJ.out s (by omega)
                        go_wp2_with fail
                        go_roundw
                        case rel => exact ⟨k + 1, by omega, by go_num, grown_trans HGW.out HGI.out, HN.out⟩
                        case measure => simp [intOf]; omega
                  · have d1 : ((T.length : Int) != (n : Int)) = true := by simp; omega
                    have HN : Hid (¬ ShapeW x) := fun hh => by
                      have h1 := (hh.2.2 _ (mem_getD hlt)).1
                      rw [HTT.out, HNF.out] at h1
                      exact f1 h1
                    clear f1
                    have ez : z = 3 := by rw [← HZ.out]; exact chk3 HL0.out HSz.out HN.out
                    subst ez
                    go_wp2_with fail
                    go_ret
                    exact ⟨rfl, grown_trans G.out HGW.out⟩
                · have i4 : ¬ (k : Int) < (x.S.length : Int) := by omega
                  have HSh : Hid (ShapeW x) := ⟨by rw [HE1.out, HNF.out], HE2.out, all_getD.2 fun s hs => by rw [HNF.out]; exact ⟨(HJ.out s (by omega)).1, all_getD.2 (HJ.out s (by omega)).2⟩⟩
                  have x0 := (HX.out wo HGW.out).b0
                  have x1 := (HX.out wo HGW.out).b1
                  have x3 := (HX.out wo HGW.out).b3
                  go_wp2_with fail
                  clear x0 x1 x2 x3
                  refine (HAb.out wo HGW.out).mono ?_
                  rintro E w3 ⟨bb, rfl, hbb, hg3⟩
                  have HB3 : Hid (bb = true ↔ ¬ InA x 9) := hbb
                  have G3 : Hid (w.grownBy w3 none) := grown_trans G.out (grown_trans HGW.out hg3)
                  clear hbb hg3 HAb
                  cases bb with
                  | true =>
                    have ez : z = 2 := by rw [← HZ.out]; exact chk4 HL0.out HSz.out HSh.out (HB3.out.1 rfl)
                    subst ez
                    go_wp2_with fail
                    go_ret
                    exact ⟨rfl, G3.out⟩
                  | false =>
                    have ez : z = 0 := by rw [← HZ.out]; exact check_good.2 ⟨HL0.out, HSz.out, HSh.out, Classical.not_not.1 (fun hh => by have := HB3.out.2 hh; cases this)⟩
                    subst ez
                    go_wp2_with fail
                    go_ret
                    exact ⟨rfl, G3.out⟩
            · have d2 : ((x.S.length : Int) != x.L) = true := by simp; omega
              have HN : Hid (¬ ShapeW x) := fun hs => e2 hs.2.1
              clear e2
              have ez : z = 3 := by rw [← HZ.out]; exact chk3 HL0.out HSz.out HN.out
              subst ez
              go_enter Tryd.func6, Tryd.ntmps6
              go_wp2_with fail
              rw [← HW1.out]
              go_ret
              exact ⟨rfl, G.out⟩
          · have d1 : ((x.E.length : Int) != (n : Int)) = true := by simp; omega
            have HN : Hid (¬ ShapeW x) := fun hs => e1 (by rw [hs.1, HNF.out])
            clear e1
            have ez : z = 3 := by rw [← HZ.out]; exact chk3 HL0.out HSz.out HN.out
            subst ez
            go_enter Tryd.func6, Tryd.ntmps6
            go_wp2_with fail
            rw [← HW1.out]
            go_ret
            exact ⟨rfl, G.out⟩

end Go.Proofs.YtjinibofbpgfjaaDoor
