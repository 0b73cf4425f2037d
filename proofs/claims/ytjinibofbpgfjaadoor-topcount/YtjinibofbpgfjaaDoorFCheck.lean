/- What is wrong with an automaton, with limits: det.Fits answers checkN. -/
import Derived.Test.YtjinibofbpgfjaaDoorDShape
import Derived.Test.YtjinibofbpgfjaaDoorFSpec
namespace Go.Proofs.YtjinibofbpgfjaaDoor
open Go.RowKit
set_option linter.unusedVariables false

theorem checkN_leads {N K : Nat} {L S : Int} {R : List (List Int)} {M : List Int} (h1 : ¬ (L < 1 ∨ 4 < L)) (h2 : ¬ (R.length < 1 ∨ N < R.length)) (h3 : Shaped L R M) (h4 : Leads S R) (h5 : ∀ i, i < M.length → 0 ≤ M.getD i 0 ∧ M.getD i 0 ≤ K) : GoodN N K ⟨L, S, R, M⟩ :=
  ⟨by show 1 ≤ L; omega, by show L ≤ 4; omega, by show 1 ≤ R.length; omega, by show R.length ≤ N; omega, h3.1, h3.2, h4.1, h4.2, h5⟩

set_option maxHeartbeats 1600000 in
theorem fits_any (N K : Nat) (L S : Int) (R : List (List Int)) (M : List Int) (a a' : Option Addr) (c c' : Nat) (w : World) (h : DetAt w ⟨L, S, R, M⟩ a a') :
    Calls Tryd.prog 37 #[.agg #[.int .i64 L, .int .i64 S, .slice a R.length c, .slice a' M.length c'], .int .i64 N, .int .i64 K] w fun e w' => e = .returned (.int .i64 (checkN N K ⟨L, S, R, M⟩)) ∧ w.grownBy w' none := by
  have hm := h.rm
  have hm' := h.mm
  have hr := h.marks
  unfold maxLen at hm hm'
  simp only at hm hm' hr
  have HM : Hid (Ints w a' M) := hr
  have HG : Hid (∀ o, w.grownBy (w.alloc o) none) := fun o => grown_alloc w o
  have HSh : Hid (∀ W, w.grownBy W none → Calls Tryd.prog 56 #[.agg #[.int .i64 L, .int .i64 S, .slice a R.length c, .slice a' M.length c']] W (TellsB (Shaped L R M) W)) := fun W hW => shapedD_any L S R M a a' c c' W (h.grown hW)
  have HLe : Hid (∀ W, w.grownBy W none → Calls Tryd.prog 57 #[.agg #[.int .i64 L, .int .i64 S, .slice a R.length c, .slice a' M.length c']] W (TellsB (Leads S R) W)) := fun W hW => leads_any L S R M a a' c c' W (h.grown hW)
  clear h hr
  obtain ⟨z, hz⟩ : ∃ z, checkN N K ⟨L, S, R, M⟩ = z := ⟨_, rfl⟩
  rw [hz]
  have HZ : Hid (checkN N K ⟨L, S, R, M⟩ = z) := hz
  clear hz
  by_cases h1 : L < 1
  · have hd : decide (L < 1) = true := by simpa using h1
    go_enter Tryd.func37, Tryd.ntmps37
    go_wp2_with fail
    go_ret
    exact ⟨ret_int (by rw [← HZ.out]; exact (checkN_range (by show _ ∨ _; simp only; omega)).symm), HG.out _⟩
  have hd : decide (L < 1) = false := by simpa using h1
  by_cases h2 : 4 < L
  · go_enter Tryd.func37, Tryd.ntmps37
    go_wp2_with fail
    go_ret
    exact ⟨ret_int (by rw [← HZ.out]; exact (checkN_range (by show _ ∨ _; simp only; omega)).symm), HG.out _⟩
  by_cases h3 : R.length < 1
  · have hd2 : decide ((R.length : Int) < 1) = true := by simp; omega
    go_enter Tryd.func37, Tryd.ntmps37
    go_wp2_with fail
    go_ret
    exact ⟨ret_int (by rw [← HZ.out]; exact (checkN_size (by simp only; omega) (by simp only; omega)).symm), HG.out _⟩
  have hd2 : decide ((R.length : Int) < 1) = false := by simp; omega
  by_cases h4 : N < R.length
  · have h4' : (N : Int) < (R.length : Int) := by omega
    go_enter Tryd.func37, Tryd.ntmps37
    go_wp2_with fail
    go_ret
    exact ⟨ret_int (by rw [← HZ.out]; exact (checkN_size (by simp only; omega) (by simp only; omega)).symm), HG.out _⟩
  have h4' : ¬ (N : Int) < (R.length : Int) := by omega
  go_enter Tryd.func37, Tryd.ntmps37
  go_wp2_with fail
  refine (HSh.out _ (HG.out _)).mono ?_
  rintro e w2 ⟨bb, rfl, hbb, hg2⟩
  have HB : Hid (bb = true ↔ Shaped L R M) := hbb
  obtain ⟨b0, b1, b2, b3⟩ := box4 hg2
  have G2 : Hid (w.grownBy w2 none) := grown_trans (HG.out _) hg2
  have G2' : Hid ((w.alloc (.cells #[.int .i64 L, .int .i64 S, .slice a R.length c, .slice a' M.length c'] 38)).grownBy w2 none) := hg2
  clear hg2 hbb
  cases bb with
  | false =>
    go_wp2_with fail
    go_ret
    exact ⟨ret_int (by rw [← HZ.out]; exact (checkN_shape (by simp only; omega) (by simp only; omega) (fun hs => by have := HB.out.2 hs; simp at this)).symm), G2.out⟩
  | true =>
    have HS : Hid (Shaped L R M) := HB.out.1 rfl
    clear HB
    go_wp2_with fail
    refine (HLe.out _ G2.out).mono ?_
    rintro e w3 ⟨bb, rfl, hbb, hg3⟩
    have HB : Hid (bb = true ↔ Leads S R) := hbb
    have G3 : Hid (w.grownBy w3 none) := grown_trans G2.out hg3
    clear b0 b1 b2 b3
    obtain ⟨b0, b1, b2, b3⟩ := box4 (grown_trans G2'.out hg3)
    clear hg3 hbb G2 G2'
    cases bb with
    | false =>
      go_wp2_with fail
      go_ret
      exact ⟨ret_int (by rw [← HZ.out]; exact (checkN_in (d := ⟨L, S, R, M⟩) (by simp only; omega) (by simp only; omega) HS.out (fun hg => by have := HB.out.2 ⟨hg.r, hg.s⟩; simp at this)).symm), G3.out⟩
    | true =>
      have HL : Hid (Leads S R) := HB.out.1 rfl
      clear HB
      go_wp2_with fail
      go_loop [37] (fun i => ∃ k : Nat, k ≤ M.length ∧ i = .int .i64 k ∧ ∀ j, j < k → 0 ≤ M.getD j 0 ∧ M.getD j 0 ≤ K) (fun i => M.length - (intOf i).toNat)
      case atStart => exact ⟨0, Nat.zero_le _, rfl, fun j hj => by omega⟩
      case round =>
        obtain ⟨k, hk, rfl, hg⟩ := hrel
        have HJ : Hid (∀ j, j < k → 0 ≤ M.getD j 0 ∧ M.getD j 0 ≤ K) := hg
        clear hg
        by_cases hlt : k < M.length
        · obtain ⟨b, off, rfl, hc⟩ := HM.out.at hlt
          have hck : w3.cell? ⟨b, off + k, none⟩ = some (.int .i64 (M.getD k 0)) := G3.out.cell (hc k hlt) (by simp)
          clear hc
          generalize hx : M.getD k 0 = x at hck
          have HX : Hid (M.getD k 0 = x) := hx
          clear hx
          by_cases g0 : x < 0
          · have g0' : decide (x < 0) = true := by simpa using g0
            go_wp2_with fail
            go_ret
            refine ⟨ret_int ?_, G3.out⟩
            rw [← HZ.out]
            refine (checkN_in (d := ⟨L, S, R, M⟩) (by simp only; omega) (by simp only; omega) HS.out (fun hg => ?_)).symm
            have := hg.m k hlt
            simp only at this
            rw [HX.out] at this
            omega
          · have g0' : decide (x < 0) = false := by simpa using g0
            by_cases g1 : (K : Int) < x
            · go_wp2_with fail
              go_ret
              refine ⟨ret_int ?_, G3.out⟩
              rw [← HZ.out]
              refine (checkN_in (d := ⟨L, S, R, M⟩) (by simp only; omega) (by simp only; omega) HS.out (fun hg => ?_)).symm
              have := hg.m k hlt
              simp only at this
              rw [HX.out] at this
              omega
            · go_wp2_with fail
              go_round
              case rel =>
                refine ⟨k + 1, by omega, by go_num, fun j hj => ?_⟩
                by_cases hjk : j = k
                · subst hjk; rw [HX.out]; exact ⟨by omega, by omega⟩
                · exact HJ.out j (by omega)
              case measure => simp [intOf]; omega
        · go_wp2_with fail
          go_ret
          exact ⟨ret_int (by rw [← HZ.out]; exact (checkN_good (checkN_leads (by omega) (by omega) HS.out HL.out (fun j hj => HJ.out j (by omega)))).symm), G3.out⟩

end Go.Proofs.YtjinibofbpgfjaaDoor
