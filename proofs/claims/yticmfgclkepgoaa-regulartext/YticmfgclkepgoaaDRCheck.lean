/- The reference's Check of an automaton answers checkF, too. -/
import Derived.Test.YticmfgclkepgoaaDChk
namespace Go.Proofs.Yticmfgclkepgoaa
open Go.RowKit
set_option linter.unusedVariables false

set_option maxHeartbeats 3200000 in
set_option maxRecDepth 100000 in
theorem checkR_any (L S : Int) (R : List (List Int)) (M : List Int) (a a' : Option Addr) (c c' : Nat) (w : World) (h : DetAt w ⟨L, S, R, M⟩ a a') :
    Calls Try.prog 7 #[.agg #[.int .i64 L, .int .i64 S, .slice a R.length c, .slice a' M.length c']] w fun e w' => e = .returned (.int .i64 (checkF ⟨L, S, R, M⟩)) ∧ w.grownBy w' none := by
  have hm := h.rm
  have hm' := h.mm
  have hr := h.marks
  have hr' := h.rows
  unfold maxLen at hm hm'
  simp only at hm hm' hr hr'
  have HM : Hid (Ints w a' M) := hr
  have HR : Hid (RowsAt w a R) := hr'
  have HG : Hid (∀ o, w.grownBy (w.alloc o) none) := fun o => grown_alloc w o
  clear h hr hr'
  obtain ⟨z, hz⟩ : ∃ z, checkF ⟨L, S, R, M⟩ = z := ⟨_, rfl⟩
  rw [hz]
  have HZ : Hid (checkF ⟨L, S, R, M⟩ = z) := hz
  clear hz
  by_cases h1 : L < 1
  · have hd : decide (L < 1) = true := by simpa using h1
    go_enter Try.func7, Try.ntmps7
    go_wp2_with fail
    go_ret
    exact ⟨ret_int (by rw [← HZ.out]; exact (checkF_range (by show _ ∨ _; simp only; omega)).symm), HG.out _⟩
  have hd : decide (L < 1) = false := by simpa using h1
  by_cases h2 : 4 < L
  · go_enter Try.func7, Try.ntmps7
    go_wp2_with fail
    go_ret
    exact ⟨ret_int (by rw [← HZ.out]; exact (checkF_range (by show _ ∨ _; simp only; omega)).symm), HG.out _⟩
  by_cases h3 : R.length < 1
  · have hd2 : decide ((R.length : Int) < 1) = true := by simp; omega
    go_enter Try.func7, Try.ntmps7
    go_wp2_with fail
    go_ret
    exact ⟨ret_int (by rw [← HZ.out]; exact (checkF_size (by simp only; omega) (by simp only; omega)).symm), HG.out _⟩
  have hd2 : decide ((R.length : Int) < 1) = false := by simp; omega
  by_cases h4 : 3000 < R.length
  · have h4' : (3000 : Int) < (R.length : Int) := by omega
    go_enter Try.func7, Try.ntmps7
    go_wp2_with fail
    go_ret
    exact ⟨ret_int (by rw [← HZ.out]; exact (checkF_size (by simp only; omega) (by simp only; omega)).symm), HG.out _⟩
  have h4' : ¬ (3000 : Int) < (R.length : Int) := by omega
  by_cases h5n : ¬ M.length = R.length
  · have h5' : ((M.length : Int) != (R.length : Int)) = true := by simp; omega
    go_enter Try.func7, Try.ntmps7
    go_wp2_with fail
    go_ret
    exact ⟨ret_int (by rw [← HZ.out]; exact (checkF_shape (by simp only; omega) (by simp only; omega) (fun hs => h5n hs.1)).symm), HG.out _⟩
  have h5 : M.length = R.length := Decidable.not_not.1 h5n
  have h5' : ((M.length : Int) != (R.length : Int)) = false := by simp; omega
  have H5 : Hid (M.length = R.length) := h5
  clear h5n h5
  go_enter Try.func7, Try.ntmps7
  go_wp2_with fail
  generalize hO : Obj.cells #[Value.int IntKind.i64 L, Value.int IntKind.i64 S, Value.slice a R.length c, Value.slice a' M.length c'] 25 = O
  have HO : Hid (Obj.cells #[Value.int IntKind.i64 L, Value.int IntKind.i64 S, Value.slice a R.length c, Value.slice a' M.length c'] 25 = O) := hO
  clear hO
  go_loopw [4] (fun v wr => ∃ k : Nat, v = .int .i64 k ∧ k ≤ R.length ∧ (w.alloc O).grownBy wr none ∧ ∀ j, j < k → ((R.getD j []).length : Int) = L) (fun v _ => R.length - (intOf v).toNat)
  case atStart => exact ⟨0, rfl, by omega, grown_refl _ _, fun j hj => by omega⟩
  case round =>
    obtain ⟨i, rfl, hi, hg, hl⟩ := hrel
    have G : Hid ((w.alloc O).grownBy wr none) := hg
    have HL : Hid (∀ j, j < i → ((R.getD j []).length : Int) = L) := hl
    obtain ⟨b0, b1, b2, b3⟩ := box4 (HO.out ▸ hg)
    clear hg hl
    by_cases hlt : i < R.length
    · obtain ⟨b, off, rfl, hc⟩ := HR.out.at hlt
      obtain ⟨x, cx, hck, hix, hlx⟩ := hc i hlt
      unfold maxLen at hlx
      have hcw : wr.cell? ⟨b, off + i, none⟩ = some (.slice x (R.getD i []).length cx) := (grown_trans (HG.out O) G.out).cell hck (by simp)
      clear hc hix hck
      generalize hzs : (R.getD i []).length = n at hcw hlx
      have HX : Hid ((R.getD i []).length = n) := hzs
      clear hzs
      by_cases g1 : (n : Int) = L
      · have g1' : ((n : Int) != L) = false := by simpa using g1
        go_wp2_with fail
        go_quiet (fail)
        go_wp2_with fail
        go_roundw
        case rel =>
          refine ⟨i + 1, by go_num, by omega, grown_drewN G.out _, fun j hj => ?_⟩
          by_cases hjk : j = i
          · subst hjk; rw [HX.out]; exact g1
          · exact HL.out j (by omega)
        case measure => simp [intOf]; omega
      · have g1' : ((n : Int) != L) = true := by simpa using g1
        go_wp2_with fail
        go_quiet (fail)
        go_wp2_with fail
        go_ret
        exact ⟨ret_int (by rw [← HZ.out]; exact (checkF_shape (d := ⟨L, S, R, M⟩) (by simp only; omega) (by simp only; omega) (fun hs => g1 (by rw [← HX.out]; exact hs.2 i hlt))).symm), grown_drewN (grown_trans (HG.out O) G.out) _⟩
    · have HS : Hid (Shaped L R M) := ⟨H5.out, fun j hj => HL.out j (by omega)⟩
      clear HL
      by_cases g1 : S < 0
      · have g1' : decide (S < 0) = true := by simpa using g1
        go_wp2_with fail
        go_ret
        exact ⟨ret_int (by rw [← HZ.out]; exact (checkF_in (d := ⟨L, S, R, M⟩) (by simp only; omega) (by simp only; omega) HS.out (fun hs => by have := hs.s; simp only at this; omega)).symm), grown_trans (HG.out O) G.out⟩
      have g1' : decide (S < 0) = false := by simpa using g1
      by_cases g2 : (R.length : Int) ≤ S
      · go_wp2_with fail
        go_ret
        exact ⟨ret_int (by rw [← HZ.out]; exact (checkF_in (d := ⟨L, S, R, M⟩) (by simp only; omega) (by simp only; omega) HS.out (fun hs => by have := hs.s; simp only at this; omega)).symm), grown_trans (HG.out O) G.out⟩
      go_wp2_with fail
      clear b0 b1 b2 b3
      go_loopw [5] (fun v wr => ∃ i : Nat, v = .int .i64 i ∧ i ≤ R.length ∧ (w.alloc O).grownBy wr none ∧ LeadsTo R i 0) (fun v _ => R.length - (intOf v).toNat)
      case atStart => exact ⟨0, rfl, by omega, G.out, ⟨fun j hj => by omega, fun j hj => by omega⟩⟩
      case round =>
        clear G
        obtain ⟨i, rfl, hi, hg, hl⟩ := hrel
        have G : Hid ((w.alloc O).grownBy wr none) := hg
        have HL : Hid (LeadsTo R i 0) := hl
        obtain ⟨b0, b1, b2, b3⟩ := box4 (HO.out ▸ hg)
        clear hg hl
        by_cases hlt : i < R.length
        · obtain ⟨b, off, rfl, hc⟩ := HR.out.at hlt
          obtain ⟨x, cx, hck, hix, hlx⟩ := hc i hlt
          have HX : Hid (Ints w x (R.getD i [])) := hix
          have hlen : Hid (((R.getD i []).length : Int) = L) := HS.out.2 i hlt
          have HC : Hid (w.cell? ⟨b, off + i, none⟩ = some (.slice x (R.getD i []).length cx)) := hck
          clear hc hix hck
          generalize hzs : R.getD i [] = zs at HC hlx HX hlen
          have HZs : Hid (R.getD i [] = zs) := hzs
          clear hzs
          have hlen' := hlen.out
          subst hlen'
          go_wp2_with fail
          clear b0 b1 b2 b3
          go_loopw [6] (fun v wq => ∃ k : Nat, v = .int .i64 k ∧ k ≤ zs.length ∧ (w.alloc O).grownBy wq none ∧ LeadsTo R i k) (fun v _ => zs.length - (intOf v).toNat)
          case atStart => exact ⟨0, rfl, by omega, G.out, HL.out⟩
          case round =>
            clear G HL
            obtain ⟨k, rfl, hk, hg, hl⟩ := hrel
            have G : Hid ((w.alloc O).grownBy wr none) := hg
            have HL : Hid (LeadsTo R i k) := hl
            obtain ⟨b0, b1, b2, b3⟩ := box4 (HO.out ▸ hg)
            clear hg hl
            by_cases hkl : k < zs.length
            · obtain ⟨bx, ox, rfl, hcx⟩ := HX.out.at hkl
              have hcw : wr.cell? ⟨bx, ox + k, none⟩ = some (.int .i64 (zs.getD k 0)) := (grown_trans (HG.out O) G.out).cell (hcx k hkl) (by simp)
              have hcr : wr.cell? ⟨b, off + i, none⟩ = some (.slice (some ⟨bx, ox, none⟩) zs.length cx) := (grown_trans (HG.out O) G.out).cell HC.out (by simp)
              clear hcx
              generalize hy : zs.getD k 0 = y at hcw
              have HY : Hid (zs.getD k 0 = y) := hy
              clear hy
              by_cases y1 : y < 0
              · have y1' : decide (y < 0) = true := by simpa using y1
                go_wp2_with fail
                go_ret
                refine ⟨ret_int ?_, grown_trans (HG.out O) G.out⟩
                rw [← (by assumption : Hid (checkF ⟨_, S, R, M⟩ = z)).out]
                refine (checkF_in (d := ⟨zs.length, S, R, M⟩) (by simp only; omega) (by simp only; omega) HS.out (fun hs => ?_)).symm
                have := hs.r i hlt k (by simp only; rw [HZs.out]; exact hkl)
                simp only at this
                rw [HZs.out, HY.out] at this
                omega
              have y1' : decide (y < 0) = false := by simpa using y1
              by_cases y2 : (R.length : Int) ≤ y
              · go_wp2_with fail
                go_ret
                refine ⟨ret_int ?_, grown_trans (HG.out O) G.out⟩
                rw [← (by assumption : Hid (checkF ⟨_, S, R, M⟩ = z)).out]
                refine (checkF_in (d := ⟨zs.length, S, R, M⟩) (by simp only; omega) (by simp only; omega) HS.out (fun hs => ?_)).symm
                have := hs.r i hlt k (by simp only; rw [HZs.out]; exact hkl)
                simp only at this
                rw [HZs.out, HY.out] at this
                omega
              go_wp2_with fail
              go_roundw
              case rel =>
                refine ⟨k + 1, by go_num, by omega, G.out, HL.out.1, fun j hj => ?_⟩
                by_cases hjk : j = k
                · subst hjk; rw [HZs.out, HY.out]; exact ⟨by omega, by omega⟩
                · exact HL.out.2 j (by omega)
              case measure => simp [intOf]; omega
            · go_wp2_with fail
              go_roundw
              case rel =>
                refine ⟨i + 1, by go_num, by omega, G.out, fun j hj k' hk' => ?_, fun j hj => by omega⟩
                by_cases hji : j = i
                · subst hji; exact HL.out.2 k' (by rw [HZs.out] at hk'; omega)
                · exact HL.out.1 j (by omega) k' hk'
              case measure => simp [intOf]; omega
        · have HLe : Hid (Leads S R) := ⟨fun j hj k hk => HL.out.1 j (by omega) k hk, by omega, by omega⟩
          clear HL
          go_wp2_with fail
          clear b0 b1 b2 b3
          go_loopw [7] (fun v wr => ∃ k : Nat, v = .int .i64 k ∧ k ≤ R.length ∧ (w.alloc O).grownBy wr none ∧ ∀ j, j < k → M.getD j 0 = 0 ∨ M.getD j 0 = 1) (fun v _ => R.length - (intOf v).toNat)
          case atStart => exact ⟨0, rfl, by omega, G.out, fun j hj => by omega⟩
          case round =>
            clear G
            obtain ⟨k, rfl, hk, hg, hl⟩ := hrel
            have G : Hid ((w.alloc O).grownBy wr none) := hg
            have HJ : Hid (∀ j, j < k → M.getD j 0 = 0 ∨ M.getD j 0 = 1) := hl
            obtain ⟨b0, b1, b2, b3⟩ := box4 (HO.out ▸ hg)
            clear hg hl
            by_cases hlt : k < R.length
            · have hltM : k < M.length := by rw [H5.out]; exact hlt
              obtain ⟨b, off, rfl, hc⟩ := HM.out.at hltM
              have hck : wr.cell? ⟨b, off + k, none⟩ = some (.int .i64 (M.getD k 0)) := (grown_trans (HG.out O) G.out).cell (hc k hltM) (by simp)
              clear hc
              generalize hx : M.getD k 0 = x at hck
              have HX : Hid (M.getD k 0 = x) := hx
              clear hx
              by_cases g0 : x = 0
              · subst g0
                go_wp2_with fail
                go_roundw
                case rel =>
                  refine ⟨k + 1, by go_num, by omega, G.out, fun j hj => ?_⟩
                  by_cases hjk : j = k
                  · subst hjk; rw [HX.out]; exact .inl rfl
                  · exact HJ.out j (by omega)
                case measure => simp [intOf]; omega
              · have g0' : (x != 0) = true := by simpa using g0
                have g0'' : (x == 0) = false := by simpa using g0
                by_cases g3 : x = 1
                · subst g3
                  go_wp2_with fail
                  go_roundw
                  case rel =>
                    refine ⟨k + 1, by go_num, by omega, G.out, fun j hj => ?_⟩
                    by_cases hjk : j = k
                    · subst hjk; rw [HX.out]; exact .inr rfl
                    · exact HJ.out j (by omega)
                  case measure => simp [intOf]; omega
                · have g1' : (x != 1) = true := by simpa using g3
                  go_wp2_with fail
                  go_ret
                  refine ⟨ret_int ?_, grown_trans (HG.out O) G.out⟩
                  rw [← HZ.out]
                  refine (checkF_in (d := ⟨L, S, R, M⟩) (by simp only; omega) (by simp only; omega) HS.out (fun hg => ?_)).symm
                  have := hg.m k hltM
                  simp only at this
                  rw [HX.out] at this
                  omega
            · go_wp2_with fail
              go_ret
              exact ⟨ret_int (by rw [← HZ.out]; exact (checkF_good (check_leads (by omega) (by omega) HS.out HLe.out (fun j hj => HJ.out j (by rw [H5.out] at hj; omega)))).symm), grown_trans (HG.out O) G.out⟩

end Go.Proofs.Yticmfgclkepgoaa
