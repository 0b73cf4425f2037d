/- The law's own walk: GameSolves. -/
import Derived.Test.YtlnlgjbpkjfbjaaGWinsW
namespace Go.Proofs.Ytlnlgjbpkjfbjaa
open Go.RowKit
set_option linter.unusedVariables false

theorem rows_of_copy {B0 : Nat} {W : World} {a : Option Addr} {nr c : Nat} {R : List (List Int)} {rs : List (Value × List Int)} (h : Owns B0 W ((25, .slice a nr c, rs.map (·.1)) :: rowItems rs)) (hr : rs.map (·.2) = R) (hl : ∀ i, i < R.length → (R.getD i []).length ≤ maxLen) : nr = R.length ∧ RowsAt W a R := by
  have hn := h.len
  rw [List.length_map] at hn
  have hlen : rs.length = R.length := by rw [← hr]; simp
  refine ⟨by omega, ?_⟩
  by_cases h0 : R.length = 0
  · left; exact List.length_eq_zero_iff.1 h0
  · right
    obtain ⟨g, cap, e, _⟩ := h.form (by simp; omega)
    simp only [Value.slice.injEq] at e
    obtain ⟨rfl, _, _⟩ := e
    refine ⟨g, 0, rfl, fun i hi => ?_⟩
    have hi' : i < rs.length := by omega
    have e2 : R.getD i [] = rs[i].2 := by rw [← hr]; simp [List.getD, hi']
    have hm : (3, rs[i].1, vals rs[i].2) ∈ rowItems rs := List.mem_map.2 ⟨rs[i], List.getElem_mem hi', rfl⟩
    obtain ⟨_, x, d, e3⟩ := h.1 _ (List.mem_cons_of_mem _ hm)
    simp only [vals_len] at e3
    have hc := h.cell (i := i) (u := rs[i].1) (by simp [hi'])
    have hs : Owns B0 W [(3, rs[i].1, vals rs[i].2)] := owns_sub h.tail (List.singleton_sublist.2 hm)
    rw [e3] at hc hs
    refine ⟨x, d, by rw [Nat.zero_add, e2]; exact hc, by rw [e2]; exact hs.ints.2, hl i hi⟩

set_option maxHeartbeats 3200000 in
set_option maxRecDepth 100000 in
theorem sameLists_any (a b : Option Addr) (c d nr : Nat) (R : List (List Int)) (w : World) (hn : R.length = nr) (ha : RowsAt w a R) (hb : RowsAt w b R) (hm : nr ≤ maxLen) :
    Calls Try.prog 13 #[.slice a nr c, .slice b nr d] w (Says (.bool true) w) := by
  have HA : Hid (RowsAt w a R) := ha
  have HB : Hid (RowsAt w b R) := hb
  have HN : Hid (R.length = nr) := hn
  unfold maxLen at hm
  have hne : ((nr : Int) != (nr : Int)) = false := by simp
  clear ha hb hn
  go_enter Try.func13, Try.ntmps13
  go_wp2_with fail
  go_loopw [5] (fun v wr => ∃ k : Nat, k ≤ nr ∧ v = .int .i64 k ∧ w.grownBy wr none) (fun v _ => nr - (intOf v).toNat)
  case atStart => exact ⟨0, by omega, rfl, grown_refl _ _⟩
  case round =>
    obtain ⟨k, hk, rfl, hg⟩ := hrel
    have GG : Hid (w.grownBy wr none) := hg
    clear hg
    by_cases hlt : k < nr
    · have hki : (k : Int) < (nr : Int) := by omega
      obtain ⟨b1, o1, rfl, h1⟩ := (HA.out.grown GG.out).at (k := k) (by rw [HN.out]; exact hlt)
      obtain ⟨b2, o2, rfl, h2⟩ := (HB.out.grown GG.out).at (k := k) (by rw [HN.out]; exact hlt)
      obtain ⟨x1, c1, h3, h4, h5⟩ := h1 k (by rw [HN.out]; exact hlt)
      obtain ⟨x2, c2, h6, h7, h8⟩ := h2 k (by rw [HN.out]; exact hlt)
      have CW : Hid (∀ W, wr.grownBy W none → Calls Try.prog 7 #[.slice x1 (R.getD k []).length c1, .slice x2 (R.getD k []).length c2] W (TellsB (SameW (R.getD k []) (R.getD k [])) W)) := fun W hW => wordsR_any x1 x2 c1 c2 _ _ W (h4.grown hW) (h7.grown hW) h5 h8
      have CS : Hid (∀ W, wr.grownBy W none → Calls Try.prog 7 #[.slice x1 (R.getD k []).length c1, .slice x2 (R.getD k []).length c2] W (Says (.bool true) W)) := fun W hW => (CW.out W hW).mono fun e w' h => by
        obtain ⟨bb, rfl, h9, h10⟩ := h
        exact ⟨by rw [h9.2 rfl], h10⟩
      generalize (R.getD k []).length = lk at *
      clear h1 h2 h4 h5 h7 h8 CW
      go_wp2_with fail
      go_region_with (go_at_call 7; refine (CS.out _ (by first | exact grown_drew (grown_refl _ _) | exact grown_drewN (grown_refl _ _) _)).mono ?_; rintro E w5 ⟨rfl, hg5⟩; have hg6 : wr.grownBy w5 none := (grown_trans (by first | exact grown_drew (grown_refl _ _) | exact grown_drewN (grown_refl _ _) _) hg5); clear hg5)
      all_goals
        have G6 : Hid (w.grownBy w5 none) := grown_trans GG.out hg6
        clear hg6
        go_wp2_with fail
        go_roundw
        case rel => exact ⟨k + 1, by omega, by go_num, by first | exact G6.out | exact grown_drew G6.out | exact grown_drewN G6.out _⟩
        case measure => simp [intOf]; omega
    · have hki : ¬ (k : Int) < (nr : Int) := by omega
      go_wp2_with fail
      go_ret
      exact ⟨rfl, GG.out⟩

end Go.Proofs.Ytlnlgjbpkjfbjaa
