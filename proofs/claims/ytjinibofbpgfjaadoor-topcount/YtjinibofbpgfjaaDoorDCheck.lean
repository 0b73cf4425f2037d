/- What is wrong with an automaton: the program's Check (det.Fits with 3000 states and marks up to 1) answers checkF. -/
import Derived.Test.YtjinibofbpgfjaaDoorFCheck
namespace Go.Proofs.YtjinibofbpgfjaaDoor
open Go.RowKit
set_option linter.unusedVariables false

theorem check_leads {L S : Int} {R : List (List Int)} {M : List Int} (h1 : ¬ (L < 1 ∨ 4 < L)) (h2 : ¬ (R.length < 1 ∨ 3000 < R.length)) (h3 : Shaped L R M) (h4 : Leads S R) (h5 : ∀ i, i < M.length → M.getD i 0 = 0 ∨ M.getD i 0 = 1) : Good ⟨L, S, R, M⟩ :=
  ⟨by show 1 ≤ L; omega, by show L ≤ 4; omega, by show 1 ≤ R.length; omega, by show R.length ≤ 3000; omega, h3.1, h3.2, h4.1, h4.2, h5⟩
theorem good_iffN (d : Dfa) : GoodN 3000 1 d ↔ Good d :=
  ⟨fun h => ⟨h.l1, h.l4, h.n1, h.n3, h.ml, h.rl, h.r, h.s, fun i hi => by have := h.m i hi; omega⟩, fun h => ⟨h.l1, h.l4, h.n1, h.n3, h.ml, h.rl, h.r, h.s, fun i hi => by have := h.m i hi; omega⟩⟩
theorem check_eqN (d : Dfa) : checkN 3000 1 d = checkF d := by
  have h : goodNB 3000 1 d = goodB d := by
    rw [Bool.eq_iff_iff, goodNB_iff, goodB_iff]
    exact good_iffN d
  unfold checkN checkF
  rw [h]

set_option maxHeartbeats 1600000 in
theorem check_any (L S : Int) (R : List (List Int)) (M : List Int) (a a' : Option Addr) (c c' : Nat) (w : World) (h : DetAt w ⟨L, S, R, M⟩ a a') :
    Calls Tryd.prog 22 #[.agg #[.int .i64 L, .int .i64 S, .slice a R.length c, .slice a' M.length c']] w fun e w' => e = .returned (.int .i64 (checkF ⟨L, S, R, M⟩)) ∧ w.grownBy w' none := by
  have HF : Hid (∀ o, Calls Tryd.prog 37 #[.agg #[.int .i64 L, .int .i64 S, .slice a R.length c, .slice a' M.length c'], .int .i64 3000, .int .i64 1] (w.alloc o) fun e w' => e = .returned (.int .i64 (checkF ⟨L, S, R, M⟩)) ∧ w.grownBy w' none) := fun o => by
    have h1 := fits_any 3000 1 L S R M a a' c c' (w.alloc o) (h.grown (grown_alloc _ _))
    rw [check_eqN] at h1
    exact h1.mono fun e w' h2 => ⟨h2.1, grown_trans (grown_alloc _ _) h2.2⟩
  generalize checkF ⟨L, S, R, M⟩ = x at *
  clear h
  go_enter Tryd.func22, Tryd.ntmps22
  go_wp2_with fail
  refine (HF.out _).mono ?_
  rintro e w2 ⟨rfl, hg⟩
  have G : Hid (w.grownBy w2 none) := hg
  clear hg
  go_wp2_with fail
  go_ret
  exact ⟨rfl, G.out⟩

end Go.Proofs.YtjinibofbpgfjaaDoor
