/- Whether rules rise: the program's Rise. -/
import Derived.Test.YtnlkdihfoekjmaaTrCmp
namespace Go.Proofs.Ytnlkdihfoekjmaa
open Go.RowKit
set_option linter.unusedVariables false

theorem riseR_step {R : List RuleI} {k : Nat} (hk : 1 ≤ k) (hg : ∀ j, j + 1 < k → LexR (R.getD j ru0) (R.getD (j + 1) ru0)) (h : LexR (R.getD (k - 1) ru0) (R.getD k ru0)) : ∀ j, j + 1 < k + 1 → LexR (R.getD j ru0) (R.getD (j + 1) ru0) := by
  intro j hj
  by_cases e : j + 1 = k
  · have : j = k - 1 := by omega
    subst this
    rw [show k - 1 + 1 = k by omega]; exact h
  · exact hg j (by omega)

set_option maxHeartbeats 1600000 in
set_option maxRecDepth 100000 in
theorem riseT_any (R : List RuleI) (a : Option Addr) (c : Nat) (w : World) (h : RulesAt w a R) (hm : R.length ≤ maxLen) :
    Calls Try.prog 18 #[.slice a R.length c] w (TellsB (RiseR R) w) := by
  unfold maxLen at hm
  have HZ : Hid (RulesAt w a R) := h
  have HC : Hid (∀ x y W, Calls Try.prog 27 #[ruleV x, ruleV y] W (Says (.int .i64 (ordF x y)) W)) := fun x y W => orderT_any x y W
  clear h
  go_enter Try.func18, Try.ntmps18
  go_wp2_with fail
  go_loopw [3] (fun v wr => ∃ k : Nat, 1 ≤ k ∧ (k ≤ R.length ∨ k = 1) ∧ v = .int .i64 k ∧ w.grownBy wr none ∧ ∀ j, j + 1 < k → LexR (R.getD j ru0) (R.getD (j + 1) ru0)) (fun v _ => R.length - (intOf v).toNat)
  case atStart => exact ⟨1, by omega, .inr rfl, rfl, grown_refl _ _, fun j hj => by omega⟩
  case round =>
    obtain ⟨k, hk1, hk, rfl, hgw, hg⟩ := hrel
    have HJ : Hid (∀ j, j + 1 < k → LexR (R.getD j ru0) (R.getD (j + 1) ru0)) := hg
    have G : Hid (w.grownBy wr none) := hgw
    clear hg
    by_cases hlt : k < R.length
    · obtain ⟨b, off, rfl, hc⟩ := (HZ.out.grown hgw).at hlt
      obtain ⟨p, hp⟩ : ∃ p, k - 1 = p := ⟨_, rfl⟩
      have HP : Hid (k - 1 = p) := hp
      obtain ⟨y0, y1, y2, y3⟩ := hc k hlt
      obtain ⟨x0, x1, x2, x3⟩ := hc p (by omega)
      have hwp : IntKind.i64.wrap ((k : Int) - 1) = (p : Int) := by rw [IntKind.wrap_i64]; omega
      have hpl : p < R.length := by omega
      have hki : (k : Int) < (R.length : Int) := by omega
      obtain ⟨z, hz⟩ : ∃ z, ordF (R.getD p ru0) (R.getD k ru0) = z := ⟨_, rfl⟩
      have HCx : Hid (∀ W, Calls Try.prog 27 #[ruleV (R.getD p ru0), ruleV (R.getD k ru0)] W (Says (.int .i64 z) W)) := fun W => hz ▸ HC.out _ _ W
      have HGE : Hid (0 ≤ z ↔ ¬ LexR (R.getD p ru0) (R.getD k ru0)) := hz ▸ ordF_ge _ _
      clear hz hc hgw HC hp
      have HJ2 : Hid (LexR (R.getD p ru0) (R.getD k ru0) → ∀ j, j + 1 < k + 1 → LexR (R.getD j ru0) (R.getD (j + 1) ru0)) := fun hx => riseR_step hk1 HJ.out (by rw [HP.out]; exact hx)
      have HN2 : Hid (¬ LexR (R.getD p ru0) (R.getD k ru0) → ¬ RiseR R) := fun hx e => hx (by have := e (k - 1) (by omega); rw [show k - 1 + 1 = k by omega, HP.out] at this; exact this)
      generalize R.getD p ru0 = x at *
      generalize R.getD k ru0 = y at *
      obtain ⟨xa, xb, xc, xd⟩ := x
      obtain ⟨ya, yb, yc, yd⟩ := y
      simp only [ruleV] at HCx x0 x1 x2 x3 y0 y1 y2 y3
      by_cases g1 : z ≥ 0
      · go_wp2_with fail
        go_region_with (go_at_call 27; refine (HCx.out _).mono ?_; rintro e w3 ⟨rfl, hg3⟩; have G3 : Hid (w.grownBy w3 none) := grown_trans (by first | exact G.out | exact grown_drewN G.out _ | exact grown_drew G.out) hg3)
        all_goals
          go_wp2_with fail
          go_ret
          exact tellsB false rfl ⟨(fun e => by cases e), fun e => absurd e (HN2.out (HGE.out.1 g1))⟩ G3.out
      · go_wp2_with fail
        go_region_with (go_at_call 27; refine (HCx.out _).mono ?_; rintro e w3 ⟨rfl, hg3⟩; have G3 : Hid (w.grownBy w3 none) := grown_trans (by first | exact G.out | exact grown_drewN G.out _ | exact grown_drew G.out) hg3)
        all_goals
          go_wp2_with fail
          go_roundw
          case rel =>
            refine ⟨k + 1, by omega, .inl (by omega), by go_num, G3.out, HJ2.out ?_⟩
            exact Classical.byContradiction fun h1 => by have := HGE.out.2 h1; omega
          case measure => simp [intOf]; omega
    · have hki : ¬ (k : Int) < (R.length : Int) := by omega
      go_wp2_with fail
      go_ret
      exact tellsB true rfl ⟨fun _ => fun i hi => HJ.out i (by omega), fun _ => rfl⟩ G.out

end Go.Proofs.Ytnlkdihfoekjmaa
