/- What Check asks of rows: shaped, within; the reference's row. -/
import Derived.Test.YtbkfcfhkjnfbmaaHpBase
namespace Go.Proofs.Ytbkfcfhkjnfbmaa
open Go.RowKit
set_option linter.unusedVariables false

theorem upto_succ {p : Nat → Prop} {k : Nat} (h : ∀ i, i < k → p i) (hk : p k) : ∀ i, i < k + 1 → p i := fun i hi => by
  by_cases e : i = k
  · subst e; exact hk
  · exact h i (by omega)

set_option maxHeartbeats 1600000 in
set_option maxRecDepth 100000 in
theorem shapedH_any (R : List (List Int)) (P : Int) (a : Option Addr) (c : Nat) (w : World) (h : RowsAt w a R) (hm : R.length ≤ maxLen) :
    Calls Try.prog 11 #[.slice a R.length c, .int .i64 P] w (TellsB (ShapedH R P) w) := by
  unfold maxLen at hm
  have HR : Hid (RowsAt w a R) := h
  clear h
  go_enter Try.func11, Try.ntmps11
  go_wp2_with fail
  go_loopw [9] (fun v wr => ∃ k : Nat, v = .int .i64 k ∧ k ≤ R.length ∧ w.grownBy wr none ∧ ∀ i, i < k → ((R.getD i []).length : Int) = P) (fun v _ => R.length - (intOf v).toNat)
  case atStart => exact ⟨0, rfl, Nat.zero_le _, grown_refl _ _, fun j hj => by omega⟩
  case round =>
    obtain ⟨k, rfl, hk, hg, hl⟩ := hrel
    have G : Hid (w.grownBy wr none) := hg
    have HK : Hid (∀ i, i < k → ((R.getD i []).length : Int) = P) := hl
    clear hg hl
    by_cases hlt : k < R.length
    · obtain ⟨b, o, rfl, hc⟩ := (HR.out.grown G.out).at hlt
      obtain ⟨x, c', h1, _, _⟩ := hc k hlt
      have hk1 : (k : Int) < (R.length : Int) := by omega
      clear hc
      by_cases e : ((R.getD k []).length : Int) = P
      · have e1 : (((R.getD k []).length : Int) != P) = false := by simpa using e
        have HE : Hid (∀ i, i < k + 1 → ((R.getD i []).length : Int) = P) := upto_succ HK.out e
        clear e
        generalize (R.getD k []).length = n at *
        go_wp2_with fail
        go_roundw
        case rel => exact ⟨k + 1, by go_num, by omega, G.out, HE.out⟩
        case measure => simp [intOf]; omega
      · have e1 : (((R.getD k []).length : Int) != P) = true := by simpa using e
        have HE : Hid (¬ ShapedH R P) := fun h => e (h k hlt)
        clear e
        generalize (R.getD k []).length = n at *
        go_wp2_with fail
        go_ret
        exact tellsB false rfl ⟨(fun e => by cases e), fun e => absurd e HE.out⟩ G.out
    · have hk1 : ¬ (k : Int) < (R.length : Int) := by omega
      go_wp2_with fail
      go_ret
      exact tellsB true rfl ⟨fun _ i hi => HK.out i (by omega), fun _ => rfl⟩ G.out

set_option maxHeartbeats 3200000 in
set_option maxRecDepth 100000 in
theorem withinH_any (R : List (List Int)) (m : Int) (a : Option Addr) (c : Nat) (w : World) (h : RowsAt w a R) (hm : R.length ≤ maxLen) :
    Calls Try.prog 12 #[.slice a R.length c, .int .i64 m] w (TellsB (WithinH R m) w) := by
  unfold maxLen at hm
  have HR : Hid (RowsAt w a R) := h
  clear h
  go_enter Try.func12, Try.ntmps12
  go_wp2_with fail
  go_loopw [11] (fun v wr => ∃ k : Nat, v = .int .i64 k ∧ k ≤ R.length ∧ w.grownBy wr none ∧ ∀ i, i < k → OneW (R.getD i []) m) (fun v _ => R.length - (intOf v).toNat)
  case atStart => exact ⟨0, rfl, Nat.zero_le _, grown_refl _ _, fun j hj => by omega⟩
  case round =>
    obtain ⟨k, rfl, hk, hg, hl⟩ := hrel
    have G : Hid (w.grownBy wr none) := hg
    have HK : Hid (∀ i, i < k → OneW (R.getD i []) m) := hl
    clear hg hl
    by_cases hlt : k < R.length
    · obtain ⟨b, o, rfl, hc⟩ := (HR.out.grown G.out).at hlt
      obtain ⟨x, c', h1, hz, hzm⟩ := hc k hlt
      have hk1 : (k : Int) < (R.length : Int) := by omega
      clear hc
      obtain ⟨z, hzz⟩ : ∃ z, R.getD k [] = z := ⟨_, rfl⟩
      rw [hzz] at h1 hz hzm
      have HZ : Hid (Ints wr x z) := hz
      have HRk : Hid (R.getD k [] = z) := hzz
      unfold maxLen at hzm
      clear hz hzz
      rename World => wr
      go_wp2_with fail
      go_loopw [17] (fun v wi => ∃ j : Nat, v = .int .i64 j ∧ j ≤ z.length ∧ wr.grownBy wi none ∧ ∀ i, i < j → 0 ≤ z.getD i 0 ∧ z.getD i 0 ≤ m) (fun v _ => z.length - (intOf v).toNat)
      case atStart => exact ⟨0, rfl, Nat.zero_le _, grown_refl _ _, fun j hj => by omega⟩
      case round =>
        rename World => wi
        obtain ⟨j, rfl, hj, hg, hl⟩ := hrel
        have GI : Hid (wr.grownBy wi none) := hg
        have HJ : Hid (∀ i, i < j → 0 ≤ z.getD i 0 ∧ z.getD i 0 ≤ m) := hl
        clear hg hl
        by_cases hju : j < z.length
        · obtain ⟨bz, oz, rfl, hcz⟩ := (HZ.out.grown GI.out).at hju
          have h2 := hcz j hju
          have hj1 : (j : Int) < (z.length : Int) := by omega
          clear hcz
          by_cases e : 0 ≤ z.getD j 0 ∧ z.getD j 0 ≤ m
          · have e1 : decide (z.getD j 0 < 0) = false := decide_eq_false (by omega)
            have e2 : decide (m < z.getD j 0) = false := decide_eq_false (by omega)
            have e3 : decide (z.getD j 0 > m) = false := decide_eq_false (by omega)
            have HE : Hid (∀ i, i < j + 1 → 0 ≤ z.getD i 0 ∧ z.getD i 0 ≤ m) := upto_succ HJ.out e
            clear e
            generalize z.getD j 0 = u at *
            go_wp2_with fail
            go_roundw
            case rel => exact ⟨j + 1, by go_num, by omega, GI.out, HE.out⟩
            case measure => simp [intOf]; omega
          · have HE : Hid (¬ WithinH R m) := fun h => e (by have h4 := h k hlt; rw [HRk.out] at h4; exact h4 j hju)
            have GF : Hid (w.grownBy wi none) := grown_trans G.out GI.out
            by_cases f : z.getD j 0 < 0
            · have e1 : decide (z.getD j 0 < 0) = true := by simpa using f
              clear e f
              generalize z.getD j 0 = u at *
              go_wp2_with fail
              go_ret
              exact tellsB false rfl ⟨(fun e => by cases e), fun e => absurd e HE.out⟩ GF.out
            · have e1 : decide (z.getD j 0 < 0) = false := decide_eq_false (by omega)
              have e2 : decide (m < z.getD j 0) = true := decide_eq_true (by omega)
              have e3 : decide (z.getD j 0 > m) = true := decide_eq_true (by omega)
              clear e f
              generalize z.getD j 0 = u at *
              go_wp2_with fail
              go_ret
              exact tellsB false rfl ⟨(fun e => by cases e), fun e => absurd e HE.out⟩ GF.out
        · have hj1 : ¬ (j : Int) < (z.length : Int) := by omega
          have HE : Hid (∀ i, i < k + 1 → OneW (R.getD i []) m) := upto_succ HK.out (by rw [HRk.out]; exact fun i hi => HJ.out i (by omega))
          have GF : Hid (w.grownBy wi none) := grown_trans G.out GI.out
          go_wp2_with fail
          go_roundw
          case rel => exact ⟨k + 1, by go_num, by omega, GF.out, HE.out⟩
          case measure => simp [intOf]; omega
    · have hk1 : ¬ (k : Int) < (R.length : Int) := by omega
      go_wp2_with fail
      go_ret
      exact tellsB true rfl ⟨fun _ i hi => HK.out i (by omega), fun _ => rfl⟩ G.out

set_option maxHeartbeats 1600000 in
set_option maxRecDepth 100000 in
theorem rowR_any (z : List Int) (P m : Int) (a : Option Addr) (c : Nat) (w : World) (h : Ints w a z) (hm : z.length ≤ maxLen) :
    Calls Try.prog 13 #[.slice a z.length c, .int .i64 P, .int .i64 m] w (Says (.int .i64 (rowF z P m)) w) := by
  unfold maxLen at hm
  have HZ : Hid (Ints w a z) := h
  clear h
  by_cases e : (z.length : Int) = P
  · have e1 : ((z.length : Int) != P) = false := by simpa using e
    have HE : Hid ((z.length : Int) = P) := e
    clear e
    go_enter Try.func13, Try.ntmps13
    go_wp2_with fail
    go_loopw [7] (fun v wr => ∃ j : Nat, v = .int .i64 j ∧ j ≤ z.length ∧ w.grownBy wr none ∧ ∀ i, i < j → 0 ≤ z.getD i 0 ∧ z.getD i 0 ≤ m) (fun v _ => z.length - (intOf v).toNat)
    case atStart => exact ⟨0, rfl, Nat.zero_le _, grown_refl _ _, fun j hj => by omega⟩
    case round =>
      obtain ⟨j, rfl, hj, hg, hl⟩ := hrel
      have G : Hid (w.grownBy wr none) := hg
      have HJ : Hid (∀ i, i < j → 0 ≤ z.getD i 0 ∧ z.getD i 0 ≤ m) := hl
      clear hg hl
      by_cases hju : j < z.length
      · obtain ⟨bz, oz, rfl, hcz⟩ := (HZ.out.grown G.out).at hju
        have h2 := hcz j hju
        have hj1 : (j : Int) < (z.length : Int) := by omega
        clear hcz
        by_cases f : z.getD j 0 < 0
        · have f1 : decide (z.getD j 0 < 0) = true := by simpa using f
          have HB : Hid (rowF z P m = 2) := rowF_bad HE.out (fun h => by have := h j hju; omega)
          clear f
          generalize z.getD j 0 = u at *
          go_wp2_with fail
          go_ret
          exact ⟨ret_int HB.out.symm, G.out⟩
        · have f1 : decide (z.getD j 0 < 0) = false := by simpa using f
          by_cases g : z.getD j 0 ≤ m
          · have e3 : decide (z.getD j 0 > m) = false := decide_eq_false (by omega)
            have HF : Hid (∀ i, i < j + 1 → 0 ≤ z.getD i 0 ∧ z.getD i 0 ≤ m) := upto_succ HJ.out ⟨by omega, g⟩
            clear f g
            generalize z.getD j 0 = u at *
            go_wp2_with fail
            go_roundw
            case rel => exact ⟨j + 1, by go_num, by omega, G.out, HF.out⟩
            case measure => simp [intOf]; omega
          · have e3 : decide (z.getD j 0 > m) = true := decide_eq_true (by omega)
            have HB : Hid (rowF z P m = 2) := rowF_bad HE.out (fun h => by have := h j hju; omega)
            clear f g
            generalize z.getD j 0 = u at *
            go_wp2_with fail
            go_ret
            exact ⟨ret_int HB.out.symm, G.out⟩
      · have hj1 : ¬ (j : Int) < (z.length : Int) := by omega
        have HB : Hid (rowF z P m = 0) := rowF_ok HE.out (fun i hi => HJ.out i (by omega))
        go_wp2_with fail
        go_ret
        exact ⟨ret_int HB.out.symm, G.out⟩
  · have e1 : ((z.length : Int) != P) = true := by simpa using e
    have HB : Hid (rowF z P m = 3) := rowF_shape e
    clear e
    go_enter Try.func13, Try.ntmps13
    go_wp2_with fail
    go_ret
    exact ⟨ret_int HB.out.symm, grown_refl _ _⟩

end Go.Proofs.Ytbkfcfhkjnfbmaa
