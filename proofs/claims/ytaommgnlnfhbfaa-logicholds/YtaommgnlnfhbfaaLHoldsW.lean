/- The walk of the law LogicHolds, case by case. -/
import Derived.Test.YtaommgnlnfhbfaaLHolds
import Derived.Test.YtaommgnlnfhbfaaVQuant
import Derived.Test.YtaommgnlnfhbfaaJParse
namespace Go.Proofs.Ytaommgnlnfhbfaa
open Go.RowKit
set_option linter.unusedVariables false
set_option linter.unusedSimpArgs false

set_option maxHeartbeats 1600000 in
set_option maxRecDepth 100000 in
/-- It is no formula. -/
theorem lholds_A (s : ByteArray) (aw : Option Addr) (n cw : Nat) (w : World) (c : Int) (a : Nat) (hc : c ≠ 0)
    (HP : Hid (∀ W, w.grownBy W none → Calls Try.prog 7 #[.string s, .slice aw n cw] W (SaysL (.tuple #[.bool false, .int .i64 4]) W)))
    (HJ : Hid (∀ W, w.grownBy W none → Calls Try.prog 6 #[.string s] W fun e w' => ∃ v, e = .returned (.tuple #[v, .agg #[.int .i64 c, .int .i64 (a : Int)]]) ∧ W.grownBy w' none)) :
    Calls Try.prog 4 #[.string s, .slice aw n cw] w (SaysL (.bool true) w) := by
  have f1 : (c != 0) = true := by simpa using hc
  have f2 : (c == 0) = false := by simpa using hc
  go_enter Try.func4, Try.ntmps4
  go_wp2_with fail
  refine (HP.out _ (grown_refl _ _)).mono ?_
  rintro e w2 ⟨rfl, hg2⟩
  have G2 : Hid (w.grownBy w2 none) := hg2
  clear hg2
  go_wp2_with fail
  refine (HJ.out _ G2.out).mono ?_
  rintro e w3 ⟨v, rfl, hg3⟩
  have G3 : Hid (∀ o, w.grownBy (w3.alloc o) none) := fun o => grown_trans G2.out (grown_trans hg3 (grown_alloc _ _))
  clear hg3
  go_wp2_with fail
  go_ret
  exact ⟨rfl, G3.out _⟩

set_option maxHeartbeats 1600000 in
set_option maxRecDepth 100000 in
/-- The word is too long. -/
theorem lholds_B (s : ByteArray) (aw : Option Addr) (n cw : Nat) (w : World) (a : Nat) (hn : 6 < n)
    (HP : Hid (∀ W, w.grownBy W none → Calls Try.prog 7 #[.string s, .slice aw n cw] W (SaysL (.tuple #[.bool false, .int .i64 1]) W)))
    (HJ : Hid (∀ W, w.grownBy W none → Calls Try.prog 6 #[.string s] W fun e w' => ∃ v, e = .returned (.tuple #[v, .agg #[.int .i64 0, .int .i64 (a : Int)]]) ∧ W.grownBy w' none)) :
    Calls Try.prog 4 #[.string s, .slice aw n cw] w (SaysL (.bool true) w) := by
  have hn' : (6 : Int) < (n : Int) := by omega
  go_enter Try.func4, Try.ntmps4
  go_wp2_with fail
  refine (HP.out _ (grown_refl _ _)).mono ?_
  rintro e w2 ⟨rfl, hg2⟩
  have G2 : Hid (w.grownBy w2 none) := hg2
  clear hg2
  go_wp2_with fail
  refine (HJ.out _ G2.out).mono ?_
  rintro e w3 ⟨v, rfl, hg3⟩
  have G3 : Hid (∀ o, w.grownBy (w3.alloc o) none) := fun o => grown_trans G2.out (grown_trans hg3 (grown_alloc _ _))
  clear hg3
  go_wp2_with fail
  go_ret
  exact ⟨rfl, G3.out _⟩

set_option maxHeartbeats 1600000 in
set_option maxRecDepth 100000 in
/-- The word may not be. -/
theorem lholds_C (s : ByteArray) (aw : Option Addr) (n cw : Nat) (w : World) (a : Nat) (y : Int) (hy : y ≠ 0) (hn : ¬ 6 < n)
    (HP : Hid (∀ W, w.grownBy W none → Calls Try.prog 7 #[.string s, .slice aw n cw] W (SaysL (.tuple #[.bool false, .int .i64 y]) W)))
    (HJ : Hid (∀ W, w.grownBy W none → Calls Try.prog 6 #[.string s] W fun e w' => ∃ v, e = .returned (.tuple #[v, .agg #[.int .i64 0, .int .i64 (a : Int)]]) ∧ W.grownBy w' none))
    (HM : Hid (∀ W, w.grownBy W none → Calls Try.prog 8 #[.int .i64 2, .slice aw n cw] W fun e w' => e = .returned (.int .i64 y) ∧ w' = W)) :
    Calls Try.prog 4 #[.string s, .slice aw n cw] w (SaysL (.bool true) w) := by
  have hn' : ¬ (6 : Int) < (n : Int) := by omega
  have f1 : (y != 0) = true := by simpa using hy
  have f2 : (y == 0) = false := by simpa using hy
  have f3 : (y == y) = true := by simp
  go_enter Try.func4, Try.ntmps4
  go_wp2_with fail
  refine (HP.out _ (grown_refl _ _)).mono ?_
  rintro e w2 ⟨rfl, hg2⟩
  have G2 : Hid (w.grownBy w2 none) := hg2
  clear hg2
  go_wp2_with fail
  refine (HJ.out _ G2.out).mono ?_
  rintro e w3 ⟨v, rfl, hg3⟩
  have G3 : Hid (∀ o, w.grownBy (w3.alloc o) none) := fun o => grown_trans G2.out (grown_trans hg3 (grown_alloc _ _))
  clear hg3
  go_wp2_with fail
  refine (HM.out _ (G3.out _)).mono ?_
  rintro e w4 ⟨rfl, rfl⟩
  go_wp2_with fail
  go_ret
  exact ⟨rfl, G3.out _⟩

set_option maxHeartbeats 1600000 in
set_option maxRecDepth 100000 in
/-- Both answer. -/
theorem lholds_D (s : ByteArray) (aw : Option Addr) (n cw : Nat) (w : World) (b : Bool) (hn : ¬ 6 < n) (Z : World → Nat → Nat → Nat → Nat → Prop)
    (HP : Hid (∀ W, w.grownBy W none → Calls Try.prog 7 #[.string s, .slice aw n cw] W (SaysL (.tuple #[.bool b, .int .i64 0]) W)))
    (HJ : Hid (∀ W, w.grownBy W none → Calls Try.prog 6 #[.string s] W fun e w' => ∃ g k c j, e = .returned (.tuple #[.slice (some ⟨g, 0, none⟩) k c, .agg #[.int .i64 0, .int .i64 0]]) ∧ W.grownBy w' none ∧ k = j + 1 ∧ k ≤ 31 ∧ Z w' g k c j))
    (HZ : Hid (∀ W W' g k c j, Z W g k c j → W.grownBy W' none → Z W' g k c j))
    (HM : Hid (∀ W, w.grownBy W none → Calls Try.prog 8 #[.int .i64 2, .slice aw n cw] W fun e w' => e = .returned (.int .i64 0) ∧ w' = W))
    (HH : Hid (∀ W g k c j, w.grownBy W none → Z W g k c j → Calls Try.prog 9 #[.slice (some ⟨g, 0, none⟩) k c, .int .i64 (j : Int), .slice aw n cw, .slice none 0 0] W fun e w' => e = .returned (.bool b) ∧ W.grownBy w' none)) :
    Calls Try.prog 4 #[.string s, .slice aw n cw] w (SaysL (.bool true) w) := by
  have hn' : ¬ (6 : Int) < (n : Int) := by omega
  go_enter Try.func4, Try.ntmps4
  go_wp2_with fail
  refine (HP.out _ (grown_refl _ _)).mono ?_
  rintro e w2 ⟨rfl, hg2⟩
  have G2 : Hid (w.grownBy w2 none) := hg2
  clear hg2
  go_wp2_with fail
  refine (HJ.out _ G2.out).mono ?_
  rintro e w3 ⟨g, k, c, j, rfl, hg3, hk, hk31, hz⟩
  have G3 : Hid (∀ o, w.grownBy (w3.alloc o) none) := fun o => grown_trans G2.out (grown_trans hg3 (grown_alloc _ _))
  have Z3 : Hid (∀ o, Z (w3.alloc o) g k c j) := fun o => HZ.out _ _ _ _ _ _ hz (grown_alloc _ _)
  have hkj : (k : Int) - 1 = (j : Int) := by omega
  clear hg3 hz hk
  go_wp2_with fail
  refine (HM.out _ (G3.out _)).mono ?_
  rintro e w4 ⟨rfl, rfl⟩
  go_wp2_with fail
  refine (HH.out _ _ _ _ _ (G3.out _) (Z3.out _)).mono ?_
  rintro e w5 ⟨rfl, hg5⟩
  have G5 : Hid (w.grownBy w5 none) := grown_trans (G3.out _) hg5
  clear hg5
  cases b
  all_goals
    go_wp2_with fail
    go_ret
    exact ⟨rfl, G5.out⟩

end Go.Proofs.Ytaommgnlnfhbfaa
