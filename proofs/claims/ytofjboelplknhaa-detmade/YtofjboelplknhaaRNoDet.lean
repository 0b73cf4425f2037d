/- Nothing that an automaton could be. -/
import Derived.Test.YtofjboelplknhaaRWords
namespace Go.Proofs.Ytofjboelplknhaa
open Go.RowKit
set_option linter.unusedVariables false

def NoD (L S : Int) (n k : Nat) : Prop := L = 0 ∧ S = 0 ∧ n + k = 0

set_option maxHeartbeats 1600000 in
theorem noDet_any (L S : Int) (n k : Nat) (a a' : Option Addr) (c c' : Nat) (w : World) (hn : n ≤ 4611686018427387903) (hk : k ≤ 4611686018427387903) :
    Calls Try.prog 14 #[.agg #[.int .i64 L, .int .i64 S, .slice a n c, .slice a' k c']] w (TellsB (NoD L S n k) w) := by
  have HG : Hid (∀ o, w.grownBy (w.alloc o) none) := fun o => grown_alloc w o
  by_cases h1 : L = 0
  · by_cases h2 : S = 0
    · by_cases h3 : n + k = 0
      · have h3' : (((n : Int) + (k : Int)) == 0) = true := by simp; omega
        subst h1 h2
        go_enter Try.func14, Try.ntmps14
        go_wp2_with fail
        go_ret
        exact tellsB true rfl ⟨fun _ => ⟨rfl, rfl, h3⟩, fun _ => rfl⟩ (HG.out _)
      · have h3' : (((n : Int) + (k : Int)) == 0) = false := by simp; omega
        subst h1 h2
        go_enter Try.func14, Try.ntmps14
        go_wp2_with fail
        go_ret
        exact tellsB false rfl ⟨(fun e => by cases e), fun e => absurd e.2.2 h3⟩ (HG.out _)
    · have h2' : (S == 0) = false := by simpa using h2
      subst h1
      go_enter Try.func14, Try.ntmps14
      go_wp2_with fail
      go_ret
      exact tellsB false rfl ⟨(fun e => by cases e), fun e => absurd e.2.1 h2⟩ (HG.out _)
  · have h1' : (L == 0) = false := by simpa using h1
    go_enter Try.func14, Try.ntmps14
    go_wp2_with fail
    go_ret
    exact tellsB false rfl ⟨(fun e => by cases e), fun e => absurd e.1 h1⟩ (HG.out _)

end Go.Proofs.Ytofjboelplknhaa
