/- Names: the numbers of errors, their words and the limits are the document's; for every start of the program, with no condition. -/
import Derived.Test.YthccdfjmkdcehaaWords
import Derived.ProofKit
import Derived.OpenShut
import Derived.ShutString
import Derived.ChangeOld
import Derived.Below
namespace Go.Proofs.Ythccdfjmkdcehaa
open Go.RowKit
set_option linter.unusedVariables false

theorem words_lit {w : World} {a a' : Option Addr} {n c c' : Nat} {xs : List Int} (hx : Ints w a xs) (hy : Ints w a' xs) (hn : xs.length = n) (hm : n ≤ 60) :
    Calls Try.prog 8 #[.slice a n c, .slice a' n c'] w fun e w' => e = .returned (.bool true) ∧ ∃ m, w' = w.drewN m := by
  subst hn
  have := words_any a a' c c' xs xs w hx hy (by unfold maxLen; omega) (by unfold maxLen; omega)
  simpa using this

set_option maxHeartbeats 4000000 in
theorem names_walk (w : World) :
    Calls Try.prog 3 #[] w fun e w' => e = .returned (.bool true) ∧ Below w.heap.size w w' := by
  go_enter Try.func3, Try.ntmps3
  go_wp2
  refine wp_loop_rounds 9 ?_
  iterate 8 (rw [rounds_succ]; go_wp2)
  rw [rounds_succ]
  go_wp2_with fail
  refine (words_lit (xs := [4, 60, 4000, 40, 10, 3000, 3200, 300, 40000, 4, 8, 20000]) ?_ ?_ rfl (by decide)).mono ?_
  · refine .inr ⟨_, _, rfl, fun i hi => ?_⟩
    have hi' : i < 12 := hi
    rcases (by omega : i = 0 ∨ i = 1 ∨ i = 2 ∨ i = 3 ∨ i = 4 ∨ i = 5 ∨ i = 6 ∨ i = 7 ∨ i = 8 ∨ i = 9 ∨ i = 10 ∨ i = 11) with rfl | rfl | rfl | rfl | rfl | rfl | rfl | rfl | rfl | rfl | rfl | rfl <;> go_simp
  · refine .inr ⟨_, _, rfl, fun i hi => ?_⟩
    have hi' : i < 12 := hi
    rcases (by omega : i = 0 ∨ i = 1 ∨ i = 2 ∨ i = 3 ∨ i = 4 ∨ i = 5 ∨ i = 6 ∨ i = 7 ∨ i = 8 ∨ i = 9 ∨ i = 10 ∨ i = 11) with rfl | rfl | rfl | rfl | rfl | rfl | rfl | rfl | rfl | rfl | rfl | rfl <;> go_simp
  rintro e w1 ⟨rfl, m1, rfl⟩
  go_wp2_with fail
  refine (words_lit (xs := [30, 3, 5, 16, 60, 9, 60, 6, 60, 3, 20]) ?_ ?_ rfl (by decide)).mono ?_
  · refine .inr ⟨_, _, rfl, fun i hi => ?_⟩
    have hi' : i < 11 := hi
    rcases (by omega : i = 0 ∨ i = 1 ∨ i = 2 ∨ i = 3 ∨ i = 4 ∨ i = 5 ∨ i = 6 ∨ i = 7 ∨ i = 8 ∨ i = 9 ∨ i = 10) with rfl | rfl | rfl | rfl | rfl | rfl | rfl | rfl | rfl | rfl | rfl <;> go_simp
  · refine .inr ⟨_, _, rfl, fun i hi => ?_⟩
    have hi' : i < 11 := hi
    rcases (by omega : i = 0 ∨ i = 1 ∨ i = 2 ∨ i = 3 ∨ i = 4 ∨ i = 5 ∨ i = 6 ∨ i = 7 ∨ i = 8 ∨ i = 9 ∨ i = 10) with rfl | rfl | rfl | rfl | rfl | rfl | rfl | rfl | rfl | rfl | rfl <;> go_simp
  rintro e w1 ⟨rfl, m2, rfl⟩
  go_wp2_with fail
  refine (words_lit (xs := [6, 8, 6, 20, 8, 9, 4, 12, 60, 3000]) ?_ ?_ rfl (by decide)).mono ?_
  · refine .inr ⟨_, _, rfl, fun i hi => ?_⟩
    have hi' : i < 10 := hi
    rcases (by omega : i = 0 ∨ i = 1 ∨ i = 2 ∨ i = 3 ∨ i = 4 ∨ i = 5 ∨ i = 6 ∨ i = 7 ∨ i = 8 ∨ i = 9) with rfl | rfl | rfl | rfl | rfl | rfl | rfl | rfl | rfl | rfl <;> go_simp
  · refine .inr ⟨_, _, rfl, fun i hi => ?_⟩
    have hi' : i < 10 := hi
    rcases (by omega : i = 0 ∨ i = 1 ∨ i = 2 ∨ i = 3 ∨ i = 4 ∨ i = 5 ∨ i = 6 ∨ i = 7 ∨ i = 8 ∨ i = 9) with rfl | rfl | rfl | rfl | rfl | rfl | rfl | rfl | rfl | rfl <;> go_simp
  rintro e w1 ⟨rfl, m3, rfl⟩
  go_wp2
  go_ret
  exact ⟨rfl, below_drewN ((((((((Below.refl _ _).alloc (by simp) _).alloc (by first | (simp; done) | (simp; omega)) _).alloc (by first | (simp; done) | (simp; omega)) _).alloc (by first | (simp; done) | (simp; omega)) _).alloc (by first | (simp; done) | (simp; omega)) _).alloc (by first | (simp; done) | (simp; omega)) _).alloc (by first | (simp; done) | (simp; omega)) _ |>.alloc (by first | (simp; done) | (simp; omega)) _) _⟩

end Go.Proofs.Ythccdfjmkdcehaa
