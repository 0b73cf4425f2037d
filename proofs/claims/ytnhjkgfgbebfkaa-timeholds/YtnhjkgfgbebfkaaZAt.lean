/- The reference's At and After. -/
import Derived.Test.YtnhjkgfgbebfkaaXSem
import Derived.Test.YtnhjkgfgbebfkaaULasV
import Derived.Test.YtnhjkgfgbebfkaaSay
namespace Go.Proofs.Ytnhjkgfgbebfkaa
open Go.RowKit Go.Shelf
set_option linter.unusedVariables false
set_option linter.unusedSimpArgs false

set_option maxHeartbeats 1600000 in
theorem afterR_any (hl ll ch cl i : Nat) (ah al : Option Addr) (w : World) (h1 : hl ≤ 60) (h2 : ll ≤ 60) (h3 : 0 < ll) (hi : i < hl + ll) :
    Calls Try.prog 33 #[lasV ah hl ch al ll cl, .int .i64 (i : Int)] w (Says (.int .i64 ((aft (hl + ll) hl i : Nat) : Int)) w) := by
  have G : Hid (∀ o, w.grownBy (w.alloc o) none) := fun o => grown_alloc _ _
  by_cases h : i + 1 = hl + ll
  · have q1 : ((i : Int) + 1 == (hl : Int) + (ll : Int)) = true := by simp; omega
    have E : Hid (aft (hl + ll) hl i = hl) := by show aft _ _ _ = _; unfold aft; rw [if_neg (by omega)]
    go_enter Try.func33, Try.ntmps33
    go_wp2_with fail
    go_ret
    exact ⟨ret_int (by rw [E.out]), G.out _⟩
  · have q1 : ((i : Int) + 1 == (hl : Int) + (ll : Int)) = false := by simp; omega
    have E : Hid (aft (hl + ll) hl i = i + 1) := by show aft _ _ _ = _; unfold aft; rw [if_pos (by omega)]
    go_enter Try.func33, Try.ntmps33
    go_wp2_with fail
    go_ret
    exact ⟨ret_int (by rw [E.out]; simp), G.out _⟩

set_option maxHeartbeats 1600000 in
set_option maxRecDepth 100000 in
theorem atR_any (us vs : List Int) (ch cl i : Nat) (ah al : Option Addr) (w : World) (hu : Ints w ah us) (hv : Ints w al vs) (h1 : us.length ≤ 60) (h2 : vs.length ≤ 60) (hi : i < us.length + vs.length) :
    Calls Try.prog 32 #[lasV ah us.length ch al vs.length cl, .int .i64 (i : Int)] w (Says (.int .i64 ((us ++ vs).getD i 0)) w) := by
  have G : Hid (∀ o, w.grownBy (w.alloc o) none) := fun o => grown_alloc _ _
  have q0 : (0 : Int) ≤ (i : Int) := by omega
  by_cases h : i < us.length
  · have q1 : (i : Int) < (us.length : Int) := by omega
    obtain ⟨b, off, rfl, hc⟩ := hu.at h
    have hE : (us ++ vs).getD i 0 = us.getD i 0 := by simp [List.getD, List.getElem?_append_left h]
    have C : ∀ o, (w.alloc o).cell? ⟨b, off + i, none⟩ = some (.int .i64 (us.getD i 0)) := fun o => (G.out o).cell (hc i h) (by simp)
    rw [hE]
    generalize us.getD i 0 = x at *
    clear hu hv hE hc
    go_enter Try.func32, Try.ntmps32
    go_wp2_with fail
    go_ret
    exact ⟨rfl, G.out _⟩
  · have q1 : ¬ (i : Int) < (us.length : Int) := by omega
    obtain ⟨b, off, rfl, hc⟩ := hv.at (k := i - us.length) (by omega)
    have hE : (us ++ vs).getD i 0 = vs.getD (i - us.length) 0 := by simp [List.getD, List.getElem?_append_right (by omega : us.length ≤ i)]
    obtain ⟨j, hj⟩ : ∃ j, i - us.length = j := ⟨_, rfl⟩
    have hjl : j < vs.length := by omega
    have q2 : (i : Int) - (us.length : Int) = (j : Int) := by omega
    have q3 : (vs.length : Int) ≠ 0 := by omega
    have q4 : Int.tmod (j : Int) (vs.length : Int) = (j : Int) := by rw [Int.tmod_eq_of_lt (by omega) (by omega)]
    have q5 : (j : Int) < (vs.length : Int) := by omega
    have q6 : (0 : Int) ≤ (j : Int) := by omega
    rw [hj] at hE
    have C : ∀ o, (w.alloc o).cell? ⟨b, off + j, none⟩ = some (.int .i64 (vs.getD j 0)) := fun o => (G.out o).cell (hc j hjl) (by simp)
    rw [hE]
    generalize vs.getD j 0 = x at *
    clear hu hv hE hc hj
    go_enter Try.func32, Try.ntmps32
    go_wp2_with fail
    go_quiet (fail)
    go_wp2_with fail
    go_ret
    exact ⟨rfl, grown_trans (G.out _) (grown_drewN (grown_refl _ _) _)⟩

end Go.Proofs.Ytnhjkgfgbebfkaa
