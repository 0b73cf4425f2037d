/- Whether a word may be. -/
/- Whether a word may be: the reference's function answers mayF, too. -/
import Derived.Test.YtaangdomdeklhaaGrow
namespace Go.Proofs.Ytaangdomdeklhaa
open Go.RowKit
set_option linter.unusedVariables false

/-- What a function on words answers of one: 0, 1 (too long), 2 (a letter, or how many there are). -/
def mayF (n : Int) (zs : List Int) : Int :=
  if n < 1 ∨ 4 < n then 2 else if 60 < zs.length then 1 else if zs.all (fun x => decide (0 ≤ x) && decide (x < n)) then 0 else 2

theorem mayF_bad {n : Int} {zs : List Int} {k : Nat} (h1 : 1 ≤ n) (h2 : n ≤ 4) (h3 : zs.length ≤ 60) (hk : k < zs.length) (h : zs.getD k 0 < 0 ∨ n ≤ zs.getD k 0) : mayF n zs = 2 := by
  unfold mayF
  rw [if_neg (by omega), if_neg (by omega), if_neg]
  intro ha
  have := List.all_eq_true.1 ha (zs.getD k 0) (by rw [getD_lt hk]; exact List.getElem_mem hk)
  simp at this
  simp at h
  omega

theorem mayF_good {n : Int} {zs : List Int} (h1 : 1 ≤ n) (h2 : n ≤ 4) (h3 : zs.length ≤ 60) (h : ∀ k, k < zs.length → 0 ≤ zs.getD k 0 ∧ zs.getD k 0 < n) : mayF n zs = 0 := by
  unfold mayF
  rw [if_neg (by omega), if_neg (by omega), if_pos]
  refine List.all_eq_true.2 fun x hx => ?_
  obtain ⟨k, hk, rfl⟩ := List.getElem_of_mem hx
  have := h k hk
  rw [getD_lt hk] at this
  simp [this]

end Go.Proofs.Ytaangdomdeklhaa

namespace Go.Proofs.Ytaangdomdeklhaa
open Go.RowKit
set_option linter.unusedVariables false

set_option maxHeartbeats 400000 in
theorem mayR_any (n : Int) (a : Option Addr) (c : Nat) (zs : List Int) (w : World) (h : Ints w a zs) (hm : zs.length ≤ maxLen) :
    Calls Try.prog 12 #[.int .i64 n, .slice a zs.length c] w fun e w' => e = .returned (.int .i64 (mayF n zs)) ∧ w' = w := by
  unfold maxLen at hm
  by_cases h1 : n < 1
  · have hd : decide (n < 1) = true := by simpa using h1
    go_enter Try.func12, Try.ntmps12
    go_wp2
    go_ret
    exact ⟨ret_int (by unfold mayF; rw [if_pos (by omega)]), rfl⟩
  · by_cases h2 : 4 < n
    · have hd : decide (n < 1) = false := by simpa using h1
      go_enter Try.func12, Try.ntmps12
      go_wp2
      go_ret
      exact ⟨ret_int (by unfold mayF; rw [if_pos (by omega)]), rfl⟩
    · by_cases h3 : 60 < zs.length
      · have h3' : (60 : Int) < (zs.length : Int) := by omega
        go_enter Try.func12, Try.ntmps12
        go_wp2
        go_ret
        exact ⟨ret_int (by unfold mayF; rw [if_neg (by omega), if_pos (by omega)]), rfl⟩
      · have h3' : ¬ (60 : Int) < (zs.length : Int) := by omega
        go_enter Try.func12, Try.ntmps12
        go_wp2
        go_loop [5] (fun i => ∃ k : Nat, k ≤ zs.length ∧ i = .int .i64 k ∧ ∀ j, j < k → 0 ≤ zs.getD j 0 ∧ zs.getD j 0 < n) (fun i => zs.length - (intOf i).toNat)
        case atStart => exact ⟨0, Nat.zero_le _, rfl, fun j hj => by omega⟩
        case round =>
          obtain ⟨k, hk, rfl, hg⟩ := hrel
          have HG : Hid (∀ j, j < k → 0 ≤ zs.getD j 0 ∧ zs.getD j 0 < n) := hg
          clear hg
          by_cases hlt : k < zs.length
          · obtain ⟨b, off, rfl, hc⟩ := h.at hlt
            have hck := hc k hlt
            clear hc h
            generalize hx : zs.getD k 0 = x at hck
            have HX : Hid (zs.getD k 0 = x) := hx
            clear hx
            by_cases g1 : x < 0
            · have hd : decide (x < 0) = true := by simpa using g1
              go_wp2
              go_ret
              exact ⟨ret_int (mayF_bad (by omega) (by omega) (by omega) hlt (by rw [HX.out]; omega)).symm, rfl⟩
            · have hd : decide (x < 0) = false := by simpa using g1
              by_cases g2 : n ≤ x
              · go_wp2
                go_ret
                exact ⟨ret_int (mayF_bad (by omega) (by omega) (by omega) hlt (by rw [HX.out]; omega)).symm, rfl⟩
              · go_wp2
                go_round
                case rel =>
                  refine ⟨k + 1, by omega, by go_num, fun j hj => ?_⟩
                  by_cases hjk : j = k
                  · subst hjk; rw [HX.out]; omega
                  · exact HG.out j (by omega)
                case measure => simp [intOf]; omega
          · go_wp2
            go_ret
            exact ⟨ret_int (mayF_good (by omega) (by omega) (by omega) (fun j hj => HG.out j (by omega))).symm, rfl⟩

end Go.Proofs.Ytaangdomdeklhaa
