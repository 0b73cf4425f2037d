/- The least period of a loop that divides its length, as the program finds it. -/
import Derived.Test.YthccdfjmkdcehaaWords
namespace Go.Proofs.Ythccdfjmkdcehaa
open Go.RowKit
set_option linter.unusedVariables false

/-- The loop comes again p places later, as far as it goes. -/
def hasP (l : List Int) (p : Nat) : Bool := (List.range (l.length - p)).all fun i => decide (l.getD i 0 = l.getD (i + p) 0)

theorem hasP_no {l : List Int} {p k : Nat} (hk : k + p < l.length) (h : l.getD k 0 ≠ l.getD (k + p) 0) : hasP l p = false := by
  rw [Bool.eq_false_iff]
  intro ha
  have := List.all_eq_true.1 ha k (List.mem_range.2 (by omega))
  simp at this h
  exact h this

theorem hasP_yes {l : List Int} {p : Nat} (h : ∀ k, k + p < l.length → l.getD k 0 = l.getD (k + p) 0) : hasP l p = true := by
  refine List.all_eq_true.2 fun k hk => ?_
  have := h k (by have := List.mem_range.1 hk; omega)
  simpa using this

set_option maxHeartbeats 400000 in
theorem hasPeriod_any (p : Nat) (a : Option Addr) (c : Nat) (l : List Int) (w : World) (hx : Ints w a l) (hm : l.length ≤ 60) (hp : p ≤ l.length) :
    Calls Try.prog 35 #[.slice a l.length c, .int .i64 p] w fun e w' => e = .returned (.bool (hasP l p)) ∧ ∃ n, w' = w.drewN n := by
  go_enter Try.func35, Try.ntmps35
  go_wp2
  go_loopw [10] (fun i wr => ∃ k : Nat, k + p ≤ l.length ∧ i = .int .i64 k ∧ (∀ j, j < k → l.getD j 0 = l.getD (j + p) 0) ∧ ∃ n, wr = w.drewN n) (fun i _ => l.length - (intOf i).toNat)
  case atStart => exact ⟨0, by omega, rfl, fun j hj => by omega, 0, rfl⟩
  case round =>
    obtain ⟨k, hk, rfl, hg, m, rfl⟩ := hrel
    have HG : Hid (∀ j, j < k → l.getD j 0 = l.getD (j + p) 0) := hg
    clear hg
    by_cases hlt : k + p < l.length
    · obtain ⟨b, off, rfl, hc⟩ := hx.at hlt
      have hck := hc k (by omega)
      have hck' := hc (k + p) hlt
      clear hc hx
      have hlt2 : (k : Int) < (l.length : Int) := by omega
      have hlt1 : (k : Int) + (p : Int) < (l.length : Int) := by omega
      have e1 : IntKind.i64.wrap ((k : Int) + (p : Int)) = ((k + p : Nat) : Int) := by
        rw [show (k : Int) + (p : Int) = ((k + p : Nat) : Int) by omega]
        exact IntWalk.i64_in _ (by omega)
      generalize hX : l.getD k 0 = x at hck
      generalize hY : l.getD (k + p) 0 = y at hck'
      have HX : Hid (l.getD k 0 = x) := hX
      have HY : Hid (l.getD (k + p) 0 = y) := hY
      clear hX hY
      by_cases he : x = y
      · subst he
        go_wp2
        go_quiet (fail)
        go_wp2
        go_roundw
        case rel =>
          refine ⟨k + 1, by omega, by go_num, fun j hj => ?_, _, rfl⟩
          by_cases hjk : j = k
          · subst hjk; rw [HX.out, HY.out]
          · exact HG.out j (by omega)
        case measure => simp [intOf]; omega
      · have he' : (x != y) = true := by simpa using he
        go_wp2
        go_quiet (fail)
        go_wp2
        go_ret
        exact ⟨ret_bool (hasP_no hlt (by rw [HX.out, HY.out]; exact he)).symm, _, World.drewN_drewN _ _ _⟩
    · go_wp2
      go_ret
      exact ⟨ret_bool (hasP_yes fun j hj => HG.out j (by omega)).symm, _, rfl⟩

/-- p is the least period of the loop that divides its length. -/
structure Per (l : List Int) (p : Nat) : Prop where
  pos : 1 ≤ p
  le : p ≤ l.length
  dvd : l.length % p = 0
  per : hasP l p = true
  least : ∀ q, 1 ≤ q → q < p → ¬ (l.length % q = 0 ∧ hasP l q = true)

theorem hasP_self (l : List Int) : hasP l l.length = true := hasP_yes fun k hk => by omega

set_option maxHeartbeats 400000 in
theorem period_any (a : Option Addr) (c : Nat) (l : List Int) (w : World) (hx : Ints w a l) (hm : l.length ≤ 60) (hp : 1 ≤ l.length) :
    Calls Try.prog 32 #[.slice a l.length c] w fun e w' => ∃ p : Nat, e = .returned (.int .i64 p) ∧ Per l p ∧ ∃ n, w' = w.drewN n := by
  have hx' : ∀ n, Ints (w.drewN n) a l := fun n => hx.later (below_drewN (Below.refl _ _) n)
  have HC : Hid (∀ (x : Int) (p n : Nat), x = p → p ≤ l.length → Calls Try.prog 35 #[.slice a l.length c, .int .i64 x] (w.drewN n) fun e w' => e = .returned (.bool (hasP l p)) ∧ ∃ m, w' = (w.drewN n).drewN m) := fun x p n hx h => hx ▸ hasPeriod_any p a c l _ (hx' n) hm h
  clear hx hx'
  go_enter Try.func32, Try.ntmps32
  go_wp2
  go_loopw [8] (fun i wr => ∃ k : Nat, k + 1 ≤ l.length ∧ i = .int .i64 k ∧ (∀ q, 1 ≤ q → q < k + 1 → ¬ (l.length % q = 0 ∧ hasP l q = true)) ∧ ∃ n, wr = w.drewN n) (fun i _ => l.length - (intOf i).toNat)
  case atStart => exact ⟨0, by omega, rfl, fun j hj => by omega, 0, rfl⟩
  case round =>
    obtain ⟨k, hk, rfl, hg, m, rfl⟩ := hrel
    have HG : Hid (∀ q, 1 ≤ q → q < k + 1 → ¬ (l.length % q = 0 ∧ hasP l q = true)) := hg
    clear hg
    by_cases hlt : k + 1 < l.length
    · by_cases hd : l.length % (k + 1) = 0
      · have hd' : ((l.length : Int) % ((k : Int) + 1) == 0) = true := by
          rw [beq_iff_eq]; rw [show (k : Int) + 1 = ((k + 1 : Nat) : Int) by omega, ← Int.natCast_emod, hd]; rfl
        have HD : Hid (l.length % (k + 1) = 0) := hd
        clear hd
        go_wp2_with fail
        refine (HC.out _ (k + 1) _ (by omega) (by omega)).mono ?_
        rintro e w' ⟨rfl, n, rfl⟩
        cases hP : hasP l (k + 1)
        · have HP : Hid (hasP l (k + 1) = false) := hP
          clear hP
          go_wp2
          go_roundw
          case rel =>
            refine ⟨k + 1, by omega, by go_num, fun q h1 h2 => ?_, _, rfl⟩
            by_cases hq : q = k + 1
            · subst hq; rw [HP.out]; simp
            · exact HG.out q h1 (by omega)
          case measure => simp [intOf]; omega
        · have HP : Hid (hasP l (k + 1) = true) := hP
          clear hP
          go_wp2
          go_ret
          exact ⟨k + 1, rfl, ⟨by omega, by omega, HD.out, HP.out, fun q h1 h2 => HG.out q h1 h2⟩, _, rfl⟩
      · have hd' : ((l.length : Int) % ((k : Int) + 1) == 0) = false := by
          rw [beq_eq_false_iff_ne]; rw [show (k : Int) + 1 = ((k + 1 : Nat) : Int) by omega, ← Int.natCast_emod]; omega
        have HD : Hid (¬ l.length % (k + 1) = 0) := hd
        clear hd
        go_wp2
        go_roundw
        case rel =>
          refine ⟨k + 1, by omega, by go_num, fun q h1 h2 => ?_, _, rfl⟩
          by_cases hq : q = k + 1
          · subst hq; exact fun h => HD.out h.1
          · exact HG.out q h1 (by omega)
        case measure => simp [intOf]; omega
    · go_wp2
      go_ret
      exact ⟨l.length, rfl, ⟨by omega, by omega, by simp, hasP_self l, fun q h1 h2 => HG.out q h1 (by omega)⟩, _, rfl⟩

end Go.Proofs.Ythccdfjmkdcehaa
