/- Digits of a number by its parts: no program. -/
import Derived.Test.YtjinibofbpgfjaaDoorDDig
import Derived.Test.YtjinibofbpgfjaaDoorVaSpec
import Derived.Test.YtjinibofbpgfjaaDoorNuSpec
import Derived.Lib.TrimByte
namespace Go.Proofs.YtjinibofbpgfjaaDoor
open Go.Lib
set_option linter.unusedVariables false

theorem pad_add (a b : Nat) : ∀ l, pad (a + b) l = pad a (l / 10 ^ b) ++ pad b l := by
  induction b with
  | zero => intro l; simp [pad]
  | succ b ih =>
    intro l
    have e : a + (b + 1) = (a + b) + 1 := rfl
    rw [e, pad_succ, ih, pad_succ b, Nat.pow_succ, Nat.mul_comm (10 ^ b) 10, ← Nat.div_div_eq_div_mul, List.append_assoc]
theorem pad_mod (k : Nat) : ∀ l, pad k (l % 10 ^ k) = pad k l := by
  induction k with
  | zero => intro l; rfl
  | succ k ih =>
    intro l
    rw [pad_succ, pad_succ]
    have hp := Nat.pow_pos (n := k) (show 0 < 10 by decide)
    have e1 : l % 10 ^ (k + 1) / 10 = l / 10 % 10 ^ k := by
      rw [Nat.pow_succ, Nat.mul_comm, Nat.mod_mul_right_div_self]
    have e2 : l % 10 ^ (k + 1) % 10 = l % 10 := by
      rw [Nat.pow_succ, Nat.mod_mul_left_mod]
    rw [e1, e2, ih]
theorem dec_head (l : Nat) : ∃ c r, decDigits l = c :: r ∧ (c = 48 → l = 0) := by
  induction l using Nat.strongRecOn with
  | _ l ih =>
    by_cases h : l < 10
    · rw [decDigits, dif_pos h]
      refine ⟨_, [], rfl, fun e => ?_⟩
      have h2 : ∀ k : Fin 10, UInt8.ofNat (48 + k.val) = 48 → k.val = 0 := by decide
      exact h2 ⟨l, h⟩ e
    · obtain ⟨c, r, e, hc⟩ := ih (l / 10) (by omega)
      rw [decDigits, dif_neg h, e]
      exact ⟨c, _, rfl, fun e => by have := hc e; omega⟩
theorem dec_zero : decDigits 0 = [48] := by rw [decDigits, dif_pos (by omega)]; rfl
theorem trim_rep (n : Nat) (r : List UInt8) : trimLeftB (List.replicate n 48 ++ r) 48 = trimLeftB r 48 := by
  unfold trimLeftB
  induction n with
  | zero => rfl
  | succ n ih => rw [List.replicate_succ, List.cons_append, List.dropWhile_cons_of_pos (by simp), ih]
theorem trim_pad {k l : Nat} (h : l < 10 ^ (k + 1)) : trimLeftB (pad (k + 1) l) 48 = if l = 0 then [] else decDigits l := by
  rw [(pad_eq k l h).2, trim_rep]
  by_cases h0 : l = 0
  · rw [if_pos h0, h0, dec_zero]; rfl
  · rw [if_neg h0]
    obtain ⟨c, r, e, hc⟩ := dec_head l
    rw [e]
    unfold trimLeftB
    rw [List.dropWhile_cons_of_neg]
    intro hh
    exact h0 (hc (by simpa using hh))
theorem dec_ne (l : Nat) : decDigits l ≠ [] := by
  obtain ⟨c, r, e, _⟩ := dec_head l
  rw [e]
  simp
/-- A number's parts, not below nought. -/
def ptN (n k : Nat) : Nat := if k < 12 then n / 10 ^ (9 * k) % 10 ^ 9 else n / 10 ^ 108
theorem bbN_nat (k : Nat) : bbN k = ((10 ^ (9 * k) : Nat) : Int) := by
  unfold bbN
  rw [Nat.pow_mul, Int.natCast_pow]
  rfl
theorem pt_nat (n k : Nat) : ptF (n : Int) k = (ptN n k : Int) := by
  unfold ptF ptN
  by_cases h : k < 12
  · rw [if_pos h, if_pos h, bbN_nat]
    have e : ((1000000000 : Nat) : Int) = 1000000000 := rfl
    rw [← e, ← Int.natCast_ediv, ← Int.natCast_emod]
  · rw [if_neg h, if_neg h, bbN_nat, ← Int.natCast_ediv]
theorem ptN_lt {n : Nat} (h : n < 10 ^ 117) (k : Nat) : ptN n k < 10 ^ 9 := by
  unfold ptN
  split
  · exact Nat.mod_lt _ (by decide)
  · rw [Nat.div_lt_iff_lt_mul (by decide), ← Nat.pow_add]; exact h
theorem pad_part {n k : Nat} (hk : k < 13) : pad 9 (ptN n k) ++ pad (9 * k) n = pad (9 * (k + 1)) n := by
  have e : 9 * (k + 1) = 9 + 9 * k := by omega
  rw [e, pad_add]
  congr 1
  unfold ptN
  split
  · rw [pad_mod]
  · have : k = 12 := by omega
    subst this; rfl
theorem part_pad {m : Nat} (h : m < 10 ^ 9) : (decDigits m).length ≤ 9 ∧ pad 9 m = List.replicate (9 - (decDigits m).length) 48 ++ decDigits m := by
  rw [decDigits_length]
  exact pad_eq 8 m h
theorem pad_len (k l : Nat) : (pad k l).length = k := by unfold pad; simp
end Go.Proofs.YtjinibofbpgfjaaDoor
