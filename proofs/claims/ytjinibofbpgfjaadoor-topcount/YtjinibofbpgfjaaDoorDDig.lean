/- Numbers in digits, the lowest first; and how a number's digits are those of its halves. -/
import Derived.Test.YtjinibofbpgfjaaDoorDSpec
import Derived.Lib.ItoaNum
namespace Go.Proofs.YtjinibofbpgfjaaDoor
open Go.Lib
set_option linter.unusedVariables false

def dlF : Nat → Nat → List Int
  | 0, _ => []
  | k + 1, z => if z = 0 then [] else ((z % 10 : Nat) : Int) :: dlF k (z / 10)
/-- A number's digits, the lowest first; none of 0. -/
def dl (z : Nat) : List Int := dlF z z
theorem dlF_eq (k : Nat) : ∀ z, z ≤ k → dlF k z = dl z := by
  induction k using Nat.strongRecOn with
  | _ k ih =>
    intro z hz
    cases k with
    | zero => have : z = 0 := by omega
              subst this; rfl
    | succ k =>
      cases z with
      | zero => rfl
      | succ z =>
        simp only [dl, dlF]
        rw [if_neg (by omega), if_neg (by omega)]
        congr 1
        rw [ih k (by omega) _ (by omega)]
        by_cases h : z = k
        · subst h; exact (ih z (by omega) _ (by omega)).symm
        · exact (ih z (by omega) _ (by omega)).symm

theorem dl_zero : dl 0 = [] := rfl
theorem dl_pos {z : Nat} (h : z ≠ 0) : dl z = ((z % 10 : Nat) : Int) :: dl (z / 10) := by
  obtain ⟨k, rfl⟩ : ∃ k, z = k + 1 := ⟨z - 1, by omega⟩
  simp only [dl, dlF]
  rw [if_neg (by omega), dlF_eq k _ (by omega)]
  rfl

theorem dl_len (i : Nat) : ∀ z, i < (dl z).length ↔ 10 ^ i ≤ z := by
  induction i with
  | zero =>
    intro z
    by_cases h : z = 0
    · subst h; rw [dl_zero]; simp
    · rw [dl_pos h]; simp; omega
  | succ i ih =>
    intro z
    by_cases h : z = 0
    · subst h; rw [dl_zero]; simp
    · rw [dl_pos h, List.length_cons, Nat.pow_succ]
      have := ih (z / 10)
      omega

theorem dl_get (i : Nat) : ∀ z, (dl z).getD i 0 = ((z / 10 ^ i % 10 : Nat) : Int) := by
  induction i with
  | zero =>
    intro z
    by_cases h : z = 0
    · subst h; rw [dl_zero]; simp
    · rw [dl_pos h]; simp
  | succ i ih =>
    intro z
    by_cases h : z = 0
    · subst h; rw [dl_zero]; simp
    · rw [dl_pos h, List.getD_cons_succ, ih, Nat.pow_succ, Nat.mul_comm, ← Nat.div_div_eq_div_mul]

theorem dl_of (i : Nat) : ∀ z, z < 10 ^ i → (i = 0 ∨ 10 ^ (i - 1) ≤ z) → (List.range i).map (fun j => ((z / 10 ^ j % 10 : Nat) : Int)) = dl z := by
  induction i with
  | zero => intro z h _; have : z = 0 := by simpa using h
            subst this; rw [dl_zero]; rfl
  | succ i ih =>
    intro z h h'
    have hz : z ≠ 0 := by
      rcases h' with h' | h'
      · omega
      · have := Nat.pow_pos (n := i) (show 0 < 10 by decide); simp at h'; omega
    rw [dl_pos hz, List.range_succ_eq_map, List.map_cons, List.map_map]
    congr 1
    · simp
    · rw [← ih (z / 10) (by rw [Nat.pow_succ] at h; omega) ?_]
      · refine List.map_congr_left fun j _ => ?_
        simp only [Function.comp]
        rw [Nat.succ_eq_add_one, Nat.pow_succ, Nat.mul_comm, ← Nat.div_div_eq_div_mul]
      · by_cases hi : i = 0
        · exact .inl hi
        · right
          rcases h' with h' | h'
          · omega
          · obtain ⟨k, rfl⟩ : ∃ k, i = k + 1 := ⟨i - 1, by omega⟩
            simp at h' ⊢
            rw [Nat.pow_succ] at h'
            omega

theorem dl_len_le {z k : Nat} (h : z < 10 ^ k) : (dl z).length ≤ k := by
  have := dl_len k z
  omega

theorem dl_mem {z : Nat} {x : Int} (h : x ∈ dl z) : 0 ≤ x ∧ x < 10 := by
  obtain ⟨i, hi, rfl⟩ := List.getElem_of_mem h
  have := dl_get i z
  rw [List.getD, List.getElem?_eq_getElem hi] at this
  simp at this
  rw [this]; omega

/-- The text of a number's digits. -/
theorem dec_of_dl (z : Nat) : z ≠ 0 → decDigits z = ((dl z).map fun x => UInt8.ofNat (48 + x.toNat)).reverse := by
  induction z using Nat.strongRecOn with
  | _ z ih =>
    intro h
    rw [dl_pos h, List.map_cons, List.reverse_cons]
    by_cases h10 : z < 10
    · rw [decDigits, dif_pos h10, show z / 10 = 0 by omega, dl_zero]
      simp [Nat.mod_eq_of_lt h10]
    · rw [decDigits, dif_neg h10, ih (z / 10) (by omega) (by omega), Int.toNat_natCast]

/-- The k lowest digits, the highest first. -/
def pad (k l : Nat) : List UInt8 := (List.range k).map fun t => UInt8.ofNat (48 + l / 10 ^ (k - 1 - t) % 10)

theorem pad_succ (k l : Nat) : pad (k + 1) l = pad k (l / 10) ++ [UInt8.ofNat (48 + l % 10)] := by
  unfold pad
  rw [List.range_succ, List.map_append]
  congr 1
  · refine List.map_congr_left fun t ht => ?_
    have := List.mem_range.1 ht
    rw [show k + 1 - 1 - t = (k - 1 - t) + 1 by omega, Nat.pow_succ, Nat.mul_comm, ← Nat.div_div_eq_div_mul]
  · simp

theorem dec_join (k : Nat) : ∀ h l, h ≠ 0 → l < 10 ^ k → decDigits (h * 10 ^ k + l) = decDigits h ++ pad k l := by
  induction k with
  | zero => intro h l hh hl; have : l = 0 := by simpa using hl
            subst this; simp [pad]
  | succ k ih =>
    intro h l hh hl
    have hp := Nat.pow_pos (n := k) (show 0 < 10 by decide)
    have hh1 : 10 ^ k ≤ h * 10 ^ k := Nat.le_mul_of_pos_left _ (by omega)
    rw [Nat.pow_succ] at hl
    have e : h * 10 ^ (k + 1) = h * 10 ^ k * 10 := by rw [Nat.pow_succ, Nat.mul_assoc]
    rw [decDigits, dif_neg (by rw [e]; omega), show (h * 10 ^ (k + 1) + l) / 10 = h * 10 ^ k + l / 10 by rw [e]; omega, ih h (l / 10) hh (by omega), pad_succ, show (h * 10 ^ (k + 1) + l) % 10 = l % 10 by rw [e]; omega, List.append_assoc]

theorem pad_zero (k : Nat) : pad k 0 = List.replicate k 48 := by
  unfold pad
  rw [List.eq_replicate_iff]
  simp

theorem pad_eq (k : Nat) : ∀ l, l < 10 ^ (k + 1) → nDigits l ≤ k + 1 ∧ pad (k + 1) l = List.replicate (k + 1 - nDigits l) 48 ++ decDigits l := by
  induction k with
  | zero =>
    intro l h
    have h10 : l < 10 := by simpa using h
    rw [nDigits_small h10, decDigits, dif_pos h10]
    refine ⟨Nat.le_refl _, ?_⟩
    simp [pad, Nat.mod_eq_of_lt h10]
  | succ k ih =>
    intro l h
    rw [Nat.pow_succ] at h
    by_cases h10 : l < 10
    · rw [nDigits_small h10, decDigits, dif_pos h10, pad_succ, show l / 10 = 0 by omega, pad_zero, Nat.mod_eq_of_lt h10]
      exact ⟨by omega, rfl⟩
    · obtain ⟨a, b⟩ := ih (l / 10) (by omega)
      rw [nDigits_big h10, decDigits, dif_neg h10, pad_succ, b]
      refine ⟨by omega, ?_⟩
      rw [← List.append_assoc]
      congr 3
      omega

/-- A number's digits are those of its halves, the lower one filled up by noughts. -/
theorem dec_halves {v : Nat} (h : 10 ^ 18 ≤ v) : decDigits v = decDigits (v / 10 ^ 18) ++ (List.replicate (18 - (decDigits (v % 10 ^ 18)).length) 48 ++ decDigits (v % 10 ^ 18)) := by
  have hm : v % 10 ^ 18 < 10 ^ 18 := Nat.mod_lt _ (by decide)
  have e := dec_join 18 (v / 10 ^ 18) (v % 10 ^ 18) (by have := Nat.div_pos h (by decide); omega) hm
  rw [Nat.mul_comm, Nat.div_add_mod] at e
  rw [e, (pad_eq 17 _ hm).2, decDigits_length]

theorem dec_low_len {v : Nat} : (decDigits (v % 10 ^ 18)).length ≤ 18 := by
  rw [decDigits_length]
  exact (pad_eq 17 _ (Nat.mod_lt _ (by decide))).1

end Go.Proofs.YtjinibofbpgfjaaDoor
