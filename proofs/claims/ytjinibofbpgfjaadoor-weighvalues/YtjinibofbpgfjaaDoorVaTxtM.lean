/- Digits of a number by figures of base 10000: no program. -/
import Derived.Test.YtjinibofbpgfjaaDoorVaDec
namespace Go.Proofs.YtjinibofbpgfjaaDoor
open Go.Lib
set_option linter.unusedVariables false

def figN (l : List Int) (i : Nat) : Nat := (l.getD i 0).toNat
def natN (l : List Int) : Nat := (valN l).toNat
theorem natN_cast {l : List Int} (h : WfN l) : ((natN l : Nat) : Int) = valN l := by have := (valN_range h).1; unfold natN; omega
theorem figN_cast {l : List Int} (h : WfN l) (i : Nat) : ((figN l i : Nat) : Int) = l.getD i 0 ∧ figN l i < 10000 := by have := h.at i; unfold figN; omega
theorem natN_drop {l : List Int} (h : WfN l) : ∀ i, i ≤ l.length → natN l / 10 ^ (4 * i) = natN (l.drop i) := by
  intro i hi
  have e : l = l.take i ++ l.drop i := (List.take_append_drop i l).symm
  have e1 : valN l = valN (l.take i) + pwN i * valN (l.drop i) := by
    conv => lhs; rw [e]
    rw [valN_app, List.length_take, Nat.min_eq_left hi]
  have r1 := valN_range (h.take i)
  rw [List.length_take, Nat.min_eq_left hi] at r1
  have c1 := natN_cast h
  have c2 := natN_cast (h.drop i)
  have c3 := natN_cast (h.take i)
  have ep : pwN i = ((10 ^ (4 * i) : Nat) : Int) := by unfold pwN; rw [Nat.pow_mul, Int.natCast_pow]; rfl
  have e2 : natN l = natN (l.take i) + 10 ^ (4 * i) * natN (l.drop i) := by
    apply Int.ofNat.inj
    show ((natN l : Nat) : Int) = ((natN (l.take i) + 10 ^ (4 * i) * natN (l.drop i) : Nat) : Int)
    rw [Int.natCast_add, Int.natCast_mul, c1, c2, c3, ← ep]
    exact e1
  have hlt : natN (l.take i) < 10 ^ (4 * i) := by
    have : ((natN (l.take i) : Nat) : Int) < ((10 ^ (4 * i) : Nat) : Int) := by rw [c3, ← ep]; exact r1.2
    exact Int.ofNat_lt.1 this
  rw [e2, Nat.add_mul_div_left _ _ (Nat.pow_pos (by decide)), Nat.div_eq_of_lt hlt, Nat.zero_add]
theorem natN_head {l : List Int} (h : WfN l) {i : Nat} (hi : i < l.length) : natN (l.drop i) = figN l i + 10000 * natN (l.drop (i + 1)) := by
  have e : l.drop i = l.getD i 0 :: l.drop (i + 1) := by rw [List.drop_eq_getElem_cons hi]; congr 1; simp [List.getD, hi]
  have c1 := natN_cast (h.drop i)
  have c2 := natN_cast (h.drop (i + 1))
  have c3 := (figN_cast h i).1
  have e1 : valN (l.drop i) = l.getD i 0 + 10000 * valN (l.drop (i + 1)) := by rw [e]; rfl
  omega
theorem fig_pad {l : List Int} (h : WfN l) {i : Nat} (hi : i < l.length) : pad 4 (figN l i) ++ pad (4 * i) (natN l) = pad (4 * (i + 1)) (natN l) := by
  have e : 4 * (i + 1) = 4 + 4 * i := by omega
  rw [e, pad_add, natN_drop h i (by omega), natN_head h hi, ← pad_mod 4 (figN l i + _)]
  congr 2
  have := (figN_cast h i).2
  have e4 : 10 ^ 4 = 10000 := rfl
  rw [e4]
  omega
theorem pad_one (x k : Nat) : UInt8.ofNat (48 + x / 10 ^ k % 10) :: pad k x = pad (k + 1) x := by
  rw [Nat.add_comm k 1, pad_add]
  have e : ∀ y, pad 1 y = [UInt8.ofNat (48 + y % 10)] := fun y => by simp [pad]
  rw [e]
  rfl
/-- What has been written of the figure d behind k steps: j digits of it. -/
structure FigSt (d k j : Nat) (last : Bool) : Prop where
  le : j ≤ k
  all : last = false → j = k
  rest : j < k → d / 10 ^ j = 0
  top : last = true → j = 0 ∨ d / 10 ^ (j - 1) ≠ 0
theorem FigSt.start (d : Nat) (last : Bool) : FigSt d 0 0 last := ⟨Nat.le_refl _, fun _ => rfl, fun h => by omega, fun _ => .inl rfl⟩
theorem FigSt.go {d k j : Nat} {last : Bool} (h : FigSt d k j last) (hg : last = false ∨ d / 10 ^ k ≠ 0) : j = k ∧ FigSt d (k + 1) (k + 1) last := by
  have e : j = k := by
    rcases hg with hg | hg
    · exact h.all hg
    · by_cases hj : j < k
      · exfalso
        apply hg
        have h1 := h.rest hj
        have hp := Nat.pow_pos (n := j) (show 0 < 10 by decide)
        have h2 : d < 10 ^ j := by
          rcases Nat.lt_or_ge d (10 ^ j) with h3 | h3
          · exact h3
          · have := Nat.div_pos h3 hp; omega
        exact Nat.div_eq_of_lt (Nat.lt_of_lt_of_le h2 (Nat.pow_le_pow_right (by decide) (by omega)))
      · have := h.le; omega
  refine ⟨e, Nat.le_refl _, fun _ => rfl, fun h2 => by omega, fun hl => .inr ?_⟩
  rcases hg with hg | hg
  · rw [hg] at hl; cases hl
  · exact hg
theorem FigSt.stay {d k j : Nat} {last : Bool} (h : FigSt d k j last) (hl : last = true) (hz : d / 10 ^ k = 0) : FigSt d (k + 1) j last := by
  refine ⟨by have := h.le; omega, fun e => absurd (hl.symm.trans e) (by simp), fun hj => ?_, h.top⟩
  by_cases e : j = k
  · subst e; exact hz
  · exact h.rest (by have := h.le; omega)
theorem FigSt.done {d j : Nat} (h : FigSt d 4 j true) (hd : d < 10000) (h0 : d ≠ 0) : pad j d = decDigits d := by
  have hz : d / 10 ^ j = 0 := by
    by_cases hj : j < 4
    · exact h.rest hj
    · have : j = 4 := by have := h.le; omega
      subst this
      exact Nat.div_eq_of_lt hd
  have hp := Nat.pow_pos (n := j) (show 0 < 10 by decide)
  have hlt : d < 10 ^ j := by
    rcases Nat.lt_or_ge d (10 ^ j) with h3 | h3
    · exact h3
    · have := Nat.div_pos h3 hp; omega
  rcases h.top rfl with h1 | h1
  · subst h1
    have : d < 1 := hlt
    omega
  · cases j with
    | zero => have : d < 1 := hlt; omega
    | succ j =>
      rw [Nat.add_sub_cancel] at h1
      have h2 : 10 ^ j ≤ d := by
        rcases Nat.lt_or_ge d (10 ^ j) with h3 | h3
        · exact absurd (Nat.div_eq_of_lt h3) h1
        · exact h3
      have hn := nDigits_unique j d h2 hlt
      rw [(pad_eq j d hlt).2, hn]
      simp
theorem last_digits {l : List Int} (h : WfN l) {i : Nat} (hi : i + 1 = l.length) (h0 : figN l i ≠ 0) : decDigits (figN l i) ++ pad (4 * i) (natN l) = decDigits (natN l) := by
  have h1 := natN_drop h i (by omega)
  rw [natN_head h (by omega)] at h1
  have e : l.drop (i + 1) = [] := List.drop_of_length_le (by omega)
  have e2 : natN (l.drop (i + 1)) = 0 := by rw [e]; rfl
  rw [e2, Nat.mul_zero, Nat.add_zero] at h1
  have hp := Nat.pow_pos (n := 4 * i) (show 0 < 10 by decide)
  have h2 := dec_join (4 * i) (figN l i) (natN l % 10 ^ (4 * i)) h0 (Nat.mod_lt _ hp)
  rw [pad_mod, ← h1, Nat.mul_comm, Nat.div_add_mod, h1] at h2
  exact h2.symm
end Go.Proofs.YtjinibofbpgfjaaDoor
