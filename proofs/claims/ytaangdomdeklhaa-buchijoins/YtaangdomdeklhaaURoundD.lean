/- Rows of truths as sets, of one's own: how a bit is written, how a row is copied; how the reference's loops grow them. -/
import Derived.Test.YtaangdomdeklhaaUByR
import Derived.Test.YtaangdomdeklhaaHBackD
namespace Go.Proofs.Ytaangdomdeklhaa
open Go.RowKit
set_option linter.unusedVariables false

abbrev bIt (g n c s : Nat) : Item := (4, .slice (some ⟨g, 0, none⟩) n c, bset s n)
section
variable {B : Nat} {w : World} {g n c s : Nat} {r : List Item}
theorem own_bit (h : Owns B w (bIt g n c s :: r)) {i : Nat} (hi : i < n) : w.cell? ⟨g, i, none⟩ = some (.bool (s.testBit i)) := h.cell (bset_get hi)
theorem own_at9 (h : Owns B w (bIt g n c s :: r)) : SetAt9 w g n s := fun i hi => own_bit h hi
theorem bset_write {s s' i : Nat} (hi : i < n) (hs : ∀ k, k ≠ i → s'.testBit k = s.testBit k) : (bset s n).set i (.bool (s'.testBit i)) = bset s' n := by
  refine List.ext_getElem? fun k => ?_
  rw [List.getElem?_set]
  by_cases hk : i = k
  · subst hk; simp [bset, hi]
  · rw [if_neg hk]
    by_cases hn : k < n
    · rw [bset_get hn, bset_get hn, hs k (fun e => hk e.symm)]
    · rw [List.getElem?_eq_none (by rw [bset_len]; omega), List.getElem?_eq_none (by rw [bset_len]; omega)]
theorem own_put (h : Owns B w (bIt g n c s :: r)) {i : Nat} (hi : i < n) {s' : Nat} {b : Bool} (hb : s'.testBit i = b) (hs : ∀ k, k ≠ i → s'.testBit k = s.testBit k) : Owns B (w.setCell ⟨g, i, none⟩ (.bool b)) (bIt g n c s' :: r) := by
  have h1 := h.set hi (.bool b)
  rw [← hb, bset_write hi hs] at h1
  rw [← hb]
  exact h1
/-- A row is copied. -/
theorem own_copy (h : Owns B w r) (hB : B ≤ w.heap.size) {g' c' : Nat} (hs : SetAt9 w g' n s) (hn1 : 1 ≤ n) (hn : n ≤ 1000) {H : Nat} (hH : w.heap.size = H) :
    ∃ g cap w', (AppS #[56, 56] 56 #[.slice (some ⟨H, 0, none⟩) 0 0, .slice (some ⟨g', 0, none⟩) n c']).run Try.prog (w.alloc (.cells #[] 4)) = .ok (.slice (some ⟨g, 0, none⟩) n cap) w' ∧ Owns B w' (bIt g n cap s :: r) ∧ Keeps B w w' := by
  subst hH
  have h1 := h.made (arr := #[]) (n := 0) hB 4 rfl (Nat.zero_le _)
  obtain ⟨i0, hi, hz0, hz1, hz2⟩ := info_parts Try.infoB
  obtain ⟨g, cap, w', hrun, ho, hg, hat, _⟩ := run_append_lies (P := Try.prog) (w.alloc (.cells #[] 4)) 56 56 B 4 i0 (.bool false) 1 1 Try.underlying56 hi hz0 hz1 hz2 rfl (by decide) (.slice (some ⟨w.heap.size, 0, none⟩) 0 0) 0 [] h1.row ⟨g', 0, none⟩ n c' (bset s n) (by rw [bset_len, Nat.mul_one]) (fun j u hu => by
    have hj : j < n := by have := (List.getElem?_eq_some_iff.1 hu).1; rwa [bset_len] at this
    rw [bset_get hj] at hu
    rw [addr_add]
    exact (grown_alloc w _).cell ((hs j hj).trans hu) (by simp)) (by intro u hu; obtain ⟨i, _, rfl⟩ := List.mem_map.1 hu; rfl) hn1 (by unfold maxLen; omega) (by omega) (by simp; omega) _ rfl
  rw [Nat.zero_add] at hrun ho
  refine ⟨g, cap, w', hrun, ?_, ((Keeps.refl B w).alloc _).trans (Keeps.first h1 hg)⟩
  have h2 := h1.append ho (by rw [bset_len]; simp) hg hat rfl
  exact h2
end
theorem bset_new0 {B : Nat} {w : World} {r : List Item} (h : Owns B w r) (hB : B ≤ w.heap.size) {n : Nat} (hn : n ≤ 1000000) : Owns B (w.alloc (.cells (Array.replicate n (Value.bool false)) 4)) (bIt w.heap.size n n 0 :: r) := (BsetAt.new h hB hn).own

theorem bools_new {B : Nat} {w : World} {r : List Item} (h : Owns B w r) (hB : B ≤ w.heap.size) (n : Nat) (hn : n ≤ 1000) : ∃ W, (Instr.makeSlice 56 (.int .i64 (n : Int)) (.int .i64 (n : Int))).run Try.prog w = .ok (.slice (some ⟨w.heap.size, 0, none⟩) n n) W ∧ Owns B W (bIt w.heap.size n n 0 :: r) ∧ w.grownBy W none ∧ W.heap.size = w.heap.size + 1 :=
  ⟨_, make_bools w n (by omega), bset_new0 h hB (by omega), grown_alloc _ _, World.size_alloc _ _⟩

/-! ### bit by bit -/
theorem orm_bit (s p k : Nat) : (s ||| p % 2 ^ k).testBit k = s.testBit k := by rw [Nat.testBit_or, testBit_mod]; simp
theorem orm_succ {s p k : Nat} : ((s ||| p % 2 ^ (k + 1)).testBit k = (s.testBit k || p.testBit k)) ∧ ∀ i, i ≠ k → (s ||| p % 2 ^ (k + 1)).testBit i = (s ||| p % 2 ^ k).testBit i :=
  ⟨by rw [mod_succ_bits, if_pos rfl], fun i hi => by rw [mod_succ_bits, if_neg hi]⟩
theorem orm_zero (s p : Nat) : s ||| p % 2 ^ 0 = s := by rw [Nat.pow_zero, Nat.mod_one]; simp
theorem orm_end {s p n : Nat} (hp : p < 2 ^ n) : s ||| p % 2 ^ n = s ||| p := by rw [Nat.mod_eq_of_lt hp]
theorem orm_ne {s p k : Nat} : s ||| p % 2 ^ (k + 1) ≠ s ↔ (s ||| p % 2 ^ k ≠ s ∨ (p.testBit k = true ∧ s.testBit k = false)) := by
  constructor
  · intro h
    by_cases h1 : s ||| p % 2 ^ k = s
    · right
      refine Classical.byContradiction fun h2 => h (Nat.eq_of_testBit_eq fun i => ?_)
      by_cases hi : i = k
      · subst hi
        rw [orm_succ.1]
        cases h3 : p.testBit i <;> cases h4 : s.testBit i <;> simp_all
      · rw [orm_succ.2 i hi, h1]
    · exact .inl h1
  · rintro (h | ⟨h1, h2⟩) e
    · refine h (Nat.eq_of_testBit_eq fun i => ?_)
      by_cases hi : i = k
      · subst hi; exact orm_bit s p i
      · rw [← orm_succ.2 i hi, e]
    · have := orm_succ (s := s) (p := p) (k := k)
      rw [e] at this
      rw [h1, h2] at this
      simp at this
theorem orm_lt {s p n k : Nat} (hs : s < 2 ^ n) (hp : p < 2 ^ n) : s ||| p % 2 ^ k < 2 ^ n := or_lt hs (Nat.lt_of_le_of_lt (Nat.mod_le _ _) hp)

/-! ### a set, read off -/
def isT : Option Value → Bool
  | some (.bool true) => true
  | _ => false
def rdSet (w : World) (g : Nat) : Nat → Nat
  | 0 => 0
  | n + 1 => if isT (w.cell? ⟨g, n, none⟩) = true then rdSet w g n ||| 2 ^ n else rdSet w g n
theorem rdSet_eq {w : World} {g n s : Nat} (h : SetAt9 w g n s) (hs : s < 2 ^ n) : rdSet w g n = s := by
  have key : ∀ k, k ≤ n → rdSet w g k = s % 2 ^ k := by
    intro k
    induction k with
    | zero => intro _; simp [rdSet, Nat.mod_one]
    | succ k ih =>
      intro hk
      simp only [rdSet]
      rw [h k (by omega), ih (by omega)]
      refine Nat.eq_of_testBit_eq fun i => ?_
      cases hb : s.testBit k with
      | true =>
        simp only [isT, if_true]
        rw [Nat.testBit_or, testBit_mod, testBit_mod, Nat.testBit_two_pow]
        by_cases hi : i = k
        · subst hi; simp [hb]
        · have h1 : decide (k = i) = false := by simp; omega
          rw [h1, Bool.or_false]
          congr 1
          simp; omega
      | false =>
        simp only [isT, Bool.false_eq_true, if_false]
        rw [testBit_mod, testBit_mod]
        by_cases hi : i = k
        · subst hi; simp [hb]
        · congr 1
          simp; omega
  rw [key n (Nat.le_refl _), Nat.mod_eq_of_lt hs]

end Go.Proofs.Ytaangdomdeklhaa
