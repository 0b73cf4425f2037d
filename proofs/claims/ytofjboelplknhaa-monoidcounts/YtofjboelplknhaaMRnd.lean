/- How many times something is done until a state is come back to (no program). -/
import Derived.Test.YtofjboelplknhaaMDeed
namespace Go.Proofs.Ytofjboelplknhaa
set_option linter.unusedVariables false

/-- What is done j times. -/
def itr (c : Nat) : Nat → Nat → Nat
  | 0, s => s
  | j + 1, s => dg c (itr c j s)
/-- The first number of times behind which s is come back to, of five; else 0. -/
def rnd (c s : Nat) : Nat := if itr c 1 s = s then 1 else if itr c 2 s = s then 2 else if itr c 3 s = s then 3 else if itr c 4 s = s then 4 else if itr c 5 s = s then 5 else 0
def bst (b r : Nat) : Nat := if 1 < r ∧ (b = 0 ∨ r < b) then r else b
/-- The least of them, above 1, of the first k states. -/
def cbk (c k : Nat) : Nat := (List.range k).foldl (fun b s => bst b (rnd c s)) 0
theorem cbk_step (c k : Nat) : cbk c (k + 1) = bst (cbk c k) (rnd c k) := by simp [cbk, List.range_succ]
theorem rnd_first {c s k : Nat} (hk : k < 5) (h : itr c (k + 1) s = s) (hno : ∀ j, 1 ≤ j → j ≤ k → itr c j s ≠ s) : rnd c s = k + 1 := by
  unfold rnd
  rcases five hk with rfl | rfl | rfl | rfl | rfl
  · rw [if_pos h]
  · rw [if_neg (hno 1 (by omega) (by omega)), if_pos h]
  · rw [if_neg (hno 1 (by omega) (by omega)), if_neg (hno 2 (by omega) (by omega)), if_pos h]
  · rw [if_neg (hno 1 (by omega) (by omega)), if_neg (hno 2 (by omega) (by omega)), if_neg (hno 3 (by omega) (by omega)), if_pos h]
  · rw [if_neg (hno 1 (by omega) (by omega)), if_neg (hno 2 (by omega) (by omega)), if_neg (hno 3 (by omega) (by omega)), if_neg (hno 4 (by omega) (by omega)), if_pos h]
theorem rnd_none {c s : Nat} (hno : ∀ j, 1 ≤ j → j ≤ 5 → itr c j s ≠ s) : rnd c s = 0 := by
  unfold rnd
  rw [if_neg (hno 1 (by omega) (by omega)), if_neg (hno 2 (by omega) (by omega)), if_neg (hno 3 (by omega) (by omega)), if_neg (hno 4 (by omega) (by omega)), if_neg (hno 5 (by omega) (by omega))]
theorem rnd_le (c s : Nat) : rnd c s ≤ 5 := by
  unfold rnd
  repeat' (first | omega | split)
theorem bst_le {b r : Nat} (hb : b ≤ 5) (hr : r ≤ 5) : bst b r ≤ 5 := by unfold bst; split <;> omega
theorem cbk_le (c k : Nat) : cbk c k ≤ 5 := by
  induction k with
  | zero => simp [cbk]
  | succ k ih => rw [cbk_step]; exact bst_le ih (rnd_le _ _)
section
variable {c n : Nat} (hd : ∀ s, s < n → dg c s < n)
include hd
theorem itr_lt {q : Nat} (hq : q < n) (j : Nat) : itr c j q < n := by
  induction j with
  | zero => exact hq
  | succ j ih => exact hd _ ih
/-- One comes back within as many times as there are states, or never. -/
theorem turn_le {q j : Nat} (hq : q < n) (hj : 1 ≤ j) (hr : itr c j q = q) (hno : ∀ i, 1 ≤ i → i < j → itr c i q ≠ q) : j ≤ n := by
  have hinj : ∀ a b, a < b → b < j → itr c a q ≠ itr c b q := by
    intro a b hab hbj he
    have key : ∀ t, itr c (a + t) q = itr c (b + t) q := by
      intro t
      induction t with
      | zero => exact he
      | succ t ih => show dg c (itr c (a + t) q) = dg c (itr c (b + t) q); rw [ih]
    have h1 := key (j - b)
    rw [show b + (j - b) = j by omega, hr] at h1
    exact hno (a + (j - b)) (by omega) (by omega) h1
  have hnd : ((List.range j).map fun i => itr c i q).Nodup := by
    refine List.pairwise_map.2 ?_
    refine (List.pairwise_lt_range (n := j)).imp_of_mem (fun {a b} ha hb hlt => ?_)
    exact hinj a b hlt (List.mem_range.1 hb)
  have h2 := nodup_le n _ hnd (fun x hx => by obtain ⟨i, _, rfl⟩ := List.mem_map.1 hx; exact itr_lt hd hq i)
  simpa using h2
/-- Whoever looks as often as there are states, and once more, finds the same. -/
theorem rnd_turns {q t : Nat} (hn : n ≤ 5) (hq : q < n) (ht : 1 ≤ t) (hno : ∀ i, 1 ≤ i → i < t → itr c i q ≠ q) :
    (itr c t q = q → rnd c q = t) ∧ (n < t → itr c t q ≠ q → rnd c q = 0) := by
  constructor
  · intro hr
    have h1 := turn_le hd hq ht hr hno
    obtain ⟨k, rfl⟩ : ∃ k, t = k + 1 := ⟨t - 1, by omega⟩
    exact rnd_first (by omega) hr (fun j h1 h2 => hno j h1 (by omega))
  · intro hlt hne
    refine rnd_none (fun j hj1 hj5 he => ?_)
    obtain ⟨m, hm1, hm2, hm3⟩ : ∃ m, 1 ≤ m ∧ itr c m q = q ∧ ∀ i, 1 ≤ i → i < m → itr c i q ≠ q := by
      induction j using Nat.strongRecOn with
      | ind j ih =>
        by_cases hx : ∃ i, 1 ≤ i ∧ i < j ∧ itr c i q = q
        · obtain ⟨i, h1, h2, h3⟩ := hx
          exact ih i h2 h1 (by omega) h3
        · exact ⟨j, hj1, he, fun i h1 h2 h3 => hx ⟨i, h1, h2, h3⟩⟩
    have h4 := turn_le hd hq hm1 hm2 hm3
    exact hno m hm1 (by omega) hm2
/-- States beyond the last do not count. -/
theorem cbk_beyond (hb : ∀ s, n ≤ s → s < 5 → dg c s = s) {k : Nat} (hn : n ≤ k) (hk : k ≤ 5) : cbk c k = cbk c n := by
  induction k with
  | zero => have : n = 0 := by omega
            subst this; rfl
  | succ k ih =>
    by_cases e : n = k + 1
    · subst e; rfl
    · rw [cbk_step, ih (by omega) (by omega)]
      have h1 : rnd c k = 1 := rnd_first (k := 0) (by omega) (hb k (by omega) (by omega)) (fun j h1 h2 => by omega)
      rw [h1]
      unfold bst
      rw [if_neg (by omega)]
end

end Go.Proofs.Ytofjboelplknhaa
