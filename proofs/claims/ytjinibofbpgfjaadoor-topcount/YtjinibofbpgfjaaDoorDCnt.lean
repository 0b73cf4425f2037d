/- How many words of a length are accepted, as the program counts: the words that lead to each state, letter by letter. -/
import Derived.Test.YtjinibofbpgfjaaDoorDPlus
import Derived.BigRegion
import Derived.Deep.RegionWith
namespace Go.Proofs.YtjinibofbpgfjaaDoor
open Go.RowKit
set_option linter.unusedVariables false

/-- Numbers of words, weighed by g. -/
def dot (n : Nat) (V g : Nat → Nat) : Nat := sumTo n fun i => V i * g i

theorem dot_upd {n t : Nat} (V g : Nat → Nat) (x : Nat) (ht : t < n) : dot n (fun i => if i = t then V t + x else V i) g = dot n V g + x * g t := by
  unfold dot; exact sumTo_upd V g x ht
theorem dot_one_le {n t : Nat} (V : Nat → Nat) (ht : t < n) : V t ≤ dot n V (fun _ => 1) := by
  have := sumTo_le (f := fun i => V i * 1) ht
  simpa [dot] using this
theorem dot_single {n t : Nat} (g : Nat → Nat) (ht : t < n) : dot n (fun i => if i = t then 1 else 0) g = g t := sumTo_one g ht
theorem dot_zero (n : Nat) (g : Nat → Nat) : dot n (fun _ => 0) g = 0 := by
  unfold dot; rw [sumTo_congr (g := fun _ => 0) (fun i _ => by simp), sumTo_zero]

/-- What has come together of the states ahead of s and of the letters of s ahead of a. -/
def Half (d : Dfa) (V U : Nat → Nat) (s a : Nat) : Prop :=
  ∀ g, dot d.R.length U g = sumTo s (fun i => V i * sumTo d.L.toNat fun b => g (d.nx i b)) + V s * sumTo a fun b => g (d.nx s b)

theorem Half.start (d : Dfa) (V : Nat → Nat) : Half d V (fun _ => 0) 0 0 := fun g => by rw [dot_zero]; simp [sumTo]
theorem Half.step {d : Dfa} {V U : Nat → Nat} {s a : Nat} (h : Half d V U s a) (hn : d.nx s a < d.R.length) : Half d V (fun i => if i = d.nx s a then U (d.nx s a) + V s else U i) s (a + 1) := fun g => by
  rw [dot_upd U g _ hn, h g]
  simp only [sumTo, Nat.mul_add]
  omega
theorem Half.next {d : Dfa} {V U : Nat → Nat} {s : Nat} (h : Half d V U s d.L.toNat) : Half d V U (s + 1) 0 := fun g => by
  rw [h g]; simp [sumTo]
theorem Half.end {d : Dfa} {V U : Nat → Nat} (h : Half d V U d.R.length 0) : (∀ k, dot d.R.length U (d.cnt k) = dot d.R.length V (d.cnt (k + 1))) ∧ dot d.R.length U (fun _ => 1) = d.L.toNat * dot d.R.length V (fun _ => 1) := by
  refine ⟨fun k => ?_, ?_⟩
  · rw [h]; simp [sumTo, dot, Dfa.cnt]
  · rw [h]
    simp only [sumTo, dot, sumTo_const, Nat.mul_one, Nat.mul_zero, Nat.add_zero]
    rw [sumTo_congr (g := fun i => d.L.toNat * V i) (fun i _ => Nat.mul_comm _ _), sumTo_mul]
/-- No number grows beyond what all come to. -/
theorem Half.le {d : Dfa} {V U : Nat → Nat} {s a : Nat} (h : Half d V U s a) (hs : s < d.R.length) (ha : a ≤ d.L.toNat) : dot d.R.length U (fun _ => 1) ≤ d.L.toNat * dot d.R.length V (fun _ => 1) := by
  rw [h]
  simp only [sumTo_const, Nat.mul_one]
  have e : sumTo s (fun i => V i * d.L.toNat) + V s * a ≤ sumTo (s + 1) (fun i => V i * d.L.toNat) := by
    simp only [sumTo]; have := Nat.mul_le_mul_left (V s) ha; omega
  refine Nat.le_trans e (Nat.le_trans (sumTo_mono (show s + 1 ≤ d.R.length by omega)) ?_)
  simp only [dot, Nat.mul_one]
  rw [sumTo_congr (g := fun i => d.L.toNat * V i) (fun i _ => Nat.mul_comm _ _), sumTo_mul]
  exact Nat.le_refl _

theorem pow4_lt {l k : Nat} (hl : l ≤ 4) (hk : k ≤ 60) : l ^ k < 10000000000000000000000000000000000000 := by
  have h1 : l ^ k ≤ 4 ^ k := Nat.pow_le_pow_left hl k
  have h2 : 4 ^ k ≤ 4 ^ 60 := Nat.pow_le_pow_right (by decide) hk
  have h3 : (4 : Nat) ^ 60 < 10000000000000000000000000000000000000 := by decide
  omega

/-- The words of k letters that lead to each state. -/
structure Fwd (d : Dfa) (n k : Nat) (V : Nat → Nat) : Prop where
  c : dot d.R.length V (d.cnt (n - k)) = d.cnt n d.S.toNat
  s : dot d.R.length V (fun _ => 1) = d.L.toNat ^ k

theorem Fwd.start {d : Dfa} (h : Good d) (n : Nat) : Fwd d n 0 (fun i => if i = d.S.toNat then 1 else 0) := by
  have hs : d.S.toNat < d.R.length := by have := h.s; omega
  exact ⟨by rw [dot_single _ hs]; rfl, by rw [dot_single _ hs]; rfl⟩
theorem Fwd.next {d : Dfa} {n k : Nat} {V U : Nat → Nat} (h : Fwd d n k V) (hk : k < n) (hh : Half d V U d.R.length 0) : Fwd d n (k + 1) U := by
  obtain ⟨a, b⟩ := hh.end
  exact ⟨by rw [a, show n - (k + 1) + 1 = n - k by omega, h.c], by rw [b, h.s, Nat.pow_succ, Nat.mul_comm]⟩

/-- The sum of those that have the mark 1, up to a state. -/
def marked (d : Dfa) (V : Nat → Nat) (s : Nat) : Nat := sumTo s fun i => V i * if d.mk1 i then 1 else 0
theorem marked_end {d : Dfa} {n : Nat} {V : Nat → Nat} (h : Fwd d n n V) : marked d V d.R.length = d.cnt n d.S.toNat := by
  have := h.c
  rw [Nat.sub_self] at this
  exact this
theorem marked_le {d : Dfa} {V : Nat → Nat} {s : Nat} (hs : s ≤ d.R.length) : marked d V s ≤ dot d.R.length V (fun _ => 1) := by
  have h1 : marked d V s ≤ sumTo s (fun i => V i * 1) := by
    unfold marked
    clear hs
    induction s with
    | zero => exact Nat.le_refl _
    | succ s ih => simp only [sumTo]; have : V s * (if d.mk1 s then 1 else 0) ≤ V s * 1 := Nat.mul_le_mul_left _ (by split <;> omega)
                   omega
  exact Nat.le_trans h1 (sumTo_mono hs)

end Go.Proofs.YtjinibofbpgfjaaDoor
