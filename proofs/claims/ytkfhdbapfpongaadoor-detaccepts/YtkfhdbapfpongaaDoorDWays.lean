/- Rows of numbers in digits: a list of lists, as the reference keeps them. -/
import Derived.Test.YtkfhdbapfpongaaDoorDAdd
namespace Go.Proofs.YtkfhdbapfpongaaDoor
open Go.RowKit
set_option linter.unusedVariables false

/-- u is a slice of z's digits, which lie apart from v. -/
def ElAt (w : World) (v u : Value) (z : Nat) : Prop := ∃ a c, u = .slice a (dl z).length c ∧ (dl z = [] ∨ ∃ b off, a = some ⟨b, off, none⟩ ∧ b < w.heap.size ∧ v.ownBlock ≠ some b ∧ ∀ i, i < (dl z).length → w.cell? ⟨b, off + i, none⟩ = some (.int .i64 ((dl z).getD i 0)))

theorem ElAt.ints {w : World} {v u : Value} {z : Nat} (h : ElAt w v u z) : ∃ a c, u = .slice a (dl z).length c ∧ Ints w a (dl z) := by
  obtain ⟨a, c, rfl, h⟩ := h
  refine ⟨a, c, rfl, ?_⟩
  rcases h with h | ⟨b, off, rfl, _, _, hc⟩
  · exact .inl h
  · exact .inr ⟨b, off, rfl, hc⟩
theorem ElAt.kept {w w' : World} {v u : Value} {z : Nat} (h : ElAt w v u z) (hg : w.grownBy w' none) : ElAt w' v u z := by
  obtain ⟨a, c, rfl, h⟩ := h
  refine ⟨a, c, rfl, ?_⟩
  rcases h with h | ⟨b, off, rfl, hb, hn, hc⟩
  · exact .inl h
  · exact .inr ⟨b, off, rfl, Nat.lt_of_lt_of_le hb hg.size, hn, fun i hi => hg.cell (hc i hi) (by simp)⟩
theorem ElAt.appended {W w3 : World} {v v' u : Value} {z : Nat} (h : ElAt W v u z) (hg : W.grownBy w3 v.ownBlock) (hat : v'.ownBlock = v.ownBlock ∨ v'.ownBlock = some W.heap.size) : ElAt w3 v' u z := by
  obtain ⟨a, c, rfl, h⟩ := h
  refine ⟨a, c, rfl, ?_⟩
  rcases h with h | ⟨b, off, rfl, hb, hn, hc⟩
  · exact .inl h
  · refine .inr ⟨b, off, rfl, Nat.lt_of_lt_of_le hb hg.size, ?_, fun i hi => hg.cell (hc i hi) (Ne.symm hn)⟩
    rcases hat with h | h
    · rw [h]; exact hn
    · rw [h]; simp; omega
theorem ElAt.far {w : World} {v v' u : Value} {z : Nat} (h : ElAt w v u z) (hn : ∀ a c, u = .slice a (dl z).length c → ∀ b off, a = some ⟨b, off, none⟩ → v'.ownBlock ≠ some b) : ElAt w v' u z := by
  obtain ⟨a, c, rfl, h⟩ := h
  refine ⟨a, c, rfl, ?_⟩
  rcases h with h | ⟨b, off, rfl, hb, _, hc⟩
  · exact .inl h
  · exact .inr ⟨b, off, rfl, hb, hn _ _ rfl b off rfl, hc⟩
/-- Digits in memory of one's own that is newer than v. -/
theorem ElAt.own {B : Nat} {w : World} {v u : Value} {z : Nat} (h : Own B w u (dl z)) (hv : ∀ g, v.ownBlock = some g → g < B) : ElAt w v u z := by
  obtain ⟨h1, a, c, rfl⟩ := h
  refine ⟨a, c, rfl, ?_⟩
  by_cases h0 : (dl z).length = 0
  · left; exact List.length_eq_zero_iff.1 h0
  · right
    obtain ⟨g, cap, e, hB, hlt⟩ := h1.form (by omega)
    cases e
    refine ⟨g, 0, rfl, hlt, fun e => by have := hv g e; omega, fun i hi => ?_⟩
    have := h1.cells (g := g) rfl i (.int .i64 ((dl z).getD i 0)) (by simp [List.getD, hi])
    rwa [add_off] at this

/-- A row of n numbers in digits. -/
def WaysAt (B : Nat) (w : World) (v : Value) (f : Nat → Nat) (n : Nat) (vs : List Value) : Prop :=
  vs.length = n ∧ w.ownsRow B 23 1 v n vs ∧ (∃ a c, v = .slice a n c) ∧ ∀ i, i < n → ∃ u, vs[i]? = some u ∧ ElAt w v u (f i)

theorem WaysAt.nil (B : Nat) (w : World) (f : Nat → Nat) : WaysAt B w (.slice none 0 0) f 0 [] := ⟨rfl, World.ownsRow_nil w B 23 1, ⟨none, 0, rfl⟩, fun i hi => by omega⟩
theorem WaysAt.kept {B n : Nat} {w w' : World} {v : Value} {f : Nat → Nat} {vs : List Value} (h : WaysAt B w v f n vs) (hg : w.grownBy w' none) : WaysAt B w' v f n vs := by
  obtain ⟨h1, h2, h3, h4⟩ := h
  refine ⟨h1, h2.kept hg (by cases v.ownBlock <;> simp), h3, fun i hi => ?_⟩
  obtain ⟨u, e, hu⟩ := h4 i hi
  exact ⟨u, e, hu.kept hg⟩
theorem WaysAt.get {B n : Nat} {w : World} {v : Value} {f : Nat → Nat} {vs : List Value} (h : WaysAt B w v f n vs) {i : Nat} (hi : i < n) :
    ∃ g cap a c, v = .slice (some ⟨g, 0, none⟩) n cap ∧ w.cell? ⟨g, i, none⟩ = some (.slice a (dl (f i)).length c) ∧ Ints w a (dl (f i)) := by
  obtain ⟨h1, h2, h3, h4⟩ := h
  obtain ⟨g, cap, rfl, _, _⟩ := h2.form (by omega)
  obtain ⟨u, e, hu⟩ := h4 i hi
  obtain ⟨a, c, rfl, hz⟩ := hu.ints
  have := h2.cells (g := g) rfl i _ e
  rw [add_off, Nat.zero_add] at this
  exact ⟨g, cap, a, c, rfl, this, hz⟩
theorem WaysAt.ext {B n : Nat} {w : World} {v : Value} {f f' : Nat → Nat} {vs : List Value} (h : WaysAt B w v f n vs) (e : ∀ i, i < n → f i = f' i) : WaysAt B w v f' n vs :=
  ⟨h.1, h.2.1, h.2.2.1, fun i hi => by rw [← e i hi]; exact h.2.2.2 i hi⟩
theorem WaysAt.snoc {B n g cap : Nat} {W w3 : World} {v u : Value} {f : Nat → Nat} {vs : List Value} {H : Nat} (h : WaysAt B W v f n vs) (hu : ElAt W v u (f n))
    (ho : w3.ownsRow B 23 1 (.slice (some ⟨g, 0, none⟩) (n + 1) cap) (n + 1) (vs ++ [u])) (hg : W.grownBy w3 v.ownBlock) (hat : v.ownBlock = some g ∨ g = H) (hH : W.heap.size = H) : WaysAt B w3 (.slice (some ⟨g, 0, none⟩) (n + 1) cap) f (n + 1) (vs ++ [u]) := by
  obtain ⟨h1, h2, h3, h4⟩ := h
  have hat' : (Value.slice (some ⟨g, 0, none⟩) (n + 1) cap).ownBlock = v.ownBlock ∨ (Value.slice (some ⟨g, 0, none⟩) (n + 1) cap).ownBlock = some W.heap.size := by
    rcases hat with h | h
    · exact .inl (by rw [h]; rfl)
    · exact .inr (by rw [hH, ← h]; rfl)
  refine ⟨by simp [h1], ho, ⟨_, _, rfl⟩, fun i hi => ?_⟩
  by_cases hin : i = n
  · subst hin
    exact ⟨u, by simp [← h1], hu.appended hg hat'⟩
  · obtain ⟨u', e, hu'⟩ := h4 i (by omega)
    exact ⟨u', by rw [List.getElem?_append_left (by omega)]; exact e, hu'.appended hg hat'⟩
theorem WaysAt.base {B B' n : Nat} {w : World} {v : Value} {f : Nat → Nat} {vs : List Value} (h : WaysAt B w v f n vs) (hB : B' ≤ B) : WaysAt B' w v f n vs := ⟨h.1, ownsRow_base h.2.1 hB, h.2.2⟩
theorem WaysAt.frame {B n : Nat} {w W w' : World} {v : Value} {f : Nat → Nat} {vs : List Value} (h : WaysAt B W v f n vs) (hB : w.heap.size ≤ B) (h1 : w.grownBy W none) (h2 : W.grownBy w' v.ownBlock) : w.grownBy w' none :=
  grown_of_below ((below_of_grown h1).grown h2 h1.size (fun k hk => Nat.le_trans hB (h.2.1.lt k hk).1))
theorem WaysAt.lt {B n : Nat} {W : World} {v : Value} {f : Nat → Nat} {vs : List Value} (h : WaysAt B W v f n vs) : ∀ g, v.ownBlock = some g → g < W.heap.size := fun g hg => (h.2.1.lt g hg).2
end Go.Proofs.YtkfhdbapfpongaaDoor
