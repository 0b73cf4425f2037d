/- Pairs of states that are come to, each by its first word (no program). -/
import Derived.Test.YtnlcbnninlegiaaLTrail
import Derived.Test.YtnlcbnninlegiaaLBfs
namespace Go.Proofs.Ytnlcbnninlegiaa
set_option linter.unusedVariables false

theorem cod_inj {k a b c d : Nat} (hb : b < k) (hd : d < k) (h : a * k + b = c * k + d) : a = c ∧ b = d := by
  rcases Nat.lt_trichotomy a c with e | e | e
  · have := Nat.mul_le_mul_right k (show a + 1 ≤ c by omega)
    rw [Nat.add_mul, Nat.one_mul] at this
    omega
  · subst e; exact ⟨rfl, by omega⟩
  · have := Nat.mul_le_mul_right k (show c + 1 ≤ a by omega)
    rw [Nat.add_mul, Nat.one_mul] at this
    omega
theorem cod_lt {n k a b : Nat} (ha : a < n) (hb : b < k) : a * k + b < n * k := by
  have := Nat.mul_le_mul_right k (show a + 1 ≤ n by omega)
  rw [Nat.add_mul, Nat.one_mul] at this
  omega

/-- Where a word leads, as one number. -/
def cod (k : Nat) (δ δ' : Nat → Nat → Nat) (p q : Nat) (u : List Nat) : Nat := u.foldl δ p * k + u.foldl δ' q
/-- Pairs under way. -/
structure WInv (δ δ' : Nat → Nat → Nat) (p q n k l : Nat) (ws : List (List Nat)) (i a : Nat) : Prop where
  trail : Trail (fun u => (u.foldl δ p, u.foldl δ' q)) l ws i a
  nd : (ws.map (cod k δ δ' p q)).Nodup
  lt : ∀ u, u ∈ ws → u.foldl δ p < n ∧ u.foldl δ' q < k
  long : ∀ j, j < ws.length → (ws.getD j []).length ≤ j

section
variable {δ δ' : Nat → Nat → Nat} {p q n k l : Nat} {ws : List (List Nat)} {i a : Nat}
theorem WInv.start (hp : p < n) (hq : q < k) (l : Nat) : WInv δ δ' p q n k l [[]] 0 0 :=
  ⟨Trail.start _ _, by simp, fun u hu => by simp at hu; subst hu; exact ⟨hp, hq⟩, fun j hj => by simp at hj; subst hj; simp⟩
theorem WInv.len (h : WInv δ δ' p q n k l ws i a) : ws.length ≤ n * k := by
  have := nodup_le (n * k) _ h.nd (fun x hx => by
    obtain ⟨u, hu, rfl⟩ := List.mem_map.1 hx
    exact cod_lt (h.lt u hu).1 (h.lt u hu).2)
  simpa using this
theorem WInv.put (h : WInv δ δ' p q n k l ws i a) (ha : a < l) (hx : δ ((ws.getD i []).foldl δ p) a < n) (hy : δ' ((ws.getD i []).foldl δ' q) a < k) (hnew : ∀ u, u ∈ ws → cod k δ δ' p q u ≠ δ ((ws.getD i []).foldl δ p) a * k + δ' ((ws.getD i []).foldl δ' q) a) :
    WInv δ δ' p q n k l (ws ++ [ws.getD i [] ++ [a]]) i (a + 1) := by
  have e : cod k δ δ' p q (ws.getD i [] ++ [a]) = δ ((ws.getD i []).foldl δ p) a * k + δ' ((ws.getD i []).foldl δ' q) a := by
    unfold cod; rw [List.foldl_append, List.foldl_append]; rfl
  refine ⟨h.trail.put ha, ?_, fun u hu => ?_, fun j hj => ?_⟩
  · rw [List.map_append, List.nodup_append]
    refine ⟨h.nd, by simp, fun x hx y hy => ?_⟩
    obtain ⟨u, hu, rfl⟩ := List.mem_map.1 hx
    simp only [List.map_cons, List.map_nil, List.mem_singleton] at hy
    rw [hy, e]
    exact hnew u hu
  · rcases List.mem_append.1 hu with hu | hu
    · exact h.lt u hu
    · simp only [List.mem_singleton] at hu
      subst hu
      rw [List.foldl_append, List.foldl_append]
      exact ⟨hx, hy⟩
  · have hi := h.trail.walk.len
    by_cases e2 : j < ws.length
    · rw [getD_appL _ e2]; exact h.long j e2
    · have e3 : j = ws.length := by simp at hj; omega
      subst e3
      rw [getD_last, List.length_append, List.length_singleton]
      have := h.long i hi
      omega
theorem WInv.skip (h : WInv δ δ' p q n k l ws i a) (hy : δ' ((ws.getD i []).foldl δ' q) a < k) (hold : ∃ u, u ∈ ws ∧ cod k δ δ' p q u = δ ((ws.getD i []).foldl δ p) a * k + δ' ((ws.getD i []).foldl δ' q) a) :
    WInv δ δ' p q n k l ws i (a + 1) := by
  obtain ⟨u, hu, e⟩ := hold
  obtain ⟨e1, e2⟩ := cod_inj (h.lt u hu).2 hy e
  exact ⟨h.trail.skip ⟨u, hu, by simp only [List.foldl_append, e1, e2]; rfl⟩, h.nd, h.lt, h.long⟩
theorem WInv.next (h : WInv δ δ' p q n k l ws i l) (hi : i + 1 < ws.length) : WInv δ δ' p q n k l ws (i + 1) 0 := ⟨h.trail.next hi, h.nd, h.lt, h.long⟩
end

/-- All pairs, each by its first word. -/
structure WEnd (δ δ' : Nat → Nat → Nat) (p q n k l : Nat) (ws : List (List Nat)) : Prop where
  trail : TrailEnd (fun u => (u.foldl δ p, u.foldl δ' q)) l ws
  lt : ∀ u, u ∈ ws → u.foldl δ p < n ∧ u.foldl δ' q < k
  long : ∀ j, j < ws.length → (ws.getD j []).length ≤ j
  len : ws.length ≤ n * k
theorem WInv.over {δ δ' : Nat → Nat → Nat} {p q n k l : Nat} {ws : List (List Nat)} {i : Nat} (h : WInv δ δ' p q n k l ws i l) (hi : i + 1 = ws.length) : WEnd δ δ' p q n k l ws := ⟨h.trail.over hi, h.lt, h.long, h.len⟩

end Go.Proofs.Ytnlcbnninlegiaa
