/- Words in their order, each leading where none before it led (no program). -/
import Derived.Test.YtnlcbnninlegiaaLApart
namespace Go.Proofs.Ytnlcbnninlegiaa
set_option linter.unusedVariables false

/-- A walk through words in their order; a word is left out where one ahead of it leads to the same. -/
structure Trail {K : Type} (key : List Nat → K) (l : Nat) (ws : List (List Nat)) (i a : Nat) : Prop where
  walk : Walk (fun _ => false) l ws i a
  done : ∀ j b, j < ws.length → (j < i ∧ b < l) ∨ (j = i ∧ b < a) → (ws.getD j [] ++ [b] ∈ ws) ∨ ∃ u, u ∈ ws ∧ num l u < num l (ws.getD j [] ++ [b]) ∧ key u = key (ws.getD j [] ++ [b])

section
variable {K : Type} {key : List Nat → K} {l : Nat} {ws : List (List Nat)} {i a : Nat}
theorem Trail.start (key : List Nat → K) (l : Nat) : Trail key l [[]] 0 0 := ⟨Walk.start _ _, fun j b _ h => by omega⟩
theorem Trail.put (h : Trail key l ws i a) (ha : a < l) : Trail key l (ws ++ [ws.getD i [] ++ [a]]) i (a + 1) := by
  have hi := h.walk.len
  refine ⟨h.walk.put ha, fun j b hj hc => ?_⟩
  by_cases e : j < ws.length
  · rw [getD_appL _ e]
    by_cases e2 : j = i ∧ b = a
    · obtain ⟨rfl, rfl⟩ := e2
      left; simp
    · rcases h.done j b e (by omega) with h1 | ⟨u, h1, h2⟩
      · left; exact List.mem_append_left _ h1
      · right; exact ⟨u, List.mem_append_left _ h1, h2⟩
  · omega
theorem Trail.skip (h : Trail key l ws i a) (hp : ∃ u, u ∈ ws ∧ key u = key (ws.getD i [] ++ [a])) : Trail key l ws i (a + 1) := by
  refine ⟨h.walk.skip (fun _ _ _ => rfl), fun j b hj hc => ?_⟩
  by_cases e2 : j = i ∧ b = a
  · obtain ⟨rfl, rfl⟩ := e2
    obtain ⟨u, h1, h2⟩ := hp
    right
    refine ⟨u, h1, ?_, h2⟩
    have := h.walk.top u h1
    rw [num_snoc]; omega
  · exact h.done j b hj (by omega)
theorem Trail.next (h : Trail key l ws i l) (hi : i + 1 < ws.length) : Trail key l ws (i + 1) 0 :=
  ⟨h.walk.next rfl hi, fun j b hj hc => h.done j b hj (by omega)⟩
/-- The whole of it. -/
structure TrailEnd {K : Type} (key : List Nat → K) (l : Nat) (ws : List (List Nat)) : Prop where
  len : 0 < ws.length
  zero : ws.getD 0 [] = []
  low : ∀ u, u ∈ ws → ∀ x, x ∈ u → x < l
  inc : ∀ j j', j < j' → j' < ws.length → num l (ws.getD j []) < num l (ws.getD j' [])
  done : ∀ j b, j < ws.length → b < l → (ws.getD j [] ++ [b] ∈ ws) ∨ ∃ u, u ∈ ws ∧ num l u < num l (ws.getD j [] ++ [b]) ∧ key u = key (ws.getD j [] ++ [b])
theorem Trail.over (h : Trail key l ws i l) (hi : i + 1 = ws.length) : TrailEnd key l ws :=
  ⟨by omega, h.walk.zero, h.walk.low, h.walk.inc, fun j b hj hb => h.done j b hj (by omega)⟩
variable {T : List Nat → Bool}
theorem TrailEnd.proc (h : TrailEnd key l ws) (hT : ∀ u u' v, key u = key u' → T (u ++ v) = T (u' ++ v)) (j b : Nat) (hj : j < ws.length) (hb : b < l) :
    (ws.getD j [] ++ [b] ∈ ws) ∨ ∀ v, (∀ x, x ∈ v → x < l) → (∀ u, u ∈ ws → num l u < num l (ws.getD j [] ++ [b]) → T (u ++ v) = false) → T (ws.getD j [] ++ [b] ++ v) = false := by
  rcases h.done j b hj hb with h1 | ⟨u, h1, h2, h3⟩
  · exact .inl h1
  · exact .inr fun v _ hv => by rw [← hT _ _ v h3]; exact hv u h1 h2
theorem TrailEnd.first (h : TrailEnd key l ws) (hl : 1 ≤ l) (hT : ∀ u u' v, key u = key u' → T (u ++ v) = T (u' ++ v)) {e : Nat} (he : e < ws.length) (h1 : T (ws.getD e []) = true) (h0 : ∀ j, j < e → T (ws.getD j []) = false) : FirstOf T l (ws.getD e []) true := by
  refine ⟨h.low _ (getD_memL he), .inl ⟨rfl, h1, fun z hz ht => ?_⟩⟩
  rcases Nat.lt_or_ge (num l z) (num l (ws.getD e [])) with hc | hc
  · have := walk_none (e := e) hl h.zero h.len h.low (fun j b hj hje hb => h.proc hT j b hj hb) (fun j hj _ => h0 j hj) _ z rfl hz (fun j hj hle => by
      rcases Nat.lt_or_ge j e with h2 | h2
      · exact h2
      · exfalso
        rcases Nat.eq_or_lt_of_le h2 with h3 | h3
        · subst h3; omega
        · have := h.inc e j h3 hj; omega)
    rw [this] at ht; cases ht
  · exact hc
theorem TrailEnd.none (h : TrailEnd key l ws) (hl : 1 ≤ l) (hT : ∀ u u' v, key u = key u' → T (u ++ v) = T (u' ++ v)) (h0 : ∀ j, j < ws.length → T (ws.getD j []) = false) : FirstOf T l [] false :=
  ⟨by simp, .inr ⟨rfl, rfl, fun z hz => walk_none (e := ws.length) hl h.zero h.len h.low (fun j b hj hje hb => h.proc hT j b hj hb) (fun j hj _ => h0 j hj) _ z rfl hz (fun j hj _ => hj)⟩⟩
end

/-- What tells pairs: two automata. -/
def tell2 (δ δ' : Nat → Nat → Nat) (m m' : Nat → Bool) (p q : Nat) (z : List Nat) : Bool := m (z.foldl δ p) != m' (z.foldl δ' q)
theorem tell2_key (δ δ' : Nat → Nat → Nat) (m m' : Nat → Bool) (p q : Nat) (u u' v : List Nat) (h : (u.foldl δ p, u.foldl δ' q) = (u'.foldl δ p, u'.foldl δ' q)) : tell2 δ δ' m m' p q (u ++ v) = tell2 δ δ' m m' p q (u' ++ v) := by
  simp only [Prod.mk.injEq] at h
  unfold tell2
  rw [List.foldl_append, List.foldl_append, List.foldl_append, List.foldl_append, h.1, h.2]

end Go.Proofs.Ytnlcbnninlegiaa
