/- Words in the order in which they are come to: the steps of whoever goes through them. -/
import Derived.Test.YtofjboelplknhaaMSk
namespace Go.Proofs.Ytofjboelplknhaa
open Go.RowKit
set_option linter.unusedVariables false

/-- All words ahead of the k-th are gone through. -/
structure OutB (κ : List Nat → Nat) (l : Nat) (v : Nat → Bool) (k : Nat) (ws : List (List Nat)) (ss : List Stp) : Prop where
  is : bfsW κ l k = ws
  le : k ≤ ws.length
  go : ∀ j, j < k → j < (bfsW κ l j).length
  no : ∀ j, j < k → v (κ (ws.getD j [])) = false
  par : ParW ws ss
  cod : ss.map (·.1) = ws.map κ
/-- .. and of the k-th those with a letter ahead of x behind. -/
structure InB (κ : List Nat → Nat) (l : Nat) (v : Nat → Bool) (k x : Nat) (u : List Nat) (ws : List (List Nat)) (ss : List Stp) : Prop where
  lt : k < (bfsW κ l k).length
  it : (bfsW κ l k).getD k [] = u
  is : rowW κ u x (bfsW κ l k) = ws
  go : ∀ j, j < k → j < (bfsW κ l j).length
  no : ∀ j, j < k + 1 → v (κ ((bfsW κ l k).getD j [])) = false
  par : ParW ws ss
  cod : ss.map (·.1) = ws.map κ
section
variable {κ : List Nat → Nat} {l k x : Nat} {v : Nat → Bool} {ws : List (List Nat)} {ss : List Stp} {u : List Nat}
theorem OutB.start (c : Nat) (hc : κ [] = c) : OutB κ l v 0 [[]] [(c, -1, 0)] := ⟨rfl, by simp, fun j hj => by omega, fun j hj => by omega, parW_start c, by simp [hc]⟩
theorem OutB.len (h : OutB κ l v k ws ss) : ss.length = ws.length := h.par.1
theorem OutB.at (h : OutB κ l v k ws ss) (hk : k < ws.length) : ∃ s, ss[k]? = some s ∧ s.1 = κ (ws.getD k []) := by
  obtain ⟨s, hs, _⟩ := h.par.2 k hk
  refine ⟨s, hs, ?_⟩
  have h1 : (ss.map (·.1))[k]? = (ws.map κ)[k]? := by rw [h.cod]
  rw [List.getElem?_map, List.getElem?_map, hs, List.getElem?_eq_getElem hk] at h1
  simp only [Option.map_some, Option.some.injEq] at h1
  rw [h1]; simp [List.getD, hk]
theorem OutB.row (h : OutB κ l v k ws ss) (hk : k < ws.length) (hv : v (κ (ws.getD k [])) = false) : InB κ l v k 0 (ws.getD k []) ws ss := by
  have e := h.is
  refine ⟨by rw [e]; exact hk, by rw [e], by rw [e]; rfl, h.go, fun j hj => ?_, h.par, h.cod⟩
  rw [e]
  by_cases e1 : j = k
  · subst e1; exact hv
  · exact h.no j (by omega)
theorem InB.pre (h : InB κ l v k x u ws ss) : ∃ zs, ws = bfsW κ l k ++ zs := by
  obtain ⟨zs, e⟩ := rowW_more (κ := κ) u x (bfsW κ l k)
  exact ⟨zs, by rw [← h.is]; exact e⟩
theorem InB.at (h : InB κ l v k x u ws ss) : k < ws.length ∧ ws.getD k [] = u ∧ ∃ s, ss[k]? = some s ∧ s.1 = κ u := by
  obtain ⟨zs, e⟩ := h.pre
  have hk : k < ws.length := by rw [e, List.length_append]; have := h.lt; omega
  have hu : ws.getD k [] = u := by rw [e, getDL_app _ h.lt]; exact h.it
  refine ⟨hk, hu, ?_⟩
  obtain ⟨s, hs, _⟩ := h.par.2 k hk
  refine ⟨s, hs, ?_⟩
  have h1 : (ss.map (·.1))[k]? = (ws.map κ)[k]? := by rw [h.cod]
  rw [List.getElem?_map, List.getElem?_map, hs, List.getElem?_eq_getElem hk] at h1
  simp only [Option.map_some, Option.some.injEq] at h1
  rw [h1, ← hu]; simp [List.getD, hk]
theorem InB.nodup (h : InB κ l v k x u ws ss) : (ws.map κ).Nodup := by rw [← h.is]; exact rowW_nodup (bfsW_nodup k) _ _
theorem InB.letters (h : InB κ l v k x u ws ss) (hx : x ≤ l) : (∀ y, y ∈ u → y < l) ∧ ∀ z, z ∈ ws → ∀ y, y ∈ z → y < l := by
  have h1 : ∀ y, y ∈ u → y < l := by rw [← h.it]; exact bfsW_letters k _ (getDL_mem h.lt)
  exact ⟨h1, by rw [← h.is]; exact rowW_letters (bfsW_letters k) h1 hx⟩
theorem InB.old (h : InB κ l v k x u ws ss) (hm : κ (u ++ [x]) ∈ ws.map κ) : InB κ l v k (x + 1) u ws ss := by
  refine ⟨h.lt, h.it, ?_, h.go, h.no, h.par, h.cod⟩
  simp only [rowW]
  rw [h.is]
  unfold addW
  rw [if_pos hm]
theorem InB.new (h : InB κ l v k x u ws ss) (hm : κ (u ++ [x]) ∉ ws.map κ) : InB κ l v k (x + 1) u (ws ++ [u ++ [x]]) (ss ++ [(κ (u ++ [x]), (k : Int), x)]) := by
  obtain ⟨hk, hu, _⟩ := h.at
  refine ⟨h.lt, h.it, ?_, h.go, h.no, ?_, by simp [h.cod]⟩
  · simp only [rowW]
    rw [h.is]
    unfold addW
    rw [if_neg hm]
  · have := h.par.snoc (a := x) (c := κ (u ++ [x])) hk
    rw [hu] at this
    exact this
theorem InB.done (h : InB κ l v k l u ws ss) : OutB κ l v (k + 1) ws ss := by
  obtain ⟨hk, _⟩ := h.at
  obtain ⟨zs, e⟩ := h.pre
  refine ⟨?_, hk, fun j hj => ?_, fun j hj => ?_, h.par, h.cod⟩
  · simp only [bfsW]
    rw [if_pos h.lt, h.it]
    exact h.is
  · by_cases e1 : j = k
    · subst e1; exact h.lt
    · exact h.go j (by omega)
  · rw [e, getDL_app _ (by have := h.lt; omega)]
    exact h.no j hj
theorem OutB.fin (h : OutB κ l v k ws ss) (hk : k = ws.length) : EndW κ l k := ⟨by rw [h.is]; exact hk.symm, h.go⟩
theorem OutB.nodup (h : OutB κ l v k ws ss) : (ws.map κ).Nodup := by rw [← h.is]; exact bfsW_nodup k
theorem OutB.letters (h : OutB κ l v k ws ss) : ∀ z, z ∈ ws → ∀ y, y ∈ z → y < l := by rw [← h.is]; exact bfsW_letters k
end

end Go.Proofs.Ytofjboelplknhaa
