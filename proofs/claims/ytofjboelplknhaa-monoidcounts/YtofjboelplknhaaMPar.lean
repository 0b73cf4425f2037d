/- Words that are come to: each goes on from an earlier one. -/
import Derived.Test.YtofjboelplknhaaMSkB
namespace Go.Proofs.Ytofjboelplknhaa
open Go.RowKit
set_option linter.unusedVariables false

/-- Each word that is come to goes on from an earlier one. -/
theorem parW_ex (κ : List Nat → Nat) (l k : Nat) : ∃ ss, ParW (bfsW κ l k) ss := by
  induction k with
  | zero => exact ⟨_, parW_start 0⟩
  | succ k ih =>
    obtain ⟨ss, hp⟩ := ih
    simp only [bfsW]
    split
    · next hlt =>
      have key : ∀ a, ∃ ss', ParW (rowW κ ((bfsW κ l k).getD k []) a (bfsW κ l k)) ss' := by
        intro a
        induction a with
        | zero => exact ⟨ss, hp⟩
        | succ a iha =>
          obtain ⟨ss', hp'⟩ := iha
          simp only [rowW, addW]
          split
          · exact ⟨ss', hp'⟩
          · obtain ⟨zs, e⟩ := rowW_more (κ := κ) ((bfsW κ l k).getD k []) a (bfsW κ l k)
            have h1 := hp'.snoc (p := k) (a := a) (c := 0) (by rw [e, List.length_append]; omega)
            rw [e, getDL_app _ hlt, ← e] at h1
            exact ⟨_, h1⟩
      exact key l
    · exact ⟨ss, hp⟩
/-- No word is longer than its place. -/
theorem parW_long {ws : List (List Nat)} {ss : List Stp} (h : ParW ws ss) : ∀ i, i < ws.length → (ws.getD i []).length ≤ i := by
  intro i
  induction i using Nat.strongRecOn with
  | ind i ih =>
    intro hi
    obtain ⟨s, _, h1⟩ := h.2 i hi
    rcases h1 with ⟨h1, _⟩ | ⟨p, hp, _, h1⟩
    · rw [h1]; simp
    · have := ih p hp (by omega)
      rw [h1, List.length_append, List.length_singleton]; omega
/-- None of them is long. -/
theorem bfs_short {δ : Nat → Nat → Nat} {n l i : Nat} (hn : n ≤ 5) (hδ : ∀ s a, s < n → a < l → δ s a < n) (hi : i < (bfsW (deed δ n) l i).length) : ((bfsW (deed δ n) l i).getD i []).length ≤ 4000 := by
  obtain ⟨ss, hp⟩ := parW_ex (deed δ n) l i
  have h1 := parW_long hp i hi
  have h2 := words_few (bfsW_nodup (κ := deed δ n) (l := l) i) (fun u hu => (deed_facts hn hδ u (bfsW_letters i u hu)).1)
  omega

end Go.Proofs.Ytofjboelplknhaa
