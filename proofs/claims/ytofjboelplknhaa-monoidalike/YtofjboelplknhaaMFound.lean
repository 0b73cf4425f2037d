/- Where two deeds part there is a word that leads to a state from which they do. -/
import Derived.Test.YtofjboelplknhaaMLang
import Derived.Test.YtofjboelplknhaaMLookA
namespace Go.Proofs.Ytofjboelplknhaa
open Go.RowKit
set_option linter.unusedVariables false

theorem alike_found {δ : Nat → Nat → Nat} {n l k : Nat} {us vs : List Nat} (hn : n ≤ 5) (hn1 : 1 ≤ n) (hδ : ∀ s a, s < n → a < l → δ s a < n) (hus : ∀ x, x ∈ us → x < l) (hvs : ∀ x, x ∈ vs → x < l) (hr : ∀ s, s < n → ∃ z : List Nat, (∀ b, b ∈ z → b < l) ∧ z.foldl δ 0 = s)
    (hend : EndW (deed δ n) l k) (hno : ∀ u, u ∈ bfsW (deed δ n) l k → parts (deed δ n us) (deed δ n vs) (deed δ n u) = false) : deed δ n us = deed δ n vs := by
  have fu := deed_facts hn hδ us hus
  have fv := deed_facts hn hδ vs hvs
  refine dg_inj fu.1 fv.1 fun s hs => ?_
  by_cases h : s < n
  · obtain ⟨z, hz, e⟩ := hr s h
    have hm := bfsW_all (κ := deed δ n) (fun u v a e => by rw [deed_snoc, deed_snoc, e]) hend z hz
    obtain ⟨u, hu, eu⟩ := List.mem_map.1 hm
    have h1 := hno u hu
    rw [eu] at h1
    unfold parts at h1
    have h2 : dg (deed δ n z) 0 = s := by rw [((deed_facts hn hδ z hz).2.1 0 (by omega)).1, e]
    rw [h2] at h1
    simpa using h1
  · rw [fu.2.2 s (by omega) hs, fv.2.2 s (by omega) hs]

end Go.Proofs.Ytofjboelplknhaa
