/- What Within answers, from what smallest says of the automaton of both. -/
import Derived.Test.YtppikfgfmlipmaaTrSmall
import Derived.Test.YtppikfgfmlipmaaTrWith
namespace Go.Proofs.Ytppikfgfmlipmaa
set_option linter.unusedVariables false

def WithIs (x y : Trs) (L : Nat) (T : List NodeI) (is : Bool) (er : Int) : Prop :=
  (er = 7 ∧ is = false ∧ T = [] ∧ (∃ t, Sep x y L t) ∧ ∀ t, Sep x y L t → 60 < t.size) ∨
  (er = 0 ∧ is = true ∧ T = [] ∧ ∀ t, ¬ Sep x y L t) ∨
  (er = 0 ∧ is = false ∧ treeF x.L T = 0 ∧ accTB x T = true ∧ accTB y T = false ∧ T.length ≤ 60 ∧ (∃ t, Sep x y L t ∧ t.size = T.length) ∧ ∀ t, Sep x y L t → T.length ≤ t.size)

theorem with_is {x y : Trs} {L N n : Nat} (hx : GoodT x) (hy : GoodT y) (hLx : x.L = L) (hLy : y.L = L) (hN : x.N = N) {N' : Nat} (hN' : y.N = N') {X : List Nat} (hX : Closed y.R L X) (hn : X.length = n) (ho : GoodT (othT y X L))
    {T : List NodeI} {m : Nat} (hm : m ≤ 62) (h : SmallIs (botR x.R (othT y X L).R n) (botM x.M (othT y X L).M) x.L T m) (he : SmallEx (botR x.R (othT y X L).R n) (botM x.M (othT y X L).M) m) :
    (m = 61 → T = [] ∧ WithIs x y L [] false 7) ∧ (m ≠ 61 → WithIs x y L T (decide (m = 62)) 0) := by
  have bd := both_der hx hy hLx hLy hN hN' hX hn ho
  rcases h with ⟨h1, ⟨h2, h2'⟩, h3, q, h4, h5, h6⟩ | ⟨h1, h2, h3⟩
  · refine ⟨fun e => by omega, fun _ => .inr (.inr ⟨rfl, decide_eq_false (by omega), ?_⟩)⟩
    subst h3
    have ht := grown_tree h6 hx.l1 hx.l4 h1
    have hg := goodNd_of_tree ht
    have hp := h6.pos
    have hac := grown_acc (x := bothT x (othT y X L) n) h6 h4 h5
    have hRx : InRu x.R L N := by have := hx.ru; rwa [hLx, hN] at this
    have hRy : InRu y.R L N' := by have := hy.ru; rwa [hLy, hN'] at this
    have hRo : InRu (othT y X L).R L n := by
      have := ho.ru
      have e1 : (othT y X L).L = L := hLy
      have e2 : (othT y X L).N = (n : Int) := by show (X.length : Int) = _; rw [hn]
      rwa [e1, e2] at this
    have hB := botR_in hRx hRo
    have hMx : x.M.length = N := by have := hx.m; omega
    have hMy : y.M.length = N' := by have := hy.m; omega
    have hMo : (othT y X L).M.length = n := by show (X.map (unmS y.M)).length = n; rw [List.length_map, hn]
    obtain ⟨t, ok, hs⟩ := tree_of (L := L) (T := T) (fun i hi => by have := hg.ok i hi; rwa [hLx] at this) (T.length - 1) (by omega)
    have a1 := acc_tree (x := bothT x (othT y X L) n) (L := L) (N := N * n) hB (by show (botM x.M (othT y X L).M).length ≤ _; rw [botM_len, hMx, hMo]; exact Nat.le_refl _) hs
    rw [hac] at a1
    have a2 := (both_marks hx hy hLx hLy hN hN' hX hn ho t ok).1 a1.symm
    have b1 := acc_tree (x := x) hRx (by omega) hs
    have b2 := acc_tree (x := y) hRy (by omega) hs
    refine ⟨ht, b1.trans a2.1, b2.trans a2.2, h1, ?_, ?_⟩
    · exact (bd T.length).1 h2
    · intro t' ht'
      obtain ⟨s, c1, c2, c3⟩ := (bd t'.size).2 ⟨t', ht', rfl⟩
      exact h2' s _ c1 c2 c3
  · subst h2
    refine ⟨fun e => ⟨rfl, .inl ⟨rfl, rfl, rfl, ?_, ?_⟩⟩, fun e => .inr (.inl ⟨rfl, decide_eq_true (by omega), rfl, ?_⟩)⟩
    · obtain ⟨s, c1, c2, k, c3⟩ := he.1 (by omega)
      obtain ⟨t, ht, _⟩ := (bd k).1 ⟨s, c1, c2, c3⟩
      exact ⟨t, ht⟩
    · intro t' ht'
      obtain ⟨s, c1, c2, c3⟩ := (bd t'.size).2 ⟨t', ht', rfl⟩
      exact h3 s _ c1 c2 c3
    · intro t' ht'
      obtain ⟨s, c1, c2, c3⟩ := (bd t'.size).2 ⟨t', ht', rfl⟩
      exact he.2 (by omega) s _ c1 c2 c3

end Go.Proofs.Ytppikfgfmlipmaa
