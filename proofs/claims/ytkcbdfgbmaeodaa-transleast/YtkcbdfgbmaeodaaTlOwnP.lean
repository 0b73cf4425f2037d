/- Rows of one's own, and words that lie elsewhere: they stay while the rows grow and are written into. -/
import Derived.Test.YtkcbdfgbmaeodaaLRow
import Derived.Test.YtkcbdfgbmaeodaaTnRows
namespace Go.Proofs.Ytkcbdfgbmaeodaa
open Go.RowKit
set_option linter.unusedVariables false

theorem ints_lt {w : World} {a : Option Addr} {zs : List Int} {y : Addr} (h : Ints w a zs) (hn : zs ≠ []) (hy : a = some y) : y.block < w.heap.size := by
  rcases h with h | ⟨b, off, h1, h2⟩
  · exact absurd h hn
  · rw [h1] at hy
    cases hy
    have h3 := h2 0 (List.length_pos_iff.2 hn)
    show b < _
    rcases Nat.lt_or_ge b w.heap.size with h4 | h4
    · exact h4
    · have e : w.heap[b]? = none := Array.getElem?_eq_none h4
      simp [World.cell?, e] at h3
theorem ints_far {w w' : World} {a : Option Addr} {zs : List Int} {b : Nat} (h : Ints w a zs) (hb : zs ≠ [] → ∀ y, a = some y → y.block ≠ b) (g : w.grownBy w' (some b)) : Ints w' a zs := by
  by_cases hn : zs = []
  · exact .inl hn
  · exact h.far (hb hn) g

/-- Rows of one's own, and words that lie in none of their blocks, nor between lo and hi. -/
structure OwnsP (B lo hi : Nat) (w : World) (its : List Item) (ps : List Trip) : Prop where
  own : Owns B w its
  lie : ∀ p, p ∈ ps → Ints w p.1 p.2.2
  apt : ∀ p, p ∈ ps → p.2.2 ≠ [] → ∀ y, p.1 = some y → (y.block < lo ∨ hi ≤ y.block) ∧ ∀ it, it ∈ its → it.2.1.ownBlock ≠ some y.block
section
variable {B lo hi : Nat} {w w' : World} {its r : List Item} {ps : List Trip} {e : TypeId} {v : Value} {xs : List Value}
theorem OwnsP.kept (h : OwnsP B lo hi w its ps) (g : w.grownBy w' none) : OwnsP B lo hi w' its ps := ⟨h.own.kept g, fun p hp => (h.lie p hp).grown g, h.apt⟩
theorem OwnsP.perm {its' : List Item} (h : OwnsP B lo hi w its ps) (p : its.Perm its') : OwnsP B lo hi w its' ps :=
  ⟨h.own.perm p, h.lie, fun q hq hn y hy => ⟨(h.apt q hq hn y hy).1, fun it hm => (h.apt q hq hn y hy).2 it (p.mem_iff.2 hm)⟩⟩
theorem OwnsP.sub {ps' : List Trip} (h : OwnsP B lo hi w its ps) (hs : ∀ p, p ∈ ps' → p ∈ ps) : OwnsP B lo hi w its ps' := ⟨h.own, fun p hp => h.lie p (hs p hp), fun p hp => h.apt p (hs p hp)⟩
theorem OwnsP.far {b : Nat} (h : OwnsP B lo hi w its ps) (g : w.grownBy w' (some b)) (hb : ∀ it, it ∈ its → it.2.1.ownBlock ≠ some b) (h1 : lo ≤ b) (h2 : b < hi) : OwnsP B lo hi w' its ps :=
  ⟨h.own.far g hb, fun p hp => ints_far (h.lie p hp) (fun hn y hy e => by have := (h.apt p hp hn y hy).1; omega) g, h.apt⟩
theorem OwnsP.below {b : Nat} (h : OwnsP B lo hi w its ps) (g : w.grownBy w' (some b)) (hb : b < B) (h1 : lo ≤ b) (h2 : b < hi) : OwnsP B lo hi w' its ps :=
  h.far g (fun it hm hc => by have := ((h.own.1 it hm).1.lt b hc).1; omega) h1 h2
theorem OwnsP.append {g n cap H : Nat} {news : List Value} (h : OwnsP B lo hi w ((e, v, xs) :: r) ps) (ho : w'.ownsRow B e 1 (.slice (some ⟨g, 0, none⟩) n cap) n (xs ++ news)) (hn : n = xs.length + news.length) (hg : w.grownBy w' v.ownBlock)
    (hat : v.ownBlock = some g ∨ g = H) (hH : w.heap.size = H) : OwnsP B lo hi w' ((e, .slice (some ⟨g, 0, none⟩) n cap, xs ++ news) :: r) ps := by
  refine ⟨h.own.append ho hn hg hat hH, fun p hp => ?_, fun p hp hne y hy => ?_⟩
  · cases hb : v.ownBlock with
    | none => rw [hb] at hg; exact (h.lie p hp).grown hg
    | some b =>
      rw [hb] at hg
      refine ints_far (h.lie p hp) (fun hne y hy e2 => ?_) hg
      exact (h.apt p hp hne y hy).2 (e, v, xs) (List.mem_cons_self) (by rw [e2]; exact hb)
  · obtain ⟨h1, h2⟩ := h.apt p hp hne y hy
    refine ⟨h1, fun it hm => ?_⟩
    rcases List.mem_cons.1 hm with rfl | hm
    · intro e2
      have e3 : g = y.block := by simpa [Value.ownBlock] using e2
      rcases hat with h3 | h3
      · exact h2 (e, v, xs) (List.mem_cons_self) (by rw [← e3]; exact h3)
      · have := ints_lt (h.lie p hp) hne hy
        omega
    · exact h2 it (List.mem_cons_of_mem _ hm)
theorem OwnsP.made {arr : Array Value} {n : Nat} (h : OwnsP B lo hi w r ps) (hB : B ≤ w.heap.size) (e : TypeId) (hn : arr.size = n) (hm : n ≤ maxLen) : OwnsP B lo hi (w.alloc (.cells arr e)) ((e, .slice (some ⟨w.heap.size, 0, none⟩) n n, arr.toList) :: r) ps := by
  refine ⟨h.own.made hB e hn hm, fun p hp => (h.lie p hp).grown (grown_alloc _ _), fun p hp hne y hy => ?_⟩
  obtain ⟨h1, h2⟩ := h.apt p hp hne y hy
  refine ⟨h1, fun it hmm => ?_⟩
  rcases List.mem_cons.1 hmm with rfl | hmm
  · intro e2
    have e3 : w.heap.size = y.block := by simpa [Value.ownBlock] using e2
    have := ints_lt (h.lie p hp) hne hy
    omega
  · exact h2 it hmm
theorem OwnsP.set {g n cap i : Nat} (h : OwnsP B lo hi w ((e, .slice (some ⟨g, 0, none⟩) n cap, xs) :: r) ps) (hi' : i < n) (u : Value) : OwnsP B lo hi (w.setCell ⟨g, i, none⟩ u) ((e, .slice (some ⟨g, 0, none⟩) n cap, xs.set i u) :: r) ps := by
  refine ⟨h.own.set hi' u, fun p hp => ints_far (h.lie p hp) (fun hne y hy e2 => ?_) (grown_set w ⟨g, i, none⟩ u), fun p hp hne y hy => ?_⟩
  · exact (h.apt p hp hne y hy).2 _ (List.mem_cons_self) (by rw [e2]; rfl)
  · obtain ⟨h1, h2⟩ := h.apt p hp hne y hy
    refine ⟨h1, fun it hm => ?_⟩
    rcases List.mem_cons.1 hm with rfl | hm
    · exact h2 (e, .slice (some ⟨g, 0, none⟩) n cap, xs) (List.mem_cons_self)
    · exact h2 it (List.mem_cons_of_mem _ hm)
/-- A word is told. -/
theorem OwnsP.word {a : Option Addr} {zs : List Int} (h : OwnsP B lo hi w its ps) (hlo : lo ≤ B) (hhi : hi ≤ w.heap.size) (g : w.grownBy w' none) (hz : Ints w' a zs) (hnew : zs ≠ [] → ∀ y, a = some y → y.block < lo ∨ w.heap.size ≤ y.block) (c : Nat) : OwnsP B lo hi w' its ((a, c, zs) :: ps) := by
  refine ⟨h.own.kept g, fun p hp => ?_, fun p hp hne y hy => ?_⟩
  · rcases List.mem_cons.1 hp with rfl | hp
    · exact hz
    · exact (h.lie p hp).grown g
  · rcases List.mem_cons.1 hp with rfl | hp
    · have h1 := hnew hne y hy
      refine ⟨by omega, fun it hm e2 => ?_⟩
      have := (h.own.1 it hm).1.lt _ e2
      omega
    · exact h.apt p hp hne y hy
end

end Go.Proofs.Ytkcbdfgbmaeodaa
