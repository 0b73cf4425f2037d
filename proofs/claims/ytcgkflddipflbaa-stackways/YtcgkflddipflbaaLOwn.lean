/- Rows that a call has made, no two in one block: how they grow, are written into, and stay. -/
import Derived.Test.YtcgkflddipflbaaGrow
import Derived.Lib.SmallJoins
namespace Go.Proofs.Ytcgkflddipflbaa
open Go.RowKit
set_option linter.unusedVariables false

theorem ownsRow_base {B B' n size : Nat} {w : World} {e : TypeId} {v : Value} {xs : List Value} (h : w.ownsRow B e size v n xs) (hB : B' ≤ B) : w.ownsRow B' e size v n xs := by
  obtain ⟨h1, h2⟩ := h
  refine ⟨h1, ?_⟩
  rcases h2 with h2 | ⟨g, cap, cur, h3, h4, h5⟩
  · exact .inl h2
  · exact .inr ⟨g, cap, cur, h3, Nat.le_trans hB h4, h5⟩
/-- An element's type, a slice, what lies in it. -/
abbrev Item := TypeId × Value × List Value
def OwnsI (B : Nat) (w : World) (it : Item) : Prop := w.ownsRow B it.1 1 it.2.1 it.2.2.length it.2.2 ∧ ∃ a c, it.2.1 = .slice a it.2.2.length c
def Apart (u v : Value) : Prop := u.ownBlock = none ∨ v.ownBlock = none ∨ u.ownBlock ≠ v.ownBlock
theorem Apart.symm {u v : Value} (h : Apart u v) : Apart v u := by
  rcases h with h | h | h
  · exact .inr (.inl h)
  · exact .inl h
  · exact .inr (.inr (Ne.symm h))
/-- All of these are one's own, from block B on, no two in one block. -/
def Owns (B : Nat) (w : World) (its : List Item) : Prop := (∀ it, it ∈ its → OwnsI B w it) ∧ its.Pairwise (fun p q => Apart p.2.1 q.2.1)

section
variable {B : Nat} {w w' : World} {its r : List Item} {e : TypeId} {v : Value} {xs : List Value}

theorem Owns.perm {its' : List Item} (h : Owns B w its) (p : its.Perm its') : Owns B w its' :=
  ⟨fun it hm => h.1 it (p.mem_iff.2 hm), (p.pairwise_iff (fun {a b} (hab : Apart a.2.1 b.2.1) => hab.symm)).1 h.2⟩
theorem Owns.no (B : Nat) (w : World) : Owns B w [] := ⟨fun _ h => by simp at h, List.Pairwise.nil⟩
theorem Owns.empty (h : Owns B w r) (e : TypeId) : Owns B w ((e, .slice none 0 0, []) :: r) := by
  refine ⟨fun it hm => ?_, List.Pairwise.cons (fun q _ => .inl rfl) h.2⟩
  rcases List.mem_cons.1 hm with rfl | hm
  · exact ⟨World.ownsRow_nil w B e 1, _, _, rfl⟩
  · exact h.1 it hm
theorem Owns.kept (h : Owns B w its) (hg : w.grownBy w' none) : Owns B w' its :=
  ⟨fun it hm => ⟨(h.1 it hm).1.kept hg (by cases it.2.1.ownBlock <;> simp), (h.1 it hm).2⟩, h.2⟩
/-- Another block has turned. -/
theorem Owns.far {b : Nat} (h : Owns B w its) (hg : w.grownBy w' (some b)) (hb : ∀ it, it ∈ its → it.2.1.ownBlock ≠ some b) : Owns B w' its :=
  ⟨fun it hm => ⟨(h.1 it hm).1.kept hg (.inr (hb it hm)), (h.1 it hm).2⟩, h.2⟩
theorem Owns.below {b : Nat} (h : Owns B w its) (hg : w.grownBy w' (some b)) (hb : b < B) : Owns B w' its :=
  h.far hg (fun it hm hc => by have := ((h.1 it hm).1.lt b hc).1; omega)
/-- A block that is no row of cells of that kind. -/
theorem Owns.other {b : Nat} {o : Obj} (h : Owns B w its) (ho : w.heap[b]? = some o) (hne : ∀ c t f, o ≠ .cells c t f) : ∀ it, it ∈ its → it.2.1.ownBlock ≠ some b := by
  intro it hm hc
  obtain ⟨⟨_, h2⟩, _⟩ := h.1 it hm
  rcases h2 with ⟨e, _⟩ | ⟨g, cap, cur, e, _, hh, _⟩
  · rw [e] at hc; cases hc
  · rw [e] at hc
    have : g = b := by simpa [Value.ownBlock] using hc
    subst this
    rw [hh] at ho
    exact hne _ _ _ (Option.some.inj ho).symm
theorem Owns.tail (h : Owns B w ((e, v, xs) :: r)) : Owns B w r := ⟨fun it hm => h.1 it (List.mem_cons_of_mem _ hm), (List.pairwise_cons.1 h.2).2⟩
theorem Owns.head (h : Owns B w ((e, v, xs) :: r)) : OwnsI B w (e, v, xs) := h.1 _ (by simp)
theorem Owns.row (h : Owns B w ((e, v, xs) :: r)) : w.ownsRow B e 1 v xs.length xs := h.head.1
/-- What was old stays, where the first has grown. -/
theorem Owns.frame {w0 : World} (h : Owns B w ((e, v, xs) :: r)) (hB : w0.heap.size ≤ B) (h1 : w0.grownBy w none) (h2 : w.grownBy w' v.ownBlock) : w0.grownBy w' none :=
  grown_of_below ((below_of_grown h1).grown h2 h1.size (fun k hk => Nat.le_trans hB (h.row.lt k hk).1))
theorem Owns.old {b : Nat} {o : Option Obj} (h : Owns B w ((e, v, xs) :: r)) (hb : b < B) (hlt : b < w.heap.size) (h2 : w.grownBy w' v.ownBlock) (ho : w.heap[b]? = o) : w'.heap[b]? = o :=
  (h2.block b hlt (fun hc => by have := (h.row.lt b hc.symm).1; omega)).trans ho
/-- The first has grown by an append. -/
theorem Owns.append {g n cap H : Nat} {news : List Value} (h : Owns B w ((e, v, xs) :: r)) (ho : w'.ownsRow B e 1 (.slice (some ⟨g, 0, none⟩) n cap) n (xs ++ news)) (hn : n = xs.length + news.length) (hg : w.grownBy w' v.ownBlock)
    (hat : v.ownBlock = some g ∨ g = H) (hH : w.heap.size = H) : Owns B w' ((e, .slice (some ⟨g, 0, none⟩) n cap, xs ++ news) :: r) := by
  have hn' : (xs ++ news).length = n := by simp [hn]
  obtain ⟨hp, hr⟩ := List.pairwise_cons.1 h.2
  refine ⟨fun it hm => ?_, List.Pairwise.cons (fun q hq => ?_) hr⟩
  · rcases List.mem_cons.1 hm with rfl | hm
    · exact ⟨by rw [hn']; exact ho, _, _, by rw [hn']⟩
    · have hi := h.1 it (List.mem_cons_of_mem _ hm)
      refine ⟨hi.1.kept hg ?_, hi.2⟩
      rcases hp it hm with h1 | h1 | h1
      · rw [h1]; cases it.2.1.ownBlock <;> simp
      · exact .inl h1
      · exact .inr (Ne.symm h1)
  · have hi := h.1 q (List.mem_cons_of_mem _ hq)
    rcases hat with h1 | h1
    · rcases hp q hq with h2 | h2 | h2
      · rw [h1] at h2; cases h2
      · exact .inr (.inl h2)
      · exact .inr (.inr (by rw [h1] at h2; exact h2))
    · cases hq2 : q.2.1.ownBlock with
      | none => exact .inr (.inl hq2)
      | some b =>
        refine .inr (.inr ?_)
        rw [hq2]
        have := (hi.1.lt b hq2).2
        simp [Value.ownBlock]
        omega
/-- A new row. -/
theorem Owns.made {arr : Array Value} {n : Nat} (h : Owns B w r) (hB : B ≤ w.heap.size) (e : TypeId) (hn : arr.size = n) (hm : n ≤ maxLen) : Owns B (w.alloc (.cells arr e)) ((e, .slice (some ⟨w.heap.size, 0, none⟩) n n, arr.toList) :: r) := by
  have hb := heap_alloc_new w (.cells arr e)
  have hlen : arr.toList.length = n := by simpa using hn
  refine ⟨fun it hmm => ?_, List.Pairwise.cons (fun q hq => ?_) h.2⟩
  · rcases List.mem_cons.1 hmm with rfl | hmm
    · refine ⟨⟨by simp, .inr ⟨w.heap.size, n, arr, by rw [hlen], hB, hb, by rw [hlen]; exact Nat.le_refl _, hm, by omega, ?_⟩⟩, _, _, by rw [hlen]⟩
      rw [hlen, Nat.mul_one, ← hlen, List.take_length]
    · exact (h.kept (grown_alloc _ _)).1 it hmm
  · cases hq2 : q.2.1.ownBlock with
    | none => exact .inr (.inl hq2)
    | some b =>
      refine .inr (.inr ?_)
      rw [hq2]
      have := ((h.1 q hq).1.lt b hq2).2
      simp [Value.ownBlock]
      omega
/-- Where the first lies. -/
theorem Owns.form (h : Owns B w ((e, v, xs) :: r)) (hx : 0 < xs.length) : ∃ g cap, v = .slice (some ⟨g, 0, none⟩) xs.length cap ∧ B ≤ g ∧ g < w.heap.size ∧ ∀ k, w.frozen? ⟨g, k, none⟩ = false := by
  obtain ⟨_, h2⟩ := h.row
  rcases h2 with ⟨_, e0⟩ | ⟨g, cap, cur, e1, hB, hh, _⟩
  · omega
  · exact ⟨g, cap, e1, hB, (Array.getElem?_eq_some_iff.1 hh).1, fun k => frozen_of_row w g k _ _ hh⟩
theorem addr_add (g i : Nat) : (⟨g, 0, none⟩ : Addr).add i = ⟨g, i, none⟩ := by
  by_cases hi0 : i = 0
  · subst hi0; simp [Addr.add]
  · simp [Addr.add, hi0]
theorem Owns.cell {g n cap i : Nat} {u : Value} (h : Owns B w ((e, .slice (some ⟨g, 0, none⟩) n cap, xs) :: r)) (hu : xs[i]? = some u) : w.cell? ⟨g, i, none⟩ = some u := by
  have := h.row.cells (g := g) rfl i u hu
  rwa [addr_add] at this
theorem Owns.fz {g n cap : Nat} (h : Owns B w ((e, .slice (some ⟨g, 0, none⟩) n cap, xs) :: r)) (k : Nat) : w.frozen? ⟨g, k, none⟩ = false := by
  obtain ⟨_, h2⟩ := h.row
  rcases h2 with ⟨e0, _⟩ | ⟨g', cap', cur, e1, hB, hh, _⟩
  · cases e0
  · cases e1; exact frozen_of_row w g k _ _ hh
theorem Owns.len {a : Option Addr} {n cap : Nat} (h : Owns B w ((e, .slice a n cap, xs) :: r)) : n = xs.length := by
  obtain ⟨_, a', c', e1⟩ := h.head
  simp at e1
  exact e1.2.1
/-- The first is written into. -/
theorem Owns.set {g n cap i : Nat} (h : Owns B w ((e, .slice (some ⟨g, 0, none⟩) n cap, xs) :: r)) (hi : i < n) (u : Value) : Owns B (w.setCell ⟨g, i, none⟩ u) ((e, .slice (some ⟨g, 0, none⟩) n cap, xs.set i u) :: r) := by
  have hn := h.len
  obtain ⟨hp, hr⟩ := List.pairwise_cons.1 h.2
  refine ⟨fun it hm => ?_, List.Pairwise.cons (fun q hq => hp q hq) hr⟩
  rcases List.mem_cons.1 hm with rfl | hm
  · obtain ⟨h1, h2⟩ := h.row
    rcases h2 with ⟨e0, _⟩ | ⟨g', cap', cur, e1, hB, hh, h5, h6, h7, h8⟩
    · cases e0
    · cases e1
      have hs := heap_setCell_same w g i cur e u hh
      refine ⟨⟨by simp, .inr ⟨g, cap, _, by simp, hB, hs, by simpa using h5, h6, by simpa using h7, ?_⟩⟩, some ⟨g, 0, none⟩, cap, by simp⟩
      simp only [List.length_set, Nat.mul_one] at h8 ⊢
      rw [Array.toList_setIfInBounds, List.take_set, h8]
  · have hi2 := h.1 it (List.mem_cons_of_mem _ hm)
    refine ⟨hi2.1.kept (grown_set w ⟨g, i, none⟩ u) ?_, hi2.2⟩
    rcases hp it hm with h1 | h1 | h1
    · cases h1
    · exact .inl h1
    · exact .inr (by simpa [Value.ownBlock] using Ne.symm h1)
end

/-- Numbers as a row's content. -/
abbrev vals (zs : List Int) : List Value := zs.map (Value.int .i64)
theorem vals_get {zs : List Int} {i : Nat} (h : i < zs.length) : (vals zs)[i]? = some (.int .i64 (zs.getD i 0)) := by simp [vals, List.getD, h]
theorem vals_set (zs : List Int) (i : Nat) (x : Int) : (vals zs).set i (.int .i64 x) = vals (zs.set i x) := by simp [vals, List.map_set]
theorem vals_snoc (zs : List Int) (x : Int) : vals zs ++ [.int .i64 x] = vals (zs ++ [x]) := by simp [vals]
theorem vals_len (zs : List Int) : (vals zs).length = zs.length := by simp [vals]
theorem Owns.ints {B : Nat} {w : World} {r : List Item} {a : Option Addr} {n c : Nat} {zs : List Int} (h : Owns B w ((3, .slice a n c, vals zs) :: r)) : n = zs.length ∧ Ints w a zs := by
  have hn := h.len
  rw [vals_len] at hn
  refine ⟨hn, ?_⟩
  by_cases h0 : zs.length = 0
  · left; exact List.length_eq_zero_iff.1 h0
  · right
    obtain ⟨g, cap, e, _⟩ := h.form (by rw [vals_len]; omega)
    cases e
    exact ⟨g, 0, rfl, fun i hi => by rw [Nat.zero_add]; exact h.cell (vals_get hi)⟩

end Go.Proofs.Ytcgkflddipflbaa
