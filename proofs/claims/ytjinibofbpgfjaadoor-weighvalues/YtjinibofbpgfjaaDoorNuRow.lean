/- Rows of whole numbers of one's own. -/
import Derived.Test.YtjinibofbpgfjaaDoorNuMul
import Derived.Maps.AppendAt
namespace Go.Proofs.YtjinibofbpgfjaaDoor
open Go.RowKit
set_option linter.unusedVariables false
set_option linter.unusedSimpArgs false

theorem WhAt.far2 {W W' : World} {b : Bool} {a : Option Addr} {n c k : Nat} {z : Int} (h : WhAt W b a n c z) (g : W.grownBy W' (some k)) (hk : n ≠ 0 → ∀ y, a = some y → y.block ≠ k) : WhAt W' b a n c z := by
  obtain ⟨l, h1, h2, h3, h4, h5⟩ := h
  exact ⟨l, h1, h2, intsN_far h3 (fun h0 => hk (by rw [← h1]; intro e; exact h0 (List.eq_nil_of_length_eq_zero e))) g, h4, h5⟩
theorem WhAt.below {W : World} {b : Bool} {a : Option Addr} {n c : Nat} {z : Int} (h : WhAt W b a n c z) (hn : n ≠ 0) (y : Addr) (hy : a = some y) : y.block < W.heap.size := by
  obtain ⟨l, h1, h2, h3, h4, h5⟩ := h
  exact intsN_lt h3 (by intro e; subst e; exact hn h1.symm) hy
theorem WhAt.short {W : World} {b : Bool} {a : Option Addr} {n c : Nat} {z : Int} (h : WhAt W b a n c z) {k : Nat} (hz : z.natAbs < pwN k) : n ≤ k := by
  obtain ⟨l, h1, h2, h3, h4, h5⟩ := h
  rw [← h1]
  refine h4.len ?_
  have hv := (valN_range h4.wf).1
  have e : (z.natAbs : Int) = valN l := by
    rw [h5]
    unfold wvN
    cases b <;> simp <;> omega
  omega
/-- A whole number, and where its figures lie. -/
structure WhQ where
  b : Bool
  a : Option Addr
  n : Nat
  c : Nat
  z : Int
def whcs (qs : List WhQ) : List Value := qs.flatMap fun q => [.bool q.b, .slice q.a q.n q.c]
theorem whcs_len (qs : List WhQ) : (whcs qs).length = qs.length * 2 := by
  unfold whcs
  induction qs with
  | nil => rfl
  | cons x xs ih => rw [List.flatMap_cons, List.length_append, ih]; simp; omega
theorem whcs_get {i : Nat} : ∀ {qs : List WhQ} {q : WhQ}, qs[i]? = some q → (whcs qs)[i * 2]? = some (.bool q.b) ∧ (whcs qs)[i * 2 + 1]? = some (.slice q.a q.n q.c) := by
  induction i with
  | zero => intro qs q h; cases qs with
    | nil => cases h
    | cons x xs => simp at h; subst h; simp [whcs]
  | succ i ih => intro qs q h; cases qs with
    | nil => cases h
    | cons x xs =>
      have h2 := ih (qs := xs) (q := q) (by simpa using h)
      have e : whcs (x :: xs) = .bool x.b :: .slice x.a x.n x.c :: whcs xs := rfl
      rw [e]
      have e1 : (i + 1) * 2 = i * 2 + 1 + 1 := by omega
      rw [e1]
      simpa using h2
def whLies (W : World) (q : WhQ) : Prop := WhAt W q.b q.a q.n q.c q.z
/-- A row of whole numbers, to be read. -/
structure RowWh (W : World) (a : Option Addr) (qs : List WhQ) : Prop where
  cells : qs = [] ∨ ∃ g, a = some ⟨g, 0, none⟩ ∧ ∀ i q, qs[i]? = some q → W.cell? ⟨g, i * 2, none⟩ = some (.bool q.b) ∧ W.cell? ⟨g, i * 2 + 1, none⟩ = some (.slice q.a q.n q.c)
  lies : ∀ q, q ∈ qs → whLies W q
theorem RowWh.grown {W W' : World} {a : Option Addr} {qs : List WhQ} (h : RowWh W a qs) (g : W.grownBy W' none) : RowWh W' a qs := by
  refine ⟨?_, fun q hq => (h.lies q hq).grown g⟩
  rcases h.cells with h1 | ⟨b, ha, hc⟩
  · exact .inl h1
  · exact .inr ⟨b, ha, fun i q hq => ⟨g.cell (hc i q hq).1 (by simp), g.cell (hc i q hq).2 (by simp)⟩⟩
theorem RowWh.at {W : World} {a : Option Addr} {qs : List WhQ} (h : RowWh W a qs) {i : Nat} (hi : i < qs.length) : ∃ g q, a = some ⟨g, 0, none⟩ ∧ qs[i]? = some q ∧ W.cell? ⟨g, i * 2, none⟩ = some (.bool q.b) ∧ W.cell? ⟨g, i * 2 + 1, none⟩ = some (.slice q.a q.n q.c) ∧ whLies W q := by
  rcases h.cells with h1 | ⟨b, ha, hc⟩
  · subst h1; simp at hi
  · have e : qs[i]? = some qs[i] := List.getElem?_eq_getElem hi
    exact ⟨b, qs[i], ha, e, (hc i _ e).1, (hc i _ e).2, h.lies _ (List.getElem_mem hi)⟩
/-- A row of whole numbers of one's own. -/
structure OwnWh (W1 W : World) (a : Option Addr) (c : Nat) (qs : List WhQ) : Prop where
  own : W.ownsRow W1.heap.size 32 2 (.slice a qs.length c) qs.length (whcs qs)
  gr : W1.grownBy W none
  lies : ∀ q, q ∈ qs → whLies W q
  ne : ∀ q, q ∈ qs → q.n ≠ 0 → ∀ y, q.a = some y → (Value.slice a qs.length c).ownBlock ≠ some y.block
theorem OwnWh.nil {W1 W : World} (g : W1.grownBy W none) : OwnWh W1 W none 0 [] := ⟨World.ownsRow_nil W _ _ _, g, fun q hq => (by cases hq), fun q hq => (by cases hq)⟩
theorem OwnWh.grown {W1 W W' : World} {a : Option Addr} {c : Nat} {qs : List WhQ} (h : OwnWh W1 W a c qs) (g : W.grownBy W' none) : OwnWh W1 W' a c qs :=
  ⟨h.own.kept g (by cases (Value.slice a qs.length c).ownBlock <;> simp), grown_trans h.gr g, fun q hq => (h.lies q hq).grown g, h.ne⟩
theorem OwnWh.row {W1 W : World} {a : Option Addr} {c : Nat} {qs : List WhQ} (h : OwnWh W1 W a c qs) : RowWh W a qs := by
  refine ⟨?_, h.lies⟩
  rcases h.own.2 with ⟨h1, h3⟩ | ⟨g, cap, cur, h1, _, h5, h6, _, h8, h9⟩
  · left
    simp only [Value.slice.injEq] at h1
    exact List.eq_nil_of_length_eq_zero h1.2.1
  · right
    simp only [Value.slice.injEq] at h1
    refine ⟨g, h1.1, fun i q hq => ?_⟩
    have hi := (List.getElem?_eq_some_iff.1 hq).1
    obtain ⟨e1, e2⟩ := whcs_get hq
    have hl := whcs_len qs
    have key : ∀ j v, (whcs qs)[j]? = some v → W.cell? ⟨g, j, none⟩ = some v := fun j v hv => by
      have hj := (List.getElem?_eq_some_iff.1 hv).1
      rw [← h9] at hv
      rw [cell_of_row _ _ _ _ _ (0, 0) h5]
      rw [List.getElem?_take_of_lt (by omega)] at hv
      simpa using hv
    exact ⟨key _ _ e1, key _ _ e2⟩
theorem OwnWh.down {W0 W1 W : World} {a : Option Addr} {c : Nat} {qs : List WhQ} (h : OwnWh W1 W a c qs) (g : W0.grownBy W1 none) : OwnWh W0 W a c qs := by
  refine ⟨⟨h.own.1, ?_⟩, grown_trans g h.gr, h.lies, h.ne⟩
  rcases h.own.2 with h1 | ⟨b, cap, cur, h1, h2, h3⟩
  · exact .inl h1
  · exact .inr ⟨b, cap, cur, h1, Nat.le_trans g.size h2, h3⟩
theorem Tryd.infoWh : (Tryd.prog.info? 32).map (fun i => (i.zero, i.size, i.bytes)) = some (some (.agg #[.bool false, .slice none 0 0]), 2, 32) := by kernel_rfl
theorem OwnWh.one {W1 W : World} {a : Option Addr} {c n : Nat} {qs : List WhQ} (h : OwnWh W1 W a c qs) (hn : qs.length = n) (hl : n ≤ 900) (q : WhQ) (hq : whLies W q) (hne : q.n ≠ 0 → ∀ y, q.a = some y → (Value.slice a qs.length c).ownBlock ≠ some y.block) :
    ∃ a1 c1 W', (AppY #[49, 49] 49 #[.slice a n c, .slice (some ⟨W.heap.size, 0, none⟩) 1 1]).run Tryd.prog (W.alloc (whO q.b q.a q.n q.c)) = .ok (.slice a1 (n + 1) c1) W' ∧ OwnWh W1 W' a1 c1 (qs ++ [q]) := by
  subst hn
  have h1 := h.grown (grown_alloc W (whO q.b q.a q.n q.c))
  obtain ⟨i0, hi0, hz0, hz1, hz2⟩ := info_partsY Tryd.infoWh
  have hb := heap_alloc_new W (whO q.b q.a q.n q.c)
  obtain ⟨g1, c1, w5, hr, ho, hg, hat, _⟩ := run_append_lies (P := Tryd.prog) (W.alloc (whO q.b q.a q.n q.c)) 49 49 W1.heap.size 32 i0 _ 2 32 Tryd.underlying49 hi0 hz0 hz1 hz2 rfl (by decide) (.slice a qs.length c) qs.length (whcs qs) h1.own ⟨W.heap.size, 0, none⟩ 1 1 [.bool q.b, .slice q.a q.n q.c] rfl (World.news_of_block (heap_alloc_new _ _)) (by intro u hu; simp at hu; rcases hu with rfl | rfl <;> rfl) (by omega) (by unfold maxLen; omega) (by omega) h1.gr.size _ rfl
  have e : whcs qs ++ [.bool q.b, .slice q.a q.n q.c] = whcs (qs ++ [q]) := by unfold whcs; rw [List.flatMap_append]; simp
  have hnb : ∀ p, whLies W p → p.n ≠ 0 → ∀ y, p.a = some y → y.block < W.heap.size := fun p hp hp0 y hy => WhAt.below hp hp0 y hy
  have hs : (W.alloc (whO q.b q.a q.n q.c)).heap.size = W.heap.size + 1 := by simp
  have each : ∀ p, p ∈ qs ++ [q] → whLies W p ∧ (p.n ≠ 0 → ∀ y, p.a = some y → (Value.slice a qs.length c).ownBlock ≠ some y.block) := fun p hp => by
    rcases List.mem_append.1 hp with h2 | h2
    · exact ⟨h.lies p h2, h.ne p h2⟩
    · rw [List.mem_singleton.1 h2]; exact ⟨hq, hne⟩
  refine ⟨some ⟨g1, 0, none⟩, c1, w5, hr, ⟨?_, grown_of_below ((below_of_grown h1.gr).grown hg h1.gr.size (fun k hk => (h1.own.lt k hk).1)), fun p hp => ?_, fun p hp hp0 y hy => ?_⟩⟩
  · rw [List.length_append, ← e]; exact ho
  · obtain ⟨e1, e2⟩ := each p hp
    have e3 : whLies (W.alloc (whO q.b q.a q.n q.c)) p := WhAt.grown e1 (grown_alloc _ _)
    cases hob : (Value.slice a qs.length c).ownBlock with
    | none => rw [hob] at hg; exact WhAt.grown e3 hg
    | some k =>
      rw [hob] at hg e2
      exact WhAt.far2 e3 hg (fun h0 y hy hk => e2 h0 y hy (by rw [hk]))
  · obtain ⟨e1, e2⟩ := each p hp
    have e3 := hnb p e1 hp0 y hy
    have e4 := e2 hp0 y hy
    rcases hat with h2 | h2
    · rw [h2] at e4
      simpa [Value.ownBlock] using e4
    · simp [Value.ownBlock]
      omega
end Go.Proofs.YtjinibofbpgfjaaDoor
