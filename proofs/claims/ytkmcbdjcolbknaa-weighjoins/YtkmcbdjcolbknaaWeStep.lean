/- A row of tables of one's own; the box in which an automaton is made. -/
import Derived.Test.YtkmcbdjcolbknaaWeBes
namespace Go.Proofs.Ytkmcbdjcolbknaa
open Go.RowKit
set_option linter.unusedVariables false
set_option linter.unusedSimpArgs false

structure Tbl where
  lo : Nat
  hi : Nat
  a : Option Addr
  c : Nat
  ps : List Wrd
def tbV (t : Tbl) : Value := .slice t.a t.ps.length t.c
def tbL (ts : List Tbl) : List (List (List Int)) := ts.map fun t => wdL t.ps
/-- Tables in a row of one's own: the row and all tables lie from B on. -/
structure StepO (B : Nat) (W : World) (a : Option Addr) (c : Nat) (ts : List Tbl) : Prop where
  own : W.ownsRow B 37 1 (.slice a ts.length c) ts.length (ts.map tbV)
  lie : ∀ t, t ∈ ts → RowsO t.lo t.hi W t.a t.c t.ps ∧ B ≤ t.lo ∧ t.hi ≤ W.heap.size ∧ t.ps.length ≤ 1000
  ne : ∀ t, t ∈ ts → ∀ b, (Value.slice a ts.length c).ownBlock = some b → b < t.lo ∨ t.hi ≤ b
section
variable {B : Nat} {W W' : World} {a : Option Addr} {c : Nat} {ts : List Tbl}
theorem StepO.nil : StepO B W none 0 [] := ⟨World.ownsRow_nil W _ _ _, fun p hp => by simp at hp, fun p hp => by simp at hp⟩
theorem StepO.kept (h : StepO B W a c ts) (g : W.grownBy W' none) : StepO B W' a c ts := ⟨h.own.kept g (by cases (Value.slice a ts.length c).ownBlock <;> simp), fun t ht => ⟨(h.lie t ht).1.kept g, (h.lie t ht).2.1, Nat.le_trans (h.lie t ht).2.2.1 g.size, (h.lie t ht).2.2.2⟩, h.ne⟩
theorem StepO.below {b : Nat} (h : StepO B W a c ts) (g : W.grownBy W' (some b)) (hb : b < B) : StepO B W' a c ts :=
  ⟨h.own.kept g (.inr (fun hc => by have := (h.own.lt b hc).1; omega)), fun t ht => ⟨(h.lie t ht).1.far g (.inl (by have := (h.lie t ht).2.1; omega)), (h.lie t ht).2.1, Nat.le_trans (h.lie t ht).2.2.1 g.size, (h.lie t ht).2.2.2⟩, h.ne⟩
theorem StepO.tab (h : StepO B W a c ts) : TabAt W a (tbL ts) := by
  have hlen : (tbL ts).length = ts.length := by simp [tbL]
  by_cases h0 : ts.length = 0
  · left; rw [List.eq_nil_of_length_eq_zero h0]; rfl
  · right
    rcases h.own.2 with ⟨h1, h3⟩ | ⟨g, cap, cur, h1, _⟩
    · exact absurd h3 h0
    · simp only [Value.slice.injEq] at h1
      obtain ⟨rfl, _, rfl⟩ := h1
      refine ⟨g, 0, rfl, fun i hi => ?_⟩
      rw [hlen] at hi
      have e2 : (tbL ts).getD i [] = wdL ts[i].ps := by simp [tbL, List.getD, hi]
      have hp := h.lie ts[i] (List.getElem_mem hi)
      refine ⟨ts[i].a, ts[i].c, ?_, by rw [e2]; exact hp.1.rows, by rw [e2, wdL_len]; have := hp.2.2.2; unfold maxLen; omega⟩
      rw [e2, Nat.zero_add, h.own.cellAt i (by omega)]
      simp [tbV, hi, wdL_len]
theorem Try.infoTTW : (Try.prog.info? 37).map (fun i => (i.zero, i.size, i.bytes)) = some (some (.slice none 0 0), 1, 24) := by kernel_rfl
theorem StepO.one {n : Nat} {W2 : World} (h : StepO B W a c ts) (hn : ts.length = n) (hl : n ≤ 900) (hB : B ≤ W.heap.size) (g2 : W.grownBy W2 none) (t : Tbl) (ht : RowsO t.lo t.hi W2 t.a t.c t.ps) (hlo : W.heap.size ≤ t.lo) (hhi : t.hi ≤ W2.heap.size) (htl : t.ps.length ≤ 1000) :
    ∃ a1 c1 W3, (AppY #[23, 23] 23 #[.slice a n c, .slice (some ⟨W2.heap.size, 0, none⟩) 1 1]).run Try.prog (W2.alloc (.cells #[tbV t] 37)) = .ok (.slice a1 (n + 1) c1) W3 ∧ StepO B W3 a1 c1 (ts ++ [t]) ∧ (∀ w0 : World, w0.heap.size ≤ B → w0.grownBy W2 none → w0.grownBy W3 none) ∧ (∀ k o, k < B → W2.heap[k]? = some o → W3.heap[k]? = some o) ∧ W2.heap.size ≤ W3.heap.size ∧ W2.grownBy W3 (Value.slice a n c).ownBlock := by
  subst hn
  obtain ⟨i0, hi0, hz0, hz1, hz2⟩ := info_partsY Try.infoTTW
  have h1 := (h.kept g2).kept (grown_alloc W2 (.cells #[tbV t] 37))
  have ht1 := ht.kept (grown_alloc W2 (.cells #[tbV t] 37))
  have ga : W2.grownBy (W2.alloc (.cells #[tbV t] 37)) (Value.slice a ts.length c).ownBlock := ⟨rfl, rfl, rfl, by simp, fun k hk _ => (grown_alloc W2 (.cells #[tbV t] 37)).block k hk (by simp)⟩
  have hs := g2.size
  have hsz : (W2.alloc (.cells #[tbV t] 37)).heap.size = W2.heap.size + 1 := by simp
  obtain ⟨g, cap, W3, hr, h2, h3, h4, h5⟩ := run_append_lies (P := Try.prog) (W2.alloc (.cells #[tbV t] 37)) 23 23 B 37 i0 (.slice none 0 0) 1 24 Try.underlying23 hi0 hz0 hz1 hz2 rfl (by decide) (.slice a ts.length c) ts.length (ts.map tbV) h1.own ⟨W2.heap.size, 0, none⟩ 1 1 [tbV t] rfl (one_newW W2 (tbV t) _) (by intro x hx; simp at hx; subst hx; rfl) (by omega) (by unfold maxLen; omega) (by omega) (by omega) _ rfl
  have hs3 := h3.size
  have e : ts.map tbV ++ [tbV t] = (ts ++ [t]).map tbV := by simp
  rw [e] at h2
  have each : ∀ q, q ∈ ts ++ [t] → RowsO q.lo q.hi (W2.alloc (.cells #[tbV t] 37)) q.a q.c q.ps ∧ B ≤ q.lo ∧ q.hi ≤ W2.heap.size ∧ q.ps.length ≤ 1000 ∧ ∀ b, (Value.slice a ts.length c).ownBlock = some b → b < q.lo ∨ q.hi ≤ b := fun q hq => by
    rcases List.mem_append.1 hq with hq | hq
    · exact ⟨(h1.lie q hq).1, (h1.lie q hq).2.1, by have := (h.lie q hq).2.2.1; omega, (h1.lie q hq).2.2.2, h.ne q hq⟩
    · rw [List.mem_singleton.1 hq]
      exact ⟨ht1, by omega, hhi, htl, fun b hb => .inl (by have := (h.own.lt b hb).2; omega)⟩
  refine ⟨some ⟨g, 0, none⟩, cap, W3, hr, ⟨?_, fun q hq => ?_, fun q hq b hb => ?_⟩, fun w0 hw0 hg0 => grown_of_below ((below_of_grown (grown_trans hg0 (grown_alloc _ _))).grown h3 (Nat.le_trans hg0.size (grown_alloc _ _).size) (fun k hk => Nat.le_trans hw0 (h1.own.lt k hk).1)), fun k o hk ho => ?_, by omega, grown_trans ga h3⟩
  · rw [List.length_append]; exact h2
  · obtain ⟨e1, e2, e3, e4, e5⟩ := each q hq
    refine ⟨?_, e2, by omega, e4⟩
    cases hob : (Value.slice a ts.length c).ownBlock with
    | none => rw [hob] at h3; exact e1.kept h3
    | some k => rw [hob] at h3; exact e1.far h3 (e5 k hob)
  · obtain ⟨e1, e2, e3, e4, e5⟩ := each q hq
    have hg : g = b := by simpa [Value.ownBlock] using hb
    rcases h4 with h6 | h6
    · exact e5 b (by rw [h6, hg])
    · right; omega
  · have hkW : k < W2.heap.size := (Array.getElem?_eq_some_iff.1 ho).1
    refine (h3.block k (by omega) (fun hc => ?_)).trans (((grown_alloc W2 _).block k hkW (by simp)).trans ho)
    have := (h1.own.lt k hc.symm).1
    omega
end
/-- The box of an automaton that is made. -/
structure BxW (W : World) (k : Nat) (L : Int) (aF : Option Addr) (nF cF : Nat) (aS : Option Addr) (nS cS : Nat) (aE : Option Addr) (nE cE : Nat) : Prop where
  heap : W.heap[k]? = some (.cells #[.int .i64 L, .slice aF nF cF, .slice aS nS cS, .slice aE nE cE] 25 (0, 0))
theorem BxW.box {W : World} {k : Nat} {L : Int} {aF aS aE : Option Addr} {nF cF nS cS nE cE : Nat} (h : BxW W k L aF nF cF aS nS cS aE nE cE) : Box4 W k L aF nF cF aS nS cS aE nE cE ∧ ∀ i, W.frozen? ⟨k, i, none⟩ = false := by
  have hc : ∀ i v, #[Value.int .i64 L, .slice aF nF cF, .slice aS nS cS, .slice aE nE cE][i]? = some v → W.cell? ⟨k, i, none⟩ = some v := fun i v hv => by rw [cell_of_row _ _ i _ _ (0, 0) h.heap]; exact hv
  exact ⟨⟨hc 0 _ rfl, hc 1 _ rfl, hc 2 _ rfl, hc 3 _ rfl⟩, fun i => frozen_of_row _ _ _ _ _ h.heap⟩
theorem BxW.step {W : World} {k : Nat} {L : Int} {aF aS aE : Option Addr} {nF cF nS cS nE cE : Nat} (h : BxW W k L aF nF cF aS nS cS aE nE cE) (a : Option Addr) (n c : Nat) : BxW (W.setCell ⟨k, 2, none⟩ (.slice a n c)) k L aF nF cF a n c aE nE cE := by
  have h1 := heap_setCell_same W k 2 _ _ (.slice a n c) h.heap
  exact ⟨by rw [h1]; simp⟩
theorem four_store {W : World} {B : Nat} {t : TypeId} {u0 u1 u2 u3 : Value} (h : W.heap[B]? = some (.cells #[u0, u1, u2, u3] t (0, 0))) (v0 v1 v2 v3 : Value) :
    (W.cell? ⟨B, 0, none⟩ = some u0 ∧ W.cell? ⟨B, 1, none⟩ = some u1 ∧ W.cell? ⟨B, 2, none⟩ = some u2 ∧ W.cell? ⟨B, 3, none⟩ = some u3) ∧ (∀ i, W.frozen? ⟨B, i, none⟩ = false) ∧ ∃ W', W' = (((W.setCell ⟨B, 0, none⟩ v0).setCell ⟨B, 1, none⟩ v1).setCell ⟨B, 2, none⟩ v2).setCell ⟨B, 3, none⟩ v3 ∧ W.grownBy W' (some B) ∧ W'.heap[B]? = some (.cells #[v0, v1, v2, v3] t (0, 0)) := by
  have hc : ∀ k v, #[u0, u1, u2, u3][k]? = some v → W.cell? ⟨B, k, none⟩ = some v := fun k v hv => by rw [cell_of_row _ _ k _ _ (0, 0) h]; exact hv
  have h1 := heap_setCell_same W B 0 _ _ v0 h
  have h2 := heap_setCell_same _ B 1 _ _ v1 h1
  have h3 := heap_setCell_same _ B 2 _ _ v2 h2
  have h4 := heap_setCell_same _ B 3 _ _ v3 h3
  exact ⟨⟨hc 0 _ rfl, hc 1 _ rfl, hc 2 _ rfl, hc 3 _ rfl⟩, fun i => frozen_of_row _ _ _ _ _ h, _, rfl, grown_trans (grown_set _ _ _) (grown_trans (grown_set _ _ _) (grown_trans (grown_set _ _ _) (grown_set _ _ _))), by rw [h4]; simp⟩
end Go.Proofs.Ytkmcbdjcolbknaa
