/- Tables of one's own; the program's tableBeside. -/
import Derived.Test.YtjinibofbpgfjaaDoorNuPlus
import Derived.Test.YtjinibofbpgfjaaDoorWeBase
import Derived.Test.YtjinibofbpgfjaaDoorSkRow
namespace Go.Proofs.YtjinibofbpgfjaaDoor
open Go.RowKit
set_option linter.unusedVariables false
set_option linter.unusedSimpArgs false

abbrev Wrd := Option Addr × Nat × List Int
def wdV (p : Wrd) : Value := .slice p.1 p.2.2.length p.2.1
def wdL (ps : List Wrd) : List (List Int) := ps.map fun p => p.2.2
theorem wdL_len (ps : List Wrd) : (wdL ps).length = ps.length := by simp [wdL]
theorem ints_ltE {w : World} {a : Option Addr} {zs : List Int} {y : Addr} (h : Ints w a zs) (hn : zs ≠ []) (hy : a = some y) : y.block < w.heap.size := intsN_lt h hn hy
/-- A table of one's own: all of it lies from lo on, below hi. -/
structure RowsO (lo hi : Nat) (W : World) (a : Option Addr) (c : Nat) (ps : List Wrd) : Prop where
  own : W.ownsRow lo 22 1 (.slice a ps.length c) ps.length (ps.map wdV)
  top : ∀ b, (Value.slice a ps.length c).ownBlock = some b → b < hi
  lie : ∀ p, p ∈ ps → Ints W p.1 p.2.2 ∧ p.2.2.length ≤ 1000
  ne : ∀ p, p ∈ ps → p.2.2 ≠ [] → ∀ y, p.1 = some y → lo ≤ y.block ∧ y.block < hi ∧ (Value.slice a ps.length c).ownBlock ≠ some y.block
section
variable {lo hi : Nat} {W W' : World} {a : Option Addr} {c : Nat} {ps : List Wrd}
theorem RowsO.nil : RowsO lo hi W none 0 [] := ⟨World.ownsRow_nil W _ _ _, fun b hb => by simp [Value.ownBlock] at hb, fun p hp => by simp at hp, fun p hp => by simp at hp⟩
theorem RowsO.kept (h : RowsO lo hi W a c ps) (g : W.grownBy W' none) : RowsO lo hi W' a c ps := ⟨h.own.kept g (by cases (Value.slice a ps.length c).ownBlock <;> simp), h.top, fun p hp => ⟨(h.lie p hp).1.grown g, (h.lie p hp).2⟩, h.ne⟩
theorem RowsO.far {b : Nat} (h : RowsO lo hi W a c ps) (g : W.grownBy W' (some b)) (hb : b < lo ∨ hi ≤ b) : RowsO lo hi W' a c ps := by
  refine ⟨h.own.kept g (.inr (fun hc => ?_)), h.top, fun p hp => ⟨intsN_far (h.lie p hp).1 (fun hn y hy e => ?_) g, (h.lie p hp).2⟩, h.ne⟩
  · have h1 := (h.own.lt b hc).1
    have h2 := h.top b hc
    omega
  · have h1 := h.ne p hp hn y hy
    omega
theorem RowsO.mono {hi' : Nat} (h : RowsO lo hi W a c ps) (hh : hi ≤ hi') : RowsO lo hi' W a c ps := ⟨h.own, fun b hb => Nat.lt_of_lt_of_le (h.top b hb) hh, h.lie, fun p hp hn y hy => ⟨(h.ne p hp hn y hy).1, Nat.lt_of_lt_of_le (h.ne p hp hn y hy).2.1 hh, (h.ne p hp hn y hy).2.2⟩⟩
theorem RowsO.rows (h : RowsO lo hi W a c ps) : RowsAt W a (wdL ps) := by
  by_cases h0 : ps.length = 0
  · left; rw [List.eq_nil_of_length_eq_zero h0]; rfl
  · right
    rcases h.own.2 with ⟨h1, h3⟩ | ⟨g, cap, cur, h1, _⟩
    · exact absurd h3 h0
    · simp only [Value.slice.injEq] at h1
      obtain ⟨rfl, _, rfl⟩ := h1
      refine ⟨g, 0, rfl, fun i hi => ?_⟩
      rw [wdL_len] at hi
      have e : ps[i]? = some ps[i] := List.getElem?_eq_getElem hi
      have e2 : (wdL ps).getD i [] = ps[i].2.2 := by simp [wdL, List.getD, hi]
      have hp := h.lie ps[i] (List.getElem_mem hi)
      refine ⟨ps[i].1, ps[i].2.1, ?_, by rw [e2]; exact hp.1, by rw [e2]; have := hp.2; unfold maxLen; omega⟩
      rw [e2, Nat.zero_add, h.own.cellAt i (by omega)]
      simp [wdV, hi]
theorem one_newW (w : World) (u : Value) (t : TypeId) : ∀ j v, [u][j]? = some v → (w.alloc (.cells #[u] t)).cell? ((⟨w.heap.size, 0, none⟩ : Addr).add j) = some v := World.news_of_block (heap_alloc_new _ _)
theorem Tryd.infoSlW : (Tryd.prog.info? 22).map (fun i => (i.zero, i.size, i.bytes)) = some (some (.slice none 0 0), 1, 24) := by kernel_rfl
theorem RowsO.one {n : Nat} {W2 : World} (h : RowsO lo hi W a c ps) (hn : ps.length = n) (hl : n ≤ 900) (hlo : lo ≤ W.heap.size) (hhi : hi ≤ W.heap.size) (g2 : W.grownBy W2 none) (p : Wrd) (hp : Ints W2 p.1 p.2.2) (hpl : p.2.2.length ≤ 1000) (hpn : ∀ y, p.1 = some y → W.heap.size ≤ y.block) :
    ∃ a1 c1 W3, (AppY #[36, 36] 36 #[.slice a n c, .slice (some ⟨W2.heap.size, 0, none⟩) 1 1]).run Tryd.prog (W2.alloc (.cells #[wdV p] 22)) = .ok (.slice a1 (n + 1) c1) W3 ∧ RowsO lo W3.heap.size W3 a1 c1 (ps ++ [p]) ∧ W2.heap.size ≤ W3.heap.size ∧ (∀ w0 : World, w0.heap.size ≤ lo → w0.grownBy W2 none → w0.grownBy W3 none) := by
  subst hn
  obtain ⟨i0, hi0, hz0, hz1, hz2⟩ := info_partsY Tryd.infoSlW
  have h1 := (h.kept g2).kept (grown_alloc W2 (.cells #[wdV p] 22))
  have hs := g2.size
  have hsz : (W2.alloc (.cells #[wdV p] 22)).heap.size = W2.heap.size + 1 := by simp
  obtain ⟨g, cap, W3, hr, h2, h3, h4, h5⟩ := run_append_lies (P := Tryd.prog) (W2.alloc (.cells #[wdV p] 22)) 36 36 lo 22 i0 (.slice none 0 0) 1 24 Tryd.underlying36 hi0 hz0 hz1 hz2 rfl (by decide) (.slice a ps.length c) ps.length (ps.map wdV) h1.own ⟨W2.heap.size, 0, none⟩ 1 1 [wdV p] rfl (one_newW W2 (wdV p) _) (by intro x hx; simp at hx; subst hx; rfl) (by omega) (by unfold maxLen; omega) (by omega) (by omega) _ rfl
  have hs3 := h3.size
  have e : ps.map wdV ++ [wdV p] = (ps ++ [p]).map wdV := by simp
  rw [e] at h2
  have hg3 : g < W3.heap.size := (h2.lt g rfl).2
  have each : ∀ q, q ∈ ps ++ [p] → Ints (W2.alloc (.cells #[wdV p] 22)) q.1 q.2.2 ∧ q.2.2.length ≤ 1000 ∧ (q.2.2 ≠ [] → ∀ y, q.1 = some y → lo ≤ y.block ∧ y.block < W2.heap.size ∧ (Value.slice a ps.length c).ownBlock ≠ some y.block) := fun q hq => by
    rcases List.mem_append.1 hq with hq | hq
    · refine ⟨(h1.lie q hq).1, (h1.lie q hq).2, fun hn y hy => ?_⟩
      have := h1.ne q hq hn y hy
      exact ⟨this.1, by omega, this.2.2⟩
    · rw [List.mem_singleton.1 hq]
      refine ⟨hp.grown (grown_alloc _ _), hpl, fun hn y hy => ⟨by have := hpn y hy; omega, intsN_lt hp hn hy, fun hc => ?_⟩⟩
      have := h.top _ hc
      have := hpn y hy
      omega
  refine ⟨some ⟨g, 0, none⟩, cap, W3, hr, ⟨?_, fun b hb => ?_, fun q hq => ?_, fun q hq hn y hy => ?_⟩, by omega, fun w0 hw0 hg0 => grown_of_below ((below_of_grown (grown_trans hg0 (grown_alloc _ _))).grown h3 (Nat.le_trans hg0.size (grown_alloc _ _).size) (fun k hk => Nat.le_trans hw0 (h1.own.lt k hk).1))⟩
  · rw [List.length_append]; exact h2
  · have : g = b := by simpa [Value.ownBlock] using hb
    omega
  · obtain ⟨e1, e2, e3⟩ := each q hq
    refine ⟨?_, e2⟩
    cases hob : (Value.slice a ps.length c).ownBlock with
    | none => rw [hob] at h3; exact e1.grown h3
    | some k =>
      rw [hob] at h3
      exact intsN_far e1 (fun hn y hy hc => (e3 hn y hy).2.2 (by rw [hob, hc])) h3
  · obtain ⟨_, _, e3⟩ := each q hq
    obtain ⟨f1, f2, f3⟩ := e3 hn y hy
    refine ⟨f1, by omega, fun hc => ?_⟩
    have hg : g = y.block := by simpa [Value.ownBlock] using hc
    rcases h4 with h6 | h6
    · exact f3 (by rw [h6, hg])
    · omega
end
/-- A table is answered. -/
def TabP (L : List (List Int)) (w : World) (e : Ending) (w' : World) : Prop := ∃ a c ps, e = .returned (.slice a L.length c) ∧ RowsO w.heap.size w'.heap.size w' a c ps ∧ wdL ps = L ∧ w.grownBy w' none
end Go.Proofs.YtjinibofbpgfjaaDoor
