/- Rows of words that are put together. -/
import Derived.Test.YtkcbdfgbmaeodaaTnRead
namespace Go.Proofs.Ytkcbdfgbmaeodaa
open Go.RowKit
set_option linter.unusedVariables false
set_option linter.unusedSimpArgs false

abbrev Trip := Option Addr × Nat × List Int
def valT (p : Trip) : Value := .slice p.1 p.2.2.length p.2.1
def valsT (ps : List Trip) : List Value := ps.map valT
def wordsT (ps : List Trip) : List (List Int) := ps.map fun p => p.2.2
theorem wordsT_len (ps : List Trip) : (wordsT ps).length = ps.length := by simp [wordsT]
/-- All words of a list lie somewhere. -/
def LieT (w : World) (ps : List Trip) : Prop := ∀ p, p ∈ ps → Ints w p.1 p.2.2 ∧ p.2.2.length ≤ maxLen
theorem LieT.grown {w w' : World} {ps : List Trip} (h : LieT w ps) (g : w.grownBy w' none) : LieT w' ps := fun p hp => ⟨(h p hp).1.grown g, (h p hp).2⟩
/-- A row of words, word by word. -/
def TripAt (w : World) (a : Option Addr) (ps : List Trip) : Prop := ps = [] ∨ ∃ b off, a = some ⟨b, off, none⟩ ∧ ∀ i, i < ps.length → w.cell? ⟨b, off + i, none⟩ = some (valT (ps.getD i (none, 0, [])))
theorem rows_trip {w : World} {a : Option Addr} {R : List (List Int)} (h : RowsAt w a R) : ∃ ps, wordsT ps = R ∧ TripAt w a ps ∧ LieT w ps := by
  rcases h with rfl | ⟨b, off, rfl, hc⟩
  · exact ⟨[], rfl, .inl rfl, fun p hp => by simp at hp⟩
  · have each : ∀ i, i < R.length → ∃ q : Trip, w.cell? ⟨b, off + i, none⟩ = some (valT q) ∧ q.2.2 = R.getD i [] ∧ Ints w q.1 q.2.2 ∧ q.2.2.length ≤ maxLen := fun i hi => by
      obtain ⟨x, c, h1, h2, h3⟩ := hc i hi
      exact ⟨(x, c, R.getD i []), h1, rfl, h2, h3⟩
    obtain ⟨f, hf⟩ := choose_ltN each
    refine ⟨(List.range R.length).map f, ?_, .inr ⟨b, off, rfl, fun i hi => ?_⟩, fun p hp => ?_⟩
    · refine List.ext_getElem (by simp [wordsT]) fun i h1 h2 => ?_
      simp only [wordsT, List.getElem_map, List.getElem_range]
      have := (hf i h2).2.1
      rw [this, List.getD, List.getElem?_eq_getElem h2, Option.getD_some]
    · have hi' : i < R.length := by simpa using hi
      have e : ((List.range R.length).map f).getD i (none, 0, []) = f i := by simp [List.getD, hi']
      rw [e]
      exact (hf i hi').1
    · obtain ⟨i, hi, rfl⟩ := List.mem_map.1 hp
      exact (hf i (by simpa using hi)).2.2
theorem TripAt.rows {w : World} {a : Option Addr} {ps : List Trip} (h : TripAt w a ps) (hl : LieT w ps) : RowsAt w a (wordsT ps) := by
  rcases h with rfl | ⟨b, off, rfl, hc⟩
  · exact .inl rfl
  · refine .inr ⟨b, off, rfl, fun i hi => ?_⟩
    rw [wordsT_len] at hi
    have e : ps.getD i (none, 0, []) = ps[i] := by simp [List.getD, hi]
    have h1 := hc i hi
    rw [e] at h1
    have e2 : (wordsT ps).getD i [] = ps[i].2.2 := by simp [wordsT, List.getD, hi]
    have h2 := hl ps[i] (List.getElem_mem hi)
    exact ⟨ps[i].1, ps[i].2.1, by rw [e2]; exact h1, by rw [e2]; exact h2.1, by rw [e2]; exact h2.2⟩

theorem Try.infoSlY : (Try.prog.info? 22).map (fun i => (i.zero, i.size, i.bytes)) = some (some (.slice none 0 0), 1, 24) := by kernel_rfl
/-- Words of one's own in a row. -/
structure OwnR (W1 W : World) (a : Option Addr) (c : Nat) (ps : List Trip) : Prop where
  own : W.ownsRow W1.heap.size 22 1 (.slice a ps.length c) ps.length (valsT ps)
  gr : W1.grownBy W none
  lie : LieT W1 ps
theorem OwnR.nil {W1 W : World} (g : W1.grownBy W none) : OwnR W1 W none 0 [] := ⟨World.ownsRow_nil W _ _ _, g, fun p hp => by simp at hp⟩
theorem OwnR.grown {W1 W W' : World} {a : Option Addr} {c : Nat} {ps : List Trip} (h : OwnR W1 W a c ps) (g : W.grownBy W' none) : OwnR W1 W' a c ps := ⟨h.own.kept g (by cases (Value.slice a ps.length c).ownBlock <;> simp), grown_trans h.gr g, h.lie⟩
theorem OwnR.trip {W1 W : World} {a : Option Addr} {c : Nat} {ps : List Trip} (h : OwnR W1 W a c ps) : TripAt W a ps := by
  by_cases h0 : ps.length = 0
  · left; exact List.length_eq_zero_iff.1 h0
  · right
    have h2 := h.own.2
    rcases h2 with ⟨h1, h3⟩ | ⟨g, cap, cur, h1, _⟩
    · exact absurd h3 h0
    · simp only [Value.slice.injEq] at h1
      obtain ⟨rfl, _, rfl⟩ := h1
      refine ⟨g, 0, rfl, fun i hi => ?_⟩
      rw [Nat.zero_add, h.own.cellAt i (by omega)]
      simp only [valsT, List.getElem?_map, List.getElem?_eq_getElem hi, Option.map_some, List.getD, Option.getD_some]
theorem OwnR.rows {W1 W : World} {a : Option Addr} {c : Nat} {ps : List Trip} (h : OwnR W1 W a c ps) : RowsAt W a (wordsT ps) := h.trip.rows (h.lie.grown h.gr)
theorem OwnR.new {W1 W : World} {a : Option Addr} {c : Nat} {ps : List Trip} (h : OwnR W1 W a c ps) : ∀ y, a = some y → W1.heap.size ≤ y.block := by
  intro y hy
  have h2 := h.own.2
  rcases h2 with ⟨h1, h3⟩ | ⟨g, cap, cur, h1, h4, _⟩
  · simp only [Value.slice.injEq] at h1
    rw [h1.1] at hy; cases hy
  · simp only [Value.slice.injEq] at h1
    rw [h1.1] at hy; cases hy
    exact h4
theorem OwnR.put {W1 W : World} {a : Option Addr} {c : Nat} {ps us : List Trip} {b : Option Addr} {d : Nat} (h : OwnR W1 W a c ps) (hu : TripAt W b us) (hk : LieT W1 us) (hl : ps.length + us.length ≤ 1000) :
    ∃ a1 c1 W', (AppY #[23, 23] 23 #[.slice a ps.length c, .slice b us.length d]).run Try.prog W = .ok (.slice a1 (ps ++ us).length c1) W' ∧ OwnR W1 W' a1 c1 (ps ++ us) := by
  obtain ⟨i0, hi0, hz0, hz1, hz2⟩ := info_partsY Try.infoSlY
  have hB := h.gr.size
  have ho := h.own
  have hlie : LieT W1 (ps ++ us) := fun p hp => (List.mem_append.1 hp).elim (h.lie p) (hk p)
  by_cases he : us = []
  · subst he
    refine ⟨a, c, W, ?_, by simpa using h⟩
    rcases ho.2 with ⟨h1, _⟩ | ⟨g', cap', cur, h1, _, _, h4, _⟩
    · simp only [Value.slice.injEq] at h1
      obtain ⟨rfl, h2, rfl⟩ := h1
      rw [List.append_nil, h2]
      cases b with
      | none => simp [AppY, Builtin.append_, run_underlying Try.underlying23, sizeOf, typeInfo, zeroValue, hi0, hz0, Builtin.lenOf, run_firstCells_none, storeCells]
      | some b =>
        have hf := run_firstCells_some (P := Try.prog) W i0.size 0 b 0 d [] (by simp) (by simp)
        simp [AppY, Builtin.append_, run_underlying Try.underlying23, sizeOf, typeInfo, zeroValue, hi0, hz0, Builtin.lenOf, hf, storeCells]
    · simp only [Value.slice.injEq] at h1
      obtain ⟨rfl, _, rfl⟩ := h1
      have h5 : ¬ c < ps.length := by omega
      rw [List.append_nil]
      cases b with
      | none => simp [AppY, Builtin.append_, run_underlying Try.underlying23, sizeOf, typeInfo, zeroValue, hi0, hz0, Builtin.lenOf, run_firstCells_none, storeCells, h5, h4]
      | some b =>
        have hf := run_firstCells_some (P := Try.prog) W i0.size 0 b 0 d [] (by simp) (by simp)
        simp [AppY, Builtin.append_, run_underlying Try.underlying23, sizeOf, typeInfo, zeroValue, hi0, hz0, Builtin.lenOf, hf, storeCells, h5, h4]
  · have hlen : 0 < us.length := List.length_pos_iff.2 he
    rcases hu with hu | ⟨b, off, rfl, hc⟩
    · exact absurd hu he
    obtain ⟨g1, c1, w1, hr, h2, h3, _, _⟩ := run_append_lies (P := Try.prog) W 23 23 W1.heap.size 22 i0 (.slice none 0 0) 1 24 Try.underlying23 hi0 hz0 hz1 hz2 rfl (by decide) (.slice a ps.length c) ps.length (valsT ps) ho ⟨b, off, none⟩ us.length d (valsT us) (by simp [valsT]) (fun j u hu => by
        have hj : j < us.length := by have := (List.getElem?_eq_some_iff.1 hu).1; simpa [valsT] using this
        have e : (⟨b, off, none⟩ : Addr).add j = ⟨b, off + j, none⟩ := by by_cases hj0 : j = 0 <;> simp [Addr.add, hj0]
        rw [e, hc j hj, ← hu]
        simp [valsT, hj, List.getD]) (by intro u hu; simp [valsT] at hu; obtain ⟨p1, p2, p3, _, rfl⟩ := hu; rfl) hlen (by unfold maxLen; omega) (by omega) hB _ rfl
    refine ⟨some ⟨g1, 0, none⟩, c1, w1, by rw [List.length_append]; exact hr, ⟨?_, grown_of_below ((below_of_grown h.gr).grown h3 h.gr.size (fun k hk => (h.own.lt k hk).1)), hlie⟩⟩
    have e : valsT ps ++ valsT us = valsT (ps ++ us) := by simp [valsT]
    rw [List.length_append, ← e]
    exact h2

end Go.Proofs.Ytkcbdfgbmaeodaa
