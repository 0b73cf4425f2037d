/- One that says ahead what it is sure to say: the reference's Pushed. -/
import Derived.Test.YtodcmlcpicabaaaTlPut
import Derived.Test.YtodcmlcpicabaaaTlSmall
import Derived.Test.YtodcmlcpicabaaaTnRefR
import Derived.Laws.CopyRow
import Derived.Laws.IdiomCopy
import Derived.Laws.CopyOwn
namespace Go.Proofs.Ytodcmlcpicabaaa
open Go.RowKit
set_option linter.unusedVariables false
set_option linter.unusedSimpArgs false

/-- Rows of words copied into a row of one's own. -/
theorem copyRows (R : List (List Int)) (a : Option Addr) (c n : Nat) (w : World) (h : RowsAt w a R) (k : CapsAt w a R) (hn : R.length = n) (h0 : 0 < n) (hl : n ≤ 1000) :
    ∃ W2 ps, (Builtin.copy_ #[23, 23] 3 #[.slice (some ⟨w.heap.size, 0, none⟩) n n, .slice a n c]).run Try.prog (w.alloc (.cells (Array.replicate n (Value.slice none 0 0)) 22)) = .ok (goInt n) W2 ∧ wordsT ps = R ∧ OwnS w W2 w.heap.size n ps := by
  obtain ⟨ps, h1, h2, h3, h4⟩ := rows_tripC h k
  have hlp : ps.length = n := by rw [← hn, ← h1, wordsT_len]
  obtain ⟨b, off, rfl, hc⟩ : ∃ b off, a = some ⟨b, off, none⟩ ∧ ∀ i, i < ps.length → w.cell? ⟨b, off + i, none⟩ = some (valT (ps.getD i (none, 0, []))) := by
    rcases h2 with e | h2
    · rw [e] at hlp; simp at hlp; omega
    · exact h2
  have hb := heap_alloc_new w (.cells (Array.replicate n (Value.slice none 0 0)) 22)
  have hsz : (Try.prog.info? 22).map (·.size) = some 1 := by
    obtain ⟨i0, hi0, _, hz1, _⟩ := info_partsY Try.infoSlY
    rw [hi0]; simp [hz1]
  have hv : (valsT ps).length = n := by simp [valsT, hlp]
  have hrun := run_copy_row (P := Try.prog) (w.alloc (.cells (Array.replicate n (Value.slice none 0 0)) 22)) 23 23 3 22 w.heap.size 0 n n ⟨b, off, none⟩ n c _ 22 (valsT ps) Try.underlying23 hsz hb (by rw [hv]; simp) (fun j u hj => by
    have hj' : j < ps.length := by have := (List.getElem?_eq_some_iff.1 hj).1; simpa [valsT] using this
    have e : (⟨b, off, none⟩ : Addr).add j = ⟨b, off + j, none⟩ := by by_cases hj0 : j = 0 <;> simp [Addr.add, hj0]
    rw [e, (grown_alloc w _).cell (hc j hj') (by simp), ← hj]
    simp [valsT, hj', List.getD]) (by rw [hv]; simp) (by intro u hu; simp [valsT] at hu; obtain ⟨p1, p2, p3, _, rfl⟩ := hu; rfl)
  rw [hv] at hrun
  refine ⟨_, ps, hrun, h1, ?_, ?_, h3, h4⟩
  · refine ⟨by simp [valsT], .inr ⟨w.heap.size, n, _, rfl, Nat.le_refl _, setRow_heap _ _ _ _ _ _ hb, by omega, by unfold maxLen; omega, ?_, ?_⟩⟩
    · simp [valsT, hlp]
    · simp only [valsT, Nat.mul_one, List.take_zero, List.nil_append, Nat.zero_add]
      simp [hlp]
      exact List.take_of_length_le (by simp [hlp])
  · exact grown_of_below (below_setRow (below_of_grown (grown_alloc w _)) (Nat.le_refl _) _)
theorem takeD_snoc {α : Type} (d : α) {L : List α} {q : Nat} (h : q < L.length) : L.take (q + 1) = L.take q ++ [L.getD q d] := by
  rw [List.take_add_one]
  simp [List.getD, List.getElem?_eq_getElem h]
theorem OwnsP.no {B lo hi : Nat} {w : World} : OwnsP B lo hi w [] [] := ⟨Owns.no B w, fun p hp => by simp at hp, fun p hp => by simp at hp⟩

/-- What is written down so far. -/
abbrev puB (B : Nat) (I O S : Int) (vF v4 vY vE : Value) : Item := (26, .slice (some ⟨B, 0, none⟩) 7 7, [.int .i64 I, .int .i64 O, .int .i64 S, vF, v4, vY, vE])
structure PuT (B lo : Nat) (w : World) (I O S : Int) (vF v4 vY vE : Value) (F : List Int) (ys : List (Value × List Trip)) (es : List Trip) (more : List Item) (mps : List Trip) : Prop where
  own : OwnsP B lo B w (puB B I O S vF v4 vY vE :: (3, vF, vals F) :: (23, vY, ys.map (·.1)) :: (22, vE, valsT es) :: (more ++ sayItems ys)) (mps ++ (es ++ ys.flatMap (·.2)))
section
variable {B lo : Nat} {w w' : World} {I O S : Int} {vF v4 vY vE : Value} {F : List Int} {ys : List (Value × List Trip)} {es : List Trip} {more : List Item} {mps : List Trip}
theorem PuT.kept (h : PuT B lo w I O S vF v4 vY vE F ys es more mps) (g : w.grownBy w' none) : PuT B lo w' I O S vF v4 vY vE F ys es more mps := ⟨h.own.kept g⟩
theorem PuT.cells (h : PuT B lo w I O S vF v4 vY vE F ys es more mps) : w.cell? ⟨B, 0, none⟩ = some (.int .i64 I) ∧ w.cell? ⟨B, 1, none⟩ = some (.int .i64 O) ∧ w.cell? ⟨B, 2, none⟩ = some (.int .i64 S) ∧ w.cell? ⟨B, 3, none⟩ = some vF ∧ w.cell? ⟨B, 4, none⟩ = some v4 ∧ w.cell? ⟨B, 5, none⟩ = some vY ∧ w.cell? ⟨B, 6, none⟩ = some vE ∧ ∀ k, w.frozen? ⟨B, k, none⟩ = false :=
  ⟨(h.own.cell (i := 0) rfl).1, (h.own.cell (i := 1) rfl).1, (h.own.cell (i := 2) rfl).1, (h.own.cell (i := 3) rfl).1, (h.own.cell (i := 4) rfl).1, (h.own.cell (i := 5) rfl).1, (h.own.cell (i := 6) rfl).1, fun k => h.own.own.fz k⟩
/-- A row under way is begun. -/
theorem PuT.begin (h : PuT B lo w I O S vF v4 vY vE F ys es [] []) : PuT B lo w I O S vF v4 vY vE F ys es [(22, .slice none 0 0, valsT [])] [] :=
  ⟨(h.own.empty 22).perm (List.perm_middle (l₁ := [_, _, _, _])).symm⟩
/-- A word is put behind the row under way. -/
theorem PuT.putR {vR : Value} {qs : List Trip} {w0 w1 : World} {a : Option Addr} {c n : Nat} {zs : List Int} (h : PuT B lo w I O S vF v4 vY vE F ys es [(22, vR, valsT qs)] qs) (hB : B ≤ w.heap.size) (hlo : lo ≤ B) (g : w.grownBy w1 none) (hz : Ints w1 a zs) (hn : zs.length = n) (hnew : zs ≠ [] → ∀ y, a = some y → y.block < lo ∨ w.heap.size ≤ y.block) (hq : qs.length ≤ 1000) (h0 : w0.heap.size ≤ B) (hg0 : w0.grownBy w none) :
    ∃ gR cR w2, (AppY #[23, 23] 23 #[vR, .slice (some ⟨w1.heap.size, 0, none⟩) 1 1]).run Try.prog (w1.alloc (.cells #[.slice a n c] 22)) = .ok (.slice (some ⟨gR, 0, none⟩) (qs.length + 1) cR) w2 ∧
      PuT B lo w2 I O S vF v4 vY vE F ys es [(22, .slice (some ⟨gR, 0, none⟩) (qs.length + 1) cR, valsT (qs ++ [(a, c, zs)]))] (qs ++ [(a, c, zs)]) ∧ w0.grownBy w2 none ∧ B ≤ w2.heap.size := by
  subst hn
  have h1 := h.own.word hlo hB g hz hnew c
  have h2 := h1.perm (List.perm_middle (l₁ := [_, _, _, _]))
  obtain ⟨gR, cR, w2, hr, h3, h4, h5⟩ := h2.pushS (n := qs.length) (by simp [valsT]) (Nat.le_trans hB g.size) rfl (by omega) (.slice a zs.length c) rfl
  refine ⟨gR, cR, w2, hr, ⟨?_⟩, h4 w0 h0 (grown_trans hg0 g), h5⟩
  have h6 := h3.perm (List.perm_middle (l₁ := [_, _, _, _])).symm
  have e : valsT qs ++ [Value.slice a zs.length c] = valsT (qs ++ [(a, c, zs)]) := by simp [valsT, valT]
  rw [e] at h6
  exact h6.sub (fun p hp => by
    simp only [List.mem_append, List.mem_cons, List.not_mem_nil, or_false] at hp ⊢
    rcases hp with (h | h) | h
    · exact .inr (.inl h)
    · exact .inl h
    · exact .inr (.inr h))
/-- The row under way is put behind. -/
theorem PuT.putY {vR : Value} {qs : List Trip} {w0 : World} {n : Nat} (h : PuT B lo w I O S vF v4 vY vE F ys es [(22, vR, valsT qs)] qs) (hR : vR.oneCell' = true) (hB : B ≤ w.heap.size) (hn : ys.length = n) (hq : n ≤ 1000) (h0 : w0.heap.size ≤ B) (hg0 : w0.grownBy w none) :
    ∃ gY cY w2, (AppY #[24, 24] 24 #[vY, .slice (some ⟨w.heap.size, 0, none⟩) 1 1]).run Try.prog (w.alloc (.cells #[vR] 23)) = .ok (.slice (some ⟨gY, 0, none⟩) (n + 1) cY) w2 ∧ (w2.cell? ⟨B, 5, none⟩ = some vY ∧ w2.frozen? ⟨B, 5, none⟩ = false) ∧
      PuT B lo (w2.setCell ⟨B, 5, none⟩ (.slice (some ⟨gY, 0, none⟩) (n + 1) cY)) I O S vF v4 (.slice (some ⟨gY, 0, none⟩) (n + 1) cY) vE F (ys ++ [(vR, qs)]) es [] [] ∧ w0.grownBy (w2.setCell ⟨B, 5, none⟩ (.slice (some ⟨gY, 0, none⟩) (n + 1) cY)) none ∧ B ≤ w2.heap.size := by
  subst hn
  have h2 := h.own.perm (List.perm_middle (l₁ := [_, _]))
  obtain ⟨gY, cY, w2, hr, h3, h4, h5⟩ := h2.pushT (n := ys.length) (by simp) hB rfl (by omega) vR hR
  have h6 := h3.perm (List.Perm.trans (List.perm_middle (l₁ := [_, _])).symm (List.Perm.refl _))
  have hc := h6.cell (i := 5) rfl
  have h7 := h6.set (i := 5) (by decide) (.slice (some ⟨gY, 0, none⟩) (ys.length + 1) cY)
  refine ⟨gY, cY, w2, hr, hc, ⟨?_⟩, grown_new (h4 w0 h0 hg0) (grown_set _ _ _) h0, h5⟩
  have e1 : (ys ++ [(vR, qs)]).map (·.1) = ys.map (·.1) ++ [vR] := by simp
  have e2 : sayItems (ys ++ [(vR, qs)]) = sayItems ys ++ [(22, vR, valsT qs)] := by simp [sayItems]
  rw [e1, e2]
  refine (h7.perm ?_).sub (fun p hp => by
    simp only [List.flatMap_append, List.flatMap_cons, List.flatMap_nil, List.append_nil, List.nil_append, List.mem_append] at hp ⊢
    rcases hp with h | h | h
    · exact .inr (.inl h)
    · exact .inr (.inr h)
    · exact .inl h)
  refine List.Perm.cons _ (List.Perm.cons _ (List.Perm.cons _ (List.Perm.cons _ ?_)))
  exact List.perm_append_comm (l₁ := [(22, vR, valsT qs)]) (l₂ := sayItems ys)
/-- A last word is put behind. -/
theorem PuT.putE {w0 : World} {a : Option Addr} {c n m : Nat} {zs : List Int} (h : PuT B lo w I O S vF v4 vY vE F ys es [] []) (hB : B ≤ w.heap.size) (hlo : lo ≤ B) (hz : Ints w a zs) (hm : zs.length = m) (hnew : zs ≠ [] → ∀ y, a = some y → y.block < lo) (hn : es.length = n) (hq : n ≤ 1000) (h0 : w0.heap.size ≤ B) (hg0 : w0.grownBy w none) :
    ∃ gE cE w2, (AppY #[23, 23] 23 #[vE, .slice (some ⟨w.heap.size, 0, none⟩) 1 1]).run Try.prog (w.alloc (.cells #[.slice a m c] 22)) = .ok (.slice (some ⟨gE, 0, none⟩) (n + 1) cE) w2 ∧ (w2.cell? ⟨B, 6, none⟩ = some vE ∧ w2.frozen? ⟨B, 6, none⟩ = false) ∧
      PuT B lo (w2.setCell ⟨B, 6, none⟩ (.slice (some ⟨gE, 0, none⟩) (n + 1) cE)) I O S vF v4 vY (.slice (some ⟨gE, 0, none⟩) (n + 1) cE) F ys (es ++ [(a, c, zs)]) [] [] ∧ w0.grownBy (w2.setCell ⟨B, 6, none⟩ (.slice (some ⟨gE, 0, none⟩) (n + 1) cE)) none ∧ B ≤ w2.heap.size := by
  subst hn hm
  have h1 := h.own.word hlo hB (grown_refl _ _) hz (fun hne y hy => .inl (hnew hne y hy)) c
  have h2 := h1.perm (List.perm_middle (l₁ := [_, _, _]))
  obtain ⟨gE, cE, w2, hr, h3, h4, h5⟩ := h2.pushS (n := es.length) (by simp [valsT]) hB rfl (by omega) (.slice a zs.length c) rfl
  have h6 := h3.perm (List.perm_middle (l₁ := [_, _, _])).symm
  have hc := h6.cell (i := 6) rfl
  have h7 := h6.set (i := 6) (by decide) (.slice (some ⟨gE, 0, none⟩) (es.length + 1) cE)
  refine ⟨gE, cE, w2, hr, hc, ⟨?_⟩, grown_new (h4 w0 h0 hg0) (grown_set _ _ _) h0, h5⟩
  have e : valsT es ++ [Value.slice a zs.length c] = valsT (es ++ [(a, c, zs)]) := by simp [valsT, valT]
  rw [e] at h7
  exact h7.sub (fun p hp => by
    simp only [List.nil_append, List.mem_append, List.mem_cons, List.not_mem_nil, or_false] at hp ⊢
    rcases hp with (h | h) | h
    · exact .inr (.inl h)
    · exact .inl h
    · exact .inr (.inr h))
/-- Something is put behind the first word. -/
theorem PuT.putF {w0 : World} {a b : Option Addr} {c d n m : Nat} {us : List Int} (h : PuT B lo w I O S (.slice a n c) v4 vY vE F ys es [] []) (hm : us.length = m) (hu : Ints w b us) (hB : B ≤ w.heap.size) (hl : n + m ≤ 1000) (h0 : w0.heap.size ≤ B) (hg0 : w0.grownBy w none) :
    ∃ a1 c1 w2, (AppY #[22, 22] 22 #[.slice a n c, .slice b m d]).run Try.prog w = .ok (.slice a1 (n + m) c1) w2 ∧ (w2.cell? ⟨B, 3, none⟩ = some (.slice a n c) ∧ w2.frozen? ⟨B, 3, none⟩ = false) ∧
      PuT B lo (w2.setCell ⟨B, 3, none⟩ (.slice a1 (n + m) c1)) I O S (.slice a1 (n + m) c1) v4 vY vE (F ++ us) ys es [] [] ∧ w0.grownBy (w2.setCell ⟨B, 3, none⟩ (.slice a1 (n + m) c1)) none ∧ B ≤ w2.heap.size := by
  have h2 := h.own.perm (List.Perm.swap _ _ _)
  obtain ⟨a1, c1, w2, hr, h3, h4, h5⟩ := h2.putW (d := d) hm hu hB hl
  have h6 := h3.perm (List.Perm.swap _ _ _)
  have hc := h6.cell (i := 3) rfl
  have h7 := h6.set (i := 3) (by decide) (.slice a1 (n + m) c1)
  exact ⟨a1, c1, w2, hr, hc, ⟨h7⟩, grown_new (h4 w0 h0 hg0) (grown_set _ _ _) h0, h5⟩
theorem PuT.below {b : Nat} (h : PuT B lo w I O S vF v4 vY vE F ys es more mps) (g : w.grownBy w' (some b)) (h1 : lo ≤ b) (h2 : b < B) : PuT B lo w' I O S vF v4 vY vE F ys es more mps := ⟨h.own.below g h2 h1 h2⟩
theorem PuT.start {n c4 : Nat} {a4 : Option Addr} : PuT w.heap.size lo (w.alloc (.cells #[.int .i64 I, .int .i64 O, .int .i64 S, .slice none 0 0, .slice a4 n c4, .slice none 0 0, .slice none 0 0] 26)) I O S (.slice none 0 0) (.slice a4 n c4) (.slice none 0 0) (.slice none 0 0) [] [] [] [] [] :=
  ⟨((((OwnsP.no (B := w.heap.size) (lo := lo) (hi := w.heap.size) (w := w)).empty 22).empty 23).empty 3).box (Nat.le_refl _) #[.int .i64 I, .int .i64 O, .int .i64 S, .slice none 0 0, .slice a4 n c4, .slice none 0 0, .slice none 0 0] 26 7 rfl (by omega)⟩
end

end Go.Proofs.Ytodcmlcpicabaaa
