/- What the reference's Behind writes down. -/
import Derived.Test.YtodcmlcpicabaaaTlRefL
import Derived.Test.YtodcmlcpicabaaaTpRun
namespace Go.Proofs.Ytodcmlcpicabaaa
open Go.RowKit
set_option linter.unusedVariables false
set_option linter.unusedSimpArgs false

/-- Under way: the box, first word, rows, what is said, last words; more rows, more words. -/
structure BhT (B : Nat) (w : World) (I O S : Int) (vF vN vY vE : Value) (F : List Int) (rs : List (Value × List Int)) (ys : List (Value × List Trip)) (es : List Trip) (more : List Item) (mps : List Trip) : Prop where
  own : OwnsP B 0 0 w ((26, .slice (some ⟨B, 0, none⟩) 7 7, [.int .i64 I, .int .i64 O, .int .i64 S, vF, vN, vY, vE]) :: (3, vF, vals F) :: (22, vN, rs.map (·.1)) :: (23, vY, ys.map (·.1)) :: (22, vE, valsT es) :: (more ++ (rowItems rs ++ sayItems ys))) (mps ++ (es ++ ys.flatMap (·.2)))
section
variable {B : Nat} {w w' : World} {I O S : Int} {vF vN vY vE : Value} {F : List Int} {rs : List (Value × List Int)} {ys : List (Value × List Trip)} {es : List Trip} {more : List Item} {mps : List Trip}
theorem BhT.kept (h : BhT B w I O S vF vN vY vE F rs ys es more mps) (g : w.grownBy w' none) : BhT B w' I O S vF vN vY vE F rs ys es more mps := ⟨h.own.kept g⟩
theorem BhT.cells (h : BhT B w I O S vF vN vY vE F rs ys es more mps) : w.cell? ⟨B, 0, none⟩ = some (.int .i64 I) ∧ w.cell? ⟨B, 1, none⟩ = some (.int .i64 O) ∧ w.cell? ⟨B, 2, none⟩ = some (.int .i64 S) ∧ w.cell? ⟨B, 3, none⟩ = some vF ∧ w.cell? ⟨B, 4, none⟩ = some vN ∧ w.cell? ⟨B, 5, none⟩ = some vY ∧ w.cell? ⟨B, 6, none⟩ = some vE ∧ ∀ k, w.frozen? ⟨B, k, none⟩ = false :=
  ⟨(h.own.cell (i := 0) rfl).1, (h.own.cell (i := 1) rfl).1, (h.own.cell (i := 2) rfl).1, (h.own.cell (i := 3) rfl).1, (h.own.cell (i := 4) rfl).1, (h.own.cell (i := 5) rfl).1, (h.own.cell (i := 6) rfl).1, fun k => h.own.own.fz k⟩
theorem BhT.start : BhT w.heap.size (w.alloc (.cells #[.int .i64 I, .int .i64 O, .int .i64 S, .slice none 0 0, .slice none 0 0, .slice none 0 0, .slice none 0 0] 26)) I O S (.slice none 0 0) (.slice none 0 0) (.slice none 0 0) (.slice none 0 0) [] [] [] [] [] [] :=
  ⟨(((((OwnsP.no (B := w.heap.size) (lo := 0) (hi := 0) (w := w)).empty 22).empty 23).empty 22).empty 3).box (Nat.le_refl _) #[.int .i64 I, .int .i64 O, .int .i64 S, .slice none 0 0, .slice none 0 0, .slice none 0 0, .slice none 0 0] 26 7 rfl (by omega)⟩
/-- Something is put behind the first word. -/
theorem BhT.putF {w0 : World} {a b : Option Addr} {c d n m : Nat} {us : List Int} (h : BhT B w I O S (.slice a n c) vN vY vE F rs ys es more mps) (hm : us.length = m) (hu : Ints w b us) (hB : B ≤ w.heap.size) (hl : n + m ≤ 1000) (h0 : w0.heap.size ≤ B) (hg0 : w0.grownBy w none) :
    ∃ a1 c1 w2, (AppY #[22, 22] 22 #[.slice a n c, .slice b m d]).run Try.prog w = .ok (.slice a1 (n + m) c1) w2 ∧ (w2.cell? ⟨B, 3, none⟩ = some (.slice a n c) ∧ w2.frozen? ⟨B, 3, none⟩ = false) ∧
      BhT B (w2.setCell ⟨B, 3, none⟩ (.slice a1 (n + m) c1)) I O S (.slice a1 (n + m) c1) vN vY vE (F ++ us) rs ys es more mps ∧ w0.grownBy (w2.setCell ⟨B, 3, none⟩ (.slice a1 (n + m) c1)) none ∧ B ≤ w2.heap.size := by
  have h2 := h.own.perm (List.Perm.swap _ _ _)
  obtain ⟨a1, c1, w2, hr, h3, h4, h5⟩ := h2.putW (d := d) hm hu hB hl
  have h6 := h3.perm (List.Perm.swap _ _ _)
  have hc := h6.cell (i := 3) rfl
  have h7 := h6.set (i := 3) (by decide) (.slice a1 (n + m) c1)
  exact ⟨a1, c1, w2, hr, hc, ⟨h7⟩, grown_new (h4 w0 h0 hg0) (grown_set _ _ _) h0, h5⟩
/-- A word is forgotten. -/
theorem BhT.less {t : Trip} (h : BhT B w I O S vF vN vY vE F rs ys es more (t :: mps)) : BhT B w I O S vF vN vY vE F rs ys es more mps := ⟨h.own.sub fun p hp => by
  simp only [List.cons_append, List.mem_cons]
  exact .inr hp⟩
/-- The start is written. -/
theorem BhT.setS {w0 : World} (h : BhT B w I O S vF vN vY vE F rs ys es more mps) (S2 : Int) (h0 : w0.heap.size ≤ B) (hg0 : w0.grownBy w none) : BhT B (w.setCell ⟨B, 2, none⟩ (.int .i64 S2)) I O S2 vF vN vY vE F rs ys es more mps ∧ w0.grownBy (w.setCell ⟨B, 2, none⟩ (.int .i64 S2)) none :=
  ⟨⟨h.own.set (i := 2) (by decide) (.int .i64 S2)⟩, grown_new hg0 (grown_set _ _ _) h0⟩
/-- Rows under way are begun. -/
theorem BhT.begin (h : BhT B w I O S vF vN vY vE F rs ys es [] []) : BhT B w I O S vF vN vY vE F rs ys es [(3, .slice none 0 0, vals []), (22, .slice none 0 0, valsT [])] [] :=
  ⟨((h.own.empty 22).empty 3).perm (List.Perm.trans (List.Perm.cons _ (List.perm_middle (l₁ := [_, _, _, _, _])).symm) (List.perm_middle (l₁ := [_, _, _, _, _])).symm)⟩
/-- A word is told. -/
theorem BhT.word {a : Option Addr} {zs : List Int} (h : BhT B w I O S vF vN vY vE F rs ys es more mps) (g : w.grownBy w' none) (hz : Ints w' a zs) (hnew : zs ≠ [] → ∀ y, a = some y → w.heap.size ≤ y.block) (c : Nat) : BhT B w' I O S vF vN vY vE F rs ys es more ((a, c, zs) :: mps) :=
  ⟨h.own.word (Nat.zero_le _) (Nat.zero_le _) g hz (fun hne y hy => .inr (hnew hne y hy)) c⟩
/-- A number is put behind the row under way. -/
theorem BhT.putZ {w0 : World} {aR : Option Addr} {cR m : Nat} {zs : List Int} {z : Int} {it : Item} (h : BhT B w I O S vF vN vY vE F rs ys es [(3, .slice aR m cR, vals zs), it] mps) (hm : zs.length = m) (hB : B ≤ w.heap.size) (hl : m ≤ 1000) (h0 : w0.heap.size ≤ B) (hg0 : w0.grownBy w none) :
    ∃ g cap w2, (AppY #[22, 22] 22 #[.slice aR m cR, .slice (some ⟨w.heap.size, 0, none⟩) 1 1]).run Try.prog (w.alloc (.cells #[.int .i64 z] 3)) = .ok (.slice (some ⟨g, 0, none⟩) (m + 1) cap) w2 ∧ BhT B w2 I O S vF vN vY vE F rs ys es [(3, .slice (some ⟨g, 0, none⟩) (m + 1) cap, vals (zs ++ [z])), it] mps ∧ w0.grownBy w2 none ∧ B ≤ w2.heap.size := by
  have h1 := h.own.perm (List.perm_middle (l₁ := [_, _, _, _, _]))
  obtain ⟨g, cap, w2, hr, h4, h5, h6⟩ := h1.pushI (n := m) (by simpa [vals] using hm) hB rfl (by omega) (.int .i64 z) rfl
  refine ⟨g, cap, w2, hr, ⟨?_⟩, h5 w0 h0 hg0, h6⟩
  rw [vals_snoc] at h4
  exact h4.perm (List.perm_middle (l₁ := [_, _, _, _, _])).symm
/-- A word, told, is put behind the row under way. -/
theorem BhT.putR {w0 : World} {vR : Value} {it : Item} {qs : List Trip} {a : Option Addr} {c n : Nat} {zs : List Int} (h : BhT B w I O S vF vN vY vE F rs ys es [it, (22, vR, valsT qs)] ((a, c, zs) :: qs)) (hn : zs.length = n) (hB : B ≤ w.heap.size) (hq : qs.length ≤ 1000) (h0 : w0.heap.size ≤ B) (hg0 : w0.grownBy w none) :
    ∃ gR cR w2, (AppY #[23, 23] 23 #[vR, .slice (some ⟨w.heap.size, 0, none⟩) 1 1]).run Try.prog (w.alloc (.cells #[.slice a n c] 22)) = .ok (.slice (some ⟨gR, 0, none⟩) (qs.length + 1) cR) w2 ∧
      BhT B w2 I O S vF vN vY vE F rs ys es [it, (22, .slice (some ⟨gR, 0, none⟩) (qs.length + 1) cR, valsT (qs ++ [(a, c, zs)]))] (qs ++ [(a, c, zs)]) ∧ w0.grownBy w2 none ∧ B ≤ w2.heap.size := by
  subst hn
  have h2 := h.own.perm (List.perm_middle (l₁ := [_, _, _, _, _, _]))
  obtain ⟨gR, cR, w2, hr, h3, h4, h5⟩ := h2.pushS (n := qs.length) (by simp [valsT]) hB rfl (by omega) (.slice a zs.length c) rfl
  refine ⟨gR, cR, w2, hr, ⟨?_⟩, h4 w0 h0 hg0, h5⟩
  have h6 := h3.perm (List.perm_middle (l₁ := [_, _, _, _, _, _])).symm
  have e : valsT qs ++ [Value.slice a zs.length c] = valsT (qs ++ [(a, c, zs)]) := by simp [valsT, valT]
  rw [e] at h6
  exact h6.sub (fun p hp => by
    simp only [List.mem_append, List.mem_cons, List.not_mem_nil, or_false] at hp ⊢
    rcases hp with (h | h) | h
    · exact .inl (.inr h)
    · exact .inl (.inl h)
    · exact .inr h)
/-- The row of numbers under way is put behind. -/
theorem BhT.putN {w0 : World} {vR : Value} {zs : List Int} {m : Nat} {it : Item} (h : BhT B w I O S vF vN vY vE F rs ys es [(3, vR, vals zs), it] mps) (hR : vR.oneCell' = true) (hm : rs.length = m) (hB : B ≤ w.heap.size) (hl : m ≤ 1000) (h0 : w0.heap.size ≤ B) (hg0 : w0.grownBy w none) :
    ∃ g cap w2, (AppY #[23, 23] 23 #[vN, .slice (some ⟨w.heap.size, 0, none⟩) 1 1]).run Try.prog (w.alloc (.cells #[vR] 22)) = .ok (.slice (some ⟨g, 0, none⟩) (m + 1) cap) w2 ∧ (w2.cell? ⟨B, 4, none⟩ = some vN ∧ w2.frozen? ⟨B, 4, none⟩ = false) ∧
      BhT B (w2.setCell ⟨B, 4, none⟩ (.slice (some ⟨g, 0, none⟩) (m + 1) cap)) I O S vF (.slice (some ⟨g, 0, none⟩) (m + 1) cap) vY vE F (rs ++ [(vR, zs)]) ys es [it] mps ∧ w0.grownBy (w2.setCell ⟨B, 4, none⟩ (.slice (some ⟨g, 0, none⟩) (m + 1) cap)) none ∧ B ≤ w2.heap.size := by
  have h1 := h.own.perm (List.perm_middle (l₁ := [_, _]))
  obtain ⟨g, cap, w2, hr, h4, h5, h6⟩ := h1.pushS (n := m) (by simpa using hm) hB rfl (by omega) vR hR
  have h7 := h4.perm (List.perm_middle (l₁ := [_, _])).symm
  have hc := h7.cell (i := 4) rfl
  have h8 := h7.set (i := 4) (by decide) (.slice (some ⟨g, 0, none⟩) (m + 1) cap)
  refine ⟨g, cap, w2, hr, hc, ⟨?_⟩, grown_new (h5 w0 h0 hg0) (grown_set _ _ _) h0, h6⟩
  have e1 : (rs ++ [(vR, zs)]).map (·.1) = rs.map (·.1) ++ [vR] := by simp
  have e2 : rowItems (rs ++ [(vR, zs)]) = rowItems rs ++ [(3, vR, vals zs)] := by simp [rowItems]
  rw [e1, e2]
  refine h8.perm ?_
  refine List.Perm.cons _ (List.Perm.cons _ (List.Perm.cons _ (List.Perm.cons _ (List.Perm.cons _ ?_))))
  show List.Perm ((3, vR, vals zs) :: it :: (rowItems rs ++ sayItems ys)) (it :: ((rowItems rs ++ [(3, vR, vals zs)]) ++ sayItems ys))
  rw [List.append_assoc]
  exact (List.Perm.swap _ _ _).trans (List.Perm.cons _ (List.perm_middle (l₁ := rowItems rs)).symm)
/-- The row of words under way is put behind. -/
theorem BhT.putY {w0 : World} {vR : Value} {qs : List Trip} {t : Trip} {n : Nat} (h : BhT B w I O S vF vN vY vE F rs ys es [(22, vR, valsT qs)] (t :: qs)) (hR : vR.oneCell' = true) (hn : ys.length = n) (hB : B ≤ w.heap.size) (hq : n ≤ 1000) (h0 : w0.heap.size ≤ B) (hg0 : w0.grownBy w none) :
    ∃ gY cY w2, (AppY #[24, 24] 24 #[vY, .slice (some ⟨w.heap.size, 0, none⟩) 1 1]).run Try.prog (w.alloc (.cells #[vR] 23)) = .ok (.slice (some ⟨gY, 0, none⟩) (n + 1) cY) w2 ∧ (w2.cell? ⟨B, 5, none⟩ = some vY ∧ w2.frozen? ⟨B, 5, none⟩ = false) ∧
      BhT B (w2.setCell ⟨B, 5, none⟩ (.slice (some ⟨gY, 0, none⟩) (n + 1) cY)) I O S vF vN (.slice (some ⟨gY, 0, none⟩) (n + 1) cY) vE F rs (ys ++ [(vR, qs)]) es [] [t] ∧ w0.grownBy (w2.setCell ⟨B, 5, none⟩ (.slice (some ⟨gY, 0, none⟩) (n + 1) cY)) none ∧ B ≤ w2.heap.size := by
  subst hn
  have h2 := h.own.perm (List.perm_middle (l₁ := [_, _, _]))
  obtain ⟨gY, cY, w2, hr, h3, h4, h5⟩ := h2.pushT (n := ys.length) (by simp) hB rfl (by omega) vR hR
  have h6 := h3.perm (List.perm_middle (l₁ := [_, _, _])).symm
  have hc := h6.cell (i := 5) rfl
  have h7 := h6.set (i := 5) (by decide) (.slice (some ⟨gY, 0, none⟩) (ys.length + 1) cY)
  refine ⟨gY, cY, w2, hr, hc, ⟨?_⟩, grown_new (h4 w0 h0 hg0) (grown_set _ _ _) h0, h5⟩
  have e1 : (ys ++ [(vR, qs)]).map (·.1) = ys.map (·.1) ++ [vR] := by simp
  have e2 : sayItems (ys ++ [(vR, qs)]) = sayItems ys ++ [(22, vR, valsT qs)] := by simp [sayItems]
  rw [e1, e2]
  refine (h7.perm ?_).sub (fun p hp => by
    simp only [List.flatMap_append, List.flatMap_cons, List.flatMap_nil, List.append_nil, List.mem_append, List.mem_cons, List.not_mem_nil, or_false] at hp ⊢
    rcases hp with h | h | h | h
    · exact .inl (.inl h)
    · exact .inr (.inl h)
    · exact .inr (.inr h)
    · exact .inl (.inr h))
  refine List.Perm.cons _ (List.Perm.cons _ (List.Perm.cons _ (List.Perm.cons _ (List.Perm.cons _ ?_))))
  show List.Perm ((22, vR, valsT qs) :: (rowItems rs ++ sayItems ys)) (rowItems rs ++ (sayItems ys ++ [(22, vR, valsT qs)]))
  rw [← List.append_assoc]
  exact (List.perm_append_singleton _ _).symm
/-- A last word, told, is put behind. -/
theorem BhT.putE {w0 : World} {a : Option Addr} {c n m : Nat} {zs : List Int} (h : BhT B w I O S vF vN vY vE F rs ys es [] [(a, c, zs)]) (hm : zs.length = m) (hn : es.length = n) (hB : B ≤ w.heap.size) (hq : n ≤ 1000) (h0 : w0.heap.size ≤ B) (hg0 : w0.grownBy w none) :
    ∃ gE cE w2, (AppY #[23, 23] 23 #[vE, .slice (some ⟨w.heap.size, 0, none⟩) 1 1]).run Try.prog (w.alloc (.cells #[.slice a m c] 22)) = .ok (.slice (some ⟨gE, 0, none⟩) (n + 1) cE) w2 ∧ (w2.cell? ⟨B, 6, none⟩ = some vE ∧ w2.frozen? ⟨B, 6, none⟩ = false) ∧
      BhT B (w2.setCell ⟨B, 6, none⟩ (.slice (some ⟨gE, 0, none⟩) (n + 1) cE)) I O S vF vN vY (.slice (some ⟨gE, 0, none⟩) (n + 1) cE) F rs ys (es ++ [(a, c, zs)]) [] [] ∧ w0.grownBy (w2.setCell ⟨B, 6, none⟩ (.slice (some ⟨gE, 0, none⟩) (n + 1) cE)) none ∧ B ≤ w2.heap.size := by
  subst hn hm
  have h2 := h.own.perm (List.perm_middle (l₁ := [_, _, _, _]))
  obtain ⟨gE, cE, w2, hr, h3, h4, h5⟩ := h2.pushS (n := es.length) (by simp [valsT]) hB rfl (by omega) (.slice a zs.length c) rfl
  have h6 := h3.perm (List.perm_middle (l₁ := [_, _, _, _])).symm
  have hc := h6.cell (i := 6) rfl
  have h7 := h6.set (i := 6) (by decide) (.slice (some ⟨gE, 0, none⟩) (es.length + 1) cE)
  refine ⟨gE, cE, w2, hr, hc, ⟨?_⟩, grown_new (h4 w0 h0 hg0) (grown_set _ _ _) h0, h5⟩
  have e : valsT es ++ [Value.slice a zs.length c] = valsT (es ++ [(a, c, zs)]) := by simp [valsT, valT]
  rw [e] at h7
  exact h7.sub (fun p hp => by
    simp only [List.nil_append, List.mem_append, List.mem_cons, List.not_mem_nil, or_false] at hp ⊢
    rcases hp with (h | h) | h
    · exact .inr (.inl h)
    · exact .inl h
    · exact .inr (.inr h))
end

end Go.Proofs.Ytodcmlcpicabaaa
