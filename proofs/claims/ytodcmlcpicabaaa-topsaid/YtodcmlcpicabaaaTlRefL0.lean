/- What the reference's Least writes down. -/
import Derived.Test.YtodcmlcpicabaaaTlRefP
import Derived.Test.YtodcmlcpicabaaaTlAlikR
import Derived.Test.YtodcmlcpicabaaaRFn
namespace Go.Proofs.Ytodcmlcpicabaaa
open Go.RowKit
set_option linter.unusedVariables false
set_option linter.unusedSimpArgs false

/-- Under way: the box, states come to, rows, what is said, numbers of classes, classes. -/
structure LsT (B bo : Nat) (w : World) (I O : Int) (vF vS vN vY vE : Value) (n gN gC cC : Nat) (cls : Nat → Nat) (xs : List Nat) (rs : List (Value × List Int)) (Ys Es : List Value) (more : List Item) : Prop where
  own : OwnsP B 0 0 w ((26, .slice (some ⟨bo, 0, none⟩) 7 7, [.int .i64 I, .int .i64 O, .int .i64 0, vF, vN, vY, vE]) :: (3, vS, vals (natInts xs)) :: (22, vN, rs.map (·.1)) :: (23, vY, Ys) :: (22, vE, Es) :: (3, .slice (some ⟨gN, 0, none⟩) n n, ivals n (numC cls xs)) :: (3, .slice (some ⟨gC, 0, none⟩) n cC, fvals n cls) :: (more ++ rowItems rs)) []
section
variable {B bo : Nat} {w w' : World} {I O : Int} {vF vS vN vY vE : Value} {n gN gC cC : Nat} {cls : Nat → Nat} {xs : List Nat} {rs : List (Value × List Int)} {Ys Es : List Value} {more : List Item}
theorem LsT.kept (h : LsT B bo w I O vF vS vN vY vE n gN gC cC cls xs rs Ys Es more) (g : w.grownBy w' none) : LsT B bo w' I O vF vS vN vY vE n gN gC cC cls xs rs Ys Es more := ⟨h.own.kept g⟩
theorem LsT.cells (h : LsT B bo w I O vF vS vN vY vE n gN gC cC cls xs rs Ys Es more) : w.cell? ⟨bo, 0, none⟩ = some (.int .i64 I) ∧ w.cell? ⟨bo, 1, none⟩ = some (.int .i64 O) ∧ w.cell? ⟨bo, 2, none⟩ = some (.int .i64 0) ∧ w.cell? ⟨bo, 3, none⟩ = some vF ∧ w.cell? ⟨bo, 4, none⟩ = some vN ∧ w.cell? ⟨bo, 5, none⟩ = some vY ∧ w.cell? ⟨bo, 6, none⟩ = some vE ∧ ∀ k, w.frozen? ⟨bo, k, none⟩ = false :=
  ⟨(h.own.cell (i := 0) rfl).1, (h.own.cell (i := 1) rfl).1, (h.own.cell (i := 2) rfl).1, (h.own.cell (i := 3) rfl).1, (h.own.cell (i := 4) rfl).1, (h.own.cell (i := 5) rfl).1, (h.own.cell (i := 6) rfl).1, fun k => h.own.own.fz k⟩
theorem LsT.state (h : LsT B bo w I O vF vS vN vY vE n gN gC cC cls xs rs Ys Es more) {i : Nat} (hi : i < xs.length) : ∃ g cap, vS = .slice (some ⟨g, 0, none⟩) xs.length cap ∧ w.cell? ⟨g, i, none⟩ = some (.int .i64 ((xs.getD i 0 : Nat) : Int)) := by
  have h2 := h.own.perm (List.perm_middle (l₁ := [_]))
  obtain ⟨g, cap, e, _⟩ := h2.own.form (by simp; omega)
  simp at e
  subst e
  exact ⟨g, cap, rfl, h2.own.cell (natInts_get hi)⟩
theorem LsT.num (h : LsT B bo w I O vF vS vN vY vE n gN gC cC cls xs rs Ys Es more) {c : Nat} (hc : c < n) : w.cell? ⟨gN, c, none⟩ = some (.int .i64 (numC cls xs c)) ∧ w.frozen? ⟨gN, c, none⟩ = false :=
  (h.own.perm (List.perm_middle (l₁ := [_, _, _, _, _]))).cell (ivals_get hc)
theorem LsT.clsAt (h : LsT B bo w I O vF vS vN vY vE n gN gC cC cls xs rs Ys Es more) {s : Nat} (hs : s < n) : w.cell? ⟨gC, s, none⟩ = some (.int .i64 ((cls s : Nat) : Int)) :=
  ((h.own.perm (List.perm_middle (l₁ := [_, _, _, _, _, _]))).cell (fvals_get hs)).1
theorem LsT.begin (h : LsT B bo w I O vF vS vN vY vE n gN gC cC cls xs rs Ys Es []) : LsT B bo w I O vF vS vN vY vE n gN gC cC cls xs rs Ys Es [(3, .slice none 0 0, vals [])] :=
  ⟨(h.own.empty 3).perm (List.perm_middle (l₁ := [_, _, _, _, _, _, _])).symm⟩
/-- A new state has its number, and is put behind. -/
theorem LsT.new {y : Nat} {w0 : World} {aS : Option Addr} {cS : Nat} (h : LsT B bo w I O vF (.slice aS xs.length cS) vN vY vE n gN gC cC cls xs rs Ys Es more) (hB : B ≤ w.heap.size) (hno : ¬ hasK cls xs y) (hy : cls y < n) (hxl : xs.length ≤ 1000) (h0 : w0.heap.size ≤ B) (hg0 : w0.grownBy w none) :
    w.cell? ⟨gN, cls y, none⟩ = some (.int .i64 (-1)) ∧ w.frozen? ⟨gN, cls y, none⟩ = false ∧ ∃ W7, W7 = w.setCell ⟨gN, cls y, none⟩ (.int .i64 (xs.length : Int)) ∧ W7.heap.size = w.heap.size ∧ w0.grownBy W7 none ∧ W7.cell? ⟨gC, 0, none⟩ = W7.cell? ⟨gC, 0, none⟩ ∧
      ∃ g cap w2, (AppY #[22, 22] 22 #[.slice aS xs.length cS, .slice (some ⟨W7.heap.size, 0, none⟩) 1 1]).run Try.prog (W7.alloc (.cells #[.int .i64 (y : Int)] 3)) = .ok (.slice (some ⟨g, 0, none⟩) (xs.length + 1) cap) w2 ∧ LsT B bo w2 I O vF (.slice (some ⟨g, 0, none⟩) (xs.length + 1) cap) vN vY vE n gN gC cC cls (xs ++ [y]) rs Ys Es more ∧ w0.grownBy w2 none ∧ B ≤ w2.heap.size := by
  obtain ⟨c1, f1⟩ := h.num hy
  rw [numC_none hno] at c1
  have h1 := h.own.perm (List.perm_middle (l₁ := [_, _, _, _, _]))
  have hge := (h1.own.row.lt gN rfl).1
  have h2 := h1.set hy (.int .i64 (xs.length : Int))
  rw [ivals_set (g := numC cls (xs ++ [y])) hy (by rw [numC_snoc hno, if_pos rfl]) (fun j hj hne => by rw [numC_snoc hno, if_neg hne])] at h2
  have hsz : (w.setCell ⟨gN, cls y, none⟩ (.int .i64 (xs.length : Int))).heap.size = w.heap.size := by simp [World.setCell]
  have h3 := (h2.perm (List.perm_middle (l₁ := [_, _, _, _, _])).symm).perm (List.perm_middle (l₁ := [_]))
  have hg7 : w0.grownBy (w.setCell ⟨gN, cls y, none⟩ (.int .i64 (xs.length : Int))) none := grown_new hg0 (grown_set _ _ _) (Nat.le_trans h0 hge)
  obtain ⟨g, cap, w2, hr, h4, h5, h6⟩ := h3.pushI (n := xs.length) (by simp [vals]) (by rw [hsz]; exact hB) rfl (by omega) (.int .i64 (y : Int)) rfl
  refine ⟨c1, f1, _, rfl, hsz, hg7, rfl, g, cap, w2, hr, ⟨?_⟩, h5 w0 h0 hg7, h6⟩
  have h7 := h4.perm (List.perm_middle (l₁ := [_])).symm
  have e : vals (natInts xs) ++ [Value.int .i64 (y : Int)] = vals (natInts (xs ++ [y])) := by simp [vals, natInts]
  rw [e] at h7
  exact h7
/-- A number is put behind the row under way. -/
theorem LsT.putC {w0 : World} {aR : Option Addr} {cR m : Nat} {zs : List Int} {z : Int} (h : LsT B bo w I O vF vS vN vY vE n gN gC cC cls xs rs Ys Es [(3, .slice aR m cR, vals zs)]) (hm : zs.length = m) (hB : B ≤ w.heap.size) (hl : m ≤ 1000) (h0 : w0.heap.size ≤ B) (hg0 : w0.grownBy w none) :
    ∃ g cap w2, (AppY #[22, 22] 22 #[.slice aR m cR, .slice (some ⟨w.heap.size, 0, none⟩) 1 1]).run Try.prog (w.alloc (.cells #[.int .i64 z] 3)) = .ok (.slice (some ⟨g, 0, none⟩) (m + 1) cap) w2 ∧ LsT B bo w2 I O vF vS vN vY vE n gN gC cC cls xs rs Ys Es [(3, .slice (some ⟨g, 0, none⟩) (m + 1) cap, vals (zs ++ [z]))] ∧ w0.grownBy w2 none ∧ B ≤ w2.heap.size := by
  have h1 := h.own.perm (List.perm_middle (l₁ := [_, _, _, _, _, _, _]))
  obtain ⟨g, cap, w2, hr, h4, h5, h6⟩ := h1.pushI (n := m) (by simpa [vals] using hm) hB rfl (by omega) (.int .i64 z) rfl
  refine ⟨g, cap, w2, hr, ⟨?_⟩, h5 w0 h0 hg0, h6⟩
  rw [vals_snoc] at h4
  exact h4.perm (List.perm_middle (l₁ := [_, _, _, _, _, _, _])).symm
/-- The row under way is put behind. -/
theorem LsT.putN {w0 : World} {vR : Value} {zs : List Int} {m : Nat} (h : LsT B bo w I O vF vS vN vY vE n gN gC cC cls xs rs Ys Es [(3, vR, vals zs)]) (hR : vR.oneCell' = true) (hm : rs.length = m) (hB : B ≤ w.heap.size) (hl : m ≤ 1000) (hbo : w0.heap.size ≤ bo) (h0 : w0.heap.size ≤ B) (hg0 : w0.grownBy w none) :
    ∃ g cap w2, (AppY #[23, 23] 23 #[vN, .slice (some ⟨w.heap.size, 0, none⟩) 1 1]).run Try.prog (w.alloc (.cells #[vR] 22)) = .ok (.slice (some ⟨g, 0, none⟩) (m + 1) cap) w2 ∧ (w2.cell? ⟨bo, 4, none⟩ = some vN ∧ w2.frozen? ⟨bo, 4, none⟩ = false) ∧
      LsT B bo (w2.setCell ⟨bo, 4, none⟩ (.slice (some ⟨g, 0, none⟩) (m + 1) cap)) I O vF vS (.slice (some ⟨g, 0, none⟩) (m + 1) cap) vY vE n gN gC cC cls xs (rs ++ [(vR, zs)]) Ys Es [] ∧ w0.grownBy (w2.setCell ⟨bo, 4, none⟩ (.slice (some ⟨g, 0, none⟩) (m + 1) cap)) none ∧ B ≤ w2.heap.size := by
  have h1 := h.own.perm (List.perm_middle (l₁ := [_, _]))
  obtain ⟨g, cap, w2, hr, h4, h5, h6⟩ := h1.pushS (n := m) (by simpa using hm) hB rfl (by omega) vR hR
  have h7 := h4.perm (List.perm_middle (l₁ := [_, _])).symm
  have hc := h7.cell (i := 4) rfl
  have h8 := h7.set (i := 4) (by decide) (.slice (some ⟨g, 0, none⟩) (m + 1) cap)
  refine ⟨g, cap, w2, hr, hc, ⟨?_⟩, grown_new (h5 w0 h0 hg0) (grown_set _ _ _) hbo, h6⟩
  have e1 : (rs ++ [(vR, zs)]).map (·.1) = rs.map (·.1) ++ [vR] := by simp
  have e2 : rowItems (rs ++ [(vR, zs)]) = rowItems rs ++ [(3, vR, vals zs)] := by simp [rowItems]
  rw [e1, e2]
  refine h8.perm ?_
  refine List.Perm.cons _ (List.Perm.cons _ (List.Perm.cons _ (List.Perm.cons _ (List.Perm.cons _ (List.Perm.cons _ (List.Perm.cons _ ?_))))))
  exact List.perm_append_comm (l₁ := [(3, vR, vals zs)]) (l₂ := rowItems rs)
/-- What letters say is put behind. -/
theorem LsT.putY {w0 : World} {v : Value} {m : Nat} (h : LsT B bo w I O vF vS vN vY vE n gN gC cC cls xs rs Ys Es []) (hv : v.oneCell' = true) (hm : Ys.length = m) (hB : B ≤ w.heap.size) (hl : m ≤ 1000) (hbo : w0.heap.size ≤ bo) (h0 : w0.heap.size ≤ B) (hg0 : w0.grownBy w none) :
    ∃ g cap w2, (AppY #[24, 24] 24 #[vY, .slice (some ⟨w.heap.size, 0, none⟩) 1 1]).run Try.prog (w.alloc (.cells #[v] 23)) = .ok (.slice (some ⟨g, 0, none⟩) (m + 1) cap) w2 ∧ (w2.cell? ⟨bo, 5, none⟩ = some vY ∧ w2.frozen? ⟨bo, 5, none⟩ = false) ∧
      LsT B bo (w2.setCell ⟨bo, 5, none⟩ (.slice (some ⟨g, 0, none⟩) (m + 1) cap)) I O vF vS vN (.slice (some ⟨g, 0, none⟩) (m + 1) cap) vE n gN gC cC cls xs rs (Ys ++ [v]) Es [] ∧ w0.grownBy (w2.setCell ⟨bo, 5, none⟩ (.slice (some ⟨g, 0, none⟩) (m + 1) cap)) none ∧ B ≤ w2.heap.size := by
  have h1 := h.own.perm (List.perm_middle (l₁ := [_, _, _]))
  obtain ⟨g, cap, w2, hr, h4, h5, h6⟩ := h1.pushT (n := m) hm hB rfl (by omega) v hv
  have h7 := h4.perm (List.perm_middle (l₁ := [_, _, _])).symm
  have hc := h7.cell (i := 5) rfl
  have h8 := h7.set (i := 5) (by decide) (.slice (some ⟨g, 0, none⟩) (m + 1) cap)
  exact ⟨g, cap, w2, hr, hc, ⟨h8⟩, grown_new (h5 w0 h0 hg0) (grown_set _ _ _) hbo, h6⟩
/-- What is said at the end is put behind. -/
theorem LsT.putE {w0 : World} {v : Value} {m : Nat} (h : LsT B bo w I O vF vS vN vY vE n gN gC cC cls xs rs Ys Es []) (hv : v.oneCell' = true) (hm : Es.length = m) (hB : B ≤ w.heap.size) (hl : m ≤ 1000) (hbo : w0.heap.size ≤ bo) (h0 : w0.heap.size ≤ B) (hg0 : w0.grownBy w none) :
    ∃ g cap w2, (AppY #[23, 23] 23 #[vE, .slice (some ⟨w.heap.size, 0, none⟩) 1 1]).run Try.prog (w.alloc (.cells #[v] 22)) = .ok (.slice (some ⟨g, 0, none⟩) (m + 1) cap) w2 ∧ (w2.cell? ⟨bo, 6, none⟩ = some vE ∧ w2.frozen? ⟨bo, 6, none⟩ = false) ∧
      LsT B bo (w2.setCell ⟨bo, 6, none⟩ (.slice (some ⟨g, 0, none⟩) (m + 1) cap)) I O vF vS vN vY (.slice (some ⟨g, 0, none⟩) (m + 1) cap) n gN gC cC cls xs rs Ys (Es ++ [v]) [] ∧ w0.grownBy (w2.setCell ⟨bo, 6, none⟩ (.slice (some ⟨g, 0, none⟩) (m + 1) cap)) none ∧ B ≤ w2.heap.size := by
  have h1 := h.own.perm (List.perm_middle (l₁ := [_, _, _, _]))
  obtain ⟨g, cap, w2, hr, h4, h5, h6⟩ := h1.pushS (n := m) hm hB rfl (by omega) v hv
  have h7 := h4.perm (List.perm_middle (l₁ := [_, _, _, _])).symm
  have hc := h7.cell (i := 6) rfl
  have h8 := h7.set (i := 6) (by decide) (.slice (some ⟨g, 0, none⟩) (m + 1) cap)
  exact ⟨g, cap, w2, hr, hc, ⟨h8⟩, grown_new (h5 w0 h0 hg0) (grown_set _ _ _) hbo, h6⟩
/-- The rows, once all is there. -/
theorem LsT.rows {aN aY aE : Option Addr} {cN cY cE k : Nat} (h : LsT B bo w I O vF vS (.slice aN k cN) (.slice aY k cY) (.slice aE k cE) n gN gC cC cls xs rs Ys Es more) :
    (RowsAt w aN (rs.map (·.2)) ∧ rs.length ≤ maxLen) ∧ (Ys.length ≤ maxLen ∧ (Ys = [] ∨ ∃ g, aY = some ⟨g, 0, none⟩ ∧ ∀ i u, Ys[i]? = some u → w.cell? ⟨g, i, none⟩ = some u)) ∧ (Es.length ≤ maxLen ∧ (Es = [] ∨ ∃ g, aE = some ⟨g, 0, none⟩ ∧ ∀ i u, Es[i]? = some u → w.cell? ⟨g, i, none⟩ = some u)) := by
  have o := h.own.own
  obtain ⟨aN', cN', eN, lN, kN⟩ := item_cells (o.1 (22, .slice aN k cN, rs.map (·.1)) (by simp))
  obtain ⟨aY', cY', eY, lY, kY⟩ := item_cells (o.1 (23, .slice aY k cY, Ys) (by simp))
  obtain ⟨aE', cE', eE, lE, kE⟩ := item_cells (o.1 (22, .slice aE k cE, Es) (by simp))
  simp only [Value.slice.injEq] at eN eY eE
  obtain ⟨rfl, _, rfl⟩ := eN
  obtain ⟨rfl, _, rfl⟩ := eY
  obtain ⟨rfl, _, rfl⟩ := eE
  refine ⟨⟨?_, by simpa using lN⟩, ⟨lY, kY⟩, ⟨lE, kE⟩⟩
  rcases kN with kN | ⟨g, rfl, kN⟩
  · left
    have : rs = [] := by simpa using kN
    rw [this]; rfl
  · refine .inr ⟨g, 0, rfl, fun i hi => ?_⟩
    have hi' : i < rs.length := by simpa using hi
    have m := o.1 (3, rs[i].1, vals rs[i].2) (by
      have : (3, rs[i].1, vals rs[i].2) ∈ rowItems rs := List.mem_map.2 ⟨rs[i], List.getElem_mem hi', rfl⟩
      simp only [List.mem_cons, List.mem_append]
      exact .inr (.inr (.inr (.inr (.inr (.inr (.inr (.inr this))))))))
    obtain ⟨ay, cy, ey, ty, ly⟩ := item_ints m
    have e1 : (rs.map (·.2)).getD i [] = rs[i].2 := by simp [List.getD, hi']
    rw [e1]
    refine ⟨ay, cy, ?_, ty, ly⟩
    rw [Nat.zero_add, kN i rs[i].1 (by simp [hi'])]
    exact congrArg some ey
end

end Go.Proofs.Ytodcmlcpicabaaa
