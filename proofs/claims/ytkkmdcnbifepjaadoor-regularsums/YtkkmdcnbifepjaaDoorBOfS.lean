/- The words for 'Of' over pairs: an automaton under way, its states numbered by a map. -/
import Derived.Test.YtkkmdcnbifepjaaDoorBOwn
import Derived.Test.YtkkmdcnbifepjaaDoorHBk
namespace Go.Proofs.YtkkmdcnbifepjaaDoor
open Go.RowKit
set_option linter.unusedVariables false

/-- An automaton under way: the pairs xs (by numbers), the rows rs, the marks M. -/
structure OfAt2 (B bm l k : Nat) (w : World) (aS : Option Addr) (cS : Nat) (vR vM : Value) (xs : List Nat) (rs : List (Value × List Int)) (M : List Int) (more : List Item) : Prop where
  res : w.heap[B]? = some (.cells #[.int .i64 0, .int .i64 0, .slice none 0 0, .slice none 0 0] 25 (0, 0))
  det : w.heap[B + 1]? = some (.cells #[.int .i64 l, .int .i64 0, vR, vM] 25 (0, 0))
  hbm : B + 2 ≤ bm
  num : NumAt2 w bm k xs
  own : Owns2 (B + 2) w (.slice aS xs.length cS) xs.length (pcells k xs) ((22, vR, rs.map (·.1)) :: (3, vM, vals M) :: (more ++ rowItems rs))

theorem Tryd.infoP : (Tryd.prog.info? 103).map (fun i => (i.zero, i.size, i.bytes)) = some (some (.agg #[.int .i64 0, .int .i64 0]), 2, 16) := by kernel_rfl

section
variable {B bm l k : Nat} {w w' : World} {aS : Option Addr} {cS : Nat} {vR vM : Value} {xs : List Nat} {rs : List (Value × List Int)} {M : List Int} {more : List Item}

theorem OfAt2.kept (h : OfAt2 B bm l k w aS cS vR vM xs rs M more) (hg : w.grownBy w' none) : OfAt2 B bm l k w' aS cS vR vM xs rs M more :=
  ⟨(hg.block _ (Array.getElem?_eq_some_iff.1 h.res).1 (by simp)).trans h.res, (hg.block _ (Array.getElem?_eq_some_iff.1 h.det).1 (by simp)).trans h.det, h.hbm, h.num.kept hg (by simp), h.own.kept hg⟩
theorem OfAt2.lt (h : OfAt2 B bm l k w aS cS vR vM xs rs M more) : B + 2 ≤ bm ∧ bm < w.heap.size := ⟨h.hbm, h.num.block.1⟩
theorem OfAt2.cells (h : OfAt2 B bm l k w aS cS vR vM xs rs M more) : w.cell? ⟨B + 1, 0, none⟩ = some (.int .i64 l) ∧ w.cell? ⟨B + 1, 1, none⟩ = some (.int .i64 0) ∧ w.cell? ⟨B + 1, 2, none⟩ = some vR ∧ w.cell? ⟨B + 1, 3, none⟩ = some vM ∧ ∀ k, w.frozen? ⟨B + 1, k, none⟩ = false :=
  ⟨by rw [cell_of_row _ _ _ _ _ (0, 0) h.det]; rfl, by rw [cell_of_row _ _ _ _ _ (0, 0) h.det]; rfl, by rw [cell_of_row _ _ _ _ _ (0, 0) h.det]; rfl, by rw [cell_of_row _ _ _ _ _ (0, 0) h.det]; rfl, fun k => frozen_of_row _ _ k _ _ h.det⟩
theorem OfAt2.ress (h : OfAt2 B bm l k w aS cS vR vM xs rs M more) : w.cell? ⟨B, 0, none⟩ = some (.int .i64 0) ∧ w.cell? ⟨B, 1, none⟩ = some (.int .i64 0) ∧ w.cell? ⟨B, 2, none⟩ = some (.slice none 0 0) ∧ w.cell? ⟨B, 3, none⟩ = some (.slice none 0 0) ∧ ∀ k, w.frozen? ⟨B, k, none⟩ = false :=
  ⟨by rw [cell_of_row _ _ _ _ _ (0, 0) h.res]; rfl, by rw [cell_of_row _ _ _ _ _ (0, 0) h.res]; rfl, by rw [cell_of_row _ _ _ _ _ (0, 0) h.res]; rfl, by rw [cell_of_row _ _ _ _ _ (0, 0) h.res]; rfl, fun k => frozen_of_row _ _ k _ _ h.res⟩
/-- A pair that is there. -/
theorem OfAt2.state (h : OfAt2 B bm l k w aS cS vR vM xs rs M more) {i : Nat} (hi : i < xs.length) : ∃ g, aS = some ⟨g, 0, none⟩ ∧ w.cell? ⟨g, i * 2, none⟩ = some (.int .i64 ((pxx k (xs.getD i 0) : Nat) : Int)) ∧ w.cell? ⟨g, i * 2 + 1, none⟩ = some (.int .i64 ((pyy k (xs.getD i 0) : Nat) : Int)) := by
  obtain ⟨h1, h2⟩ := pcells_get (k := k) hi
  have hs := h.own.st
  rcases hs.2 with ⟨_, e0⟩ | ⟨g, cap, cur, e1, _⟩
  · omega
  · simp only [Value.slice.injEq] at e1
    obtain ⟨rfl, _, rfl⟩ := e1
    have c1 := hs.cells (g := g) rfl _ _ h1
    have c2 := hs.cells (g := g) rfl _ _ h2
    rw [addr_add] at c1 c2
    exact ⟨g, rfl, c1, c2⟩
/-- The map has turned: a new pair has its number. -/
theorem OfAt2.numbered {y : Nat} (h : OfAt2 B bm l k w aS cS vR vM xs rs M more) (hn : NumAt2 w' bm k (xs ++ [y])) (hg : w.grownBy w' (some bm)) :
    w'.heap[B]? = some (.cells #[.int .i64 0, .int .i64 0, .slice none 0 0, .slice none 0 0] 25 (0, 0)) ∧ w'.heap[B + 1]? = some (.cells #[.int .i64 l, .int .i64 0, vR, vM] 25 (0, 0)) ∧
    Owns2 (B + 2) w' (.slice aS xs.length cS) xs.length (pcells k xs) ((22, vR, rs.map (·.1)) :: (3, vM, vals M) :: (more ++ rowItems rs)) := by
  obtain ⟨_, o, ho, hne⟩ := h.num.block
  have hbm := h.hbm
  exact ⟨(hg.block _ (Array.getElem?_eq_some_iff.1 h.res).1 (by simp; omega)).trans h.res, (hg.block _ (Array.getElem?_eq_some_iff.1 h.det).1 (by simp; omega)).trans h.det, h.own.far hg ho hne⟩
theorem st_old {b : Nat} {o : Option Obj} {n : Nat} {vS : Value} {cs : List Value} {its : List Item} (h : Owns2 B w vS n cs its) (hb : b < B) (hlt : b < w.heap.size) (h2 : w.grownBy w' vS.ownBlock) (ho : w.heap[b]? = o) : w'.heap[b]? = o :=
  (h2.block b hlt (fun hc => by have := (h.st.lt b hc.symm).1; omega)).trans ho
theorem st_other {b n : Nat} {o : Obj} {vS : Value} {cs : List Value} {its : List Item} (h : Owns2 B w vS n cs its) (ho : w.heap[b]? = some o) (hne : ∀ c t f, o ≠ .cells c t f) : vS.ownBlock ≠ some b := by
  intro hc
  rcases h.st.2 with ⟨e0, _⟩ | ⟨g, cap, cur, e1, _, hh, _⟩
  · rw [e0] at hc; cases hc
  · rw [e1] at hc
    have : g = b := by simpa [Value.ownBlock] using hc
    subst this
    rw [hh] at ho
    exact hne _ _ _ (Option.some.inj ho).symm
/-- A pair is put behind: it is numbered already. -/
theorem push_pair {y H : Nat} (hbm : B + 2 ≤ bm) (h1 : w.heap[B]? = some (.cells #[.int .i64 0, .int .i64 0, .slice none 0 0, .slice none 0 0] 25 (0, 0))) (h2 : w.heap[B + 1]? = some (.cells #[.int .i64 l, .int .i64 0, vR, vM] 25 (0, 0)))
    (h3 : NumAt2 w bm k (xs ++ [y])) (h4 : Owns2 (B + 2) w (.slice aS xs.length cS) xs.length (pcells k xs) ((22, vR, rs.map (·.1)) :: (3, vM, vals M) :: (more ++ rowItems rs))) (hH : w.heap.size = H) (hl : xs.length ≤ 100000000) :
    ∃ g cap w', (AppS #[144, 144] 144 #[.slice aS xs.length cS, .slice (some ⟨H, 0, none⟩) 1 1]).run Tryd.prog (w.alloc (.cells #[.int .i64 ((pxx k y : Nat) : Int), .int .i64 ((pyy k y : Nat) : Int)] 103)) = .ok (.slice (some ⟨g, 0, none⟩) (xs.length + 1) cap) w' ∧
      OfAt2 B bm l k w' (some ⟨g, 0, none⟩) cap vR vM (xs ++ [y]) rs M more ∧ Keeps (B + 2) w w' := by
  subst hH
  have hsz : B + 2 ≤ w.heap.size := by have := h3.block.1; omega
  obtain ⟨i0, hio, hz0, hz1, hz2⟩ := info_parts Tryd.infoP
  have h4' := h4.kept (grown_alloc w (.cells #[.int .i64 ((pxx k y : Nat) : Int), .int .i64 ((pyy k y : Nat) : Int)] 103))
  have ga := grown_alloc w (.cells #[.int .i64 ((pxx k y : Nat) : Int), .int .i64 ((pyy k y : Nat) : Int)] 103)
  obtain ⟨g', cap, w5, hrun, ho5, hg5, hat5, hlt5⟩ := run_append_lies (P := Tryd.prog) (w.alloc (.cells #[.int .i64 ((pxx k y : Nat) : Int), .int .i64 ((pyy k y : Nat) : Int)] 103)) 144 144 (B + 2) 103 i0 _ 2 16 Tryd.underlying144 hio hz0 hz1 hz2 rfl (by decide) (.slice aS xs.length cS) xs.length (pcells k xs) h4'.st ⟨w.heap.size, 0, none⟩ 1 1 [.int .i64 ((pxx k y : Nat) : Int), .int .i64 ((pyy k y : Nat) : Int)] rfl (World.news_of_block (heap_alloc_new _ _)) (by intro u hu; simp at hu; rcases hu with rfl | rfl <;> rfl) (by omega) (by unfold maxLen; omega) (by omega) (by simp; omega) _ rfl
  have h5 := h4'.push ho5 hg5 hat5 rfl
  have b1 := (ga.block _ (Array.getElem?_eq_some_iff.1 h1).1 (by simp)).trans h1
  have b2 := (ga.block _ (Array.getElem?_eq_some_iff.1 h2).1 (by simp)).trans h2
  have n3 := h3.kept ga (by simp)
  obtain ⟨hb, o, hoo, hne⟩ := n3.block
  refine ⟨g', cap, w5, hrun, ⟨st_old h4' (by omega) (Array.getElem?_eq_some_iff.1 b1).1 hg5 b1, st_old h4' (by omega) (Array.getElem?_eq_some_iff.1 b2).1 hg5 b2, hbm, n3.kept hg5 (st_other h4' hoo hne), ?_⟩, fun w0 hw0 hg0 => ?_⟩
  · rw [pcells_snoc, List.length_append, List.length_singleton]
    exact h5
  · exact grown_of_below ((below_of_grown (grown_trans hg0 ga)).grown hg5 (grown_trans hg0 ga).size (fun b hc => Nat.le_trans hw0 (h4'.st.lt b hc).1))

theorem OfAt2.row (h : OfAt2 B bm l k w aS cS vR vM xs rs M []) (hl : l ≤ 4) : ∃ W, (Instr.makeSlice 22 (.int .i64 (l : Int)) (.int .i64 (l : Int))).run Tryd.prog w = .ok (.slice (some ⟨w.heap.size, 0, none⟩) l l) W ∧
    OfAt2 B bm l k W aS cS vR vM xs rs M [(3, .slice (some ⟨w.heap.size, 0, none⟩) l l, vals (List.replicate l 0))] ∧ w.grownBy W none := by
  refine ⟨_, make_ints w l (by omega), ?_, grown_alloc _ _⟩
  have h1 := h.kept (grown_alloc w (.cells (Array.replicate l (Value.int .i64 0)) 3))
  refine ⟨h1.res, h1.det, h1.hbm, h1.num, ?_⟩
  have h2 := h.own.made (arr := Array.replicate l (Value.int .i64 0)) (m := l) (by have := h.lt; omega) 3 (by simp) (by unfold maxLen; omega)
  rw [vals_zero] at h2
  refine h2.perm ?_
  simp only [List.singleton_append, List.nil_append]
  exact (List.Perm.swap _ _ _).trans ((List.Perm.swap _ _ _).cons _)
theorem OfAt2.cur {it : Item} (h : OfAt2 B bm l k w aS cS vR vM xs rs M [it]) : Owns2 (B + 2) w (.slice aS xs.length cS) xs.length (pcells k xs) (it :: (22, vR, rs.map (·.1)) :: (3, vM, vals M) :: rowItems rs) := by
  refine h.own.perm ?_
  simp only [List.singleton_append]
  exact ((List.Perm.swap _ _ _).cons _).trans (List.Perm.swap _ _ _)
theorem cur_back2 {it : Item} {a b : Item} {r : List Item} : (it :: a :: b :: r).Perm (a :: b :: ([it] ++ r)) := by
  simp only [List.singleton_append]
  exact (List.Perm.swap _ _ _).trans ((List.Perm.swap _ _ _).cons _)
/-- A number is written into the row. -/
theorem OfAt2.write {g a : Nat} {zs : List Int} (h : OfAt2 B bm l k w aS cS vR vM xs rs M [(3, .slice (some ⟨g, 0, none⟩) l l, vals zs)]) (ha : a < l) (x : Int) :
    (∃ u, w.cell? ⟨g, a, none⟩ = some (.int .i64 u)) ∧ w.frozen? ⟨g, a, none⟩ = false ∧ OfAt2 B bm l k (w.setCell ⟨g, a, none⟩ (.int .i64 x)) aS cS vR vM xs rs M [(3, .slice (some ⟨g, 0, none⟩) l l, vals (zs.set a x))] ∧ B + 2 ≤ g := by
  have hc := h.cur
  have hlen : l = zs.length := by have := hc.own.len; rwa [vals_len] at this
  obtain ⟨hB, hlt⟩ := hc.own.ge
  refine ⟨⟨_, hc.own.cell (vals_get (i := a) (by omega))⟩, hc.own.fz a, ?_, hB⟩
  obtain ⟨hb, o, ho, hne⟩ := h.num.block
  have hg := grown_set w ⟨g, a, none⟩ (.int .i64 x)
  have hgn : g ≠ bm := fun e => by
    have := hc.own.other (b := bm) ho hne (3, .slice (some ⟨g, 0, none⟩) l l, vals zs) (List.mem_cons_self)
    exact this (by rw [e]; rfl)
  refine ⟨(hg.block _ (Array.getElem?_eq_some_iff.1 h.res).1 (by simp; omega)).trans h.res, (hg.block _ (Array.getElem?_eq_some_iff.1 h.det).1 (by simp; omega)).trans h.det, h.hbm, h.num.kept hg (by simpa using hgn), ?_⟩
  have h2 := hc.set ha (.int .i64 x)
  rw [vals_set] at h2
  exact h2.perm cur_back2
/-- A row is put behind. -/
theorem OfAt2.putR {u : Option Addr} {nu cu : Nat} {zs : List Int} {aR : Option Addr} {nR cR H : Nat} (h : OfAt2 B bm l k w aS cS (.slice aR nR cR) vM xs rs M [(3, .slice u nu cu, vals zs)]) (hH : w.heap.size = H) (hl : rs.length ≤ 100000000) :
    ∃ g cap w', (AppS #[23, 23] 23 #[.slice aR nR cR, .slice (some ⟨H, 0, none⟩) 1 1]).run Tryd.prog (w.alloc (.cells #[.slice u nu cu] 22)) = .ok (.slice (some ⟨g, 0, none⟩) (nR + 1) cap) w' ∧ w'.cell? ⟨B + 1, 2, none⟩ = some (.slice aR nR cR) ∧ w'.frozen? ⟨B + 1, 2, none⟩ = false ∧
      OfAt2 B bm l k (w'.setCell ⟨B + 1, 2, none⟩ (.slice (some ⟨g, 0, none⟩) (nR + 1) cap)) aS cS (.slice (some ⟨g, 0, none⟩) (nR + 1) cap) vM xs (rs ++ [(.slice u nu cu, zs)]) M [] ∧ Keeps (B + 1) w (w'.setCell ⟨B + 1, 2, none⟩ (.slice (some ⟨g, 0, none⟩) (nR + 1) cap)) := by
  subst hH
  have hsz := h.lt
  obtain ⟨i0, hio, hz0, hz1, hz2⟩ := info_parts Tryd.infoS
  have ga := grown_alloc w (.cells #[.slice u nu cu] 22)
  have h' := h.kept ga
  have hn := h.own.own.len
  rw [List.length_map] at hn
  subst hn
  have hrow := h'.own.own.row
  rw [List.length_map] at hrow
  obtain ⟨g', cap, w5, hrun, ho5, hg5, hat5, hlt5⟩ := run_append_lies (P := Tryd.prog) (w.alloc (.cells #[.slice u nu cu] 22)) 23 23 (B + 2) 22 i0 (.slice none 0 0) 1 24 Tryd.underlying23 hio hz0 hz1 hz2 rfl (by decide) (.slice aR rs.length cR) rs.length (rs.map (·.1)) hrow ⟨w.heap.size, 0, none⟩ 1 1 [.slice u nu cu] rfl (cell_one_new _ _ _) (by intro u hu; simp at hu; subst hu; rfl) (by omega) (by unfold maxLen; omega) (by omega) (by simp; omega) _ rfl
  have h5 := h'.own.append ho5 (by simp) hg5 hat5 rfl
  obtain ⟨hb, o, hoo, hne⟩ := h'.num.block
  have k1 := h'.own.own.old (by omega) (Array.getElem?_eq_some_iff.1 h'.res).1 hg5 h'.res
  have k2 := h'.own.own.old (by omega) (Array.getElem?_eq_some_iff.1 h'.det).1 hg5 h'.det
  have k3 := h'.num.kept hg5 (fun e => h'.own.own.other hoo hne (22, .slice aR rs.length cR, rs.map (·.1)) (by simp) e)
  have hk : Keeps (B + 2) w w5 := ((Keeps.refl _ w).alloc _).trans (Keeps.first h'.own.own hg5)
  refine ⟨g', cap, w5, hrun, by rw [cell_of_row _ _ _ _ _ (0, 0) k2]; rfl, frozen_of_row _ _ _ _ _ k2, ⟨?_, ?_, h.hbm, ?_, ?_⟩, fun w0 hw0 hg0 => grown_new (hk w0 (by omega) hg0) (grown_set _ _ _) hw0⟩
  · exact (Below.heap_setCell _ _ _ _ (by simp)).trans k1
  · rw [heap_setCell_same _ _ 2 _ _ _ k2]; rfl
  · exact k3.kept (grown_set _ _ _) (by simp; have := h.hbm; omega)
  · have h6 := h5.below (grown_set w5 ⟨B + 1, 2, none⟩ (.slice (some ⟨g', 0, none⟩) (rs.length + 1) cap)) (by simp)
    refine h6.perm ?_
    simp only [List.map_append, List.map_cons, List.map_nil, List.nil_append]
    refine List.Perm.cons _ (List.Perm.cons _ ?_)
    exact (List.perm_append_comm (l₁ := [(3, .slice u nu cu, vals zs)]) (l₂ := rowItems rs))
/-- A mark is put behind. -/
theorem OfAt2.putM {x : Int} {aM : Option Addr} {nM cM H : Nat} (h : OfAt2 B bm l k w aS cS vR (.slice aM nM cM) xs rs M []) (hH : w.heap.size = H) (hl : M.length ≤ 100000000) :
    ∃ g cap w', (AppS #[22, 22] 22 #[.slice aM nM cM, .slice (some ⟨H, 0, none⟩) 1 1]).run Tryd.prog (w.alloc (.cells #[.int .i64 x] 3)) = .ok (.slice (some ⟨g, 0, none⟩) (nM + 1) cap) w' ∧ w'.cell? ⟨B + 1, 3, none⟩ = some (.slice aM nM cM) ∧ w'.frozen? ⟨B + 1, 3, none⟩ = false ∧
      OfAt2 B bm l k (w'.setCell ⟨B + 1, 3, none⟩ (.slice (some ⟨g, 0, none⟩) (nM + 1) cap)) aS cS vR (.slice (some ⟨g, 0, none⟩) (nM + 1) cap) xs rs (M ++ [x]) [] ∧ Keeps (B + 1) w (w'.setCell ⟨B + 1, 3, none⟩ (.slice (some ⟨g, 0, none⟩) (nM + 1) cap)) := by
  subst hH
  have hsz := h.lt
  obtain ⟨i0, hio, hz0, hz1, hz2⟩ := info_parts Tryd.info3i
  have ga := grown_alloc w (.cells #[.int .i64 x] 3)
  have h' := h.kept ga
  have hp : Owns2 (B + 2) (w.alloc (.cells #[.int .i64 x] 3)) (.slice aS xs.length cS) xs.length (pcells k xs) ((3, .slice aM nM cM, vals M) :: (22, vR, rs.map (·.1)) :: rowItems rs) := h'.own.perm (List.Perm.swap _ _ _)
  have hn := hp.own.len
  rw [vals_len] at hn
  subst hn
  have hrow := hp.own.row
  rw [vals_len] at hrow
  obtain ⟨g', cap, w5, hrun, ho5, hg5, hat5, hlt5⟩ := run_append_lies (P := Tryd.prog) (w.alloc (.cells #[.int .i64 x] 3)) 22 22 (B + 2) 3 i0 (.int .i64 0) 1 8 Tryd.underlying22 hio hz0 hz1 hz2 rfl (by decide) (.slice aM M.length cM) M.length (vals M) hrow ⟨w.heap.size, 0, none⟩ 1 1 [.int .i64 x] rfl (cell_one_new _ _ _) (by intro u hu; simp at hu; subst hu; rfl) (by omega) (by unfold maxLen; omega) (by omega) (by simp; omega) _ rfl
  have h5 := hp.append ho5 (by simp [vals]) hg5 hat5 rfl
  obtain ⟨hb, o, hoo, hne⟩ := h'.num.block
  have k1 := hp.own.old (by omega) (Array.getElem?_eq_some_iff.1 h'.res).1 hg5 h'.res
  have k2 := hp.own.old (by omega) (Array.getElem?_eq_some_iff.1 h'.det).1 hg5 h'.det
  have k3 := h'.num.kept hg5 (fun e => hp.own.other hoo hne (3, .slice aM M.length cM, vals M) (by simp) e)
  have hk : Keeps (B + 2) w w5 := ((Keeps.refl _ w).alloc _).trans (Keeps.first hp.own hg5)
  refine ⟨g', cap, w5, hrun, by rw [cell_of_row _ _ _ _ _ (0, 0) k2]; rfl, frozen_of_row _ _ _ _ _ k2, ⟨?_, ?_, h.hbm, ?_, ?_⟩, fun w0 hw0 hg0 => grown_new (hk w0 (by omega) hg0) (grown_set _ _ _) hw0⟩
  · exact (Below.heap_setCell _ _ _ _ (by simp)).trans k1
  · rw [heap_setCell_same _ _ 3 _ _ _ k2]; rfl
  · exact k3.kept (grown_set _ _ _) (by simp; have := h.hbm; omega)
  · have h6 := h5.below (grown_set w5 ⟨B + 1, 3, none⟩ (.slice (some ⟨g', 0, none⟩) (M.length + 1) cap)) (by simp)
    rw [vals_snoc] at h6
    exact h6.perm (List.Perm.swap _ _ _)
end

section
variable {B bm l k : Nat} {w w' : World} {aS : Option Addr} {cS : Nat} {vR vM : Value} {xs : List Nat} {rs : List (Value × List Int)} {M : List Int}
theorem of2_marks (h : OfAt2 B bm l k w aS cS vR vM xs rs M []) : Owns2 (B + 2) w (.slice aS xs.length cS) xs.length (pcells k xs) ((3, vM, vals M) :: (22, vR, rs.map (·.1)) :: rowItems rs) := h.own.perm (List.Perm.swap _ _ _)
theorem OfAt2.pushM {x : Int} {g n cap H : Nat} (h : OfAt2 B bm l k w aS cS vR vM xs rs M []) (ho : w'.ownsRow (B + 2) 3 1 (.slice (some ⟨g, 0, none⟩) n cap) n (vals M ++ [.int .i64 x])) (hn : n = M.length + 1)
    (hg : w.grownBy w' vM.ownBlock) (hat : vM.ownBlock = some g ∨ g = H) (hH : w.heap.size = H) :
    (w'.cell? ⟨B + 1, 3, none⟩ = some vM ∧ w'.frozen? ⟨B + 1, 3, none⟩ = false) ∧ OfAt2 B bm l k (w'.setCell ⟨B + 1, 3, none⟩ (.slice (some ⟨g, 0, none⟩) n cap)) aS cS vR (.slice (some ⟨g, 0, none⟩) n cap) xs rs (M ++ [x]) [] := by
  have hp := of2_marks h
  have hbm := h.hbm
  have h5 := hp.append ho (by simp [vals]; omega) hg hat hH
  obtain ⟨hb, o, hoo, hne⟩ := h.num.block
  have k1 := hp.own.old (by omega) (Array.getElem?_eq_some_iff.1 h.res).1 hg h.res
  have k2 := hp.own.old (by omega) (Array.getElem?_eq_some_iff.1 h.det).1 hg h.det
  have k3 := h.num.kept hg (fun e => hp.own.other hoo hne (3, vM, vals M) (by simp) e)
  refine ⟨⟨by rw [cell_of_row _ _ _ _ _ (0, 0) k2]; rfl, frozen_of_row _ _ _ _ _ k2⟩, ?_, ?_, h.hbm, ?_, ?_⟩
  · exact (Below.heap_setCell _ _ _ _ (by simp)).trans k1
  · rw [heap_setCell_same _ _ 3 _ _ _ k2]; rfl
  · exact k3.kept (grown_set _ _ _) (by simp; omega)
  · have h6 := h5.below (grown_set w' ⟨B + 1, 3, none⟩ (.slice (some ⟨g, 0, none⟩) n cap)) (by simp)
    rw [vals_snoc] at h6
    exact h6.perm (List.Perm.swap _ _ _)
end

/-- How it begins, in whatever order. -/
theorem row_new {B : Nat} {W : World} (hB : B ≤ W.heap.size) (k x0 : Nat) : (W.alloc (.cells #[.int .i64 ((pxx k x0 : Nat) : Int), .int .i64 ((pyy k x0 : Nat) : Int)] 103)).ownsRow B 103 2 (.slice (some ⟨W.heap.size, 0, none⟩) 1 1) 1 (pcells k [x0]) :=
  ⟨by simp [pcells], .inr ⟨W.heap.size, 1, _, rfl, hB, heap_alloc_new _ _, Nat.le_refl _, by unfold maxLen; omega, rfl, by simp [pcells]⟩⟩
theorem of_start {B bm l k x0 g : Nat} {V : World} (hres : V.heap[B]? = some (.cells #[.int .i64 0, .int .i64 0, .slice none 0 0, .slice none 0 0] 25 (0, 0))) (hdet : V.heap[B + 1]? = some (.cells #[.int .i64 l, .int .i64 0, .slice none 0 0, .slice none 0 0] 25 (0, 0)))
    (hbm : B + 2 ≤ bm) (hn : NumAt2 V bm k [x0]) (ho : V.ownsRow (B + 2) 103 2 (.slice (some ⟨g, 0, none⟩) 1 1) 1 (pcells k [x0])) : OfAt2 B bm l k V (some ⟨g, 0, none⟩) 1 (.slice none 0 0) (.slice none 0 0) [x0] [] [] [] :=
  ⟨hres, hdet, hbm, hn, ⟨ho, ((Owns.no _ _).empty _).empty _, fun it hm => by
    simp only [List.map_nil, List.append_nil, List.mem_cons, List.not_mem_nil, or_false] at hm
    rcases hm with rfl | rfl <;> exact .inr (.inl rfl)⟩⟩
section
variable {B l x0 : Nat} {W : World} (k : Nat) (hs : W.heap.size = B + 2) (hres : W.heap[B]? = some (.cells #[.int .i64 0, .int .i64 0, .slice none 0 0, .slice none 0 0] 25 (0, 0))) (hdet : W.heap[B + 1]? = some (.cells #[.int .i64 l, .int .i64 0, .slice none 0 0, .slice none 0 0] 25 (0, 0))) (hx : x0 < 4611686018427387904)
include hs hres hdet hx
theorem start_C : ∃ V, (Instr.mapUpdate 145 (.map (some W.heap.size)) (pvl k x0) (.int .i64 0)).run Tryd.prog (W.alloc (.map #[] 0)) = .ok () V ∧ W.grownBy V none ∧
    OfAt2 B (B + 2) l k (V.alloc (.cells #[.int .i64 ((pxx k x0 : Nat) : Int), .int .i64 ((pyy k x0 : Nat) : Int)] 103)) (some ⟨V.heap.size, 0, none⟩) 1 (.slice none 0 0) (.slice none 0 0) [x0] [] [] [] ∧ W.grownBy (V.alloc (.cells #[.int .i64 ((pxx k x0 : Nat) : Int), .int .i64 ((pyy k x0 : Nat) : Int)] 103)) none := by
  obtain ⟨V, hr, hn, hg⟩ := (numAt2_made W k).put hx (by simp) (by simp) (by simp)
  have g1 : W.grownBy V none := grown_new (grown_alloc _ _) hg (Nat.le_refl _)
  have g2 := grown_trans g1 (grown_alloc V (.cells #[.int .i64 ((pxx k x0 : Nat) : Int), .int .i64 ((pyy k x0 : Nat) : Int)] 103))
  refine ⟨V, by simpa using hr, g1, ?_, g2⟩
  refine of_start ((g2.block _ (by omega) (by simp)).trans hres) ((g2.block _ (by omega) (by simp)).trans hdet) (Nat.le_refl _) ?_ (row_new (by have := g1.size; omega) k x0)
  have := hn.kept (grown_alloc V (.cells #[.int .i64 ((pxx k x0 : Nat) : Int), .int .i64 ((pyy k x0 : Nat) : Int)] 103)) (by simp)
  rw [hs] at this
  simpa using this
theorem start_A : ∃ V, (Instr.mapUpdate 145 (.map (some (W.heap.size + 1))) (pvl k x0) (.int .i64 0)).run Tryd.prog ((W.alloc (.cells #[.int .i64 ((pxx k x0 : Nat) : Int), .int .i64 ((pyy k x0 : Nat) : Int)] 103)).alloc (.map #[] 0)) = .ok () V ∧
    OfAt2 B (B + 3) l k V (some ⟨W.heap.size, 0, none⟩) 1 (.slice none 0 0) (.slice none 0 0) [x0] [] [] [] ∧ W.grownBy V none := by
  have hn0 := numAt2_made (W.alloc (.cells #[.int .i64 ((pxx k x0 : Nat) : Int), .int .i64 ((pyy k x0 : Nat) : Int)] 103)) k
  rw [World.size_alloc] at hn0
  obtain ⟨V, hr, hn, hg⟩ := hn0.put hx (by simp) (by simp) (by simp)
  have ga := grown_alloc W (.cells #[.int .i64 ((pxx k x0 : Nat) : Int), .int .i64 ((pyy k x0 : Nat) : Int)] 103)
  have gb := grown_alloc (W.alloc (.cells #[.int .i64 ((pxx k x0 : Nat) : Int), .int .i64 ((pyy k x0 : Nat) : Int)] 103)) (.map #[] 0)
  have g1 : W.grownBy V none := grown_new (grown_trans ga gb) hg (by omega)
  refine ⟨V, by simpa using hr, ?_, g1⟩
  refine of_start ((g1.block _ (by omega) (by simp)).trans hres) ((g1.block _ (by omega) (by simp)).trans hdet) (by omega) (by rw [hs] at hn; simpa using hn) ?_
  exact ((row_new (B := B + 2) (by omega) k x0).kept gb (by simp [Value.ownBlock])).kept hg (.inr (by simp [Value.ownBlock]))
theorem start_B : ∃ V, (Instr.mapUpdate 145 (.map (some W.heap.size)) (pvl k x0) (.int .i64 0)).run Tryd.prog ((W.alloc (.map #[] 0)).alloc (.cells #[.int .i64 ((pxx k x0 : Nat) : Int), .int .i64 ((pyy k x0 : Nat) : Int)] 103)) = .ok () V ∧
    OfAt2 B (B + 2) l k V (some ⟨W.heap.size + 1, 0, none⟩) 1 (.slice none 0 0) (.slice none 0 0) [x0] [] [] [] ∧ W.grownBy V none := by
  have ga := grown_alloc W (.map #[] 0)
  have gb := grown_alloc (W.alloc (.map #[] 0)) (.cells #[.int .i64 ((pxx k x0 : Nat) : Int), .int .i64 ((pyy k x0 : Nat) : Int)] 103)
  obtain ⟨V, hr, hn, hg⟩ := ((numAt2_made W k).kept gb (by simp)).put hx (by simp) (by simp) (by simp)
  have g1 : W.grownBy V none := grown_new (grown_trans ga gb) hg (Nat.le_refl _)
  refine ⟨V, by simpa using hr, ?_, g1⟩
  have hrow := row_new (B := B + 2) (W := W.alloc (.map #[] 0)) (by rw [World.size_alloc]; omega) k x0
  rw [World.size_alloc] at hrow
  exact of_start ((g1.block _ (by omega) (by simp)).trans hres) ((g1.block _ (by omega) (by simp)).trans hdet) (Nat.le_refl _) (by rw [hs] at hn; simpa using hn) (hrow.kept hg (.inr (by simp [Value.ownBlock])))
end

end Go.Proofs.YtkkmdcnbifepjaaDoor
