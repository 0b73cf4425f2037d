/- The steps of 'Of': a row is made, a state is put behind, a number is written, a row and a mark are put behind. -/
import Derived.Test.YtofjboelplknhaaLOfR
namespace Go.Proofs.Ytofjboelplknhaa
open Go.RowKit
set_option linter.unusedVariables false

theorem Try.info3i : (Try.prog.info? 3).map (fun i => (i.zero, i.size, i.bytes)) = some (some (.int .i64 0), 1, 8) := by kernel_rfl
theorem Try.infoS : (Try.prog.info? 23).map (fun i => (i.zero, i.size, i.bytes)) = some (some (.slice none 0 0), 1, 24) := by kernel_rfl
theorem cell_one_new (w : World) (u : Value) (t : TypeId) : ∀ j x, [u][j]? = some x → (w.alloc (.cells #[u] t)).cell? ((⟨w.heap.size, 0, none⟩ : Addr).add j) = some x := by
  intro j x hj
  have hb := heap_alloc_new w (.cells #[u] t)
  have h0 : j = 0 := by
    cases j with
    | zero => rfl
    | succ j => simp at hj
  subst h0
  rw [addr_add, cell_of_row _ _ _ _ _ (0, 0) hb]
  simpa using hj

/-- A row of noughts is made. -/
theorem make_ints (w : World) (n : Nat) (hn : n ≤ 1000000) : (Instr.makeSlice 23 (.int .i64 (n : Int)) (.int .i64 (n : Int))).run Try.prog w = .ok (.slice (some ⟨w.heap.size, 0, none⟩) n n) (w.alloc (.cells (Array.replicate n (Value.int .i64 0)) 3)) := by
  obtain ⟨i0, hi, hz0, hz1, hz2⟩ := info_parts Try.info3i
  have hmk := run_make (P := Try.prog) w 23 3 i0 (.int .i64 0) Try.underlying23 hi hz0 .i64 .i64 (n : Int) (n : Int) (by omega) (by omega) (by rw [hz2]; omega) (by omega)
  have e : madeCells (Value.cells (.int .i64 0)) n = Array.replicate n (Value.int .i64 0) := by
    apply Array.ext'
    simpa [Value.cells] using toList_madeCells_one (.int .i64 0) n
  rw [hz1, Nat.mul_one, Int.toNat_natCast, e] at hmk
  exact hmk
theorem vals_zero (n : Nat) : (Array.replicate n (Value.int .i64 0)).toList = vals (List.replicate n 0) := by simp [vals]

/-- A number is written into a row. -/
theorem row_write {l a : Nat} {f : Nat → Nat} (ha : a < l) : ((List.range l).map fun b => if b < a then ((f b : Nat) : Int) else 0).set a ((f a : Nat) : Int) = (List.range l).map fun b => if b < a + 1 then ((f b : Nat) : Int) else 0 := by
  apply List.ext_getElem (by simp)
  intro i h1 h2
  simp at h2
  rw [List.getElem_set]
  simp only [List.getElem_map, List.getElem_range]
  by_cases e : a = i
  · subst e; simp
  · rw [if_neg e]
    by_cases h3 : i < a
    · rw [if_pos h3, if_pos (by omega)]
    · rw [if_neg h3, if_neg (by omega)]

section
variable {B l : Nat} {w w' w0 : World} {vS vR vM : Value} {xs : List Nat} {rs : List (Value × List Int)} {M : List Int} {more : List Item}

theorem OfAt.row (h : OfAt B l w vS vR vM xs rs M []) (hl : l ≤ 4) : ∃ W, (Instr.makeSlice 23 (.int .i64 (l : Int)) (.int .i64 (l : Int))).run Try.prog w = .ok (.slice (some ⟨w.heap.size, 0, none⟩) l l) W ∧
    OfAt B l W vS vR vM xs rs M [(3, .slice (some ⟨w.heap.size, 0, none⟩) l l, vals (List.replicate l 0))] ∧ w.grownBy W none := by
  refine ⟨_, make_ints w l (by omega), ?_, grown_alloc _ _⟩
  have h1 := h.kept (grown_alloc w (.cells (Array.replicate l (Value.int .i64 0)) 3))
  refine ⟨h1.res, h1.det, h1.num, ?_⟩
  have h2 := h.own.made (arr := Array.replicate l (Value.int .i64 0)) (n := l) (by have := h.lt; omega) 3 (by simp) (by unfold maxLen; omega)
  rw [vals_zero] at h2
  refine h2.perm ?_
  simp only [List.singleton_append, List.nil_append]
  exact (List.Perm.swap _ _ _).trans ((List.Perm.swap _ _ _).cons _ |>.trans (((List.Perm.swap _ _ _).cons _).cons _))

/-- The row under way comes first. -/
theorem OfAt.cur {it : Item} (h : OfAt B l w vS vR vM xs rs M [it]) : Owns (B + 2) w (it :: (3, vS, vals (natInts xs)) :: (23, vR, rs.map (·.1)) :: (3, vM, vals M) :: rowItems rs) := by
  refine h.own.perm ?_
  simp only [List.singleton_append]
  exact ((((List.Perm.swap _ _ _).cons _).cons _).trans ((List.Perm.swap _ _ _).cons _)).trans (List.Perm.swap _ _ _)
theorem cur_back {it : Item} {a b c : Item} {r : List Item} : (it :: a :: b :: c :: r).Perm (a :: b :: c :: ([it] ++ r)) := by
  simp only [List.singleton_append]
  exact (List.Perm.swap _ _ _).trans ((List.Perm.swap _ _ _).cons _ |>.trans (((List.Perm.swap _ _ _).cons _).cons _))

/-- A number is written into the row. -/
theorem OfAt.write {g a : Nat} {zs : List Int} (h : OfAt B l w vS vR vM xs rs M [(3, .slice (some ⟨g, 0, none⟩) l l, vals zs)]) (ha : a < l) (x : Int) :
    (∃ u, w.cell? ⟨g, a, none⟩ = some (.int .i64 u)) ∧ w.frozen? ⟨g, a, none⟩ = false ∧ OfAt B l (w.setCell ⟨g, a, none⟩ (.int .i64 x)) vS vR vM xs rs M [(3, .slice (some ⟨g, 0, none⟩) l l, vals (zs.set a x))] ∧ B + 2 ≤ g := by
  have hc := h.cur
  have hlen : l = zs.length := by have := hc.len; rwa [vals_len] at this
  obtain ⟨g', cap, e, hB, hlt, hfz⟩ := hc.form (by rw [vals_len]; omega)
  have e1 : g = g' := by simp only [Value.slice.injEq, Option.some.injEq, Addr.mk.injEq] at e; exact e.1.1
  subst e1
  refine ⟨⟨_, hc.cell (vals_get (i := a) (by omega))⟩, hfz a, ?_, hB⟩
  obtain ⟨hb, o, ho, hne⟩ := h.num.block
  have hg := grown_set w ⟨g, a, none⟩ (.int .i64 x)
  have hgn : g ≠ B + 3 := fun e => by
    have := hc.other (b := B + 3) ho hne (3, .slice (some ⟨g, 0, none⟩) l l, vals zs) (List.mem_cons_self)
    exact this (by rw [e]; rfl)
  refine ⟨(hg.block _ (Array.getElem?_eq_some_iff.1 h.res).1 (by simp; omega)).trans h.res, (hg.block _ (Array.getElem?_eq_some_iff.1 h.det).1 (by simp; omega)).trans h.det, h.num.kept hg (by simpa using hgn), ?_⟩
  have h2 := hc.set ha (.int .i64 x)
  rw [vals_set] at h2
  exact h2.perm cur_back

/-- A state is put behind: its number is in the map already. -/
theorem OfAt.pushed {y g n cap H : Nat} (h1 : w.heap[B]? = some (.cells #[.int .i64 0, .int .i64 0, .slice none 0 0, .slice none 0 0] 25 (0, 0))) (h2 : w.heap[B + 1]? = some (.cells #[.int .i64 l, .int .i64 0, vR, vM] 25 (0, 0)))
    (h3 : NumAt w (B + 3) (xs ++ [y])) (h4 : Owns (B + 2) w ((3, vS, vals (natInts xs)) :: (23, vR, rs.map (·.1)) :: (3, vM, vals M) :: (more ++ rowItems rs)))
    (ho : w'.ownsRow (B + 2) 3 1 (.slice (some ⟨g, 0, none⟩) n cap) n (vals (natInts xs) ++ [.int .i64 (y : Int)])) (hn : n = xs.length + 1) (hg : w.grownBy w' vS.ownBlock) (hat : vS.ownBlock = some g ∨ g = H) (hH : w.heap.size = H) :
    OfAt B l w' (.slice (some ⟨g, 0, none⟩) n cap) vR vM (xs ++ [y]) rs M more := by
  have h5 := h4.append ho (by simp; omega) hg hat hH
  obtain ⟨hb, o, hoo, hne⟩ := h3.block
  refine ⟨h4.old (by omega) (Array.getElem?_eq_some_iff.1 h1).1 hg h1, h4.old (by omega) (Array.getElem?_eq_some_iff.1 h2).1 hg h2, h3.kept hg (fun e => h4.other hoo hne (3, vS, vals (natInts xs)) (by simp) e), ?_⟩
  simpa [vals, natInts] using h5

/-- A row is put behind. -/
theorem OfAt.pushR {u : Value} {zs : List Int} {g n cap H : Nat} (h : OfAt B l w vS vR vM xs rs M [(3, u, vals zs)]) (ho : w'.ownsRow (B + 2) 23 1 (.slice (some ⟨g, 0, none⟩) n cap) n (rs.map (·.1) ++ [u])) (hn : n = rs.length + 1)
    (hg : w.grownBy w' vR.ownBlock) (hat : vR.ownBlock = some g ∨ g = H) (hH : w.heap.size = H) :
    (w'.cell? ⟨B + 1, 2, none⟩ = some vR ∧ w'.frozen? ⟨B + 1, 2, none⟩ = false) ∧ OfAt B l (w'.setCell ⟨B + 1, 2, none⟩ (.slice (some ⟨g, 0, none⟩) n cap)) vS (.slice (some ⟨g, 0, none⟩) n cap) vM xs (rs ++ [(u, zs)]) M [] := by
  have hp : Owns (B + 2) w ((23, vR, rs.map (·.1)) :: (3, vS, vals (natInts xs)) :: (3, vM, vals M) :: (3, u, vals zs) :: rowItems rs) := h.own.perm (List.Perm.swap _ _ _)
  have h5 := hp.append ho (by simp; omega) hg hat hH
  obtain ⟨hb, o, hoo, hne⟩ := h.num.block
  have k1 := hp.old (by omega) (Array.getElem?_eq_some_iff.1 h.res).1 hg h.res
  have k2 := hp.old (by omega) (Array.getElem?_eq_some_iff.1 h.det).1 hg h.det
  have k3 := h.num.kept hg (fun e => hp.other hoo hne (23, vR, rs.map (·.1)) (by simp) e)
  refine ⟨⟨by rw [cell_of_row _ _ _ _ _ (0, 0) k2]; rfl, frozen_of_row _ _ _ _ _ k2⟩, ?_, ?_, ?_, ?_⟩
  · exact (Below.heap_setCell _ _ _ _ (by simp)).trans k1
  · rw [heap_setCell_same _ _ 2 _ _ _ k2]; rfl
  · exact k3.kept (grown_set _ _ _) (by simp)
  · have h6 := h5.below (grown_set w' ⟨B + 1, 2, none⟩ (.slice (some ⟨g, 0, none⟩) n cap)) (by simp)
    refine h6.perm ?_
    simp only [List.map_append, List.map_cons, List.map_nil, List.nil_append]
    refine (List.Perm.swap _ _ _).trans (List.Perm.cons _ (List.Perm.cons _ (List.Perm.cons _ ?_)))
    exact (List.perm_append_comm (l₁ := [(3, u, vals zs)]) (l₂ := rowItems rs))
/-- A mark is put behind. -/
theorem OfAt.pushM {x : Int} {g n cap H : Nat} (h : OfAt B l w vS vR vM xs rs M []) (ho : w'.ownsRow (B + 2) 3 1 (.slice (some ⟨g, 0, none⟩) n cap) n (vals M ++ [.int .i64 x])) (hn : n = M.length + 1)
    (hg : w.grownBy w' vM.ownBlock) (hat : vM.ownBlock = some g ∨ g = H) (hH : w.heap.size = H) :
    (w'.cell? ⟨B + 1, 3, none⟩ = some vM ∧ w'.frozen? ⟨B + 1, 3, none⟩ = false) ∧ OfAt B l (w'.setCell ⟨B + 1, 3, none⟩ (.slice (some ⟨g, 0, none⟩) n cap)) vS vR (.slice (some ⟨g, 0, none⟩) n cap) xs rs (M ++ [x]) [] := by
  have hp : Owns (B + 2) w ((3, vM, vals M) :: (3, vS, vals (natInts xs)) :: (23, vR, rs.map (·.1)) :: rowItems rs) := by
    refine h.own.perm ?_
    simp only [List.nil_append]
    exact (List.Perm.cons _ (List.Perm.swap _ _ _)).trans (List.Perm.swap _ _ _)
  have h5 := hp.append ho (by simp; omega) hg hat hH
  obtain ⟨hb, o, hoo, hne⟩ := h.num.block
  have k1 := hp.old (by omega) (Array.getElem?_eq_some_iff.1 h.res).1 hg h.res
  have k2 := hp.old (by omega) (Array.getElem?_eq_some_iff.1 h.det).1 hg h.det
  have k3 := h.num.kept hg (fun e => hp.other hoo hne (3, vM, vals M) (by simp) e)
  refine ⟨⟨by rw [cell_of_row _ _ _ _ _ (0, 0) k2]; rfl, frozen_of_row _ _ _ _ _ k2⟩, ?_, ?_, ?_, ?_⟩
  · exact (Below.heap_setCell _ _ _ _ (by simp)).trans k1
  · rw [heap_setCell_same _ _ 3 _ _ _ k2]; rfl
  · exact k3.kept (grown_set _ _ _) (by simp)
  · have h6 := h5.below (grown_set w' ⟨B + 1, 3, none⟩ (.slice (some ⟨g, 0, none⟩) n cap)) (by simp)
    rw [vals_snoc] at h6
    refine h6.perm ?_
    simp only [List.nil_append]
    exact (List.Perm.swap _ _ _).trans (List.Perm.cons _ (List.Perm.swap _ _ _))
end

theorem keep2 {W W' : World} {a1 a2 : Addr} {v1 v2 : Value} {row : Option Nat} (h : W.cell? a1 = some v1 ∧ W.cell? a2 = some v2) (hg : W.grownBy W' row) (h1 : row ≠ some a1.block) (h2 : row ≠ some a2.block) : W'.cell? a1 = some v1 ∧ W'.cell? a2 = some v2 :=
  ⟨hg.cell h.1 (Ne.symm h1), hg.cell h.2 (Ne.symm h2)⟩

/-- The states and the marks lie in two blocks. -/
theorem OfAt.apartSM {B l n : Nat} {w : World} {vR vM : Value} {g cap : Nat} {xs : List Nat} {rs : List (Value × List Int)} {M : List Int} {more : List Item} (h : OfAt B l w (.slice (some ⟨g, 0, none⟩) n cap) vR vM xs rs M more) : vM.ownBlock ≠ some g ∧ vM.ownBlock ≠ some (B + 1) := by
  refine ⟨fun e => ?_, fun e => ?_⟩
  · have := (List.pairwise_cons.1 h.own.2).1 (3, vM, vals M) (by simp)
    rcases this with h1 | h1 | h1
    · cases h1
    · rw [e] at h1; cases h1
    · exact h1 (by rw [e]; rfl)
  · have := ((h.own.1 (3, vM, vals M) (by simp)).1.lt _ e).1
    omega

theorem ofAt_marks {B l : Nat} {w : World} {vS vR vM : Value} {xs : List Nat} {rs : List (Value × List Int)} {M : List Int} (h : OfAt B l w vS vR vM xs rs M []) : Owns (B + 2) w ((3, vM, vals M) :: (3, vS, vals (natInts xs)) :: (23, vR, rs.map (·.1)) :: rowItems rs) := by
  refine h.own.perm ?_
  simp only [List.nil_append]
  exact (List.Perm.cons _ (List.Perm.swap _ _ _)).trans (List.Perm.swap _ _ _)

theorem bit_any (b : Bool) (w : World) : Calls Try.prog 94 #[.bool b] w fun e w' => e = .returned (.int .i64 (if b = true then 1 else 0)) ∧ w' = w := by
  cases b with
  | true =>
    go_enter Try.func94, Try.ntmps94
    go_wp2
    go_ret
    exact ⟨rfl, rfl⟩
  | false =>
    go_enter Try.func94, Try.ntmps94
    go_wp2
    go_ret
    exact ⟨rfl, rfl⟩

theorem grown_set2 {a b : World} {g : Nat} (h : a.grownBy b (some g)) (o : Nat) (v : Value) : a.grownBy (b.setCell ⟨g, o, none⟩ v) (some g) :=
  grown_trans h (grown_set b ⟨g, o, none⟩ v)
/-- Four cells are written. -/
theorem det_store {W : World} {B : Nat} {T : TypeId} {a0 a1 a2 a3 : Value} (hb : W.heap[B]? = some (.cells #[a0, a1, a2, a3] T (0, 0))) (v0 v1 v2 v3 : Value) :
    ∃ W', W' = (((W.setCell ⟨B, 0, none⟩ v0).setCell ⟨B, 1, none⟩ v1).setCell ⟨B, 2, none⟩ v2).setCell ⟨B, 3, none⟩ v3 ∧ W.grownBy W' (some B) ∧ W'.cell? ⟨B, 0, none⟩ = some v0 ∧ W'.cell? ⟨B, 1, none⟩ = some v1 ∧ W'.cell? ⟨B, 2, none⟩ = some v2 ∧ W'.cell? ⟨B, 3, none⟩ = some v3 := by
  have h0 : (W.setCell ⟨B, 0, none⟩ v0).heap[B]? = some (.cells #[v0, a1, a2, a3] T (0, 0)) := by rw [heap_setCell_same W B 0 _ _ _ hb]; rfl
  have h1 : ((W.setCell ⟨B, 0, none⟩ v0).setCell ⟨B, 1, none⟩ v1).heap[B]? = some (.cells #[v0, v1, a2, a3] T (0, 0)) := by rw [heap_setCell_same _ B 1 _ _ _ h0]; rfl
  have h2 : (((W.setCell ⟨B, 0, none⟩ v0).setCell ⟨B, 1, none⟩ v1).setCell ⟨B, 2, none⟩ v2).heap[B]? = some (.cells #[v0, v1, v2, a3] T (0, 0)) := by rw [heap_setCell_same _ B 2 _ _ _ h1]; rfl
  have h3 : ((((W.setCell ⟨B, 0, none⟩ v0).setCell ⟨B, 1, none⟩ v1).setCell ⟨B, 2, none⟩ v2).setCell ⟨B, 3, none⟩ v3).heap[B]? = some (.cells #[v0, v1, v2, v3] T (0, 0)) := by rw [heap_setCell_same _ B 3 _ _ _ h2]; rfl
  exact ⟨_, rfl, grown_set2 (grown_set2 (grown_set2 (grown_set W ⟨B, 0, none⟩ v0) 1 v1) 2 v2) 3 v3, by rw [cell_of_row _ _ _ _ _ (0, 0) h3]; rfl, by rw [cell_of_row _ _ _ _ _ (0, 0) h3]; rfl, by rw [cell_of_row _ _ _ _ _ (0, 0) h3]; rfl, by rw [cell_of_row _ _ _ _ _ (0, 0) h3]; rfl⟩

theorem owns_slice {B : Nat} {w : World} {its : List Item} (h : Owns B w its) {it : Item} (hm : it ∈ its) : ∃ a n c, it.2.1 = .slice a n c := by
  obtain ⟨a, c, h1⟩ := (h.1 it hm).2
  exact ⟨a, _, c, h1⟩
/-- The box of the test, and the automaton to come. -/
theorem of_boxes (w : World) (T : TypeId) (f : Value) : ∃ W, W = (w.alloc (.cells #[f] T)).alloc (.cells #[.int .i64 0, .int .i64 0, .slice none 0 0, .slice none 0 0] 25) ∧ w.grownBy W none ∧ W.heap.size = w.heap.size + 2 ∧ W.heap[w.heap.size + 1]? = some (.cells #[.int .i64 0, .int .i64 0, .slice none 0 0, .slice none 0 0] 25 (0, 0)) ∧ ∀ W', W.grownBy W' none → W'.cell? ⟨w.heap.size, 0, none⟩ = some f := by
  refine ⟨_, rfl, grown_trans (grown_alloc _ _) (grown_alloc _ _), by simp, ?_, fun W' h => ?_⟩
  · have := heap_alloc_new (w.alloc (.cells #[f] T)) (.cells #[.int .i64 0, .int .i64 0, .slice none 0 0, .slice none 0 0] 25)
    rwa [World.size_alloc] at this
  · have hb := heap_alloc_new w (.cells #[f] T)
    exact (grown_trans (grown_alloc _ _) h).cell (by rw [cell_of_row _ _ 0 _ _ (0, 0) hb]; rfl) (by simp)

end Go.Proofs.Ytofjboelplknhaa
