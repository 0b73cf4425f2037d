/- From where one comes to each place, in memory; and the solver's box as it is made. -/
import Derived.Test.YtnlkdihfoekjmaaGSolve
namespace Go.Proofs.Ytnlkdihfoekjmaa
open Go.RowKit
set_option linter.unusedVariables false

theorem Try.infoS22 : (Try.prog.info? 23).map (fun i => (i.zero, i.size, i.bytes)) = some (some (.slice none 0 0), 1, 24) := by kernel_rfl
theorem madeS (n : Nat) : madeCells (Value.cells (.slice none 0 0)) n = Array.replicate n (Value.slice none 0 0) := by
  apply Array.ext'
  simpa [Value.cells] using toList_madeCells_one (.slice none 0 0) n
theorem make_rows (w : World) (n : Nat) (hn : n ≤ 1000) : (Instr.makeSlice 49 (.int .i64 (n : Int)) (.int .i64 (n : Int))).run Try.prog w = .ok (.slice (some ⟨w.heap.size, 0, none⟩) n n) (w.alloc (.cells (Array.replicate n (Value.slice none 0 0)) 23)) := by
  obtain ⟨i0, hi, hz0, hz1, hz2⟩ := info_parts Try.infoS22
  have hmk := run_make (P := Try.prog) w 49 23 i0 (.slice none 0 0) Try.underlying49 hi hz0 .i64 .i64 (n : Int) (n : Int) (by omega) (by omega) (by rw [hz2]; omega) (by omega)
  rw [hz1, Nat.mul_one, Int.toNat_natCast, madeS] at hmk
  exact hmk
theorem make_nums (w : World) (n : Nat) (hn : n ≤ 1000) : (Instr.makeSlice 23 (.int .i64 (n : Int)) (.int .i64 (n : Int))).run Try.prog w = .ok (.slice (some ⟨w.heap.size, 0, none⟩) n n) (w.alloc (.cells (Array.replicate n (Value.int .i64 0)) 3)) := by
  obtain ⟨i0, hi, hz0, hz1, hz2⟩ := info_parts Try.infoI3
  have hmk := run_make (P := Try.prog) w 23 3 i0 (.int .i64 0) Try.underlying23 hi hz0 .i64 .i64 (n : Int) (n : Int) (by omega) (by omega) (by rw [hz2]; omega) (by omega)
  rw [hz1, Nat.mul_one, Int.toNat_natCast, madeI] at hmk
  exact hmk

/-- From where one comes, while steps of place p are looked at. -/
def frL (G : Gm) (p t x : Nat) : List Nat := (List.range p).filter (fun q => decide (x ∈ G.nx q)) ++ (if x ∈ (G.nx p).take t then [p] else [])
def frF (G : Gm) (x : Nat) : List Nat := (List.range G.n).filter fun q => decide (x ∈ G.nx q)
theorem frL_zero (G : Gm) (p x : Nat) : frL G p 0 x = (List.range p).filter fun q => decide (x ∈ G.nx q) := by simp [frL]
theorem frL_next {G : Gm} {p t : Nat} (h : (G.nx p).length ≤ t) (x : Nat) : frL G p t x = frL G (p + 1) 0 x := by
  rw [frL_zero, List.range_succ, List.filter_append]
  unfold frL
  rw [List.take_of_length_le h]
  by_cases hx : x ∈ G.nx p <;> simp [hx]
theorem frL_put {G : Gm} {p t : Nat} (hnd : (G.nx p).Nodup) (h : t < (G.nx p).length) : frL G p (t + 1) ((G.nx p).getD t 0) = frL G p t ((G.nx p).getD t 0) ++ [p] := by
  unfold frL
  rw [take_get h, if_pos (by simp), if_neg (take_no hnd h)]
  simp
theorem frL_other {G : Gm} {p t x : Nat} (h : t < (G.nx p).length) (hx : x ≠ (G.nx p).getD t 0) : frL G p (t + 1) x = frL G p t x := by
  unfold frL
  rw [take_get h]
  have : (x ∈ (G.nx p).take t ++ [(G.nx p).getD t 0]) ↔ x ∈ (G.nx p).take t := by simp only [List.mem_append, List.mem_singleton]; exact ⟨fun e => e.resolve_right hx, .inl⟩
  by_cases hh : x ∈ (G.nx p).take t
  · rw [if_pos (this.2 hh), if_pos hh]
  · rw [if_neg (fun e => hh (this.1 e)), if_neg hh]
theorem frL_len (G : Gm) (p t x : Nat) : (frL G p t x).length ≤ p + 1 := by
  unfold frL
  rw [List.length_append]
  have := List.length_filter_le (fun q => decide (x ∈ G.nx q)) (List.range p)
  rw [List.length_range] at this
  split <;> simp <;> omega
theorem frF_ok (G : Gm) : FrOk G (frF G) := ⟨fun x hx p => by simp [frF], fun x hx => List.Nodup.sublist List.filter_sublist List.nodup_range⟩

abbrev gRows (rs : List (Value × List Nat)) : List Item := rs.map fun x => (3, x.1, nvals x.2)
theorem gat_2 {B : Nat} {w : World} {x1 x2 : Item} {r : List Item} (h : Owns B w (x1 :: x2 :: r)) : Owns B w (x2 :: x1 :: r) := h.perm (List.perm_middle (l₁ := [x1]))
theorem gat_M {B : Nat} {w : World} {x1 : Item} {r l : List Item} (h : Owns B w (l ++ x1 :: r)) : Owns B w (x1 :: (l ++ r)) := h.perm List.perm_middle
theorem gto_M {B : Nat} {w : World} {x1 : Item} {r l : List Item} (h : Owns B w (x1 :: (l ++ r))) : Owns B w (l ++ x1 :: r) := h.perm List.perm_middle.symm

/-- A place is put behind, in the row of where it leads to. -/
theorem from_push {B gm n cq t g' cap H i ln : Nat} {w0 w w' : World} {O : Item} {rs : List (Value × List Nat)} {D : List Item} {v : Value} {xs : List Nat} (h : Owns B w (O :: (23, .slice (some ⟨gm, 0, none⟩) n cq, rs.map (·.1)) :: (gRows rs ++ D))) (ht : t < rs.length) (hn : rs.length = n)
    (hv : rs.getD t (.slice none 0 0, []) = (v, xs)) (hl : xs.length = ln)
    (ho : w'.ownsRow B 3 1 (.slice (some ⟨g', 0, none⟩) (ln + 1) cap) (ln + 1) (nvals xs ++ [.int .i64 (i : Int)])) (hg : w.grownBy w' v.ownBlock) (hat : v.ownBlock = some g' ∨ g' = H) (hH : w.heap.size = H) (h0 : w0.grownBy w none) (hB : w0.heap.size ≤ B) :
    w'.cell? ⟨gm, t, none⟩ = some v ∧ w'.frozen? ⟨gm, t, none⟩ = false ∧ (∀ g2 m2 q2 xs2 j u, O = (O.1, .slice (some ⟨g2, 0, none⟩) m2 q2, xs2) → xs2[j]? = some u → w'.cell? ⟨g2, j, none⟩ = some u) ∧
    Owns B (w'.setCell ⟨gm, t, none⟩ (.slice (some ⟨g', 0, none⟩) (ln + 1) cap)) (O :: (23, .slice (some ⟨gm, 0, none⟩) n cq, (rs.set t (.slice (some ⟨g', 0, none⟩) (ln + 1) cap, xs ++ [i])).map (·.1)) :: (gRows (rs.set t (.slice (some ⟨g', 0, none⟩) (ln + 1) cap, xs ++ [i])) ++ D)) ∧
    w0.grownBy (w'.setCell ⟨gm, t, none⟩ (.slice (some ⟨g', 0, none⟩) (ln + 1) cap)) none := by
  have hrt : rs[t] = (v, xs) := by rw [← hv]; simp [List.getD, ht]
  have e1 : rs = rs.take t ++ (v, xs) :: rs.drop (t + 1) := by rw [← hrt, ← List.drop_eq_getElem_cons ht, List.take_append_drop]
  have e2 : rs.set t (.slice (some ⟨g', 0, none⟩) (ln + 1) cap, xs ++ [i]) = rs.take t ++ (.slice (some ⟨g', 0, none⟩) (ln + 1) cap, xs ++ [i]) :: rs.drop (t + 1) := by
    rw [List.set_eq_take_append_cons_drop, if_pos ht]
  have h1 : Owns B w ((3, v, nvals xs) :: ((O :: (23, .slice (some ⟨gm, 0, none⟩) n cq, rs.map (·.1)) :: gRows (rs.take t)) ++ (gRows (rs.drop (t + 1)) ++ D))) := by
    refine gat_M ?_
    have h2 := h
    have e3 : gRows rs = gRows (rs.take t) ++ (3, v, nvals xs) :: gRows (rs.drop (t + 1)) := by
      show rs.map _ = _
      conv => lhs; rw [e1]
      simp [gRows]
    rw [e3] at h2
    simpa using h2
  have h2 := h1.append (news := [.int .i64 (i : Int)]) ho (by simp [hl]) hg hat hH
  have es : nvals xs ++ [.int .i64 (i : Int)] = nvals (xs ++ [i]) := by simp [nvals]
  rw [es] at h2
  have h3 := gto_M h2
  have h4 : Owns B w' ((23, .slice (some ⟨gm, 0, none⟩) n cq, rs.map (·.1)) :: O :: (gRows (rs.take t) ++ (3, .slice (some ⟨g', 0, none⟩) (ln + 1) cap, nvals (xs ++ [i])) :: (gRows (rs.drop (t + 1)) ++ D))) := gat_2 h3
  have h5 := h4.set (i := t) (by omega) (.slice (some ⟨g', 0, none⟩) (ln + 1) cap)
  refine ⟨h4.cell ?_, h4.fz t, fun g2 m2 q2 xs2 j u hO hu => ?_, ?_, grown_new (h1.frame hB h0 hg) (grown_set _ _ _) (Nat.le_trans hB (h4.row.lt gm rfl).1)⟩
  · simp [ht, hrt]
  · have h6 := gat_2 h4
    rw [hO] at h6
    exact h6.cell hu
  · have h6 := gat_2 h5
    have e4 : (rs.map (·.1)).set t (.slice (some ⟨g', 0, none⟩) (ln + 1) cap) = (rs.set t (.slice (some ⟨g', 0, none⟩) (ln + 1) cap, xs ++ [i])).map (·.1) := by rw [List.map_set]
    rw [e4] at h6
    have e5 : gRows (rs.set t (.slice (some ⟨g', 0, none⟩) (ln + 1) cap, xs ++ [i])) = gRows (rs.take t) ++ (3, .slice (some ⟨g', 0, none⟩) (ln + 1) cap, nvals (xs ++ [i])) :: gRows (rs.drop (t + 1)) := by
      show List.map _ _ = _
      rw [e2]
      simp [gRows]
    rw [e5]
    simpa using h6

/-- The world in which the solver's box has been made. -/
def solW (w : World) (u0 u1 u2 : Value) (n bw bm : Nat) : World :=
  ((((((w.alloc (.cells #[u0, u1, u2] 53)).alloc (.cells #[.slice none 0 0, .slice none 0 0] 40)).alloc (.cells (Array.replicate n (.slice none 0 0)) 23)).alloc
    (.cells #[u0, u1, u2, .slice (some ⟨bw, 0, none⟩) n n, .slice (some ⟨bm, 0, none⟩) n n, .slice (some ⟨w.heap.size + 1 + 1, 0, none⟩) n n] 64)).alloc (.cells (Array.replicate n (.int .i64 0)) 3)).alloc (.cells (Array.replicate n (.int .i64 0)) 3)).drew.drew
abbrev boxIt (k : Nat) (u0 u1 u2 : Value) (n bw bm : Nat) : Item := (64, .slice (some ⟨k + 1 + 1 + 1, 0, none⟩) 6 6, [u0, u1, u2, .slice (some ⟨bw, 0, none⟩) n n, .slice (some ⟨bm, 0, none⟩) n n, .slice (some ⟨k + 1 + 1, 0, none⟩) n n])
abbrev numIt (b n : Nat) : Item := (3, .slice (some ⟨b, 0, none⟩) n n, List.replicate n (.int .i64 0))
abbrev wonIt (k : Nat) (v v' : Value) : Item := (40, .slice (some ⟨k + 1, 0, none⟩) 2 2, [v, v'])
abbrev frIts (k n : Nat) (rs : List (Value × List Nat)) : List Item := (23, .slice (some ⟨k + 1 + 1, 0, none⟩) n n, rs.map (·.1)) :: gRows rs
theorem solW_owns (w : World) (u0 u1 u2 : Value) (n bw bm : Nat) (hn : n ≤ 100) (hb : (bw = w.heap.size + 1 + 1 + 1 + 1 ∧ bm = w.heap.size + 1 + 1 + 1 + 1 + 1) ∨ (bm = w.heap.size + 1 + 1 + 1 + 1 ∧ bw = w.heap.size + 1 + 1 + 1 + 1 + 1)) :
    Owns w.heap.size (solW w u0 u1 u2 n bw bm) (boxIt w.heap.size u0 u1 u2 n bw bm :: (23, .slice (some ⟨w.heap.size + 1 + 1, 0, none⟩) n n, (List.replicate n (Value.slice none 0 0, ([] : List Nat))).map (·.1)) :: (gRows (List.replicate n (.slice none 0 0, [])) ++ [numIt bw n, numIt bm n, wonIt w.heap.size (.slice none 0 0) (.slice none 0 0)])) ∧ w.grownBy (solW w u0 u1 u2 n bw bm) none := by
  have o1 := (Owns.no w.heap.size w).made (arr := #[u0, u1, u2]) (n := 3) (Nat.le_refl _) 53 rfl (by unfold maxLen; omega)
  have o2 := o1.tail.made (arr := #[.slice none 0 0, .slice none 0 0]) (n := 2) (by simp) 40 rfl (by unfold maxLen; omega)
  have o3 := o2.made (arr := Array.replicate n (.slice none 0 0)) (n := n) (by simp; omega) 23 (by simp) (by unfold maxLen; omega)
  have o4 := o3.made (arr := #[u0, u1, u2, .slice (some ⟨bw, 0, none⟩) n n, .slice (some ⟨bm, 0, none⟩) n n, .slice (some ⟨w.heap.size + 1 + 1, 0, none⟩) n n]) (n := 6) (by simp; omega) 64 rfl (by unfold maxLen; omega)
  have o5 := o4.made (arr := Array.replicate n (.int .i64 0)) (n := n) (by simp; omega) 3 (by simp) (by unfold maxLen; omega)
  have o6 := o5.made (arr := Array.replicate n (.int .i64 0)) (n := n) (by simp; omega) 3 (by simp) (by unfold maxLen; omega)
  have hg : w.grownBy (solW w u0 u1 u2 n bw bm) none := grown_drew (grown_drew (grown_trans (grown_trans (grown_trans (grown_trans (grown_trans (grown_alloc _ _) (grown_alloc _ _)) (grown_alloc _ _)) (grown_alloc _ _)) (grown_alloc _ _)) (grown_alloc _ _)))
  refine ⟨?_, hg⟩
  have o7 : Owns w.heap.size (solW w u0 u1 u2 n bw bm) _ := o6.kept (grown_drew (grown_drew (grown_refl _ _)))
  simp only [World.size_alloc, Array.toList_replicate] at o7
  have key : ∀ (m : Nat) (W : World) (D : List Item) (x y : Item), Owns w.heap.size W (x :: y :: D) → Owns w.heap.size W (x :: y :: (gRows (List.replicate m (.slice none 0 0, [])) ++ D)) := by
    intro m
    induction m with
    | zero => intro W D x y h; simpa using h
    | succ m ih =>
      intro W D x y h
      have h1 := (ih W D x y h).empty 3
      have h2 := h1.perm (List.Perm.swap _ _ _)
      have h3 := h2.perm (List.Perm.cons _ (List.Perm.swap _ _ _))
      simpa [List.replicate_succ, gRows] using h3
  apply key
  have e1 : (List.replicate n (Value.slice none 0 0, ([] : List Nat))).map (·.1) = List.replicate n (.slice none 0 0) := by simp
  rw [e1]
  rcases hb with ⟨rfl, rfl⟩ | ⟨rfl, rfl⟩
  · refine o7.perm ?_
    exact List.Perm.trans (List.perm_middle (l₁ := [_, _]) (a := boxIt w.heap.size u0 u1 u2 n _ _)) (by
      refine List.Perm.cons _ ?_
      refine List.Perm.trans (List.perm_middle (l₁ := [_, _])) (List.Perm.cons _ ?_)
      exact List.Perm.swap _ _ _)
  · refine o7.perm ?_
    exact List.Perm.trans (List.perm_middle (l₁ := [_, _]) (a := boxIt w.heap.size u0 u1 u2 n _ _)) (by
      refine List.Perm.cons _ ?_
      refine List.Perm.trans (List.perm_middle (l₁ := [_, _])) (List.Perm.cons _ ?_)
      exact List.Perm.refl _)

end Go.Proofs.Ytnlkdihfoekjmaa
