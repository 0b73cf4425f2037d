/- The words for 'of' where states are pairs. -/
import Derived.Test.YtodcmlcpicabaaaTpOwn
import Derived.Test.YtodcmlcpicabaaaTlOfD
namespace Go.Proofs.Ytodcmlcpicabaaa
open Go.RowKit
set_option linter.unusedVariables false

theorem addr_addQ (g j : Nat) : ((⟨g, 0, none⟩ : Addr).add j) = ⟨g, j, none⟩ := by by_cases h : j = 0 <;> simp [Addr.add, h]
theorem Try.infoPQ : (Try.prog.info? 56).map (fun i => (i.zero, i.size, i.bytes)) = some (some (.agg #[.int .i64 0, .int .i64 0]), 2, 16) := by kernel_rfl
theorem pair_new (w : World) (u v : Value) : ∀ j x, [u, v][j]? = some x → (w.alloc (.cells #[u, v] 56)).cell? ((⟨w.heap.size, 0, none⟩ : Addr).add j) = some x := by
  intro j x hj
  rw [addr_addQ, cell_of_row _ _ _ _ _ (0, 0) (heap_alloc_new w _)]
  simpa using hj
/-- The map that numbers pairs lies in one of two places. -/
structure NumQ (w : World) (B bm kk : Nat) (xs : List Nat) : Prop where
  num : NumAt2 w bm kk xs
  ge : B + 2 ≤ bm
  le : bm ≤ B + 3
  sz : B + 3 < w.heap.size
theorem NumQ.kept {w w' : World} {B bm kk : Nat} {xs : List Nat} {r : Option Nat} (h : NumQ w B bm kk xs) (g : w.grownBy w' r) (hr : r ≠ some bm) : NumQ w' B bm kk xs := ⟨h.num.kept g hr, h.ge, h.le, Nat.lt_of_lt_of_le h.sz g.size⟩
theorem NumQ.block {w : World} {B bm kk : Nat} {xs : List Nat} (h : NumQ w B bm kk xs) : bm < w.heap.size ∧ ∃ o, w.heap[bm]? = some o ∧ ∀ c t f, o ≠ .cells c t f := h.num.block
/-- A transducer under way: the states xs, rows rs, what is said ys, es; what is written just now. -/
structure OfQ (lo B bm l kk : Nat) (w : World) (vS vN vY vE : Value) (xs : List Nat) (rs : List (Value × List Int)) (ys : List (Value × List Trip)) (es : List Trip) (more : List Item) (mps : List Trip) : Prop where
  res : w.heap[B]? = some (.cells zer7 26 (0, 0))
  box : w.heap[B + 1]? = some (.cells #[.int .i64 (l : Int), .int .i64 0, .int .i64 0, .slice none 0 0, vN, vY, vE] 26 (0, 0))
  num : NumQ w B bm kk xs
  own : OwnsQ (B + 2) (min lo B) (B + 4) w vS xs.length (pcells kk xs) ((22, vN, rs.map (·.1)) :: (23, vY, ys.map (·.1)) :: (22, vE, valsT es) :: (more ++ (rowItems rs ++ sayItems ys))) (mps ++ (es ++ ys.flatMap (·.2)))

section
variable {lo B bm l kk : Nat} {w w' : World} {vS vN vY vE : Value} {xs : List Nat} {rs : List (Value × List Int)} {ys : List (Value × List Trip)} {es : List Trip} {more : List Item} {mps : List Trip}
theorem OfQ.kept (h : OfQ lo B bm l kk w vS vN vY vE xs rs ys es more mps) (hg : w.grownBy w' none) : OfQ lo B bm l kk w' vS vN vY vE xs rs ys es more mps :=
  ⟨(hg.block _ (Array.getElem?_eq_some_iff.1 h.res).1 (by simp)).trans h.res, (hg.block _ (Array.getElem?_eq_some_iff.1 h.box).1 (by simp)).trans h.box, h.num.kept hg (by simp), h.own.kept hg⟩
theorem OfQ.lt (h : OfQ lo B bm l kk w vS vN vY vE xs rs ys es more mps) : B + 3 < w.heap.size := h.num.sz
theorem OfQ.cells (h : OfQ lo B bm l kk w vS vN vY vE xs rs ys es more mps) : w.cell? ⟨B + 1, 0, none⟩ = some (.int .i64 (l : Int)) ∧ w.cell? ⟨B + 1, 1, none⟩ = some (.int .i64 0) ∧ w.cell? ⟨B + 1, 2, none⟩ = some (.int .i64 0) ∧ w.cell? ⟨B + 1, 3, none⟩ = some (.slice none 0 0) ∧ w.cell? ⟨B + 1, 4, none⟩ = some vN ∧ w.cell? ⟨B + 1, 5, none⟩ = some vY ∧ w.cell? ⟨B + 1, 6, none⟩ = some vE ∧ ∀ k, w.frozen? ⟨B + 1, k, none⟩ = false := by
  have hc : ∀ k v, #[Value.int .i64 (l : Int), .int .i64 0, .int .i64 0, .slice none 0 0, vN, vY, vE][k]? = some v → w.cell? ⟨B + 1, k, none⟩ = some v := fun k v hv => by rw [cell_of_row _ _ k _ _ (0, 0) h.box]; exact hv
  exact ⟨hc 0 _ rfl, hc 1 _ rfl, hc 2 _ rfl, hc 3 _ rfl, hc 4 _ rfl, hc 5 _ rfl, hc 6 _ rfl, fun k => frozen_of_row _ _ k _ _ h.box⟩
/-- A state that is there. -/
theorem OfQ.state (h : OfQ lo B bm l kk w vS vN vY vE xs rs ys es more mps) {i : Nat} (hi : i < xs.length) : ∃ g cap, vS = .slice (some ⟨g, 0, none⟩) xs.length cap ∧ w.cell? ⟨g, i * 2, none⟩ = some (.int .i64 ((pxx kk (xs.getD i 0) : Nat) : Int)) ∧ w.cell? ⟨g, i * 2 + 1, none⟩ = some (.int .i64 ((pyy kk (xs.getD i 0) : Nat) : Int)) ∧ B + 2 ≤ g ∧ g < w.heap.size := by
  obtain ⟨h1, h2⟩ := pcells_get (k := kk) hi
  have hs := h.own.st
  rcases hs.2 with ⟨_, e0⟩ | ⟨g, cap, cur, e1, hB, hh, _⟩
  · omega
  · have c1 := hs.cells (g := g) (by rw [e1]; rfl) _ _ h1
    have c2 := hs.cells (g := g) (by rw [e1]; rfl) _ _ h2
    rw [addr_addQ] at c1 c2
    exact ⟨g, cap, e1, c1, c2, hB, (Array.getElem?_eq_some_iff.1 hh).1⟩
theorem OfQ.sub {mps' : List Trip} (h : OfQ lo B bm l kk w vS vN vY vE xs rs ys es more mps) (hs : ∀ p, p ∈ mps' → p ∈ mps) : OfQ lo B bm l kk w vS vN vY vE xs rs ys es more mps' :=
  ⟨h.res, h.box, h.num, h.own.sub (fun p hp => by
    rcases List.mem_append.1 hp with h1 | h1
    · exact List.mem_append.2 (.inl (hs p h1))
    · exact List.mem_append.2 (.inr h1))⟩
theorem OfQ.swap {a b : Item} (h : OfQ lo B bm l kk w vS vN vY vE xs rs ys es [a, b] mps) : OfQ lo B bm l kk w vS vN vY vE xs rs ys es [b, a] mps :=
  ⟨h.res, h.box, h.num, h.own.perm ((((List.Perm.swap b a _).cons _).cons _).cons _)⟩
/-- A row is made. -/
theorem OfQ.made {arr : Array Value} {n : Nat} (h : OfQ lo B bm l kk w vS vN vY vE xs rs ys es more mps) (e : TypeId) (hn : arr.size = n) (hm : n ≤ maxLen) : OfQ lo B bm l kk (w.alloc (.cells arr e)) vS vN vY vE xs rs ys es ((e, .slice (some ⟨w.heap.size, 0, none⟩) n n, arr.toList) :: more) mps := by
  have h1 := h.kept (grown_alloc w (.cells arr e))
  refine ⟨h1.res, h1.box, h1.num, ?_⟩
  have h2 := h.own.made (by have := h.lt; omega) e hn hm
  exact h2.perm (List.perm_middle (l₁ := [_, _, _])).symm
/-- A word is told. -/
theorem OfQ.word {a : Option Addr} {zs : List Int} (h : OfQ lo B bm l kk w vS vN vY vE xs rs ys es more mps) (g : w.grownBy w' none) (hz : Ints w' a zs) (hnew : zs ≠ [] → ∀ y, a = some y → y.block < min lo B ∨ w.heap.size ≤ y.block) (c : Nat) : OfQ lo B bm l kk w' vS vN vY vE xs rs ys es more ((a, c, zs) :: mps) := by
  have h1 := h.kept g
  exact ⟨h1.res, h1.box, h1.num, h.own.word (by omega) (by have := h.lt; omega) g hz hnew c⟩
/-- The first row under way comes first. -/
theorem OfQ.cur {it : Item} (h : OfQ lo B bm l kk w vS vN vY vE xs rs ys es (it :: more) mps) : OwnsQ (B + 2) (min lo B) (B + 4) w vS xs.length (pcells kk xs) (it :: (22, vN, rs.map (·.1)) :: (23, vY, ys.map (·.1)) :: (22, vE, valsT es) :: (more ++ (rowItems rs ++ sayItems ys))) (mps ++ (es ++ ys.flatMap (·.2))) :=
  h.own.perm (List.perm_middle (l₁ := [_, _, _]))
/-- It is written into. -/
theorem OfQ.write {g a n : Nat} {e : TypeId} {zs : List Value} (h : OfQ lo B bm l kk w vS vN vY vE xs rs ys es ((e, .slice (some ⟨g, 0, none⟩) n n, zs) :: more) mps) (ha : a < n) (u : Value) :
    (∃ u0, w.cell? ⟨g, a, none⟩ = some u0 ∧ zs[a]? = some u0) ∧ w.frozen? ⟨g, a, none⟩ = false ∧ OfQ lo B bm l kk (w.setCell ⟨g, a, none⟩ u) vS vN vY vE xs rs ys es ((e, .slice (some ⟨g, 0, none⟩) n n, zs.set a u) :: more) mps ∧ B + 2 ≤ g := by
  have hc := h.cur
  have hlen := hc.own.own.len
  obtain ⟨g', cap, e1, hB, hlt, hfz⟩ := hc.own.own.form (by omega)
  have e2 : g = g' := by simp only [Value.slice.injEq, Option.some.injEq, Addr.mk.injEq] at e1; exact e1.1.1
  subst e2
  have ha' : a < zs.length := by omega
  refine ⟨⟨zs[a], hc.own.own.cell (List.getElem?_eq_getElem ha'), List.getElem?_eq_getElem ha'⟩, hfz a, ?_, hB⟩
  obtain ⟨hb, o, ho, hne⟩ := h.num.block
  have hg := grown_set w ⟨g, a, none⟩ u
  have hgn : g ≠ bm := fun e3 => by
    have := hc.own.own.other (b := bm) ho hne _ (List.mem_cons_self)
    exact this (by rw [e3]; rfl)
  refine ⟨(hg.block _ (Array.getElem?_eq_some_iff.1 h.res).1 (by simp; omega)).trans h.res, (hg.block _ (Array.getElem?_eq_some_iff.1 h.box).1 (by simp; omega)).trans h.box, h.num.kept hg (by simpa using hgn), ?_⟩
  exact (hc.set ha u).perm (List.perm_middle (l₁ := [_, _, _])).symm
/-- The map has turned: a new state has its number. -/
theorem OfQ.numbered {y : Nat} (h : OfQ lo B bm l kk w vS vN vY vE xs rs ys es more mps) (hn : NumQ w' B bm kk (xs ++ [y])) (hg : w.grownBy w' (some bm)) :
    w'.heap[B]? = some (.cells zer7 26 (0, 0)) ∧ w'.heap[B + 1]? = some (.cells #[.int .i64 (l : Int), .int .i64 0, .int .i64 0, .slice none 0 0, vN, vY, vE] 26 (0, 0)) ∧
    OwnsQ (B + 2) (min lo B) (B + 4) w' vS xs.length (pcells kk xs) ((22, vN, rs.map (·.1)) :: (23, vY, ys.map (·.1)) :: (22, vE, valsT es) :: (more ++ (rowItems rs ++ sayItems ys))) (mps ++ (es ++ ys.flatMap (·.2))) := by
  obtain ⟨_, o, ho, hne⟩ := h.num.block
  have hge := h.num.ge
  have hle := h.num.le
  exact ⟨(hg.block _ (Array.getElem?_eq_some_iff.1 h.res).1 (by simp; omega)).trans h.res, (hg.block _ (Array.getElem?_eq_some_iff.1 h.box).1 (by simp; omega)).trans h.box, h.own.far hg ho hne (by omega) (by omega)⟩
end

/-- A row of one's own grows by one, and the box of the transducer is told where it is. -/
theorem grow_boxQ {lo B bm kk n2 : Nat} {vS : Value} {cs : List Value} {w w' : World} {arr : Array Value} {xs : List Nat} {e : TypeId} {v u : Value} {c : List Value} {r : List Item} {ps : List Trip} {g n cap H : Nat} (hres : w.heap[B]? = some (.cells zer7 26 (0, 0))) (hbox : w.heap[B + 1]? = some (.cells arr 26 (0, 0))) (hnum : NumQ w B bm kk xs) (hp : OwnsQ (B + 2) (min lo B) (B + 4) w vS n2 cs ((e, v, c) :: r) ps)
    (ho : w'.ownsRow (B + 2) e 1 (.slice (some ⟨g, 0, none⟩) n cap) n (c ++ [u])) (hn : n = c.length + 1) (hg : w.grownBy w' v.ownBlock) (hat : v.ownBlock = some g ∨ g = H) (hH : w.heap.size = H) (k : Nat) (hk : arr[k]? = some v) :
    (w'.cell? ⟨B + 1, k, none⟩ = some v ∧ w'.frozen? ⟨B + 1, k, none⟩ = false) ∧ (w'.setCell ⟨B + 1, k, none⟩ (.slice (some ⟨g, 0, none⟩) n cap)).heap[B]? = some (.cells zer7 26 (0, 0)) ∧ (w'.setCell ⟨B + 1, k, none⟩ (.slice (some ⟨g, 0, none⟩) n cap)).heap[B + 1]? = some (.cells (arr.setIfInBounds k (.slice (some ⟨g, 0, none⟩) n cap)) 26 (0, 0)) ∧ NumQ (w'.setCell ⟨B + 1, k, none⟩ (.slice (some ⟨g, 0, none⟩) n cap)) B bm kk xs ∧
    OwnsQ (B + 2) (min lo B) (B + 4) (w'.setCell ⟨B + 1, k, none⟩ (.slice (some ⟨g, 0, none⟩) n cap)) vS n2 cs ((e, .slice (some ⟨g, 0, none⟩) n cap, c ++ [u]) :: r) ps := by
  have h5 := hp.append ho (by simpa using hn) hg hat hH
  obtain ⟨hb, o, hoo, hne⟩ := hnum.block
  have k1 := hp.own.own.old (by omega) (Array.getElem?_eq_some_iff.1 hres).1 hg hres
  have k2 := hp.own.own.old (by omega) (Array.getElem?_eq_some_iff.1 hbox).1 hg hbox
  have k3 := hnum.kept hg (fun e2 => hp.own.own.other hoo hne (e, v, c) (by simp) e2)
  refine ⟨⟨by rw [cell_of_row _ _ _ _ _ (0, 0) k2]; exact hk, frozen_of_row _ _ _ _ _ k2⟩, ?_, ?_, ?_, ?_⟩
  · exact (Below.heap_setCell _ _ _ _ (by simp)).trans k1
  · rw [heap_setCell_same _ _ k _ _ _ k2]
  · exact k3.kept (grown_set _ _ _) (by have := hnum.ge; simp; omega)
  · exact h5.below (grown_set w' ⟨B + 1, k, none⟩ (.slice (some ⟨g, 0, none⟩) n cap)) (by simp) (by simp only; omega) (by simp)

section
variable {lo B bm l kk : Nat} {w w' w0 : World} {vS vN vY vE : Value} {xs : List Nat} {rs : List (Value × List Int)} {ys : List (Value × List Trip)} {es : List Trip} {more : List Item} {mps : List Trip}

/-- A row of where letters lead is put behind. -/
theorem OfQ.appN {u : Value} {zs : List Int} {itY : Item} (h : OfQ lo B bm l kk w vS vN vY vE xs rs ys es [(3, u, vals zs), itY] mps) (hu : u.oneCell' = true) (hb : rs.length ≤ 1000) (hw0 : w0.heap.size ≤ B) (hg0 : w0.grownBy w none) :
    ∃ g cap W', (AppY #[23, 23] 23 #[vN, .slice (some ⟨w.heap.size, 0, none⟩) 1 1]).run Try.prog (w.alloc (.cells #[u] 22)) = .ok (.slice (some ⟨g, 0, none⟩) (rs.length + 1) cap) W' ∧ (W'.cell? ⟨B + 1, 4, none⟩ = some vN ∧ W'.frozen? ⟨B + 1, 4, none⟩ = false) ∧
      OfQ lo B bm l kk (W'.setCell ⟨B + 1, 4, none⟩ (.slice (some ⟨g, 0, none⟩) (rs.length + 1) cap)) vS (.slice (some ⟨g, 0, none⟩) (rs.length + 1) cap) vY vE xs (rs ++ [(u, zs)]) ys es [itY] mps ∧ w0.grownBy (W'.setCell ⟨B + 1, 4, none⟩ (.slice (some ⟨g, 0, none⟩) (rs.length + 1) cap)) none := by
  have h1 := h.kept (grown_alloc w (.cells #[u] 22))
  have hp := h1.own
  obtain ⟨i0, hi0, hz0, hz1, hz2⟩ := info_partsY Try.infoSlY
  have hlt := h.lt
  obtain ⟨g, cap, W', hr, h2, h3, h4, _⟩ := run_append_lies (P := Try.prog) (w.alloc (.cells #[u] 22)) 23 23 (B + 2) 22 i0 (.slice none 0 0) 1 24 Try.underlying23 hi0 hz0 hz1 hz2 rfl (by decide) vN rs.length (rs.map (·.1)) (own_row hp.own (by simp)) ⟨w.heap.size, 0, none⟩ 1 1 [u] rfl (one_new w u _) (by intro x hx; simp at hx; subst hx; exact hu) (by omega) (by unfold maxLen; omega) (by omega) (by simp; omega) _ rfl
  obtain ⟨k0, k1, k2, k3, k4⟩ := grow_boxQ h1.res h1.box h1.num hp h2 (by simp) h3 h4 rfl 4 rfl
  refine ⟨g, cap, W', hr, k0, ⟨k1, k2, k3, ?_⟩, ?_⟩
  · refine k4.perm ?_
    have e1 : (rs ++ [(u, zs)]).map (·.1) = rs.map (·.1) ++ [u] := by simp
    have e2 : rowItems (rs ++ [(u, zs)]) = rowItems rs ++ [(3, u, vals zs)] := by simp [rowItems]
    rw [e1, e2]
    refine (((?_ : List.Perm _ _).cons _).cons _).cons _
    show List.Perm ((3, u, vals zs) :: itY :: (rowItems rs ++ sayItems ys)) (itY :: ((rowItems rs ++ [(3, u, vals zs)]) ++ sayItems ys))
    rw [List.append_assoc]
    exact (List.perm_middle (l₁ := itY :: rowItems rs) (l₂ := sayItems ys)).symm
  · exact grown_new (hp.own.own.frame (by omega) (grown_trans hg0 (grown_alloc _ _)) h3) (grown_set _ _ _) (by simp only; omega)
/-- A row of what letters say is put behind. -/
theorem OfQ.appY {u : Value} {qs : List Trip} (h : OfQ lo B bm l kk w vS vN vY vE xs rs ys es [(22, u, valsT qs)] qs) (hu : u.oneCell' = true) (hb : ys.length ≤ 1000) (hw0 : w0.heap.size ≤ B) (hg0 : w0.grownBy w none) :
    ∃ g cap W', (AppY #[24, 24] 24 #[vY, .slice (some ⟨w.heap.size, 0, none⟩) 1 1]).run Try.prog (w.alloc (.cells #[u] 23)) = .ok (.slice (some ⟨g, 0, none⟩) (ys.length + 1) cap) W' ∧ (W'.cell? ⟨B + 1, 5, none⟩ = some vY ∧ W'.frozen? ⟨B + 1, 5, none⟩ = false) ∧
      OfQ lo B bm l kk (W'.setCell ⟨B + 1, 5, none⟩ (.slice (some ⟨g, 0, none⟩) (ys.length + 1) cap)) vS vN (.slice (some ⟨g, 0, none⟩) (ys.length + 1) cap) vE xs rs (ys ++ [(u, qs)]) es [] [] ∧ w0.grownBy (W'.setCell ⟨B + 1, 5, none⟩ (.slice (some ⟨g, 0, none⟩) (ys.length + 1) cap)) none := by
  have h1 := h.kept (grown_alloc w (.cells #[u] 23))
  have hp := h1.own.perm (List.perm_middle (l₁ := [_]))
  obtain ⟨i0, hi0, hz0, hz1, hz2⟩ := info_partsY Try.infoTT
  have hlt := h.lt
  obtain ⟨g, cap, W', hr, h2, h3, h4, _⟩ := run_append_lies (P := Try.prog) (w.alloc (.cells #[u] 23)) 24 24 (B + 2) 23 i0 (.slice none 0 0) 1 24 Try.underlying24 hi0 hz0 hz1 hz2 rfl (by decide) vY ys.length (ys.map (·.1)) (own_row hp.own (by simp)) ⟨w.heap.size, 0, none⟩ 1 1 [u] rfl (one_new w u _) (by intro x hx; simp at hx; subst hx; exact hu) (by omega) (by unfold maxLen; omega) (by omega) (by simp; omega) _ rfl
  obtain ⟨k0, k1, k2, k3, k4⟩ := grow_boxQ h1.res h1.box h1.num hp h2 (by simp) h3 h4 rfl 5 rfl
  refine ⟨g, cap, W', hr, k0, ⟨k1, k2, k3, ?_⟩, ?_⟩
  · refine (k4.sub (fun p hp => ?_)).perm ?_
    · rw [List.flatMap_append, List.nil_append] at hp
      rcases List.mem_append.1 hp with e1 | e1
      · exact List.mem_append.2 (.inr (List.mem_append.2 (.inl e1)))
      · rcases List.mem_append.1 e1 with e2 | e2
        · exact List.mem_append.2 (.inr (List.mem_append.2 (.inr e2)))
        · exact List.mem_append.2 (.inl (by simpa using e2))
    · have e1 : (ys ++ [(u, qs)]).map (·.1) = ys.map (·.1) ++ [u] := by simp
      have e2 : sayItems (ys ++ [(u, qs)]) = sayItems ys ++ [(22, u, valsT qs)] := by simp [sayItems]
      rw [e1, e2]
      refine (List.perm_middle (l₁ := [_])).symm.trans ?_
      refine (((?_ : List.Perm _ _).cons _).cons _).cons _
      show List.Perm ((22, u, valsT qs) :: (rowItems rs ++ sayItems ys)) (rowItems rs ++ (sayItems ys ++ [(22, u, valsT qs)]))
      rw [← List.append_assoc]
      exact (List.perm_append_comm (l₁ := [(22, u, valsT qs)]) (l₂ := rowItems rs ++ sayItems ys))
  · exact grown_new (hp.own.own.frame (by omega) (grown_trans hg0 (grown_alloc _ _)) h3) (grown_set _ _ _) (by simp only; omega)
/-- What is said at the end is put behind. -/
theorem OfQ.appE {p : Trip} (h : OfQ lo B bm l kk w vS vN vY vE xs rs ys es [] [p]) (hb : es.length ≤ 1000) (hw0 : w0.heap.size ≤ B) (hg0 : w0.grownBy w none) :
    ∃ g cap W', (AppY #[23, 23] 23 #[vE, .slice (some ⟨w.heap.size, 0, none⟩) 1 1]).run Try.prog (w.alloc (.cells #[valT p] 22)) = .ok (.slice (some ⟨g, 0, none⟩) (es.length + 1) cap) W' ∧ (W'.cell? ⟨B + 1, 6, none⟩ = some vE ∧ W'.frozen? ⟨B + 1, 6, none⟩ = false) ∧
      OfQ lo B bm l kk (W'.setCell ⟨B + 1, 6, none⟩ (.slice (some ⟨g, 0, none⟩) (es.length + 1) cap)) vS vN vY (.slice (some ⟨g, 0, none⟩) (es.length + 1) cap) xs rs ys (es ++ [p]) [] [] ∧ w0.grownBy (W'.setCell ⟨B + 1, 6, none⟩ (.slice (some ⟨g, 0, none⟩) (es.length + 1) cap)) none := by
  have h1 := h.kept (grown_alloc w (.cells #[valT p] 22))
  have hp := h1.own.perm (List.perm_middle (l₁ := [_, _]))
  obtain ⟨i0, hi0, hz0, hz1, hz2⟩ := info_partsY Try.infoSlY
  have hlt := h.lt
  obtain ⟨g, cap, W', hr, h2, h3, h4, _⟩ := run_append_lies (P := Try.prog) (w.alloc (.cells #[valT p] 22)) 23 23 (B + 2) 22 i0 (.slice none 0 0) 1 24 Try.underlying23 hi0 hz0 hz1 hz2 rfl (by decide) vE es.length (valsT es) (own_row hp.own (by simp [valsT])) ⟨w.heap.size, 0, none⟩ 1 1 [valT p] rfl (one_new w (valT p) _) (by intro x hx; simp at hx; subst hx; rfl) (by omega) (by unfold maxLen; omega) (by omega) (by simp; omega) _ rfl
  obtain ⟨k0, k1, k2, k3, k4⟩ := grow_boxQ h1.res h1.box h1.num hp h2 (by simp [valsT]) h3 h4 rfl 6 rfl
  refine ⟨g, cap, W', hr, k0, ⟨k1, k2, k3, ?_⟩, ?_⟩
  · have e : valsT (es ++ [p]) = valsT es ++ [valT p] := by simp [valsT]
    rw [e]
    refine (k4.sub (fun q hq => ?_)).perm (List.perm_middle (l₁ := [_, _])).symm
    rw [List.nil_append] at hq
    rcases List.mem_append.1 hq with e1 | e1
    · rcases List.mem_append.1 e1 with e2 | e2
      · exact List.mem_append.2 (.inr (List.mem_append.2 (.inl e2)))
      · exact List.mem_append.2 (.inl e2)
    · exact List.mem_append.2 (.inr (List.mem_append.2 (.inr e1)))
  · exact grown_new (hp.own.own.frame (by omega) (grown_trans hg0 (grown_alloc _ _)) h3) (grown_set _ _ _) (by simp only; omega)
/-- A new state: it is numbered, and put behind. -/
theorem OfQ.appS {y : Nat} {W7 : World} (h : OfQ lo B bm l kk w vS vN vY vE xs rs ys es more mps) (hN7 : NumQ W7 B bm kk (xs ++ [y])) (hg7 : w.grownBy W7 (some bm)) (hb : xs.length ≤ 3000) (hw0 : w0.heap.size ≤ B) (hg0 : w0.grownBy w none) :
    ∃ g cap W', (AppY #[80, 80] 80 #[vS, .slice (some ⟨W7.heap.size, 0, none⟩) 1 1]).run Try.prog (W7.alloc (.cells #[.int .i64 ((pxx kk y : Nat) : Int), .int .i64 ((pyy kk y : Nat) : Int)] 56)) = .ok (.slice (some ⟨g, 0, none⟩) (xs.length + 1) cap) W' ∧
      OfQ lo B bm l kk W' (.slice (some ⟨g, 0, none⟩) (xs.length + 1) cap) vN vY vE (xs ++ [y]) rs ys es more mps ∧ w0.grownBy W' none := by
  obtain ⟨a1, a2, a3⟩ := h.numbered hN7 hg7
  have hal := grown_alloc W7 (.cells #[.int .i64 ((pxx kk y : Nat) : Int), .int .i64 ((pyy kk y : Nat) : Int)] 56)
  have b1 := (hal.block _ (Array.getElem?_eq_some_iff.1 a1).1 (by simp)).trans a1
  have b2 := (hal.block _ (Array.getElem?_eq_some_iff.1 a2).1 (by simp)).trans a2
  have b3 := a3.kept hal
  have b4 := hN7.kept hal (by simp)
  obtain ⟨i0, hi0, hz0, hz1, hz2⟩ := info_partsY Try.infoPQ
  have hlt := hN7.sz
  have hge := hN7.ge
  obtain ⟨g, cap, W', hr, h2, h3, h4, _⟩ := run_append_lies (P := Try.prog) (W7.alloc (.cells #[.int .i64 ((pxx kk y : Nat) : Int), .int .i64 ((pyy kk y : Nat) : Int)] 56)) 80 80 (B + 2) 56 i0 (.agg #[.int .i64 0, .int .i64 0]) 2 16 Try.underlying80 hi0 hz0 hz1 hz2 rfl (by decide) vS xs.length (pcells kk xs) b3.st ⟨W7.heap.size, 0, none⟩ 1 1 [.int .i64 ((pxx kk y : Nat) : Int), .int .i64 ((pyy kk y : Nat) : Int)] rfl (pair_new W7 _ _) (by intro x hx; simp at hx; rcases hx with rfl | rfl <;> rfl) (by omega) (by unfold maxLen; omega) (by omega) (by simp; omega) _ rfl
  have h5 := b3.push h2 h3 h4 rfl
  obtain ⟨hbb, o, hoo, hne⟩ := b4.block
  have old : ∀ {b : Nat} {o : Option Obj}, b < B + 2 → b < (W7.alloc (.cells #[.int .i64 ((pxx kk y : Nat) : Int), .int .i64 ((pyy kk y : Nat) : Int)] 56)).heap.size → (W7.alloc (.cells #[.int .i64 ((pxx kk y : Nat) : Int), .int .i64 ((pyy kk y : Nat) : Int)] 56)).heap[b]? = o → W'.heap[b]? = o := fun hb hlt ho => (h3.block _ hlt (fun hc => by have := (b3.st.lt _ hc.symm).1; omega)).trans ho
  refine ⟨g, cap, W', hr, ⟨old (by omega) (Array.getElem?_eq_some_iff.1 b1).1 b1, old (by omega) (Array.getElem?_eq_some_iff.1 b2).1 b2, b4.kept h3 (fun e => ?_), ?_⟩, ?_⟩
  · rcases b3.st.2 with ⟨e1, _⟩ | ⟨g', cap', cur, e1, _, hh, _⟩
    · rw [e1] at e; cases e
    · rw [e1] at e
      simp only [Value.ownBlock, Option.some.injEq] at e
      subst e
      rw [hh] at hoo
      exact hne _ _ _ (Option.some.inj hoo).symm
  · have e : pcells kk xs ++ [.int .i64 ((pxx kk y : Nat) : Int), .int .i64 ((pyy kk y : Nat) : Int)] = pcells kk (xs ++ [y]) := (pcells_snoc kk xs y).symm
    rw [e] at h5
    simpa using h5
  · exact grown_of_below ((below_of_grown (grown_trans (grown_new hg0 hg7 (by omega)) hal)).grown h3 (grown_trans (grown_new hg0 hg7 (by omega)) hal).size (fun k hk => by have := (b3.st.lt k hk).1; omega))
end

end Go.Proofs.Ytodcmlcpicabaaa
