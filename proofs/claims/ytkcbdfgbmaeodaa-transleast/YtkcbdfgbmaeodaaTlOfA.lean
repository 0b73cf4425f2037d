/- The words for 'of': a transducer under way, its states numbered by a map. -/
/- How 'of' begins, and what lies there when it ends. -/
/- What holds while 'of' goes. -/
import Derived.Test.YtkcbdfgbmaeodaaTlOwnP
import Derived.Test.YtkcbdfgbmaeodaaLNum
import Derived.Test.YtkcbdfgbmaeodaaTlWithin
namespace Go.Proofs.Ytkcbdfgbmaeodaa
open Go.RowKit
set_option linter.unusedVariables false

/-! What comes out, without the program. -/
/-- What states ahead of the i-th say. -/
def partW {α : Type} (δ : Nat → Nat → Nat) (l x0 : Nat) (f : Nat → α) (i : Nat) : List α := ((bfsL id δ l x0 i).take i).map f
theorem partW_step {α : Type} {δ : Nat → Nat → Nat} {l x0 i : Nat} (f : Nat → α) (hi : i < (bfsL id δ l x0 i).length) : partW δ l x0 f (i + 1) = partW δ l x0 f i ++ [f ((bfsL id δ l x0 i).getD i 0)] := by
  obtain ⟨zs, e⟩ := bfsL_more id δ l x0 i
  unfold partW
  rw [List.take_add_one, List.map_append]
  congr 1
  · rw [e, List.take_append_of_le_length (by omega)]
  · have : (bfsL id δ l x0 (i + 1))[i]? = some ((bfsL id δ l x0 i).getD i 0) := by
      rw [e, List.getElem?_append_left hi]; simp [List.getD, hi]
    rw [this]; rfl
theorem partW_end {α : Type} {δ : Nat → Nat → Nat} {l x0 k : Nat} (f : Nat → α) (h : IsEnd (bfsL id δ l x0) k) : partW δ l x0 f k = (bfsL id δ l x0 k).map f := by
  unfold partW
  rw [List.take_of_length_le (by rw [h.len]; exact Nat.le_refl _)]
/-- Rows, what is said by letters, what is said at the end. -/
def ofX (l : Nat) (δ : Nat → Nat → Nat) (σ : Nat → Nat → List Int) (ε : Nat → List Int) (xs : List Nat) : TrI :=
  ⟨(l : Int), 0, 0, [], resR id δ l xs, xs.map fun x => (List.range l).map (σ x), xs.map ε⟩

/-! In memory. -/
abbrev sayItems (ys : List (Value × List Trip)) : List Item := ys.map fun p => (22, p.1, valsT p.2)
abbrev zer7 : Array Value := #[.int .i64 0, .int .i64 0, .int .i64 0, .slice none 0 0, .slice none 0 0, .slice none 0 0, .slice none 0 0]
/-- A transducer under way: the states xs, rows rs, what is said ys, es; what is written just now. -/
structure OfT (lo B l : Nat) (w : World) (vS vN vY vE : Value) (xs : List Nat) (rs : List (Value × List Int)) (ys : List (Value × List Trip)) (es : List Trip) (more : List Item) (mps : List Trip) : Prop where
  res : w.heap[B]? = some (.cells zer7 26 (0, 0))
  box : w.heap[B + 1]? = some (.cells #[.int .i64 (l : Int), .int .i64 0, .int .i64 0, .slice none 0 0, vN, vY, vE] 26 (0, 0))
  num : NumAt w (B + 3) xs
  own : OwnsP (B + 2) (min lo B) (B + 4) w ((3, vS, vals (natInts xs)) :: (22, vN, rs.map (·.1)) :: (23, vY, ys.map (·.1)) :: (22, vE, valsT es) :: (more ++ (rowItems rs ++ sayItems ys))) (mps ++ (es ++ ys.flatMap (·.2)))

section
variable {lo B l : Nat} {w w' : World} {vS vN vY vE : Value} {xs : List Nat} {rs : List (Value × List Int)} {ys : List (Value × List Trip)} {es : List Trip} {more : List Item} {mps : List Trip}
theorem OfT.kept (h : OfT lo B l w vS vN vY vE xs rs ys es more mps) (hg : w.grownBy w' none) : OfT lo B l w' vS vN vY vE xs rs ys es more mps :=
  ⟨(hg.block _ (Array.getElem?_eq_some_iff.1 h.res).1 (by simp)).trans h.res, (hg.block _ (Array.getElem?_eq_some_iff.1 h.box).1 (by simp)).trans h.box, h.num.kept hg (by simp), h.own.kept hg⟩
theorem OfT.lt (h : OfT lo B l w vS vN vY vE xs rs ys es more mps) : B + 3 < w.heap.size := h.num.block.1
theorem OfT.cells (h : OfT lo B l w vS vN vY vE xs rs ys es more mps) : w.cell? ⟨B + 1, 0, none⟩ = some (.int .i64 (l : Int)) ∧ w.cell? ⟨B + 1, 1, none⟩ = some (.int .i64 0) ∧ w.cell? ⟨B + 1, 2, none⟩ = some (.int .i64 0) ∧ w.cell? ⟨B + 1, 3, none⟩ = some (.slice none 0 0) ∧ w.cell? ⟨B + 1, 4, none⟩ = some vN ∧ w.cell? ⟨B + 1, 5, none⟩ = some vY ∧ w.cell? ⟨B + 1, 6, none⟩ = some vE ∧ ∀ k, w.frozen? ⟨B + 1, k, none⟩ = false := by
  have hc : ∀ k v, #[Value.int .i64 (l : Int), .int .i64 0, .int .i64 0, .slice none 0 0, vN, vY, vE][k]? = some v → w.cell? ⟨B + 1, k, none⟩ = some v := fun k v hv => by rw [cell_of_row _ _ k _ _ (0, 0) h.box]; exact hv
  exact ⟨hc 0 _ rfl, hc 1 _ rfl, hc 2 _ rfl, hc 3 _ rfl, hc 4 _ rfl, hc 5 _ rfl, hc 6 _ rfl, fun k => frozen_of_row _ _ k _ _ h.box⟩
/-- A state that is there. -/
theorem OfT.state (h : OfT lo B l w vS vN vY vE xs rs ys es more mps) {i : Nat} (hi : i < xs.length) : ∃ g cap, vS = .slice (some ⟨g, 0, none⟩) xs.length cap ∧ w.cell? ⟨g, i, none⟩ = some (.int .i64 ((xs.getD i 0 : Nat) : Int)) := by
  obtain ⟨g, cap, e, _⟩ := h.own.own.form (by simp; omega)
  simp at e
  subst e
  exact ⟨g, cap, rfl, h.own.own.cell (natInts_get hi)⟩
theorem OfT.sub {mps' : List Trip} (h : OfT lo B l w vS vN vY vE xs rs ys es more mps) (hs : ∀ p, p ∈ mps' → p ∈ mps) : OfT lo B l w vS vN vY vE xs rs ys es more mps' :=
  ⟨h.res, h.box, h.num, h.own.sub (fun p hp => by
    rcases List.mem_append.1 hp with h1 | h1
    · exact List.mem_append.2 (.inl (hs p h1))
    · exact List.mem_append.2 (.inr h1))⟩
theorem OfT.swap {a b : Item} (h : OfT lo B l w vS vN vY vE xs rs ys es [a, b] mps) : OfT lo B l w vS vN vY vE xs rs ys es [b, a] mps :=
  ⟨h.res, h.box, h.num, h.own.perm (((((List.Perm.swap b a _).cons _).cons _).cons _).cons _)⟩
/-- A row is made. -/
theorem OfT.made {arr : Array Value} {n : Nat} (h : OfT lo B l w vS vN vY vE xs rs ys es more mps) (e : TypeId) (hn : arr.size = n) (hm : n ≤ maxLen) : OfT lo B l (w.alloc (.cells arr e)) vS vN vY vE xs rs ys es ((e, .slice (some ⟨w.heap.size, 0, none⟩) n n, arr.toList) :: more) mps := by
  have h1 := h.kept (grown_alloc w (.cells arr e))
  refine ⟨h1.res, h1.box, h1.num, ?_⟩
  have h2 := h.own.made (by have := h.lt; omega) e hn hm
  exact h2.perm (List.perm_middle (l₁ := [_, _, _, _])).symm
/-- A word is told. -/
theorem OfT.word {a : Option Addr} {zs : List Int} (h : OfT lo B l w vS vN vY vE xs rs ys es more mps) (g : w.grownBy w' none) (hz : Ints w' a zs) (hnew : zs ≠ [] → ∀ y, a = some y → y.block < min lo B ∨ w.heap.size ≤ y.block) (c : Nat) : OfT lo B l w' vS vN vY vE xs rs ys es more ((a, c, zs) :: mps) := by
  have h1 := h.kept g
  exact ⟨h1.res, h1.box, h1.num, h.own.word (by omega) (by have := h.lt; omega) g hz hnew c⟩
/-- The first row under way comes first. -/
theorem OfT.cur {it : Item} (h : OfT lo B l w vS vN vY vE xs rs ys es (it :: more) mps) : OwnsP (B + 2) (min lo B) (B + 4) w (it :: (3, vS, vals (natInts xs)) :: (22, vN, rs.map (·.1)) :: (23, vY, ys.map (·.1)) :: (22, vE, valsT es) :: (more ++ (rowItems rs ++ sayItems ys))) (mps ++ (es ++ ys.flatMap (·.2))) :=
  h.own.perm (List.perm_middle (l₁ := [_, _, _, _]))
/-- It is written into. -/
theorem OfT.write {g a n : Nat} {e : TypeId} {zs : List Value} (h : OfT lo B l w vS vN vY vE xs rs ys es ((e, .slice (some ⟨g, 0, none⟩) n n, zs) :: more) mps) (ha : a < n) (u : Value) :
    (∃ u0, w.cell? ⟨g, a, none⟩ = some u0 ∧ zs[a]? = some u0) ∧ w.frozen? ⟨g, a, none⟩ = false ∧ OfT lo B l (w.setCell ⟨g, a, none⟩ u) vS vN vY vE xs rs ys es ((e, .slice (some ⟨g, 0, none⟩) n n, zs.set a u) :: more) mps ∧ B + 2 ≤ g := by
  have hc := h.cur
  have hlen := hc.own.len
  obtain ⟨g', cap, e1, hB, hlt, hfz⟩ := hc.own.form (by omega)
  have e2 : g = g' := by simp only [Value.slice.injEq, Option.some.injEq, Addr.mk.injEq] at e1; exact e1.1.1
  subst e2
  have ha' : a < zs.length := by omega
  refine ⟨⟨zs[a], hc.own.cell (List.getElem?_eq_getElem ha'), List.getElem?_eq_getElem ha'⟩, hfz a, ?_, hB⟩
  obtain ⟨hb, o, ho, hne⟩ := h.num.block
  have hg := grown_set w ⟨g, a, none⟩ u
  have hgn : g ≠ B + 3 := fun e3 => by
    have := hc.own.other (b := B + 3) ho hne _ (List.mem_cons_self)
    exact this (by rw [e3]; rfl)
  refine ⟨(hg.block _ (Array.getElem?_eq_some_iff.1 h.res).1 (by simp; omega)).trans h.res, (hg.block _ (Array.getElem?_eq_some_iff.1 h.box).1 (by simp; omega)).trans h.box, h.num.kept hg (by simpa using hgn), ?_⟩
  exact (hc.set ha u).perm (List.perm_middle (l₁ := [_, _, _, _])).symm
/-- The map has turned: a new state has its number. -/
theorem OfT.numbered {y : Nat} (h : OfT lo B l w vS vN vY vE xs rs ys es more mps) (hn : NumAt w' (B + 3) (xs ++ [y])) (hg : w.grownBy w' (some (B + 3))) :
    w'.heap[B]? = some (.cells zer7 26 (0, 0)) ∧ w'.heap[B + 1]? = some (.cells #[.int .i64 (l : Int), .int .i64 0, .int .i64 0, .slice none 0 0, vN, vY, vE] 26 (0, 0)) ∧
    OwnsP (B + 2) (min lo B) (B + 4) w' ((3, vS, vals (natInts xs)) :: (22, vN, rs.map (·.1)) :: (23, vY, ys.map (·.1)) :: (22, vE, valsT es) :: (more ++ (rowItems rs ++ sayItems ys))) (mps ++ (es ++ ys.flatMap (·.2))) := by
  obtain ⟨_, o, ho, hne⟩ := h.num.block
  exact ⟨(hg.block _ (Array.getElem?_eq_some_iff.1 h.res).1 (by simp)).trans h.res, (hg.block _ (Array.getElem?_eq_some_iff.1 h.box).1 (by simp)).trans h.box, h.own.far hg (h.own.own.other ho hne) (by omega) (by omega)⟩
end

theorem one_new (w : World) (u : Value) (t : TypeId) : ∀ j x, [u][j]? = some x → (w.alloc (.cells #[u] t)).cell? ((⟨w.heap.size, 0, none⟩ : Addr).add j) = some x := cell_one_new w u t
theorem Try.infoTT : (Try.prog.info? 23).map (fun i => (i.zero, i.size, i.bytes)) = some (some (.slice none 0 0), 1, 24) := by kernel_rfl

/-- A row of one's own grows by one, and the box of the transducer is told where it is. -/
theorem grow_box {lo B : Nat} {w w' : World} {arr : Array Value} {xs : List Nat} {e : TypeId} {v u : Value} {c : List Value} {r : List Item} {ps : List Trip} {g n cap H : Nat} (hres : w.heap[B]? = some (.cells zer7 26 (0, 0))) (hbox : w.heap[B + 1]? = some (.cells arr 26 (0, 0))) (hnum : NumAt w (B + 3) xs) (hp : OwnsP (B + 2) (min lo B) (B + 4) w ((e, v, c) :: r) ps)
    (ho : w'.ownsRow (B + 2) e 1 (.slice (some ⟨g, 0, none⟩) n cap) n (c ++ [u])) (hn : n = c.length + 1) (hg : w.grownBy w' v.ownBlock) (hat : v.ownBlock = some g ∨ g = H) (hH : w.heap.size = H) (k : Nat) (hk : arr[k]? = some v) :
    (w'.cell? ⟨B + 1, k, none⟩ = some v ∧ w'.frozen? ⟨B + 1, k, none⟩ = false) ∧ (w'.setCell ⟨B + 1, k, none⟩ (.slice (some ⟨g, 0, none⟩) n cap)).heap[B]? = some (.cells zer7 26 (0, 0)) ∧ (w'.setCell ⟨B + 1, k, none⟩ (.slice (some ⟨g, 0, none⟩) n cap)).heap[B + 1]? = some (.cells (arr.setIfInBounds k (.slice (some ⟨g, 0, none⟩) n cap)) 26 (0, 0)) ∧ NumAt (w'.setCell ⟨B + 1, k, none⟩ (.slice (some ⟨g, 0, none⟩) n cap)) (B + 3) xs ∧
    OwnsP (B + 2) (min lo B) (B + 4) (w'.setCell ⟨B + 1, k, none⟩ (.slice (some ⟨g, 0, none⟩) n cap)) ((e, .slice (some ⟨g, 0, none⟩) n cap, c ++ [u]) :: r) ps := by
  have h5 := hp.append ho (by simpa using hn) hg hat hH
  obtain ⟨hb, o, hoo, hne⟩ := hnum.block
  have k1 := hp.own.old (by omega) (Array.getElem?_eq_some_iff.1 hres).1 hg hres
  have k2 := hp.own.old (by omega) (Array.getElem?_eq_some_iff.1 hbox).1 hg hbox
  have k3 := hnum.kept hg (fun e2 => hp.own.other hoo hne (e, v, c) (by simp) e2)
  refine ⟨⟨by rw [cell_of_row _ _ _ _ _ (0, 0) k2]; exact hk, frozen_of_row _ _ _ _ _ k2⟩, ?_, ?_, ?_, ?_⟩
  · exact (Below.heap_setCell _ _ _ _ (by simp)).trans k1
  · rw [heap_setCell_same _ _ k _ _ _ k2]
  · exact k3.kept (grown_set _ _ _) (by simp)
  · exact h5.below (grown_set w' ⟨B + 1, k, none⟩ (.slice (some ⟨g, 0, none⟩) n cap)) (by simp) (by simp only; omega) (by simp)

section
variable {lo B l : Nat} {w w' w0 : World} {vS vN vY vE : Value} {xs : List Nat} {rs : List (Value × List Int)} {ys : List (Value × List Trip)} {es : List Trip} {more : List Item} {mps : List Trip}

theorem own_row {B n : Nat} {W : World} {e : TypeId} {v : Value} {c : List Value} {r : List Item} {ps : List Trip} {lo hi : Nat} (h : OwnsP B lo hi W ((e, v, c) :: r) ps) (hn : c.length = n) : W.ownsRow B e 1 v n c := by
  have := h.own.row
  rwa [hn] at this
/-- A row of where letters lead is put behind. -/
theorem OfT.appN {u : Value} {zs : List Int} {itY : Item} (h : OfT lo B l w vS vN vY vE xs rs ys es [(3, u, vals zs), itY] mps) (hu : u.oneCell' = true) (hb : rs.length ≤ 1000) (hw0 : w0.heap.size = B) (hg0 : w0.grownBy w none) :
    ∃ g cap W', (AppY #[23, 23] 23 #[vN, .slice (some ⟨w.heap.size, 0, none⟩) 1 1]).run Try.prog (w.alloc (.cells #[u] 22)) = .ok (.slice (some ⟨g, 0, none⟩) (rs.length + 1) cap) W' ∧ (W'.cell? ⟨B + 1, 4, none⟩ = some vN ∧ W'.frozen? ⟨B + 1, 4, none⟩ = false) ∧
      OfT lo B l (W'.setCell ⟨B + 1, 4, none⟩ (.slice (some ⟨g, 0, none⟩) (rs.length + 1) cap)) vS (.slice (some ⟨g, 0, none⟩) (rs.length + 1) cap) vY vE xs (rs ++ [(u, zs)]) ys es [itY] mps ∧ w0.grownBy (W'.setCell ⟨B + 1, 4, none⟩ (.slice (some ⟨g, 0, none⟩) (rs.length + 1) cap)) none := by
  have h1 := h.kept (grown_alloc w (.cells #[u] 22))
  have hp := h1.own.perm (List.perm_middle (l₁ := [_]))
  obtain ⟨i0, hi0, hz0, hz1, hz2⟩ := info_partsY Try.infoSlY
  have hlt := h.lt
  obtain ⟨g, cap, W', hr, h2, h3, h4, _⟩ := run_append_lies (P := Try.prog) (w.alloc (.cells #[u] 22)) 23 23 (B + 2) 22 i0 (.slice none 0 0) 1 24 Try.underlying23 hi0 hz0 hz1 hz2 rfl (by decide) vN rs.length (rs.map (·.1)) (own_row hp (by simp)) ⟨w.heap.size, 0, none⟩ 1 1 [u] rfl (one_new w u _) (by intro x hx; simp at hx; subst hx; exact hu) (by omega) (by unfold maxLen; omega) (by omega) (by simp; omega) _ rfl
  obtain ⟨k0, k1, k2, k3, k4⟩ := grow_box h1.res h1.box h1.num hp h2 (by simp) h3 h4 rfl 4 rfl
  refine ⟨g, cap, W', hr, k0, ⟨k1, k2, k3, ?_⟩, ?_⟩
  · refine k4.perm ?_
    have e1 : (rs ++ [(u, zs)]).map (·.1) = rs.map (·.1) ++ [u] := by simp
    have e2 : rowItems (rs ++ [(u, zs)]) = rowItems rs ++ [(3, u, vals zs)] := by simp [rowItems]
    rw [e1, e2]
    refine (List.Perm.swap _ _ _).trans (((((?_ : List.Perm _ _).cons _).cons _).cons _).cons _)
    show List.Perm ((3, u, vals zs) :: itY :: (rowItems rs ++ sayItems ys)) (itY :: ((rowItems rs ++ [(3, u, vals zs)]) ++ sayItems ys))
    rw [List.append_assoc]
    exact (List.perm_middle (l₁ := itY :: rowItems rs) (l₂ := sayItems ys)).symm
  · exact grown_new (hp.own.frame (by omega) (grown_trans hg0 (grown_alloc _ _)) h3) (grown_set _ _ _) (by simp only; omega)
/-- A row of what letters say is put behind. -/
theorem OfT.appY {u : Value} {qs : List Trip} (h : OfT lo B l w vS vN vY vE xs rs ys es [(22, u, valsT qs)] qs) (hu : u.oneCell' = true) (hb : ys.length ≤ 1000) (hw0 : w0.heap.size = B) (hg0 : w0.grownBy w none) :
    ∃ g cap W', (AppY #[24, 24] 24 #[vY, .slice (some ⟨w.heap.size, 0, none⟩) 1 1]).run Try.prog (w.alloc (.cells #[u] 23)) = .ok (.slice (some ⟨g, 0, none⟩) (ys.length + 1) cap) W' ∧ (W'.cell? ⟨B + 1, 5, none⟩ = some vY ∧ W'.frozen? ⟨B + 1, 5, none⟩ = false) ∧
      OfT lo B l (W'.setCell ⟨B + 1, 5, none⟩ (.slice (some ⟨g, 0, none⟩) (ys.length + 1) cap)) vS vN (.slice (some ⟨g, 0, none⟩) (ys.length + 1) cap) vE xs rs (ys ++ [(u, qs)]) es [] [] ∧ w0.grownBy (W'.setCell ⟨B + 1, 5, none⟩ (.slice (some ⟨g, 0, none⟩) (ys.length + 1) cap)) none := by
  have h1 := h.kept (grown_alloc w (.cells #[u] 23))
  have hp := h1.own.perm (List.perm_middle (l₁ := [_, _]))
  obtain ⟨i0, hi0, hz0, hz1, hz2⟩ := info_partsY Try.infoTT
  have hlt := h.lt
  obtain ⟨g, cap, W', hr, h2, h3, h4, _⟩ := run_append_lies (P := Try.prog) (w.alloc (.cells #[u] 23)) 24 24 (B + 2) 23 i0 (.slice none 0 0) 1 24 Try.underlying24 hi0 hz0 hz1 hz2 rfl (by decide) vY ys.length (ys.map (·.1)) (own_row hp (by simp)) ⟨w.heap.size, 0, none⟩ 1 1 [u] rfl (one_new w u _) (by intro x hx; simp at hx; subst hx; exact hu) (by omega) (by unfold maxLen; omega) (by omega) (by simp; omega) _ rfl
  obtain ⟨k0, k1, k2, k3, k4⟩ := grow_box h1.res h1.box h1.num hp h2 (by simp) h3 h4 rfl 5 rfl
  refine ⟨g, cap, W', hr, k0, ⟨k1, k2, k3, ?_⟩, ?_⟩
  · refine (k4.sub (fun p hp => ?_)).perm ?_
    · rw [List.flatMap_append, List.nil_append] at hp
      rcases List.mem_append.1 hp with e1 | e1
      · exact List.mem_append.2 (.inr (List.mem_append.2 (.inl e1)))
      · rcases List.mem_append.1 e1 with e2 | e2
        · exact List.mem_append.2 (.inr (List.mem_append.2 (.inr e2)))
        · exact List.mem_append.2 (.inl (by simpa using e2))
    · have e1 : (ys ++ [(u, qs)]).map (·.1) = ys.map (·.1) ++ [u] := by simp
      have e2 : sayItems (ys ++ [(u, qs)]) = sayItems ys ++ [(22, u, valsT qs)] := by simp [sayItems]
      rw [e1, e2]
      refine (List.perm_middle (l₁ := [_, _])).symm.trans ?_
      refine ((((?_ : List.Perm _ _).cons _).cons _).cons _).cons _
      show List.Perm ((22, u, valsT qs) :: (rowItems rs ++ sayItems ys)) (rowItems rs ++ (sayItems ys ++ [(22, u, valsT qs)]))
      rw [← List.append_assoc]
      exact (List.perm_append_comm (l₁ := [(22, u, valsT qs)]) (l₂ := rowItems rs ++ sayItems ys))
  · exact grown_new (hp.own.frame (by omega) (grown_trans hg0 (grown_alloc _ _)) h3) (grown_set _ _ _) (by simp only; omega)
/-- What is said at the end is put behind. -/
theorem OfT.appE {p : Trip} (h : OfT lo B l w vS vN vY vE xs rs ys es [] [p]) (hb : es.length ≤ 1000) (hw0 : w0.heap.size = B) (hg0 : w0.grownBy w none) :
    ∃ g cap W', (AppY #[23, 23] 23 #[vE, .slice (some ⟨w.heap.size, 0, none⟩) 1 1]).run Try.prog (w.alloc (.cells #[valT p] 22)) = .ok (.slice (some ⟨g, 0, none⟩) (es.length + 1) cap) W' ∧ (W'.cell? ⟨B + 1, 6, none⟩ = some vE ∧ W'.frozen? ⟨B + 1, 6, none⟩ = false) ∧
      OfT lo B l (W'.setCell ⟨B + 1, 6, none⟩ (.slice (some ⟨g, 0, none⟩) (es.length + 1) cap)) vS vN vY (.slice (some ⟨g, 0, none⟩) (es.length + 1) cap) xs rs ys (es ++ [p]) [] [] ∧ w0.grownBy (W'.setCell ⟨B + 1, 6, none⟩ (.slice (some ⟨g, 0, none⟩) (es.length + 1) cap)) none := by
  have h1 := h.kept (grown_alloc w (.cells #[valT p] 22))
  have hp := h1.own.perm (List.perm_middle (l₁ := [_, _, _]))
  obtain ⟨i0, hi0, hz0, hz1, hz2⟩ := info_partsY Try.infoSlY
  have hlt := h.lt
  obtain ⟨g, cap, W', hr, h2, h3, h4, _⟩ := run_append_lies (P := Try.prog) (w.alloc (.cells #[valT p] 22)) 23 23 (B + 2) 22 i0 (.slice none 0 0) 1 24 Try.underlying23 hi0 hz0 hz1 hz2 rfl (by decide) vE es.length (valsT es) (own_row hp (by simp [valsT])) ⟨w.heap.size, 0, none⟩ 1 1 [valT p] rfl (one_new w (valT p) _) (by intro x hx; simp at hx; subst hx; rfl) (by omega) (by unfold maxLen; omega) (by omega) (by simp; omega) _ rfl
  obtain ⟨k0, k1, k2, k3, k4⟩ := grow_box h1.res h1.box h1.num hp h2 (by simp [valsT]) h3 h4 rfl 6 rfl
  refine ⟨g, cap, W', hr, k0, ⟨k1, k2, k3, ?_⟩, ?_⟩
  · have e : valsT (es ++ [p]) = valsT es ++ [valT p] := by simp [valsT]
    rw [e]
    refine (k4.sub (fun q hq => ?_)).perm (List.perm_middle (l₁ := [_, _, _])).symm
    rw [List.nil_append] at hq
    rcases List.mem_append.1 hq with e1 | e1
    · rcases List.mem_append.1 e1 with e2 | e2
      · exact List.mem_append.2 (.inr (List.mem_append.2 (.inl e2)))
      · exact List.mem_append.2 (.inl e2)
    · exact List.mem_append.2 (.inr (List.mem_append.2 (.inr e1)))
  · exact grown_new (hp.own.frame (by omega) (grown_trans hg0 (grown_alloc _ _)) h3) (grown_set _ _ _) (by simp only; omega)
/-- A new state: it is numbered, and put behind. -/
theorem OfT.appS {y : Nat} {W7 : World} (h : OfT lo B l w vS vN vY vE xs rs ys es more mps) (hN7 : NumAt W7 (B + 3) (xs ++ [y])) (hg7 : w.grownBy W7 (some (B + 3))) (hb : xs.length ≤ 3000) (hw0 : w0.heap.size = B) (hg0 : w0.grownBy w none) :
    ∃ g cap W', (AppY #[22, 22] 22 #[vS, .slice (some ⟨W7.heap.size, 0, none⟩) 1 1]).run Try.prog (W7.alloc (.cells #[.int .i64 (y : Int)] 3)) = .ok (.slice (some ⟨g, 0, none⟩) (xs.length + 1) cap) W' ∧
      OfT lo B l W' (.slice (some ⟨g, 0, none⟩) (xs.length + 1) cap) vN vY vE (xs ++ [y]) rs ys es more mps ∧ w0.grownBy W' none := by
  obtain ⟨a1, a2, a3⟩ := h.numbered hN7 hg7
  have hal := grown_alloc W7 (.cells #[.int .i64 (y : Int)] 3)
  have b1 := (hal.block _ (Array.getElem?_eq_some_iff.1 a1).1 (by simp)).trans a1
  have b2 := (hal.block _ (Array.getElem?_eq_some_iff.1 a2).1 (by simp)).trans a2
  have b3 := a3.kept hal
  have b4 := hN7.kept hal (by simp)
  obtain ⟨i0, hi0, hz0, hz1, hz2⟩ := info_partsY Try.infoI64Y
  have hlt := hN7.block.1
  obtain ⟨g, cap, W', hr, h2, h3, h4, _⟩ := run_append_lies (P := Try.prog) (W7.alloc (.cells #[.int .i64 (y : Int)] 3)) 22 22 (B + 2) 3 i0 (.int .i64 0) 1 8 Try.underlying22 hi0 hz0 hz1 hz2 rfl (by decide) vS xs.length (vals (natInts xs)) (own_row b3 (by simp)) ⟨W7.heap.size, 0, none⟩ 1 1 [.int .i64 (y : Int)] rfl (one_new W7 _ _) (by intro x hx; simp at hx; subst hx; rfl) (by omega) (by unfold maxLen; omega) (by omega) (by simp; omega) _ rfl
  have h5 := b3.append h2 (by simp) h3 h4 rfl
  obtain ⟨hbb, o, hoo, hne⟩ := b4.block
  refine ⟨g, cap, W', hr, ⟨b3.own.old (by omega) (Array.getElem?_eq_some_iff.1 b1).1 h3 b1, b3.own.old (by omega) (Array.getElem?_eq_some_iff.1 b2).1 h3 b2, b4.kept h3 (fun e => b3.own.other hoo hne (3, vS, vals (natInts xs)) (by simp) e), ?_⟩, ?_⟩
  · simpa [vals, natInts] using h5
  · exact b3.own.frame (by omega) (grown_trans (grown_new hg0 hg7 (by omega)) hal) h3
end

/-- What 'of' leaves behind. -/
def OfTP (lo l x0 n : Nat) (δ : Nat → Nat → Nat) (σ : Nat → Nat → List Int) (ε : Nat → List Int) (w : World) (e : Ending) (w' : World) : Prop :=
  ∃ k a4 a5 a6 c4 c5 c6 ps, IsEnd (bfsL id δ l x0) k ∧ k ≤ n ∧ e = .returned (tnV (l : Int) 0 0 none 0 0 a4 k c4 a5 k c5 a6 k c6) ∧ TnAt w' (ofX l δ σ ε (bfsL id δ l x0 k)) none a4 a5 a6 ∧ w.grownBy w' none ∧ TripAt w' a6 ps ∧ wordsT ps = (bfsL id δ l x0 k).map ε ∧ (∀ p, p ∈ ps → p.2.2.length ≤ p.2.1) ∧
    ∃ P : World → Prop, P w' ∧ (∀ W, P W → TnAt W (ofX l δ σ ε (bfsL id δ l x0 k)) none a4 a5 a6 ∧ TripAt W a6 ps) ∧ (∀ W W' b, P W → lo ≤ b → b < w.heap.size → W.grownBy W' (some b) → P W') ∧ ∀ W W', P W → W.grownBy W' none → P W'

end Go.Proofs.Ytkcbdfgbmaeodaa

namespace Go.Proofs.Ytkcbdfgbmaeodaa
open Go.RowKit
set_option linter.unusedVariables false

theorem numT_made (w : World) : NumAt (w.alloc (.map #[] 0)) w.heap.size [] :=
  ⟨.map [], World.ownsMap_made w _ _ _, fun y _ => by simp [Maps.has_eq], fun i hi => by simp at hi⟩
theorem ofT_start {lo : Nat} (w : World) (l x0 : Nat) (hx : x0 < 4611686018427387904) :
    ∃ W4, (Instr.mapUpdate 53 (.map (some (w.heap.size + 1 + 1 + 1))) (.int .i64 (x0 : Int)) (.int .i64 0)).run Try.prog ((((w.alloc (.cells zer7 26)).alloc (.cells #[.int .i64 (l : Int), .int .i64 0, .int .i64 0, .slice none 0 0, .slice none 0 0, .slice none 0 0, .slice none 0 0] 26)).alloc (.cells #[.int .i64 (x0 : Int)] 3)).alloc (.map #[] 0)) = .ok () W4 ∧
      OfT lo w.heap.size l W4 (.slice (some ⟨w.heap.size + 1 + 1, 0, none⟩) 1 1) (.slice none 0 0) (.slice none 0 0) (.slice none 0 0) [x0] [] [] [] [] [] ∧ w.grownBy W4 none := by
  generalize hW0 : w.alloc (.cells zer7 26) = W0
  have s0 : W0.heap.size = w.heap.size + 1 := by rw [← hW0]; simp
  have b0 : W0.heap[w.heap.size]? = some (.cells zer7 26 (0, 0)) := by rw [← hW0]; exact heap_alloc_new w _
  have g0 : w.grownBy W0 none := by rw [← hW0]; exact grown_alloc _ _
  generalize hW1 : W0.alloc (.cells #[.int .i64 (l : Int), .int .i64 0, .int .i64 0, .slice none 0 0, .slice none 0 0, .slice none 0 0, .slice none 0 0] 26) = W1
  have s1 : W1.heap.size = w.heap.size + 2 := by rw [← hW1]; simp [s0]
  have b1 : W1.heap[w.heap.size + 1]? = some (.cells #[.int .i64 (l : Int), .int .i64 0, .int .i64 0, .slice none 0 0, .slice none 0 0, .slice none 0 0, .slice none 0 0] 26 (0, 0)) := by rw [← hW1, ← s0]; exact heap_alloc_new W0 _
  have g1 : W0.grownBy W1 none := by rw [← hW1]; exact grown_alloc _ _
  have o1 : Owns (w.heap.size + 2) W1 ((22, .slice none 0 0, []) :: (23, .slice none 0 0, []) :: (22, .slice none 0 0, []) :: []) := (((Owns.no _ _).empty _).empty _).empty _
  have o2 := o1.made (arr := #[.int .i64 (x0 : Int)]) (n := 1) (by omega) 3 rfl (by unfold maxLen; omega)
  generalize hW2 : W1.alloc (.cells #[.int .i64 (x0 : Int)] 3) = W2 at *
  have s2 : W2.heap.size = w.heap.size + 3 := by rw [← hW2]; simp [s1]
  have g2 : W1.grownBy W2 none := by rw [← hW2]; exact grown_alloc _ _
  have n3 := numT_made W2
  rw [s2] at n3
  have g3 : W2.grownBy (W2.alloc (.map #[] 0)) none := grown_alloc _ _
  generalize W2.alloc (.map #[] 0) = W3 at *
  obtain ⟨W4, hr, hn4, hg4⟩ := n3.put hx (by simp) (by simp) (by simp)
  refine ⟨W4, by simpa using hr, ?_, ?_⟩
  · have gg : W2.grownBy W4 (some (w.heap.size + 3)) := ⟨hg4.os.trans g3.os, hg4.tape.trans g3.tape, hg4.output.trans g3.output, Nat.le_trans g3.size hg4.size, fun k hk hne => (hg4.block k (Nat.lt_of_lt_of_le hk g3.size) hne).trans (g3.block k hk (by simp))⟩
    refine ⟨?_, ?_, by simpa using hn4, ?_⟩
    · exact (gg.block _ (by omega) (by simp)).trans ((g2.block _ (by omega) (by simp)).trans ((g1.block _ (by omega) (by simp)).trans b0))
    · exact (gg.block _ (by omega) (by simp)).trans ((g2.block _ (by omega) (by simp)).trans b1)
    · have o3 : Owns (w.heap.size + 2) W4 _ := o2.far gg (fun it hm hc => by have := ((o2.1 it hm).1.lt _ hc).2; omega)
      rw [s1] at o3
      refine ⟨by simpa [vals, natInts, valsT] using o3, fun p hp => by simp at hp, fun p hp => by simp at hp⟩
  · exact grown_new (grown_trans (grown_trans (grown_trans g0 g1) g2) g3) hg4 (by omega)

theorem item_cells {B : Nat} {w : World} {e : TypeId} {v : Value} {vs : List Value} (h : OwnsI B w (e, v, vs)) : ∃ a c, v = .slice a vs.length c ∧ vs.length ≤ maxLen ∧ (vs = [] ∨ ∃ g, a = some ⟨g, 0, none⟩ ∧ ∀ i u, vs[i]? = some u → w.cell? ⟨g, i, none⟩ = some u) := by
  have ho : Owns B w [(e, v, vs)] := ⟨fun it hm => by rw [List.mem_singleton.1 hm]; exact h, List.pairwise_singleton _ _⟩
  obtain ⟨h1, a, c, hv⟩ := h
  have hv' : v = .slice a vs.length c := hv
  subst hv'
  refine ⟨a, c, rfl, ?_, ?_⟩
  · rcases h1.2 with ⟨_, e0⟩ | ⟨g, cap, cur, e1, _, _, h5, h6, _⟩
    · simp only at e0; omega
    · simp only at h5 h6; omega
  · by_cases h0 : vs = []
    · exact .inl h0
    · obtain ⟨g, cap, e1, _⟩ := ho.form (List.length_pos_iff.2 h0)
      simp only [Value.slice.injEq] at e1
      obtain ⟨rfl, _, rfl⟩ := e1
      exact .inr ⟨g, rfl, fun i u hu => ho.cell hu⟩
theorem item_ints {B : Nat} {w : World} {v : Value} {zs : List Int} (h : OwnsI B w (3, v, vals zs)) : ∃ a c, v = .slice a zs.length c ∧ Ints w a zs ∧ zs.length ≤ maxLen := by
  obtain ⟨a, c, e1, e2, e3⟩ := item_cells h
  rw [vals_len] at e1 e2
  refine ⟨a, c, e1, ?_, e2⟩
  rcases e3 with e3 | ⟨g, rfl, hc⟩
  · left; simpa [vals] using e3
  · exact .inr ⟨g, 0, rfl, fun i hi => by rw [Nat.zero_add]; exact hc i _ (vals_get hi)⟩
theorem item_trip {B : Nat} {w : World} {e : TypeId} {v : Value} {ps : List Trip} (h : OwnsI B w (e, v, valsT ps)) : ∃ a c, v = .slice a ps.length c ∧ TripAt w a ps ∧ ps.length ≤ maxLen := by
  obtain ⟨a, c, e1, e2, e3⟩ := item_cells h
  have hl : (valsT ps).length = ps.length := by simp [valsT]
  rw [hl] at e1 e2
  refine ⟨a, c, e1, ?_, e2⟩
  rcases e3 with e3 | ⟨g, rfl, hc⟩
  · left; simpa [valsT] using e3
  · refine .inr ⟨g, 0, rfl, fun i hi => ?_⟩
    rw [Nat.zero_add]
    exact hc i _ (by simp [valsT, hi, List.getD])

/-- What lies there in the end. -/
theorem ownsP_out {lo B k : Nat} {w : World} {vS : Value} {a4 a5 a6 : Option Addr} {c4 c5 c6 : Nat} {xs : List Nat} {rs : List (Value × List Int)} {ys : List (Value × List Trip)} {es : List Trip} (I O S : Int) {N : List (List Int)} {Y : List (List (List Int))} {E : List (List Int)}
    (ho : OwnsP (B + 2) (min lo B) (B + 4) w ((3, vS, vals (natInts xs)) :: (22, .slice a4 k c4, rs.map (·.1)) :: (23, .slice a5 k c5, ys.map (·.1)) :: (22, .slice a6 k c6, valsT es) :: ([] ++ (rowItems rs ++ sayItems ys))) ([] ++ (es ++ ys.flatMap (·.2)))) (hN : rs.map (·.2) = N) (hY : ys.map (fun p => wordsT p.2) = Y) (hE : wordsT es = E) (hl : ∀ p, p ∈ es ++ ys.flatMap (·.2) → p.2.2.length ≤ maxLen) :
    TnAt w ⟨I, O, S, [], N, Y, E⟩ none a4 a5 a6 ∧ TripAt w a6 es := by
  have m4 := ho.own.1 (22, .slice a4 k c4, rs.map (·.1)) (by simp)
  have m5 := ho.own.1 (23, .slice a5 k c5, ys.map (·.1)) (by simp)
  have m6 := ho.own.1 (22, .slice a6 k c6, valsT es) (by simp)
  have hlie : LieT w (es ++ ys.flatMap (·.2)) := fun p hp => ⟨ho.lie p (by simpa using hp), hl p hp⟩
  obtain ⟨b4, d4, e4, n4, z4⟩ := item_cells m4
  obtain ⟨b5, d5, e5, n5, z5⟩ := item_cells m5
  obtain ⟨b6, d6, e6, t6, n6⟩ := item_trip m6
  simp only [Value.slice.injEq] at e4 e5 e6
  obtain ⟨rfl, _, rfl⟩ := e4
  obtain ⟨rfl, _, rfl⟩ := e5
  obtain ⟨rfl, _, rfl⟩ := e6
  simp only [List.length_map] at n4 n5
  subst hN hY hE
  refine ⟨⟨.inl rfl, ?_, ?_, ?_, by simp [maxLen], by simpa using n4, by simpa using n5, by simpa [wordsT] using n6⟩, t6⟩
  · rcases z4 with z4 | ⟨g, rfl, hc⟩
    · left; simpa using z4
    · refine .inr ⟨g, 0, rfl, fun i hi => ?_⟩
      have hi' : i < rs.length := by simpa using hi
      have mi := ho.own.1 (3, rs[i].1, vals rs[i].2) (by
        simp only [List.nil_append, List.mem_cons, List.mem_append]
        refine .inr (.inr (.inr (.inr (.inl ?_))))
        exact List.mem_map.2 ⟨rs[i], List.getElem_mem hi', rfl⟩)
      obtain ⟨ai, ci, ei, ii, mm⟩ := item_ints mi
      have eg : (rs.map (·.2)).getD i [] = rs[i].2 := by simp [List.getD, hi']
      rw [Nat.zero_add, eg]
      refine ⟨ai, ci, ?_, ii, mm⟩
      rw [← ei]
      exact hc i _ (by simp [hi'])
  · rcases z5 with z5 | ⟨g, rfl, hc⟩
    · left; simpa using z5
    · refine .inr ⟨g, 0, rfl, fun i hi => ?_⟩
      have hi' : i < ys.length := by simpa using hi
      have mi := ho.own.1 (22, ys[i].1, valsT ys[i].2) (by
        simp only [List.nil_append, List.mem_cons, List.mem_append]
        refine .inr (.inr (.inr (.inr (.inr ?_))))
        exact List.mem_map.2 ⟨ys[i], List.getElem_mem hi', rfl⟩)
      obtain ⟨ai, ci, ei, ti, mm⟩ := item_trip mi
      have eg : (ys.map (fun p => wordsT p.2)).getD i [] = wordsT ys[i].2 := by simp [List.getD, hi']
      rw [Nat.zero_add, eg, wordsT_len]
      refine ⟨ai, ci, ?_, ti.rows (fun p hp => hlie p ?_), mm⟩
      · rw [← ei]
        exact hc i _ (by simp [hi'])
      · exact List.mem_append.2 (.inr (List.mem_flatMap.2 ⟨ys[i], List.getElem_mem hi', hp⟩))
  · exact t6.rows (fun p hp => hlie p (List.mem_append.2 (.inl hp)))

end Go.Proofs.Ytkcbdfgbmaeodaa

namespace Go.Proofs.Ytkcbdfgbmaeodaa
open Go.RowKit
set_option linter.unusedVariables false

/-- What is said by a letter, and where it leads; what is said at the end. -/
def StpP (zs : List Int) (d : Nat) (W : World) (e : Ending) (w' : World) : Prop := ∃ a k, e = .returned (.tuple #[.slice a zs.length k, .int .i64 (d : Int)]) ∧ Ints w' a zs ∧ W.grownBy w' none ∧ ∀ y, a = some y → W.heap.size ≤ y.block
def LstP (B : Nat) (zs : List Int) (W : World) (e : Ending) (w' : World) : Prop := ∃ a k, e = .returned (.slice a zs.length k) ∧ Ints w' a zs ∧ W.grownBy w' none ∧ (zs ≠ [] → ∀ y, a = some y → y.block < B ∨ W.heap.size ≤ y.block) ∧ zs.length ≤ k
def SOf (gS k x : Nat) (W : World) : Prop := W.cell? ⟨gS, k, none⟩ = some (.int .i64 (x : Int))
theorem SOf.kept {gS k x : Nat} {W W' : World} (h : SOf gS k x W) (g : W.grownBy W' none) : SOf gS k x W' := g.cell h (by simp)

theorem make_intsT (w : World) (n : Nat) (hn : n ≤ 1000000) : (Instr.makeSlice 22 (.int .i64 (n : Int)) (.int .i64 (n : Int))).run Try.prog w = .ok (.slice (some ⟨w.heap.size, 0, none⟩) n n) (w.alloc (.cells (Array.replicate n (Value.int .i64 0)) 3)) := by
  obtain ⟨i0, hi, hz0, hz1, hz2⟩ := info_partsY Try.infoI64Y
  have hmk := run_make (P := Try.prog) w 22 3 i0 (.int .i64 0) Try.underlying22 hi hz0 .i64 .i64 (n : Int) (n : Int) (by omega) (by omega) (by rw [hz2]; omega) (by omega)
  have e : madeCells (Value.cells (.int .i64 0)) n = Array.replicate n (Value.int .i64 0) := by
    apply Array.ext'
    simpa [Value.cells] using toList_madeCells_one (.int .i64 0) n
  rw [hz1, Nat.mul_one, Int.toNat_natCast, e] at hmk
  exact hmk
theorem make_rowsT (w : World) (n : Nat) (hn : n ≤ 1000000) : (Instr.makeSlice 23 (.int .i64 (n : Int)) (.int .i64 (n : Int))).run Try.prog w = .ok (.slice (some ⟨w.heap.size, 0, none⟩) n n) (w.alloc (.cells (Array.replicate n (Value.slice none 0 0)) 22)) := by
  obtain ⟨i0, hi, hz0, hz1, hz2⟩ := info_partsY Try.infoSlY
  have hmk := run_make (P := Try.prog) w 23 22 i0 (.slice none 0 0) Try.underlying23 hi hz0 .i64 .i64 (n : Int) (n : Int) (by omega) (by omega) (by rw [hz2]; omega) (by omega)
  have e : madeCells (Value.cells (.slice none 0 0)) n = Array.replicate n (Value.slice none 0 0) := by
    apply Array.ext'
    simpa [Value.cells] using toList_madeCells_one (.slice none 0 0) n
  rw [hz1, Nat.mul_one, Int.toNat_natCast, e] at hmk
  exact hmk

/-- What has come out so far. -/
structure OutT (δ : Nat → Nat → Nat) (σ : Nat → Nat → List Int) (ε : Nat → List Int) (l x0 k : Nat) (rs : List (Value × List Int)) (ys : List (Value × List Trip)) (es : List Trip) : Prop where
  rR : rs.map (·.2) = partR id δ l x0 k
  rl : rs.length = k
  yl : ys.length = k
  el : es.length = k
  yW : ys.map (fun p => wordsT p.2) = partW δ l x0 (fun x => (List.range l).map (σ x)) k
  eW : wordsT es = partW δ l x0 ε k
  cap : ∀ p, p ∈ es → p.2.2.length ≤ p.2.1
def OutR (lo : Nat) (δ : Nat → Nat → Nat) (σ : Nat → Nat → List Int) (ε : Nat → List Int) (l x0 : Nat) (w : World) (v i : Value) (wr : World) : Prop :=
  ∃ (k : Nat) (xs : List Nat) (aS : Option Addr) (cS : Nat) (aN : Option Addr) (cN : Nat) (aY : Option Addr) (cY : Nat) (aE : Option Addr) (cE : Nat) (rs : List (Value × List Int)) (ys : List (Value × List Trip)) (es : List Trip), bfsL id δ l x0 k = xs ∧ v = .slice aS xs.length cS ∧ i = .int .i64 (k : Int) ∧ k ≤ xs.length ∧ (∀ j, j < k → j < (bfsL id δ l x0 j).length) ∧ OutT δ σ ε l x0 k rs ys es ∧
    OfT lo w.heap.size l wr (.slice aS xs.length cS) (.slice aN k cN) (.slice aY k cY) (.slice aE k cE) xs rs ys es [] [] ∧ w.grownBy wr none
theorem OutR.start {lo : Nat} {δ : Nat → Nat → Nat} {σ : Nat → Nat → List Int} {ε : Nat → List Int} {l x0 : Nat} {w W4 : World} {aS : Option Addr} (h : OfT lo w.heap.size l W4 (.slice aS 1 1) (.slice none 0 0) (.slice none 0 0) (.slice none 0 0) [x0] [] [] [] [] []) (g : w.grownBy W4 none) : OutR lo δ σ ε l x0 w (.slice aS 1 1) (.int .i64 0) W4 :=
  ⟨0, [x0], aS, 1, none, 0, none, 0, none, 0, [], [], [], rfl, rfl, rfl, by simp, fun j hj => by omega, ⟨by simp [partR], rfl, rfl, rfl, by simp [partW], by simp [partW, wordsT], fun p hp => by simp at hp⟩, h, g⟩
/-- Two new rows. -/
def TwoR (lo B l : Nat) (w : World) (vS vN vY vE : Value) (xs : List Nat) (rs : List (Value × List Int)) (ys : List (Value × List Trip)) (es : List Trip) (v13 v14 : Value) (wc : World) : Prop :=
  ∃ gr gy, v13 = .slice (some ⟨gr, 0, none⟩) l l ∧ v14 = .slice (some ⟨gy, 0, none⟩) l l ∧ OfT lo B l wc vS vN vY vE xs rs ys es [(3, .slice (some ⟨gr, 0, none⟩) l l, vals (List.replicate l 0)), (22, .slice (some ⟨gy, 0, none⟩) l l, valsT (List.replicate l (none, 0, [])))] [] ∧ w.grownBy wc none
section
variable {lo B l : Nat} {w wr : World} {vS vN vY vE : Value} {xs : List Nat} {rs : List (Value × List Int)} {ys : List (Value × List Trip)} {es : List Trip}
theorem zero_rows (l : Nat) : (Array.replicate l (Value.slice none 0 0)).toList = valsT (List.replicate l (none, 0, [])) := by simp [valsT, valT]
theorem zero_ints (l : Nat) : (Array.replicate l (Value.int .i64 0)).toList = vals (List.replicate l 0) := by simp [vals]
theorem TwoR.ab (h : OfT lo B l wr vS vN vY vE xs rs ys es [] []) (g : w.grownBy wr none) (hl : l ≤ 4) : TwoR lo B l w vS vN vY vE xs rs ys es (.slice (some ⟨wr.heap.size, 0, none⟩) l l) (.slice (some ⟨wr.heap.size + 1, 0, none⟩) l l) ((wr.alloc (.cells (Array.replicate l (Value.int .i64 0)) 3)).alloc (.cells (Array.replicate l (Value.slice none 0 0)) 22)).drew := by
  have h1 := h.made (arr := Array.replicate l (Value.int .i64 0)) (n := l) 3 (by simp) (by unfold maxLen; omega)
  have h2 := h1.made (arr := Array.replicate l (Value.slice none 0 0)) (n := l) 22 (by simp) (by unfold maxLen; omega)
  rw [zero_ints, zero_rows, World.size_alloc] at h2
  exact ⟨_, _, rfl, rfl, h2.swap.kept (grown_drew (grown_refl _ _)), grown_drew (grown_trans g (grown_trans (grown_alloc _ _) (grown_alloc _ _)))⟩
theorem TwoR.ba (h : OfT lo B l wr vS vN vY vE xs rs ys es [] []) (g : w.grownBy wr none) (hl : l ≤ 4) : TwoR lo B l w vS vN vY vE xs rs ys es (.slice (some ⟨wr.heap.size + 1, 0, none⟩) l l) (.slice (some ⟨wr.heap.size, 0, none⟩) l l) ((wr.alloc (.cells (Array.replicate l (Value.slice none 0 0)) 22)).alloc (.cells (Array.replicate l (Value.int .i64 0)) 3)).drew := by
  have h1 := h.made (arr := Array.replicate l (Value.slice none 0 0)) (n := l) 22 (by simp) (by unfold maxLen; omega)
  have h2 := h1.made (arr := Array.replicate l (Value.int .i64 0)) (n := l) 3 (by simp) (by unfold maxLen; omega)
  rw [zero_ints, zero_rows, World.size_alloc] at h2
  exact ⟨_, _, rfl, rfl, h2.kept (grown_drew (grown_refl _ _)), grown_drew (grown_trans g (grown_trans (grown_alloc _ _) (grown_alloc _ _)))⟩
end

/-- Where the first letters lead; what they say. -/
def nxR (δ : Nat → Nat → Nat) (l x a : Nat) (zs : List Nat) : List Int := (List.range l).map fun b => if b < a then ((ix id zs (δ x b) : Nat) : Int) else 0
structure InT (σ : Nat → Nat → List Int) (l x a : Nat) (ps : List Trip) : Prop where
  len : ps.length = l
  wds : wordsT ps = (List.range l).map fun b => if b < a then σ x b else []
def InR (lo : Nat) (δ : Nat → Nat → Nat) (σ : Nat → Nat → List Int) (l : Nat) (w : World) (vN vY vE : Value) (x : Nat) (xs : List Nat) (rs : List (Value × List Int)) (ys : List (Value × List Trip)) (es : List Trip) (gr gy : Nat) (v i : Value) (wq : World) : Prop :=
  ∃ (a : Nat) (zs : List Nat) (aS : Option Addr) (cS : Nat) (ps : List Trip), rowL id δ x a xs = zs ∧ v = .slice aS zs.length cS ∧ i = .int .i64 (a : Int) ∧ a ≤ l ∧ InT σ l x a ps ∧
    OfT lo w.heap.size l wq (.slice aS zs.length cS) vN vY vE zs rs ys es [(3, .slice (some ⟨gr, 0, none⟩) l l, vals (nxR δ l x a zs)), (22, .slice (some ⟨gy, 0, none⟩) l l, valsT ps)] ps ∧ w.grownBy wq none
theorem OfT.empties {lo B l : Nat} {w : World} {vS vN vY vE : Value} {xs : List Nat} {rs : List (Value × List Int)} {ys : List (Value × List Trip)} {es : List Trip} {more : List Item} {mps : List Trip} (h : OfT lo B l w vS vN vY vE xs rs ys es more []) (he : ∀ p, p ∈ mps → p.2.2 = []) : OfT lo B l w vS vN vY vE xs rs ys es more mps :=
  ⟨h.res, h.box, h.num, h.own.own, fun p hp => by
    rcases List.mem_append.1 hp with h1 | h1
    · exact .inl (he p h1)
    · exact h.own.lie p (by simpa using h1), fun p hp hn => by
    rcases List.mem_append.1 hp with h1 | h1
    · exact absurd (he p h1) hn
    · exact h.own.apt p (by simpa using h1) hn⟩
theorem InR.start {lo : Nat} {δ : Nat → Nat → Nat} {σ : Nat → Nat → List Int} {l : Nat} {w wc : World} {vN vY vE : Value} {x : Nat} {xs : List Nat} {rs : List (Value × List Int)} {ys : List (Value × List Trip)} {es : List Trip} {gr gy : Nat} {aS : Option Addr} {cS : Nat}
    (h : OfT lo w.heap.size l wc (.slice aS xs.length cS) vN vY vE xs rs ys es [(3, .slice (some ⟨gr, 0, none⟩) l l, vals (List.replicate l 0)), (22, .slice (some ⟨gy, 0, none⟩) l l, valsT (List.replicate l (none, 0, [])))] []) (g : w.grownBy wc none) : InR lo δ σ l w vN vY vE x xs rs ys es gr gy (.slice aS xs.length cS) (.int .i64 0) wc := by
  refine ⟨0, xs, aS, cS, List.replicate l (none, 0, []), rfl, rfl, rfl, Nat.zero_le _, ⟨by simp, ?_⟩, ?_, g⟩
  · unfold wordsT
    rw [List.map_replicate]
    exact (List.eq_replicate_iff.2 ⟨by simp, by simp⟩).symm
  · have e : nxR δ l x 0 xs = List.replicate l 0 := by unfold nxR; rw [List.eq_replicate_iff]; simp
    rw [e]
    exact h.empties (fun p hp => by rw [(List.mem_replicate.1 hp).2])
theorem InT.put {σ : Nat → Nat → List Int} {l x a : Nat} {ps : List Trip} {p : Trip} (h : InT σ l x a ps) (ha : a < l) (hp : p.2.2 = σ x a) : InT σ l x (a + 1) (ps.set a p) := by
  refine ⟨by simp [h.len], ?_⟩
  have e : wordsT (ps.set a p) = (wordsT ps).set a p.2.2 := by simp [wordsT, List.map_set]
  rw [e, h.wds, hp]
  apply List.ext_getElem (by simp)
  intro i h1 h2
  simp at h2
  rw [List.getElem_set]
  simp only [List.getElem_map, List.getElem_range]
  by_cases e2 : a = i
  · subst e2; simp
  · rw [if_neg e2]
    by_cases h3 : i < a
    · rw [if_pos h3, if_pos (by omega)]
    · rw [if_neg h3, if_neg (by omega)]
theorem nxR_put {δ : Nat → Nat → Nat} {l x a : Nat} {zs : List Nat} (ha : a < l) : (nxR δ l x a zs).set a ((ix id zs (δ x a) : Nat) : Int) = nxR δ l x (a + 1) zs := by
  unfold nxR
  apply List.ext_getElem (by simp)
  intro i h1 h2
  simp at h2
  rw [List.getElem_set]
  simp only [List.getElem_map, List.getElem_range]
  by_cases e : a = i
  · subst e; simp
  · rw [if_neg e]
    by_cases h3 : i < a
    · rw [if_pos h3, if_pos (by omega)]
    · rw [if_neg h3, if_neg (by omega)]

section
variable {lo : Nat} {δ : Nat → Nat → Nat} {σ : Nat → Nat → List Int} {ε : Nat → List Int} {l x x0 a k : Nat} {w w6 : World} {vS vN vY vE : Value} {xs zs : List Nat} {rs : List (Value × List Int)} {ys : List (Value × List Trip)} {es ps : List Trip} {gr gy : Nat}
/-- Both rows are written into. -/
theorem two_put {av : Option Addr} {ks : Nat} {us : List Int} {W : World} (A : OfT lo w.heap.size l W vS vN vY vE zs rs ys es [(3, .slice (some ⟨gr, 0, none⟩) l l, vals (nxR δ l x a zs)), (22, .slice (some ⟨gy, 0, none⟩) l l, valsT ps)] ((av, ks, us) :: ps)) (G : w.grownBy W none) (hI : InT σ l x a ps) (hU : σ x a = us) (hal : a < l) :
    ((∃ u, W.cell? ⟨gr, a, none⟩ = some u) ∧ W.frozen? ⟨gr, a, none⟩ = false) ∧ ((∃ u, (W.setCell ⟨gr, a, none⟩ (.int .i64 ((ix id zs (δ x a) : Nat) : Int))).cell? ⟨gy, a, none⟩ = some u) ∧ (W.setCell ⟨gr, a, none⟩ (.int .i64 ((ix id zs (δ x a) : Nat) : Int))).frozen? ⟨gy, a, none⟩ = false) ∧
    (InT σ l x (a + 1) (ps.set a (av, ks, us)) ∧ OfT lo w.heap.size l ((W.setCell ⟨gr, a, none⟩ (.int .i64 ((ix id zs (δ x a) : Nat) : Int))).setCell ⟨gy, a, none⟩ (.slice av us.length ks)) vS vN vY vE zs rs ys es [(3, .slice (some ⟨gr, 0, none⟩) l l, vals (nxR δ l x (a + 1) zs)), (22, .slice (some ⟨gy, 0, none⟩) l l, valsT (ps.set a (av, ks, us)))] (ps.set a (av, ks, us))) ∧
    w.grownBy ((W.setCell ⟨gr, a, none⟩ (.int .i64 ((ix id zs (δ x a) : Nat) : Int))).setCell ⟨gy, a, none⟩ (.slice av us.length ks)) none := by
  obtain ⟨⟨u, hu, _⟩, hfz, A7, hB⟩ := A.write hal (.int .i64 ((ix id zs (δ x a) : Nat) : Int))
  obtain ⟨⟨u2, hu2, _⟩, hfz2, A8, hB2⟩ := A7.swap.write hal (.slice av us.length ks)
  refine ⟨⟨⟨u, hu⟩, hfz⟩, ⟨⟨u2, hu2⟩, hfz2⟩, ⟨hI.put hal hU.symm, ?_⟩, ?_⟩
  · have e1 : (vals (nxR δ l x a zs)).set a (.int .i64 ((ix id zs (δ x a) : Nat) : Int)) = vals (nxR δ l x (a + 1) zs) := by rw [vals_set, nxR_put hal]
    have e2 : (valsT ps).set a (.slice av us.length ks) = valsT (ps.set a (av, ks, us)) := by simp [valsT, List.map_set, valT]
    have h3 := A8.swap
    rw [e1, e2] at h3
    exact h3.sub (fun p hp => by
      rcases List.mem_or_eq_of_mem_set hp with h4 | h4
      · exact List.mem_cons_of_mem _ h4
      · rw [h4]; exact List.mem_cons_self)
  · exact grown_new (grown_new G (grown_set _ _ _) (by simp only; omega)) (grown_set _ _ _) (by simp only; omega)
theorem in_old {av : Option Addr} {ks : Nat} {us : List Int} (A : OfT lo w.heap.size l w6 vS vN vY vE zs rs ys es [(3, .slice (some ⟨gr, 0, none⟩) l l, vals (nxR δ l x a zs)), (22, .slice (some ⟨gy, 0, none⟩) l l, valsT ps)] ((av, ks, us) :: ps)) (G : w.grownBy w6 none) (hy : rowL id δ x a xs = zs) (hI : InT σ l x a ps) (hU : σ x a = us) (hm : δ x a ∈ zs) (hal : a < l) :
    ((∃ u, w6.cell? ⟨gr, a, none⟩ = some u) ∧ w6.frozen? ⟨gr, a, none⟩ = false) ∧ ((∃ u, (w6.setCell ⟨gr, a, none⟩ (.int .i64 ((ix id zs (δ x a) : Nat) : Int))).cell? ⟨gy, a, none⟩ = some u) ∧ (w6.setCell ⟨gr, a, none⟩ (.int .i64 ((ix id zs (δ x a) : Nat) : Int))).frozen? ⟨gy, a, none⟩ = false) ∧
    (InT σ l x (a + 1) (ps.set a (av, ks, us)) ∧ OfT lo w.heap.size l ((w6.setCell ⟨gr, a, none⟩ (.int .i64 ((ix id zs (δ x a) : Nat) : Int))).setCell ⟨gy, a, none⟩ (.slice av us.length ks)) vS vN vY vE zs rs ys es [(3, .slice (some ⟨gr, 0, none⟩) l l, vals (nxR δ l x (a + 1) zs)), (22, .slice (some ⟨gy, 0, none⟩) l l, valsT (ps.set a (av, ks, us)))] (ps.set a (av, ks, us))) ∧
    w.grownBy ((w6.setCell ⟨gr, a, none⟩ (.int .i64 ((ix id zs (δ x a) : Nat) : Int))).setCell ⟨gy, a, none⟩ (.slice av us.length ks)) none ∧ rowL id δ x (a + 1) xs = zs := by
  obtain ⟨h1, h2, h3, h4⟩ := two_put A G hI hU hal
  refine ⟨h1, h2, h3, h4, ?_⟩
  simp only [rowL]
  rw [hy]
  exact ins_old ⟨_, hm, rfl⟩
theorem in_new {av : Option Addr} {ks : Nat} {us : List Int} {W7 : World} (A : OfT lo w.heap.size l w6 vS vN vY vE zs rs ys es [(3, .slice (some ⟨gr, 0, none⟩) l l, vals (nxR δ l x a zs)), (22, .slice (some ⟨gy, 0, none⟩) l l, valsT ps)] ((av, ks, us) :: ps)) (G : w.grownBy w6 none) (hy : rowL id δ x a xs = zs) (hI : InT σ l x a ps) (hU : σ x a = us) (hm : ¬ δ x a ∈ zs) (hal : a < l) (hb : zs.length ≤ 3000) (hN7 : NumAt W7 (w.heap.size + 3) (zs ++ [δ x a])) (hg7 : w6.grownBy W7 (some (w.heap.size + 3))) :
    ∃ g cap W8, (AppY #[22, 22] 22 #[vS, .slice (some ⟨W7.heap.size, 0, none⟩) 1 1]).run Try.prog (W7.alloc (.cells #[.int .i64 ((δ x a : Nat) : Int)] 3)) = .ok (.slice (some ⟨g, 0, none⟩) (zs.length + 1) cap) W8 ∧
    ((∃ u, W8.cell? ⟨gr, a, none⟩ = some u) ∧ W8.frozen? ⟨gr, a, none⟩ = false) ∧ ((∃ u, (W8.setCell ⟨gr, a, none⟩ (.int .i64 (zs.length : Int))).cell? ⟨gy, a, none⟩ = some u) ∧ (W8.setCell ⟨gr, a, none⟩ (.int .i64 (zs.length : Int))).frozen? ⟨gy, a, none⟩ = false) ∧
    (InT σ l x (a + 1) (ps.set a (av, ks, us)) ∧ OfT lo w.heap.size l ((W8.setCell ⟨gr, a, none⟩ (.int .i64 (zs.length : Int))).setCell ⟨gy, a, none⟩ (.slice av us.length ks)) (.slice (some ⟨g, 0, none⟩) (zs.length + 1) cap) vN vY vE (zs ++ [δ x a]) rs ys es [(3, .slice (some ⟨gr, 0, none⟩) l l, vals (nxR δ l x (a + 1) (zs ++ [δ x a]))), (22, .slice (some ⟨gy, 0, none⟩) l l, valsT (ps.set a (av, ks, us)))] (ps.set a (av, ks, us))) ∧
    w.grownBy ((W8.setCell ⟨gr, a, none⟩ (.int .i64 (zs.length : Int))).setCell ⟨gy, a, none⟩ (.slice av us.length ks)) none ∧ rowL id δ x (a + 1) xs = zs ++ [δ x a] := by
  obtain ⟨g, cap, W8, hr, A8, G8⟩ := A.appS hN7 hg7 hb rfl G
  have hk : ¬ hasK id zs (δ x a) := fun ⟨r, hr, e⟩ => hm (by have e2 : r = δ x a := e; rw [← e2]; exact hr)
  have e1 : nxR δ l x a zs = nxR δ l x a (zs ++ [δ x a]) := by
    unfold nxR
    refine List.map_congr_left fun b _ => ?_
    by_cases hb' : b < a
    · rw [if_pos hb', if_pos hb', ix_append (hy ▸ rowL_has id δ x xs hb')]
    · rw [if_neg hb', if_neg hb']
  rw [e1] at A8
  obtain ⟨h1, h2, h3, h4⟩ := two_put A8 G8 hI hU hal
  rw [ix_last hk] at h2 h3 h4
  refine ⟨g, cap, W8, hr, h1, h2, h3, h4, ?_⟩
  simp only [rowL]
  rw [hy]
  exact ins_new hk
/-- A round ends. -/
theorem end_round {W11 : World} {gS cS g1 c1 g2 c2 : Nat} {aE : Option Addr} {cE : Nat} (A : OfT lo w.heap.size l W11 (.slice (some ⟨gS, 0, none⟩) zs.length cS) (.slice (some ⟨g1, 0, none⟩) (k + 1) c1) (.slice (some ⟨g2, 0, none⟩) (k + 1) c2) (.slice aE k cE) zs (rs ++ [(.slice (some ⟨gr, 0, none⟩) l l, nxR δ l x a zs)]) (ys ++ [(.slice (some ⟨gy, 0, none⟩) l l, ps)]) es [] []) (G : w.grownBy W11 none)
    (hO : OutT δ σ ε l x0 k rs ys es) (hI : InT σ l x a ps) (hx : bfsL id δ l x0 k = xs) (hX : xs.getD k 0 = x) (hy : bfsL id δ l x0 (k + 1) = zs) (hgo : ∀ j, j < k → j < (bfsL id δ l x0 j).length) (hal : a = l) (hlt : k < xs.length) (hkb : k ≤ 1000) (hky : k < zs.length) (hgx : zs.getD k 0 = x) :
    Hid (∀ w12 a12 k12, W11.drew.grownBy w12 none → Ints w12 a12 (ε x) → (ε x ≠ [] → ∀ y, a12 = some y → y.block < min lo w.heap.size ∨ W11.drew.heap.size ≤ y.block) → (ε x).length ≤ k12 → w12.cell? ⟨w.heap.size + 1, 6, none⟩ = some (.slice aE k cE) ∧ ∃ g4 c4 w13, (AppY #[23, 23] 23 #[.slice aE k cE, .slice (some ⟨w12.heap.size, 0, none⟩) 1 1]).run Try.prog (w12.alloc (.cells #[.slice a12 (ε x).length k12] 22)) = .ok (.slice (some ⟨g4, 0, none⟩) (k + 1) c4) w13 ∧
      w13.cell? ⟨w.heap.size + 1, 6, none⟩ = some (.slice aE k cE) ∧ w13.frozen? ⟨w.heap.size + 1, 6, none⟩ = false ∧ Hid (SOf gS k x w13) ∧ Hid (SOf gS k x (w13.setCell ⟨w.heap.size + 1, 6, none⟩ (.slice (some ⟨g4, 0, none⟩) (k + 1) c4))) ∧ Hid (OutR lo δ σ ε l x0 w (.slice (some ⟨gS, 0, none⟩) zs.length cS) (.int .i64 ((k : Int) + 1)) (w13.setCell ⟨w.heap.size + 1, 6, none⟩ (.slice (some ⟨g4, 0, none⟩) (k + 1) c4)))) := by
  intro w12 a12 k12 hg hi hn hc
  have A12 := (A.kept (grown_drew (grown_refl W11 none))).word hg hi hn k12
  have hkn : k ≤ es.length := by rw [hO.el]; exact Nat.le_refl _
  have G12 : w.grownBy w12 none := grown_trans (grown_drew G) hg
  have hE := hO.el
  have hbig : es.length ≤ 1000 := by omega
  · obtain ⟨g4, c4, w13, hr, ⟨hc13, hf13⟩, A13, G13⟩ := A12.appE hbig rfl G12
    rw [hE] at hr A13 G13
    have hS9 : SOf gS k x (w13.setCell ⟨w.heap.size + 1, 6, none⟩ (.slice (some ⟨g4, 0, none⟩) (k + 1) c4)) := by
      obtain ⟨gS', cS', eS, hcS⟩ := A13.state hky
      simp only [Value.slice.injEq, Option.some.injEq, Addr.mk.injEq] at eS
      obtain ⟨⟨rfl, _⟩, _⟩ := eS
      rw [hgx] at hcS
      exact hcS
    have hgS : w.heap.size + 2 ≤ gS := ((A13.own.own.1 _ (List.mem_cons_self)).1.lt gS rfl).1
    have hS8 : SOf gS k x w13 := by
      unfold SOf at hS9 ⊢
      have hne : (⟨w.heap.size + 1, 6, none⟩ : Addr) ≠ ⟨gS, k, none⟩ := by intro e; have := congrArg Addr.block e; simp at this; omega
      have e9 := (grown_set w13 ⟨w.heap.size + 1, 6, none⟩ (.slice (some ⟨g4, 0, none⟩) (k + 1) c4)).block gS
      have hlt9 : gS < w13.heap.size := by have := ((A13.own.own.1 _ (List.mem_cons_self)).1.lt gS rfl).2; simpa using this
      have e10 := e9 hlt9 (by simp; omega)
      rw [World.cell?] at hS9 ⊢
      simpa [e10] using hS9
    refine ⟨A12.cells.2.2.2.2.2.2.1, g4, c4, w13, hr, hc13, hf13, hS8, hS9, ?_⟩
    have hgo2 : ∀ j, j < k + 1 → j < (bfsL id δ l x0 j).length := fun j hj => by
      by_cases e : j = k
      · subst e; rw [hx]; exact hlt
      · exact hgo j (by omega)
    refine ⟨k + 1, zs, some ⟨gS, 0, none⟩, cS, some ⟨g1, 0, none⟩, c1, some ⟨g2, 0, none⟩, c2, some ⟨g4, 0, none⟩, c4, _, _, _, hy, rfl, by simp, by omega, hgo2, ?_, A13, G13⟩
    have hxk : (bfsL id δ l x0 k).getD k 0 = x := by rw [hx]; exact hX
    refine ⟨?_, by simp [hO.rl], by simp [hO.yl], by simp [hO.el], ?_, ?_, fun p hp => ?_⟩
    · rw [partR_step (fun j hj => hgo2 j (by omega)), List.map_append, hO.rR, hy, hxk]
      refine congrArg _ ?_
      show [nxR δ l x a zs] = _
      have : nxR δ l x a zs = rowR id δ l zs x := by
        unfold nxR rowR
        refine List.map_congr_left fun b hb => ?_
        rw [if_pos (by have := List.mem_range.1 hb; omega)]
      rw [this]
    · rw [partW_step _ (hgo2 k (by omega)), List.map_append, hO.yW, hxk]
      refine congrArg _ ?_
      show [wordsT ps] = _
      have : wordsT ps = (List.range l).map (σ x) := by
        rw [hI.wds]
        refine List.map_congr_left fun b hb => ?_
        rw [if_pos (by have := List.mem_range.1 hb; omega)]
      rw [this]
    · rw [partW_step _ (hgo2 k (by omega)), hxk, ← hO.eW]
      simp [wordsT]
    · rcases List.mem_append.1 hp with h1 | h1
      · exact hO.cap p h1
      · rw [List.mem_singleton.1 h1]; exact hc
/-- All is done. -/
theorem end_all {wr W9 : World} {aS : Option Addr} {cS n : Nat} {aN aY aE : Option Addr} {cN cY cE : Nat} (A : OfT lo w.heap.size l wr (.slice aS xs.length cS) (.slice aN k cN) (.slice aY k cY) (.slice aE k cE) xs rs ys es [] []) (G : w.grownBy wr none) (hO : OutT δ σ ε l x0 k rs ys es) (hEnd : IsEnd (bfsL id δ l x0) k) (hx : bfsL id δ l x0 k = xs) (hkn : k ≤ n)
    (hσ : ∀ s a, s < n → a < l → (σ s a).length ≤ 1000) (hε : ∀ s, s < n → (ε s).length ≤ 1000) (hlt : ∀ y, y ∈ bfsL id δ l x0 k → y < n) (g9 : wr.grownBy W9 (some w.heap.size)) : OfTP lo l x0 n δ σ ε w (.returned (tnV (l : Int) 0 0 none 0 0 aN k cN aY k cY aE k cE)) W9 := by
  have hb := A.own.below g9 (by omega) (by omega) (by omega)
  have eN : rs.map (·.2) = resR id δ l (bfsL id δ l x0 k) := by rw [hO.rR, partR_end hEnd]
  have eY : ys.map (fun p => wordsT p.2) = (bfsL id δ l x0 k).map fun x => (List.range l).map (σ x) := by rw [hO.yW, partW_end _ hEnd]
  have eE : wordsT es = (bfsL id δ l x0 k).map ε := by rw [hO.eW, partW_end _ hEnd]
  have hw : ∀ p, p ∈ es ++ ys.flatMap (·.2) → p.2.2.length ≤ maxLen := (fun p hp => by
    have : p.2.2.length ≤ 1000 := by
      rcases List.mem_append.1 hp with h3 | h3
      · have h4 : p.2.2 ∈ wordsT es := List.mem_map.2 ⟨p, h3, rfl⟩
        rw [eE] at h4
        obtain ⟨y, hy, e⟩ := List.mem_map.1 h4
        rw [← e]
        exact hε y (hlt y hy)
      · obtain ⟨q, hq, hpq⟩ := List.mem_flatMap.1 h3
        have h4 : wordsT q.2 ∈ ys.map (fun p => wordsT p.2) := List.mem_map.2 ⟨q, hq, rfl⟩
        rw [eY] at h4
        obtain ⟨y, hy, e⟩ := List.mem_map.1 h4
        have h5 : p.2.2 ∈ wordsT q.2 := List.mem_map.2 ⟨p, hpq, rfl⟩
        rw [← e] at h5
        obtain ⟨a, ha, e2⟩ := List.mem_map.1 h5
        rw [← e2]
        exact hσ y a (hlt y hy) (List.mem_range.1 ha)
    unfold maxLen; omega)
  obtain ⟨h1, h2⟩ := ownsP_out (l : Int) 0 0 hb eN eY eE hw
  exact ⟨k, aN, aY, aE, cN, cY, cE, es, hEnd, hkn, rfl, h1, grown_new G g9 (Nat.le_refl _), h2, eE, hO.cap, _, hb, fun W h => ownsP_out (l : Int) 0 0 h eN eY eE hw, fun W W' b h h3 h4 h5 => h.below h5 (by omega) (by omega) (by omega), fun W W' h g => h.kept g⟩
end

end Go.Proofs.Ytkcbdfgbmaeodaa
