/- The words for 'of': a transducer under way, its states numbered by a map. -/
import Derived.Test.YtodcmlcpicabaaaBas
import Derived.Test.YtodcmlcpicabaaaLBf
import Derived.Test.YtodcmlcpicabaaaTlWithin
namespace Go.Proofs.Ytodcmlcpicabaaa
open Go.RowKit
set_option linter.unusedVariables false

/-! What comes out, without the program. -/
/-- What states ahead of the i-th say. -/
def partW {α : Type} (δ : Nat → Nat → Nat) (l x0 : Nat) (f : Nat → α) (i : Nat) : List α := ((bfsL id δ l x0 i).take i).map f
theorem partW_step {α : Type} {δ : Nat → Nat → Nat} {l x0 i : Nat} (f : Nat → α) (hi : i < (bfsL id δ l x0 i).length) : partW δ l x0 f (i + 1) = partW δ l x0 f i ++ [f ((bfsL id δ l x0 i).getD i 0)] := by
  obtain ⟨zs, e⟩ := bfsL_more id δ l x0 i
  unfold partW
  rw [List.take_add_one, List.map_append]
  congr 1
  · rw [e, List.take_append_of_le_length (by omega)]
  · have : (bfsL id δ l x0 (i + 1))[i]? = some ((bfsL id δ l x0 i).getD i 0) := by
      rw [e, List.getElem?_append_left hi]; simp [List.getD, hi]
    rw [this]; rfl
theorem partW_end {α : Type} {δ : Nat → Nat → Nat} {l x0 k : Nat} (f : Nat → α) (h : IsEnd (bfsL id δ l x0) k) : partW δ l x0 f k = (bfsL id δ l x0 k).map f := by
  unfold partW
  rw [List.take_of_length_le (by rw [h.len]; exact Nat.le_refl _)]
/-- Rows, what is said by letters, what is said at the end. -/
def ofX (l : Nat) (δ : Nat → Nat → Nat) (σ : Nat → Nat → List Int) (ε : Nat → List Int) (xs : List Nat) : TrI :=
  ⟨(l : Int), 0, 0, [], resR id δ l xs, xs.map fun x => (List.range l).map (σ x), xs.map ε⟩

/-! In memory. -/
abbrev sayItems (ys : List (Value × List Trip)) : List Item := ys.map fun p => (22, p.1, valsT p.2)
abbrev zer7 : Array Value := #[.int .i64 0, .int .i64 0, .int .i64 0, .slice none 0 0, .slice none 0 0, .slice none 0 0, .slice none 0 0]
/-- A transducer under way: the states xs, rows rs, what is said ys, es; what is written just now. -/
structure OfT (lo B l : Nat) (w : World) (vS vN vY vE : Value) (xs : List Nat) (rs : List (Value × List Int)) (ys : List (Value × List Trip)) (es : List Trip) (more : List Item) (mps : List Trip) : Prop where
  res : w.heap[B]? = some (.cells zer7 26 (0, 0))
  box : w.heap[B + 1]? = some (.cells #[.int .i64 (l : Int), .int .i64 0, .int .i64 0, .slice none 0 0, vN, vY, vE] 26 (0, 0))
  num : NumAt w (B + 3) xs
  own : OwnsP (B + 2) (min lo B) (B + 4) w ((3, vS, vals (natInts xs)) :: (22, vN, rs.map (·.1)) :: (23, vY, ys.map (·.1)) :: (22, vE, valsT es) :: (more ++ (rowItems rs ++ sayItems ys))) (mps ++ (es ++ ys.flatMap (·.2)))

section
variable {lo B l : Nat} {w w' : World} {vS vN vY vE : Value} {xs : List Nat} {rs : List (Value × List Int)} {ys : List (Value × List Trip)} {es : List Trip} {more : List Item} {mps : List Trip}
theorem OfT.kept (h : OfT lo B l w vS vN vY vE xs rs ys es more mps) (hg : w.grownBy w' none) : OfT lo B l w' vS vN vY vE xs rs ys es more mps :=
  ⟨(hg.block _ (Array.getElem?_eq_some_iff.1 h.res).1 (by simp)).trans h.res, (hg.block _ (Array.getElem?_eq_some_iff.1 h.box).1 (by simp)).trans h.box, h.num.kept hg (by simp), h.own.kept hg⟩
theorem OfT.lt (h : OfT lo B l w vS vN vY vE xs rs ys es more mps) : B + 3 < w.heap.size := h.num.block.1
theorem OfT.cells (h : OfT lo B l w vS vN vY vE xs rs ys es more mps) : w.cell? ⟨B + 1, 0, none⟩ = some (.int .i64 (l : Int)) ∧ w.cell? ⟨B + 1, 1, none⟩ = some (.int .i64 0) ∧ w.cell? ⟨B + 1, 2, none⟩ = some (.int .i64 0) ∧ w.cell? ⟨B + 1, 3, none⟩ = some (.slice none 0 0) ∧ w.cell? ⟨B + 1, 4, none⟩ = some vN ∧ w.cell? ⟨B + 1, 5, none⟩ = some vY ∧ w.cell? ⟨B + 1, 6, none⟩ = some vE ∧ ∀ k, w.frozen? ⟨B + 1, k, none⟩ = false := by
  have hc : ∀ k v, #[Value.int .i64 (l : Int), .int .i64 0, .int .i64 0, .slice none 0 0, vN, vY, vE][k]? = some v → w.cell? ⟨B + 1, k, none⟩ = some v := fun k v hv => by rw [cell_of_row _ _ k _ _ (0, 0) h.box]; exact hv
  exact ⟨hc 0 _ rfl, hc 1 _ rfl, hc 2 _ rfl, hc 3 _ rfl, hc 4 _ rfl, hc 5 _ rfl, hc 6 _ rfl, fun k => frozen_of_row _ _ k _ _ h.box⟩
/-- A state that is there. -/
theorem OfT.state (h : OfT lo B l w vS vN vY vE xs rs ys es more mps) {i : Nat} (hi : i < xs.length) : ∃ g cap, vS = .slice (some ⟨g, 0, none⟩) xs.length cap ∧ w.cell? ⟨g, i, none⟩ = some (.int .i64 ((xs.getD i 0 : Nat) : Int)) := by
  obtain ⟨g, cap, e, _⟩ := h.own.own.form (by simp; omega)
  simp at e
  subst e
  exact ⟨g, cap, rfl, h.own.own.cell (natInts_get hi)⟩
theorem OfT.sub {mps' : List Trip} (h : OfT lo B l w vS vN vY vE xs rs ys es more mps) (hs : ∀ p, p ∈ mps' → p ∈ mps) : OfT lo B l w vS vN vY vE xs rs ys es more mps' :=
  ⟨h.res, h.box, h.num, h.own.sub (fun p hp => by
    rcases List.mem_append.1 hp with h1 | h1
    · exact List.mem_append.2 (.inl (hs p h1))
    · exact List.mem_append.2 (.inr h1))⟩
theorem OfT.swap {a b : Item} (h : OfT lo B l w vS vN vY vE xs rs ys es [a, b] mps) : OfT lo B l w vS vN vY vE xs rs ys es [b, a] mps :=
  ⟨h.res, h.box, h.num, h.own.perm (((((List.Perm.swap b a _).cons _).cons _).cons _).cons _)⟩
/-- A row is made. -/
theorem OfT.made {arr : Array Value} {n : Nat} (h : OfT lo B l w vS vN vY vE xs rs ys es more mps) (e : TypeId) (hn : arr.size = n) (hm : n ≤ maxLen) : OfT lo B l (w.alloc (.cells arr e)) vS vN vY vE xs rs ys es ((e, .slice (some ⟨w.heap.size, 0, none⟩) n n, arr.toList) :: more) mps := by
  have h1 := h.kept (grown_alloc w (.cells arr e))
  refine ⟨h1.res, h1.box, h1.num, ?_⟩
  have h2 := h.own.made (by have := h.lt; omega) e hn hm
  exact h2.perm (List.perm_middle (l₁ := [_, _, _, _])).symm
/-- A word is told. -/
theorem OfT.word {a : Option Addr} {zs : List Int} (h : OfT lo B l w vS vN vY vE xs rs ys es more mps) (g : w.grownBy w' none) (hz : Ints w' a zs) (hnew : zs ≠ [] → ∀ y, a = some y → y.block < min lo B ∨ w.heap.size ≤ y.block) (c : Nat) : OfT lo B l w' vS vN vY vE xs rs ys es more ((a, c, zs) :: mps) := by
  have h1 := h.kept g
  exact ⟨h1.res, h1.box, h1.num, h.own.word (by omega) (by have := h.lt; omega) g hz hnew c⟩
/-- The first row under way comes first. -/
theorem OfT.cur {it : Item} (h : OfT lo B l w vS vN vY vE xs rs ys es (it :: more) mps) : OwnsP (B + 2) (min lo B) (B + 4) w (it :: (3, vS, vals (natInts xs)) :: (22, vN, rs.map (·.1)) :: (23, vY, ys.map (·.1)) :: (22, vE, valsT es) :: (more ++ (rowItems rs ++ sayItems ys))) (mps ++ (es ++ ys.flatMap (·.2))) :=
  h.own.perm (List.perm_middle (l₁ := [_, _, _, _]))
/-- It is written into. -/
theorem OfT.write {g a n : Nat} {e : TypeId} {zs : List Value} (h : OfT lo B l w vS vN vY vE xs rs ys es ((e, .slice (some ⟨g, 0, none⟩) n n, zs) :: more) mps) (ha : a < n) (u : Value) :
    (∃ u0, w.cell? ⟨g, a, none⟩ = some u0 ∧ zs[a]? = some u0) ∧ w.frozen? ⟨g, a, none⟩ = false ∧ OfT lo B l (w.setCell ⟨g, a, none⟩ u) vS vN vY vE xs rs ys es ((e, .slice (some ⟨g, 0, none⟩) n n, zs.set a u) :: more) mps ∧ B + 2 ≤ g := by
  have hc := h.cur
  have hlen := hc.own.len
  obtain ⟨g', cap, e1, hB, hlt, hfz⟩ := hc.own.form (by omega)
  have e2 : g = g' := by simp only [Value.slice.injEq, Option.some.injEq, Addr.mk.injEq] at e1; exact e1.1.1
  subst e2
  have ha' : a < zs.length := by omega
  refine ⟨⟨zs[a], hc.own.cell (List.getElem?_eq_getElem ha'), List.getElem?_eq_getElem ha'⟩, hfz a, ?_, hB⟩
  obtain ⟨hb, o, ho, hne⟩ := h.num.block
  have hg := grown_set w ⟨g, a, none⟩ u
  have hgn : g ≠ B + 3 := fun e3 => by
    have := hc.own.other (b := B + 3) ho hne _ (List.mem_cons_self)
    exact this (by rw [e3]; rfl)
  refine ⟨(hg.block _ (Array.getElem?_eq_some_iff.1 h.res).1 (by simp; omega)).trans h.res, (hg.block _ (Array.getElem?_eq_some_iff.1 h.box).1 (by simp; omega)).trans h.box, h.num.kept hg (by simpa using hgn), ?_⟩
  exact (hc.set ha u).perm (List.perm_middle (l₁ := [_, _, _, _])).symm
/-- The map has turned: a new state has its number. -/
theorem OfT.numbered {y : Nat} (h : OfT lo B l w vS vN vY vE xs rs ys es more mps) (hn : NumAt w' (B + 3) (xs ++ [y])) (hg : w.grownBy w' (some (B + 3))) :
    w'.heap[B]? = some (.cells zer7 26 (0, 0)) ∧ w'.heap[B + 1]? = some (.cells #[.int .i64 (l : Int), .int .i64 0, .int .i64 0, .slice none 0 0, vN, vY, vE] 26 (0, 0)) ∧
    OwnsP (B + 2) (min lo B) (B + 4) w' ((3, vS, vals (natInts xs)) :: (22, vN, rs.map (·.1)) :: (23, vY, ys.map (·.1)) :: (22, vE, valsT es) :: (more ++ (rowItems rs ++ sayItems ys))) (mps ++ (es ++ ys.flatMap (·.2))) := by
  obtain ⟨_, o, ho, hne⟩ := h.num.block
  exact ⟨(hg.block _ (Array.getElem?_eq_some_iff.1 h.res).1 (by simp)).trans h.res, (hg.block _ (Array.getElem?_eq_some_iff.1 h.box).1 (by simp)).trans h.box, h.own.far hg (h.own.own.other ho hne) (by omega) (by omega)⟩
end

theorem one_new (w : World) (u : Value) (t : TypeId) : ∀ j x, [u][j]? = some x → (w.alloc (.cells #[u] t)).cell? ((⟨w.heap.size, 0, none⟩ : Addr).add j) = some x := cell_one_new w u t
theorem Try.infoTT : (Try.prog.info? 23).map (fun i => (i.zero, i.size, i.bytes)) = some (some (.slice none 0 0), 1, 24) := by kernel_rfl

/-- A row of one's own grows by one, and the box of the transducer is told where it is. -/
theorem grow_box {lo B : Nat} {w w' : World} {arr : Array Value} {xs : List Nat} {e : TypeId} {v u : Value} {c : List Value} {r : List Item} {ps : List Trip} {g n cap H : Nat} (hres : w.heap[B]? = some (.cells zer7 26 (0, 0))) (hbox : w.heap[B + 1]? = some (.cells arr 26 (0, 0))) (hnum : NumAt w (B + 3) xs) (hp : OwnsP (B + 2) (min lo B) (B + 4) w ((e, v, c) :: r) ps)
    (ho : w'.ownsRow (B + 2) e 1 (.slice (some ⟨g, 0, none⟩) n cap) n (c ++ [u])) (hn : n = c.length + 1) (hg : w.grownBy w' v.ownBlock) (hat : v.ownBlock = some g ∨ g = H) (hH : w.heap.size = H) (k : Nat) (hk : arr[k]? = some v) :
    (w'.cell? ⟨B + 1, k, none⟩ = some v ∧ w'.frozen? ⟨B + 1, k, none⟩ = false) ∧ (w'.setCell ⟨B + 1, k, none⟩ (.slice (some ⟨g, 0, none⟩) n cap)).heap[B]? = some (.cells zer7 26 (0, 0)) ∧ (w'.setCell ⟨B + 1, k, none⟩ (.slice (some ⟨g, 0, none⟩) n cap)).heap[B + 1]? = some (.cells (arr.setIfInBounds k (.slice (some ⟨g, 0, none⟩) n cap)) 26 (0, 0)) ∧ NumAt (w'.setCell ⟨B + 1, k, none⟩ (.slice (some ⟨g, 0, none⟩) n cap)) (B + 3) xs ∧
    OwnsP (B + 2) (min lo B) (B + 4) (w'.setCell ⟨B + 1, k, none⟩ (.slice (some ⟨g, 0, none⟩) n cap)) ((e, .slice (some ⟨g, 0, none⟩) n cap, c ++ [u]) :: r) ps := by
  have h5 := hp.append ho (by simpa using hn) hg hat hH
  obtain ⟨hb, o, hoo, hne⟩ := hnum.block
  have k1 := hp.own.old (by omega) (Array.getElem?_eq_some_iff.1 hres).1 hg hres
  have k2 := hp.own.old (by omega) (Array.getElem?_eq_some_iff.1 hbox).1 hg hbox
  have k3 := hnum.kept hg (fun e2 => hp.own.other hoo hne (e, v, c) (by simp) e2)
  refine ⟨⟨by rw [cell_of_row _ _ _ _ _ (0, 0) k2]; exact hk, frozen_of_row _ _ _ _ _ k2⟩, ?_, ?_, ?_, ?_⟩
  · exact (Below.heap_setCell _ _ _ _ (by simp)).trans k1
  · rw [heap_setCell_same _ _ k _ _ _ k2]
  · exact k3.kept (grown_set _ _ _) (by simp)
  · exact h5.below (grown_set w' ⟨B + 1, k, none⟩ (.slice (some ⟨g, 0, none⟩) n cap)) (by simp) (by simp only; omega) (by simp)

section
variable {lo B l : Nat} {w w' w0 : World} {vS vN vY vE : Value} {xs : List Nat} {rs : List (Value × List Int)} {ys : List (Value × List Trip)} {es : List Trip} {more : List Item} {mps : List Trip}

theorem own_row {B n : Nat} {W : World} {e : TypeId} {v : Value} {c : List Value} {r : List Item} {ps : List Trip} {lo hi : Nat} (h : OwnsP B lo hi W ((e, v, c) :: r) ps) (hn : c.length = n) : W.ownsRow B e 1 v n c := by
  have := h.own.row
  rwa [hn] at this
/-- A row of where letters lead is put behind. -/
theorem OfT.appN {u : Value} {zs : List Int} {itY : Item} (h : OfT lo B l w vS vN vY vE xs rs ys es [(3, u, vals zs), itY] mps) (hu : u.oneCell' = true) (hb : rs.length ≤ 1000) (hw0 : w0.heap.size = B) (hg0 : w0.grownBy w none) :
    ∃ g cap W', (AppY #[23, 23] 23 #[vN, .slice (some ⟨w.heap.size, 0, none⟩) 1 1]).run Try.prog (w.alloc (.cells #[u] 22)) = .ok (.slice (some ⟨g, 0, none⟩) (rs.length + 1) cap) W' ∧ (W'.cell? ⟨B + 1, 4, none⟩ = some vN ∧ W'.frozen? ⟨B + 1, 4, none⟩ = false) ∧
      OfT lo B l (W'.setCell ⟨B + 1, 4, none⟩ (.slice (some ⟨g, 0, none⟩) (rs.length + 1) cap)) vS (.slice (some ⟨g, 0, none⟩) (rs.length + 1) cap) vY vE xs (rs ++ [(u, zs)]) ys es [itY] mps ∧ w0.grownBy (W'.setCell ⟨B + 1, 4, none⟩ (.slice (some ⟨g, 0, none⟩) (rs.length + 1) cap)) none := by
  have h1 := h.kept (grown_alloc w (.cells #[u] 22))
  have hp := h1.own.perm (List.perm_middle (l₁ := [_]))
  obtain ⟨i0, hi0, hz0, hz1, hz2⟩ := info_partsY Try.infoSlY
  have hlt := h.lt
  obtain ⟨g, cap, W', hr, h2, h3, h4, _⟩ := run_append_lies (P := Try.prog) (w.alloc (.cells #[u] 22)) 23 23 (B + 2) 22 i0 (.slice none 0 0) 1 24 Try.underlying23 hi0 hz0 hz1 hz2 rfl (by decide) vN rs.length (rs.map (·.1)) (own_row hp (by simp)) ⟨w.heap.size, 0, none⟩ 1 1 [u] rfl (one_new w u _) (by intro x hx; simp at hx; subst hx; exact hu) (by omega) (by unfold maxLen; omega) (by omega) (by simp; omega) _ rfl
  obtain ⟨k0, k1, k2, k3, k4⟩ := grow_box h1.res h1.box h1.num hp h2 (by simp) h3 h4 rfl 4 rfl
  refine ⟨g, cap, W', hr, k0, ⟨k1, k2, k3, ?_⟩, ?_⟩
  · refine k4.perm ?_
    have e1 : (rs ++ [(u, zs)]).map (·.1) = rs.map (·.1) ++ [u] := by simp
    have e2 : rowItems (rs ++ [(u, zs)]) = rowItems rs ++ [(3, u, vals zs)] := by simp [rowItems]
    rw [e1, e2]
    refine (List.Perm.swap _ _ _).trans (((((?_ : List.Perm _ _).cons _).cons _).cons _).cons _)
    show List.Perm ((3, u, vals zs) :: itY :: (rowItems rs ++ sayItems ys)) (itY :: ((rowItems rs ++ [(3, u, vals zs)]) ++ sayItems ys))
    rw [List.append_assoc]
    exact (List.perm_middle (l₁ := itY :: rowItems rs) (l₂ := sayItems ys)).symm
  · exact grown_new (hp.own.frame (by omega) (grown_trans hg0 (grown_alloc _ _)) h3) (grown_set _ _ _) (by simp only; omega)
/-- A row of what letters say is put behind. -/
theorem OfT.appY {u : Value} {qs : List Trip} (h : OfT lo B l w vS vN vY vE xs rs ys es [(22, u, valsT qs)] qs) (hu : u.oneCell' = true) (hb : ys.length ≤ 1000) (hw0 : w0.heap.size = B) (hg0 : w0.grownBy w none) :
    ∃ g cap W', (AppY #[24, 24] 24 #[vY, .slice (some ⟨w.heap.size, 0, none⟩) 1 1]).run Try.prog (w.alloc (.cells #[u] 23)) = .ok (.slice (some ⟨g, 0, none⟩) (ys.length + 1) cap) W' ∧ (W'.cell? ⟨B + 1, 5, none⟩ = some vY ∧ W'.frozen? ⟨B + 1, 5, none⟩ = false) ∧
      OfT lo B l (W'.setCell ⟨B + 1, 5, none⟩ (.slice (some ⟨g, 0, none⟩) (ys.length + 1) cap)) vS vN (.slice (some ⟨g, 0, none⟩) (ys.length + 1) cap) vE xs rs (ys ++ [(u, qs)]) es [] [] ∧ w0.grownBy (W'.setCell ⟨B + 1, 5, none⟩ (.slice (some ⟨g, 0, none⟩) (ys.length + 1) cap)) none := by
  have h1 := h.kept (grown_alloc w (.cells #[u] 23))
  have hp := h1.own.perm (List.perm_middle (l₁ := [_, _]))
  obtain ⟨i0, hi0, hz0, hz1, hz2⟩ := info_partsY Try.infoTT
  have hlt := h.lt
  obtain ⟨g, cap, W', hr, h2, h3, h4, _⟩ := run_append_lies (P := Try.prog) (w.alloc (.cells #[u] 23)) 24 24 (B + 2) 23 i0 (.slice none 0 0) 1 24 Try.underlying24 hi0 hz0 hz1 hz2 rfl (by decide) vY ys.length (ys.map (·.1)) (own_row hp (by simp)) ⟨w.heap.size, 0, none⟩ 1 1 [u] rfl (one_new w u _) (by intro x hx; simp at hx; subst hx; exact hu) (by omega) (by unfold maxLen; omega) (by omega) (by simp; omega) _ rfl
  obtain ⟨k0, k1, k2, k3, k4⟩ := grow_box h1.res h1.box h1.num hp h2 (by simp) h3 h4 rfl 5 rfl
  refine ⟨g, cap, W', hr, k0, ⟨k1, k2, k3, ?_⟩, ?_⟩
  · refine (k4.sub (fun p hp => ?_)).perm ?_
    · rw [List.flatMap_append, List.nil_append] at hp
      rcases List.mem_append.1 hp with e1 | e1
      · exact List.mem_append.2 (.inr (List.mem_append.2 (.inl e1)))
      · rcases List.mem_append.1 e1 with e2 | e2
        · exact List.mem_append.2 (.inr (List.mem_append.2 (.inr e2)))
        · exact List.mem_append.2 (.inl (by simpa using e2))
    · have e1 : (ys ++ [(u, qs)]).map (·.1) = ys.map (·.1) ++ [u] := by simp
      have e2 : sayItems (ys ++ [(u, qs)]) = sayItems ys ++ [(22, u, valsT qs)] := by simp [sayItems]
      rw [e1, e2]
      refine (List.perm_middle (l₁ := [_, _])).symm.trans ?_
      refine ((((?_ : List.Perm _ _).cons _).cons _).cons _).cons _
      show List.Perm ((22, u, valsT qs) :: (rowItems rs ++ sayItems ys)) (rowItems rs ++ (sayItems ys ++ [(22, u, valsT qs)]))
      rw [← List.append_assoc]
      exact (List.perm_append_comm (l₁ := [(22, u, valsT qs)]) (l₂ := rowItems rs ++ sayItems ys))
  · exact grown_new (hp.own.frame (by omega) (grown_trans hg0 (grown_alloc _ _)) h3) (grown_set _ _ _) (by simp only; omega)
/-- What is said at the end is put behind. -/
theorem OfT.appE {p : Trip} (h : OfT lo B l w vS vN vY vE xs rs ys es [] [p]) (hb : es.length ≤ 1000) (hw0 : w0.heap.size = B) (hg0 : w0.grownBy w none) :
    ∃ g cap W', (AppY #[23, 23] 23 #[vE, .slice (some ⟨w.heap.size, 0, none⟩) 1 1]).run Try.prog (w.alloc (.cells #[valT p] 22)) = .ok (.slice (some ⟨g, 0, none⟩) (es.length + 1) cap) W' ∧ (W'.cell? ⟨B + 1, 6, none⟩ = some vE ∧ W'.frozen? ⟨B + 1, 6, none⟩ = false) ∧
      OfT lo B l (W'.setCell ⟨B + 1, 6, none⟩ (.slice (some ⟨g, 0, none⟩) (es.length + 1) cap)) vS vN vY (.slice (some ⟨g, 0, none⟩) (es.length + 1) cap) xs rs ys (es ++ [p]) [] [] ∧ w0.grownBy (W'.setCell ⟨B + 1, 6, none⟩ (.slice (some ⟨g, 0, none⟩) (es.length + 1) cap)) none := by
  have h1 := h.kept (grown_alloc w (.cells #[valT p] 22))
  have hp := h1.own.perm (List.perm_middle (l₁ := [_, _, _]))
  obtain ⟨i0, hi0, hz0, hz1, hz2⟩ := info_partsY Try.infoSlY
  have hlt := h.lt
  obtain ⟨g, cap, W', hr, h2, h3, h4, _⟩ := run_append_lies (P := Try.prog) (w.alloc (.cells #[valT p] 22)) 23 23 (B + 2) 22 i0 (.slice none 0 0) 1 24 Try.underlying23 hi0 hz0 hz1 hz2 rfl (by decide) vE es.length (valsT es) (own_row hp (by simp [valsT])) ⟨w.heap.size, 0, none⟩ 1 1 [valT p] rfl (one_new w (valT p) _) (by intro x hx; simp at hx; subst hx; rfl) (by omega) (by unfold maxLen; omega) (by omega) (by simp; omega) _ rfl
  obtain ⟨k0, k1, k2, k3, k4⟩ := grow_box h1.res h1.box h1.num hp h2 (by simp [valsT]) h3 h4 rfl 6 rfl
  refine ⟨g, cap, W', hr, k0, ⟨k1, k2, k3, ?_⟩, ?_⟩
  · have e : valsT (es ++ [p]) = valsT es ++ [valT p] := by simp [valsT]
    rw [e]
    refine (k4.sub (fun q hq => ?_)).perm (List.perm_middle (l₁ := [_, _, _])).symm
    rw [List.nil_append] at hq
    rcases List.mem_append.1 hq with e1 | e1
    · rcases List.mem_append.1 e1 with e2 | e2
      · exact List.mem_append.2 (.inr (List.mem_append.2 (.inl e2)))
      · exact List.mem_append.2 (.inl e2)
    · exact List.mem_append.2 (.inr (List.mem_append.2 (.inr e1)))
  · exact grown_new (hp.own.frame (by omega) (grown_trans hg0 (grown_alloc _ _)) h3) (grown_set _ _ _) (by simp only; omega)
/-- A new state: it is numbered, and put behind. -/
theorem OfT.appS {y : Nat} {W7 : World} (h : OfT lo B l w vS vN vY vE xs rs ys es more mps) (hN7 : NumAt W7 (B + 3) (xs ++ [y])) (hg7 : w.grownBy W7 (some (B + 3))) (hb : xs.length ≤ 3000) (hw0 : w0.heap.size = B) (hg0 : w0.grownBy w none) :
    ∃ g cap W', (AppY #[22, 22] 22 #[vS, .slice (some ⟨W7.heap.size, 0, none⟩) 1 1]).run Try.prog (W7.alloc (.cells #[.int .i64 (y : Int)] 3)) = .ok (.slice (some ⟨g, 0, none⟩) (xs.length + 1) cap) W' ∧
      OfT lo B l W' (.slice (some ⟨g, 0, none⟩) (xs.length + 1) cap) vN vY vE (xs ++ [y]) rs ys es more mps ∧ w0.grownBy W' none := by
  obtain ⟨a1, a2, a3⟩ := h.numbered hN7 hg7
  have hal := grown_alloc W7 (.cells #[.int .i64 (y : Int)] 3)
  have b1 := (hal.block _ (Array.getElem?_eq_some_iff.1 a1).1 (by simp)).trans a1
  have b2 := (hal.block _ (Array.getElem?_eq_some_iff.1 a2).1 (by simp)).trans a2
  have b3 := a3.kept hal
  have b4 := hN7.kept hal (by simp)
  obtain ⟨i0, hi0, hz0, hz1, hz2⟩ := info_partsY Try.infoI64Y
  have hlt := hN7.block.1
  obtain ⟨g, cap, W', hr, h2, h3, h4, _⟩ := run_append_lies (P := Try.prog) (W7.alloc (.cells #[.int .i64 (y : Int)] 3)) 22 22 (B + 2) 3 i0 (.int .i64 0) 1 8 Try.underlying22 hi0 hz0 hz1 hz2 rfl (by decide) vS xs.length (vals (natInts xs)) (own_row b3 (by simp)) ⟨W7.heap.size, 0, none⟩ 1 1 [.int .i64 (y : Int)] rfl (one_new W7 _ _) (by intro x hx; simp at hx; subst hx; rfl) (by omega) (by unfold maxLen; omega) (by omega) (by simp; omega) _ rfl
  have h5 := b3.append h2 (by simp) h3 h4 rfl
  obtain ⟨hbb, o, hoo, hne⟩ := b4.block
  refine ⟨g, cap, W', hr, ⟨b3.own.old (by omega) (Array.getElem?_eq_some_iff.1 b1).1 h3 b1, b3.own.old (by omega) (Array.getElem?_eq_some_iff.1 b2).1 h3 b2, b4.kept h3 (fun e => b3.own.other hoo hne (3, vS, vals (natInts xs)) (by simp) e), ?_⟩, ?_⟩
  · simpa [vals, natInts] using h5
  · exact b3.own.frame (by omega) (grown_trans (grown_new hg0 hg7 (by omega)) hal) h3
end

/-- What 'of' leaves behind. -/
def OfTP (lo l x0 n : Nat) (δ : Nat → Nat → Nat) (σ : Nat → Nat → List Int) (ε : Nat → List Int) (w : World) (e : Ending) (w' : World) : Prop :=
  ∃ k a4 a5 a6 c4 c5 c6 ps, IsEnd (bfsL id δ l x0) k ∧ k ≤ n ∧ e = .returned (tnV (l : Int) 0 0 none 0 0 a4 k c4 a5 k c5 a6 k c6) ∧ TnAt w' (ofX l δ σ ε (bfsL id δ l x0 k)) none a4 a5 a6 ∧ w.grownBy w' none ∧ TripAt w' a6 ps ∧ wordsT ps = (bfsL id δ l x0 k).map ε ∧ (∀ p, p ∈ ps → p.2.2.length ≤ p.2.1) ∧
    ∃ P : World → Prop, P w' ∧ (∀ W, P W → TnAt W (ofX l δ σ ε (bfsL id δ l x0 k)) none a4 a5 a6 ∧ TripAt W a6 ps) ∧ (∀ W W' b, P W → lo ≤ b → b < w.heap.size → W.grownBy W' (some b) → P W') ∧ ∀ W W', P W → W.grownBy W' none → P W'

end Go.Proofs.Ytodcmlcpicabaaa
