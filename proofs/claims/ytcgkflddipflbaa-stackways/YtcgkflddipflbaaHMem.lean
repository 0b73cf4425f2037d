/- Classes of states in memory: a box with six rows of numbers; how they are read and written into. -/
import Derived.Test.YtcgkflddipflbaaLMath
import Derived.Test.YtcgkflddipflbaaRClsD
import Derived.BigRegion
import Derived.RegionTactic
namespace Go.Proofs.Ytcgkflddipflbaa
open Go.RowKit
set_option linter.unusedVariables false

theorem fvals_upd {n i x : Nat} {f : Nat → Nat} (h : i < n) : (fvals n f).set i (.int .i64 (x : Int)) = fvals n (upd f i x) := by
  apply List.ext_getElem (by simp [fvals])
  intro j h1 h2
  rw [List.getElem_set]
  simp only [fvals, vals, natInts, List.getElem_map, List.getElem_range]
  by_cases e : i = j
  · subst e; simp [upd]
  · rw [if_neg e, upd_ne (Ne.symm e)]
theorem fvals_snoc (n x : Nat) (f : Nat → Nat) : fvals n f ++ [.int .i64 (x : Int)] = fvals (n + 1) (upd f n x) := by
  simp only [fvals, vals, natInts, List.range_succ, List.map_append, List.map_cons, List.map_nil, upd_same]
  congr 1
  rw [List.map_map, List.map_map, List.map_map, List.map_map]
  refine List.map_congr_left fun j hj => ?_
  simp only [Function.comp]
  rw [upd_ne (by have := List.mem_range.1 hj; omega)]
theorem fvals_congr {n : Nat} {f g : Nat → Nat} (h : ∀ i, i < n → f i = g i) : fvals n f = fvals n g := by
  simp only [fvals]
  rw [List.map_congr_left (fun i hi => h i (List.mem_range.1 hi))]

section
variable {B : Nat} {w w' : World} {x1 x2 x3 x4 x5 x6 x7 : Item} {r : List Item}
theorem at_2 (h : Owns B w (x1 :: x2 :: r)) : Owns B w (x2 :: x1 :: r) := h.perm (List.perm_middle (l₁ := [x1]))
theorem to_2 (h : Owns B w (x2 :: x1 :: r)) : Owns B w (x1 :: x2 :: r) := h.perm (List.perm_middle (l₁ := [x1])).symm
theorem at_3 (h : Owns B w (x1 :: x2 :: x3 :: r)) : Owns B w (x3 :: x1 :: x2 :: r) := h.perm (List.perm_middle (l₁ := [x1, x2]))
theorem to_3 (h : Owns B w (x3 :: x1 :: x2 :: r)) : Owns B w (x1 :: x2 :: x3 :: r) := h.perm (List.perm_middle (l₁ := [x1, x2])).symm
theorem at_4 (h : Owns B w (x1 :: x2 :: x3 :: x4 :: r)) : Owns B w (x4 :: x1 :: x2 :: x3 :: r) := h.perm (List.perm_middle (l₁ := [x1, x2, x3]))
theorem to_4 (h : Owns B w (x4 :: x1 :: x2 :: x3 :: r)) : Owns B w (x1 :: x2 :: x3 :: x4 :: r) := h.perm (List.perm_middle (l₁ := [x1, x2, x3])).symm
theorem at_5 (h : Owns B w (x1 :: x2 :: x3 :: x4 :: x5 :: r)) : Owns B w (x5 :: x1 :: x2 :: x3 :: x4 :: r) := h.perm (List.perm_middle (l₁ := [x1, x2, x3, x4]))
theorem to_5 (h : Owns B w (x5 :: x1 :: x2 :: x3 :: x4 :: r)) : Owns B w (x1 :: x2 :: x3 :: x4 :: x5 :: r) := h.perm (List.perm_middle (l₁ := [x1, x2, x3, x4])).symm
theorem at_6 (h : Owns B w (x1 :: x2 :: x3 :: x4 :: x5 :: x6 :: r)) : Owns B w (x6 :: x1 :: x2 :: x3 :: x4 :: x5 :: r) := h.perm (List.perm_middle (l₁ := [x1, x2, x3, x4, x5]))
theorem to_6 (h : Owns B w (x6 :: x1 :: x2 :: x3 :: x4 :: x5 :: r)) : Owns B w (x1 :: x2 :: x3 :: x4 :: x5 :: x6 :: r) := h.perm (List.perm_middle (l₁ := [x1, x2, x3, x4, x5])).symm
theorem at_7 (h : Owns B w (x1 :: x2 :: x3 :: x4 :: x5 :: x6 :: x7 :: r)) : Owns B w (x7 :: x1 :: x2 :: x3 :: x4 :: x5 :: x6 :: r) := h.perm (List.perm_middle (l₁ := [x1, x2, x3, x4, x5, x6]))
theorem to_7 (h : Owns B w (x7 :: x1 :: x2 :: x3 :: x4 :: x5 :: x6 :: r)) : Owns B w (x1 :: x2 :: x3 :: x4 :: x5 :: x6 :: x7 :: r) := h.perm (List.perm_middle (l₁ := [x1, x2, x3, x4, x5, x6])).symm
theorem at_M {l : List Item} (h : Owns B w (l ++ x1 :: r)) : Owns B w (x1 :: (l ++ r)) := h.perm List.perm_middle
theorem to_M {l : List Item} (h : Owns B w (x1 :: (l ++ r))) : Owns B w (l ++ x1 :: r) := h.perm List.perm_middle.symm
end

theorem cell_one_at (w : World) (u : Value) (t : TypeId) {H : Nat} (h : w.heap.size = H) : ∀ j x, [u][j]? = some x → (w.alloc (.cells #[u] t)).cell? ((⟨H, 0, none⟩ : Addr).add j) = some x := by
  subst h; exact cell_one_new w u t
theorem size_set (w : World) (a : Addr) (v : Value) : (w.setCell a v).heap.size = w.heap.size := by simp [World.setCell]
/-- What was old stays. -/
def Keeps (B : Nat) (w w' : World) : Prop := ∀ w0 : World, w0.heap.size ≤ B → w0.grownBy w none → w0.grownBy w' none
theorem Keeps.refl (B : Nat) (w : World) : Keeps B w w := fun _ _ h => h
theorem Keeps.trans {B : Nat} {w w' w'' : World} (h : Keeps B w w') (k : Keeps B w' w'') : Keeps B w w'' := fun w0 hB h0 => k w0 hB (h w0 hB h0)
theorem Keeps.drewN {B : Nat} {w w' : World} (h : Keeps B w w') (n : Nat) : Keeps B w (w'.drewN n) := fun w0 hB h0 => grown_drewN (h w0 hB h0) n
theorem Keeps.drew {B : Nat} {w w' : World} (h : Keeps B w w') : Keeps B w w'.drew := fun w0 hB h0 => grown_drew (h w0 hB h0)
theorem Keeps.grown {B : Nat} {w w' : World} (h : w.grownBy w' none) : Keeps B w w' := fun w0 hB h0 => grown_trans h0 h
theorem Keeps.alloc {B : Nat} {w w' : World} (h : Keeps B w w') (o : Obj) : Keeps B w (w'.alloc o) := fun w0 hB h0 => grown_trans (h w0 hB h0) (grown_alloc _ _)
theorem Keeps.set {B : Nat} {w w' : World} (h : Keeps B w w') {g : Nat} (hg : B ≤ g) (i : Nat) (u : Value) : Keeps B w (w'.setCell ⟨g, i, none⟩ u) :=
  fun w0 hB h0 => grown_new (h w0 hB h0) (grown_set _ _ _) (Nat.le_trans hB hg)
theorem Keeps.first {B : Nat} {w w' : World} {e : TypeId} {v : Value} {xs : List Value} {r : List Item} (h : Owns B w ((e, v, xs) :: r)) (h2 : w.grownBy w' v.ownBlock) : Keeps B w w' :=
  fun w0 hB h0 => h.frame hB h0 h2
theorem Owns.ge {B : Nat} {w : World} {e : TypeId} {g n cap : Nat} {xs : List Value} {r : List Item} (h : Owns B w ((e, .slice (some ⟨g, 0, none⟩) n cap, xs) :: r)) : B ≤ g ∧ g < w.heap.size := h.row.lt g rfl
theorem Owns.cap {B : Nat} {w : World} {e : TypeId} {g n cap : Nat} {xs : List Value} {r : List Item} (h : Owns B w ((e, .slice (some ⟨g, 0, none⟩) n cap, xs) :: r)) : n ≤ cap ∧ cap ≤ maxLen := by
  have hn := h.len
  obtain ⟨_, h2⟩ := h.row
  rcases h2 with ⟨e0, _⟩ | ⟨g', cap', cur, e1, _, _, h5, h6, _⟩
  · cases e0
  · cases e1; exact ⟨by omega, h6⟩
/-- Reads by membership. -/
theorem Owns.cellM {B : Nat} {w : World} {its : List Item} (h : Owns B w its) {e : TypeId} {g n cap i : Nat} {xs : List Value} {u : Value} (hm : (e, Value.slice (some ⟨g, 0, none⟩) n cap, xs) ∈ its) (hu : xs[i]? = some u) : w.cell? ⟨g, i, none⟩ = some u := by
  have := (h.1 _ hm).1.cells (g := g) rfl i u hu
  rwa [addr_add] at this

theorem Owns.formM {B : Nat} {w : World} {its : List Item} (h : Owns B w its) {e : TypeId} {a : Option Addr} {n cap : Nat} {xs : List Value} (hm : (e, Value.slice a n cap, xs) ∈ its) (hx : 0 < xs.length) : ∃ g, a = some ⟨g, 0, none⟩ := by
  obtain ⟨⟨_, h2⟩, _⟩ := h.1 _ hm
  rcases h2 with ⟨_, e0⟩ | ⟨g, cap', cur, e1, _⟩
  · simp only at e0; omega
  · simp only [Value.slice.injEq] at e1; exact ⟨g, e1.1⟩

/-- Six rows of numbers in a box: the order, the places, the classes; where classes begin and end; how many are picked. -/
abbrev clsIts (bc n K3 K4 K5 : Nat) (o p c b e k : Nat → Nat) (g0 q0 g1 q1 g2 q2 g3 q3 g4 q4 g5 q5 : Nat) (r : List Item) : List Item :=
  (110, .slice (some ⟨bc, 0, none⟩) 6 6, [.slice (some ⟨g0, 0, none⟩) n q0, .slice (some ⟨g1, 0, none⟩) n q1, .slice (some ⟨g2, 0, none⟩) n q2, .slice (some ⟨g3, 0, none⟩) K3 q3, .slice (some ⟨g4, 0, none⟩) K4 q4, .slice (some ⟨g5, 0, none⟩) K5 q5]) ::
  (3, .slice (some ⟨g0, 0, none⟩) n q0, fvals n o) :: (3, .slice (some ⟨g1, 0, none⟩) n q1, fvals n p) :: (3, .slice (some ⟨g2, 0, none⟩) n q2, fvals n c) ::
  (3, .slice (some ⟨g3, 0, none⟩) K3 q3, fvals K3 b) :: (3, .slice (some ⟨g4, 0, none⟩) K4 q4, fvals K4 e) :: (3, .slice (some ⟨g5, 0, none⟩) K5 q5, fvals K5 k) :: r

section
variable {B : Nat} {w : World} {bc n K3 K4 K5 : Nat} {o p c b e k : Nat → Nat} {g0 q0 g1 q1 g2 q2 g3 q3 g4 q4 g5 q5 : Nat} {r : List Item}
theorem cls_box (h : Owns B w (clsIts bc n K3 K4 K5 o p c b e k g0 q0 g1 q1 g2 q2 g3 q3 g4 q4 g5 q5 r)) :
    w.cell? ⟨bc, 0, none⟩ = some (.slice (some ⟨g0, 0, none⟩) n q0) ∧ w.cell? ⟨bc, 1, none⟩ = some (.slice (some ⟨g1, 0, none⟩) n q1) ∧ w.cell? ⟨bc, 2, none⟩ = some (.slice (some ⟨g2, 0, none⟩) n q2) ∧
    w.cell? ⟨bc, 3, none⟩ = some (.slice (some ⟨g3, 0, none⟩) K3 q3) ∧ w.cell? ⟨bc, 4, none⟩ = some (.slice (some ⟨g4, 0, none⟩) K4 q4) ∧ w.cell? ⟨bc, 5, none⟩ = some (.slice (some ⟨g5, 0, none⟩) K5 q5) ∧ ∀ i, w.frozen? ⟨bc, i, none⟩ = false :=
  ⟨h.cell rfl, h.cell rfl, h.cell rfl, h.cell rfl, h.cell rfl, h.cell rfl, h.fz⟩
theorem cls_setO (h : Owns B w (clsIts bc n K3 K4 K5 o p c b e k g0 q0 g1 q1 g2 q2 g3 q3 g4 q4 g5 q5 r)) {i x : Nat} (hi : i < n) :
    Owns B (w.setCell ⟨g0, i, none⟩ (.int .i64 (x : Int))) (clsIts bc n K3 K4 K5 (upd o i x) p c b e k g0 q0 g1 q1 g2 q2 g3 q3 g4 q4 g5 q5 r) := by
  have h1 := (at_2 h).set hi (.int .i64 (x : Int))
  rw [fvals_upd hi] at h1
  exact to_2 h1
theorem cls_setP (h : Owns B w (clsIts bc n K3 K4 K5 o p c b e k g0 q0 g1 q1 g2 q2 g3 q3 g4 q4 g5 q5 r)) {i x : Nat} (hi : i < n) :
    Owns B (w.setCell ⟨g1, i, none⟩ (.int .i64 (x : Int))) (clsIts bc n K3 K4 K5 o (upd p i x) c b e k g0 q0 g1 q1 g2 q2 g3 q3 g4 q4 g5 q5 r) := by
  have h1 := (at_3 h).set hi (.int .i64 (x : Int))
  rw [fvals_upd hi] at h1
  exact to_3 h1
theorem cls_setC (h : Owns B w (clsIts bc n K3 K4 K5 o p c b e k g0 q0 g1 q1 g2 q2 g3 q3 g4 q4 g5 q5 r)) {i x : Nat} (hi : i < n) :
    Owns B (w.setCell ⟨g2, i, none⟩ (.int .i64 (x : Int))) (clsIts bc n K3 K4 K5 o p (upd c i x) b e k g0 q0 g1 q1 g2 q2 g3 q3 g4 q4 g5 q5 r) := by
  have h1 := (at_4 h).set hi (.int .i64 (x : Int))
  rw [fvals_upd hi] at h1
  exact to_4 h1
theorem cls_setB (h : Owns B w (clsIts bc n K3 K4 K5 o p c b e k g0 q0 g1 q1 g2 q2 g3 q3 g4 q4 g5 q5 r)) {i x : Nat} (hi : i < K3) :
    Owns B (w.setCell ⟨g3, i, none⟩ (.int .i64 (x : Int))) (clsIts bc n K3 K4 K5 o p c (upd b i x) e k g0 q0 g1 q1 g2 q2 g3 q3 g4 q4 g5 q5 r) := by
  have h1 := (at_5 h).set hi (.int .i64 (x : Int))
  rw [fvals_upd hi] at h1
  exact to_5 h1
theorem cls_setE (h : Owns B w (clsIts bc n K3 K4 K5 o p c b e k g0 q0 g1 q1 g2 q2 g3 q3 g4 q4 g5 q5 r)) {i x : Nat} (hi : i < K4) :
    Owns B (w.setCell ⟨g4, i, none⟩ (.int .i64 (x : Int))) (clsIts bc n K3 K4 K5 o p c b (upd e i x) k g0 q0 g1 q1 g2 q2 g3 q3 g4 q4 g5 q5 r) := by
  have h1 := (at_6 h).set hi (.int .i64 (x : Int))
  rw [fvals_upd hi] at h1
  exact to_6 h1
theorem cls_setK (h : Owns B w (clsIts bc n K3 K4 K5 o p c b e k g0 q0 g1 q1 g2 q2 g3 q3 g4 q4 g5 q5 r)) {i x : Nat} (hi : i < K5) :
    Owns B (w.setCell ⟨g5, i, none⟩ (.int .i64 (x : Int))) (clsIts bc n K3 K4 K5 o p c b e (upd k i x) g0 q0 g1 q1 g2 q2 g3 q3 g4 q4 g5 q5 r) := by
  have h1 := (at_7 h).set hi (.int .i64 (x : Int))
  rw [fvals_upd hi] at h1
  exact to_7 h1
end


section
variable {B : Nat} {w w' : World} {bc n K3 K4 K5 : Nat} {o p c b e k : Nat → Nat} {g0 q0 g1 q1 g2 q2 g3 q3 g4 q4 g5 q5 : Nat} {r : List Item}
theorem cls_congr {c' b' e' k' : Nat → Nat} (h : Owns B w (clsIts bc n K3 K4 K5 o p c b e k g0 q0 g1 q1 g2 q2 g3 q3 g4 q4 g5 q5 r)) (h1 : ∀ i, i < n → c i = c' i) (h2 : ∀ i, i < K3 → b i = b' i) (h3 : ∀ i, i < K4 → e i = e' i) (h4 : ∀ i, i < K5 → k i = k' i) :
    Owns B w (clsIts bc n K3 K4 K5 o p c' b' e' k' g0 q0 g1 q1 g2 q2 g3 q3 g4 q4 g5 q5 r) := by
  unfold clsIts at h ⊢
  rw [← fvals_congr h1, ← fvals_congr h2, ← fvals_congr h3, ← fvals_congr h4]
  exact h
/-- A row of a box has grown: the box is as it was, and may be told so. -/
theorem box_push {T : TypeId} {m f : Nat} {fs : List Value} {a1 : TypeId} {g ln cp g' cap H : Nat} {xs news : List Value} {l r : List Item} (h : Owns B w ((T, .slice (some ⟨bc, 0, none⟩) m m, fs) :: (l ++ (a1, .slice (some ⟨g, 0, none⟩) ln cp, xs) :: r)))
    (ho : w'.ownsRow B a1 1 (.slice (some ⟨g', 0, none⟩) (ln + news.length) cap) (ln + news.length) (xs ++ news)) (hg : w.grownBy w' (some g)) (hat : some g = some g' ∨ g' = H) (hH : w.heap.size = H) (hf : f < m) {u : Value} (hu : fs[f]? = some u) :
    w'.cell? ⟨bc, f, none⟩ = some u ∧ w'.frozen? ⟨bc, f, none⟩ = false ∧
    Owns B (w'.setCell ⟨bc, f, none⟩ (.slice (some ⟨g', 0, none⟩) (ln + news.length) cap)) ((T, .slice (some ⟨bc, 0, none⟩) m m, fs.set f (.slice (some ⟨g', 0, none⟩) (ln + news.length) cap)) :: (l ++ (a1, .slice (some ⟨g', 0, none⟩) (ln + news.length) cap, xs ++ news) :: r)) ∧
    Keeps B w (w'.setCell ⟨bc, f, none⟩ (.slice (some ⟨g', 0, none⟩) (ln + news.length) cap)) := by
  have h1 : Owns B w ((a1, .slice (some ⟨g, 0, none⟩) ln cp, xs) :: (((T, .slice (some ⟨bc, 0, none⟩) m m, fs) :: l) ++ r)) := at_M (l := (T, .slice (some ⟨bc, 0, none⟩) m m, fs) :: l) h
  have hln := h1.len
  have h2 := h1.append (news := news) ho (by omega) hg hat hH
  have h3 : Owns B w' ((T, .slice (some ⟨bc, 0, none⟩) m m, fs) :: (l ++ (a1, .slice (some ⟨g', 0, none⟩) (ln + news.length) cap, xs ++ news) :: r)) := to_M (l := (T, .slice (some ⟨bc, 0, none⟩) m m, fs) :: l) h2
  exact ⟨h3.cell hu, h3.fz f, h3.set hf _, (Keeps.first h1 hg).trans ((Keeps.refl _ _).set h3.ge.1 _ _)⟩
end

/-- Two of one class change places. -/
def MovePost (B bc n K : Nat) (o p c b e k : Nat → Nat) (g0 q0 g1 q1 g2 q2 g3 q3 g4 q4 g5 q5 : Nat) (r : List Item) (s to : Nat) (w : World) (E : Ending) (w' : World) : Prop :=
  E = .returned (.tuple #[]) ∧ Owns B w' (clsIts bc n K K K (upd (upd o (p s) (o to)) to s) (upd (upd p (o to) (p s)) s to) c b e k g0 q0 g1 q1 g2 q2 g3 q3 g4 q4 g5 q5 r) ∧ Keeps B w w'

set_option maxHeartbeats 1600000 in
set_option maxRecDepth 100000 in
theorem move_any (B bc n K : Nat) (o p c b e k : Nat → Nat) (g0 q0 g1 q1 g2 q2 g3 q3 g4 q4 g5 q5 : Nat) (r : List Item) (s to : Nat) (w : World)
    (h : Owns B w (clsIts bc n K K K o p c b e k g0 q0 g1 q1 g2 q2 g3 q3 g4 q4 g5 q5 r)) (hn : n ≤ 3000) (hs : s < n) (hto : to < n) (hps : p s < n) (hot : o to < n) :
    Calls Try.prog 71 #[.pointer (some ⟨bc, 0, none⟩), .int .i64 (s : Int), .int .i64 (to : Int)] w (MovePost B bc n K o p c b e k g0 q0 g1 q1 g2 q2 g3 q3 g4 q4 g5 q5 r s to w) := by
  have b0 := (cls_box h).1
  have b1 := (cls_box h).2.1
  have c1 := (at_3 h).cell (fvals_get (f := p) hs)
  have c2 := (at_2 h).cell (fvals_get (f := o) hto)
  obtain ⟨fr, hfr⟩ : ∃ fr, p s = fr := ⟨_, rfl⟩
  obtain ⟨ot, hoot⟩ : ∃ ot, o to = ot := ⟨_, rfl⟩
  rw [hfr] at c1 hps
  rw [hoot] at c2 hot
  have h1 := cls_setO (x := ot) h hps
  have h2 := cls_setO (x := s) h1 hto
  have h3 := cls_setP (x := fr) h2 hot
  have h4 := cls_setP (x := to) h3 hs
  have K4 : Hid (Keeps B w ((((w.setCell ⟨g0, fr, none⟩ (.int .i64 (ot : Int))).setCell ⟨g0, to, none⟩ (.int .i64 (s : Int))).setCell ⟨g1, ot, none⟩ (.int .i64 (fr : Int))).setCell ⟨g1, s, none⟩ (.int .i64 (to : Int)))) :=
    ((((Keeps.refl B w).set (at_2 h).ge.1 _ _).set (at_2 h).ge.1 _ _).set (at_3 h).ge.1 _ _).set (at_3 h).ge.1 _ _
  have O4 : Hid (Owns B ((((w.setCell ⟨g0, fr, none⟩ (.int .i64 (ot : Int))).setCell ⟨g0, to, none⟩ (.int .i64 (s : Int))).setCell ⟨g1, ot, none⟩ (.int .i64 (fr : Int))).setCell ⟨g1, s, none⟩ (.int .i64 (to : Int))) (clsIts bc n K K K (upd (upd o fr ot) to s) (upd (upd p ot fr) s to) c b e k g0 q0 g1 q1 g2 q2 g3 q3 g4 q4 g5 q5 r)) := h4
  have b1' := (cls_box h2).2.1
  have b1'' := (cls_box h3).2.1
  have b0' := (cls_box h1).1
  have d1 := (at_2 h).cell (fvals_get (f := o) hps)
  have d2 := (at_2 h1).cell (fvals_get (f := upd o fr ot) hto)
  have d3 := (at_3 h2).cell (fvals_get (f := p) hot)
  have d4 := (at_3 h3).cell (fvals_get (f := upd p ot fr) hs)
  have f1 := (at_2 h).fz fr
  have f2 := (at_2 h1).fz to
  have f3 := (at_3 h2).fz ot
  have f4 := (at_3 h3).fz s
  unfold MovePost
  rw [hfr, hoot]
  have i1 : (s : Int) < (n : Int) := by omega
  have i2 : (to : Int) < (n : Int) := by omega
  have i3 : (fr : Int) < (n : Int) := by omega
  have i4 : (ot : Int) < (n : Int) := by omega
  generalize o fr = u1 at d1
  generalize upd o fr ot to = u2 at d2
  generalize p ot = u3 at d3
  generalize upd p ot fr s = u4 at d4
  clear h h1 h2 h3 h4 hfr hoot
  go_enter Try.func71, Try.ntmps71
  go_wp2_with fail
  go_region
  all_goals
    go_wp2_with fail
    go_region
    all_goals
      go_wp2_with fail
      go_region
      all_goals
        go_wp2_with fail
        go_end0
        refine ⟨rfl, O4.out.kept ?_, K4.out.trans (Keeps.grown ?_)⟩
        · exact grown_drew (grown_drew (grown_drew (grown_refl _ _)))
        · exact grown_drew (grown_drew (grown_drew (grown_refl _ _)))

end Go.Proofs.Ytcgkflddipflbaa
