/- What holds while the reference makes sets of states into states (R15.Sets). -/
import Derived.Test.YtkkmdcnbifepjaaDoorUs
import Derived.Test.YtkkmdcnbifepjaaDoorPDE
import Derived.Test.YtkkmdcnbifepjaaDoorHBk
import Derived.Test.YtkkmdcnbifepjaaDoorRLeast
import Derived.Test.YtkkmdcnbifepjaaDoorLReach
namespace Go.Proofs.YtkkmdcnbifepjaaDoor
open Go.RowKit
set_option linter.unusedVariables false

theorem box5 {w wr : World} {v0 v1 v2 v3 v4 : Value} {t : TypeId} (h : (w.alloc (.cells #[v0, v1, v2, v3, v4] t)).grownBy wr none) :
    wr.cell? ⟨w.heap.size, 0, none⟩ = some v0 ∧ wr.cell? ⟨w.heap.size, 1, none⟩ = some v1 ∧ wr.cell? ⟨w.heap.size, 2, none⟩ = some v2 ∧ wr.cell? ⟨w.heap.size, 3, none⟩ = some v3 ∧ wr.cell? ⟨w.heap.size, 4, none⟩ = some v4 := by
  have hb := heap_alloc_new w (.cells #[v0, v1, v2, v3, v4] t)
  have hc : ∀ k v, #[v0, v1, v2, v3, v4][k]? = some v → wr.cell? ⟨w.heap.size, k, none⟩ = some v := fun k v hv => h.cell (by rw [cell_of_row _ _ k _ _ (0, 0) hb]; exact hv) (by simp)
  exact ⟨hc 0 _ rfl, hc 1 _ rfl, hc 2 _ rfl, hc 3 _ rfl, hc 4 _ rfl⟩
theorem boxA_new (w : World) (L N : Int) (a : Option Addr) (n c : Nat) (b : Option Addr) (k d : Nat) (e : Option Addr) (m f : Nat) : ∃ W, W = w.alloc (.cells #[.int .i64 L, .int .i64 N, .slice a n c, .slice b k d, .slice e m f] 65) ∧ w.grownBy W none ∧ W.heap.size = w.heap.size + 1 ∧ ∀ W', W.grownBy W' none → W'.cell? ⟨w.heap.size, 0, none⟩ = some (.int .i64 L) ∧ W'.cell? ⟨w.heap.size, 1, none⟩ = some (.int .i64 N) ∧ W'.cell? ⟨w.heap.size, 2, none⟩ = some (.slice a n c) ∧ W'.cell? ⟨w.heap.size, 3, none⟩ = some (.slice b k d) ∧ W'.cell? ⟨w.heap.size, 4, none⟩ = some (.slice e m f) :=
  ⟨_, rfl, grown_alloc _ _, by simp, fun W' h => box5 h⟩

/-- Bounds of sets. -/
theorem setOf_ltK {zs : List Int} {n : Nat} (h : InR zs n) : setOf zs < 2 ^ n := lt_of_bits fun i hi => by
  obtain ⟨z, hz, e⟩ := setOf_bit.1 hi
  have := mem_in h hz
  omega
theorem orIf_ltK {p : StepI → Bool} {T : List StepI} {l : Int} {n : Nat} (h : InT T l n) : orIf p T < 2 ^ n := lt_of_bits fun i hi => by
  obtain ⟨t, ht, _, e⟩ := orIf_bit.1 hi
  obtain ⟨_, _, h5, h6⟩ := memT_in h ht
  omega

/-- The numbers of the sets that are come to, -1 for the others. -/
def numL (K : Nat) (xs : List Nat) : List Int := (List.range K).map fun y => if y ∈ xs then ((ix id xs y : Nat) : Int) else -1
theorem numL_len (K : Nat) (xs : List Nat) : (numL K xs).length = K := by simp [numL]
theorem numL_get {K : Nat} {xs : List Nat} {y : Nat} (h : y < K) : (vals (numL K xs))[y]? = some (.int .i64 (if y ∈ xs then ((ix id xs y : Nat) : Int) else -1)) := by simp [vals, numL, h]
theorem hasK_id {xs : List Nat} {y : Nat} : hasK id xs y ↔ y ∈ xs := ⟨fun ⟨r, hr, e⟩ => by have : r = y := e; rw [← this]; exact hr, fun h => ⟨y, h, rfl⟩⟩
theorem numL_snoc {K : Nat} {xs : List Nat} {y : Nat} (hy : y < K) (hn : y ∉ xs) : (numL K xs).set y (xs.length : Int) = numL K (xs ++ [y]) := by
  refine List.ext_getElem? fun i => ?_
  rw [List.getElem?_set]
  by_cases hi : y = i
  · subst hi
    have h1 : ix id (xs ++ [y]) y = xs.length := ix_last (fun h => hn (hasK_id.1 h))
    simp [numL, hy, h1]
  · rw [if_neg hi]
    unfold numL
    simp only [List.getElem?_map]
    by_cases h2 : i < K
    · rw [List.getElem?_range h2]
      simp only [Option.map_some, Option.some.injEq, List.mem_append, List.mem_singleton]
      by_cases h3 : i ∈ xs
      · rw [if_pos h3, if_pos (.inl h3), ix_append (hasK_id.2 h3)]
      · rw [if_neg h3, if_neg (fun h => h.elim h3 (fun h => hi h.symm))]
    · rw [List.getElem?_eq_none (by simpa using h2)]; rfl
theorem numL_one {K : Nat} (y : Nat) (hy : y < K) : (List.replicate K (-1 : Int)).set y 0 = numL K [y] := by
  have h1 := numL_snoc (xs := []) hy (by simp)
  have h2 : numL K [] = List.replicate K (-1 : Int) := by simp only [numL, List.not_mem_nil, if_false]; rw [List.eq_replicate_iff]; simp
  rw [h2] at h1
  exact h1

/-- Under way: the box of the automaton, its rows and marks, the numbers, the sets in a row, a row that is being made. -/
structure MdAt (K bo l : Nat) (W1 w : World) (aN : Option Addr) (nN cN : Nat) (aM : Option Addr) (nM cM gn : Nat) (aS : Option Addr) (cS : Nat) (xs : List Nat) (mvs : List (Value × List Int)) (Ms : List Int) (D : List Item) : Prop where
  own : Owns W1.heap.size w ((25, .slice (some ⟨bo, 0, none⟩) 4 4, [.int .i64 (l : Int), .int .i64 0, .slice aN nN cN, .slice aM nM cM]) :: (22, .slice aN nN cN, mvs.map (·.1)) :: (3, .slice aM nM cM, vals Ms) :: (3, .slice (some ⟨gn, 0, none⟩) K K, vals (numL K xs)) :: (3, .slice aS xs.length cS, vals (natInts xs)) :: (D ++ rowItems mvs))
  old : W1.grownBy w none
section
variable {K bo l : Nat} {W1 w : World} {aN : Option Addr} {nN cN : Nat} {aM : Option Addr} {nM cM gn : Nat} {aS : Option Addr} {cS : Nat} {xs : List Nat} {mvs : List (Value × List Int)} {Ms : List Int} {D : List Item}
theorem MdAt.kept {w' : World} (h : MdAt K bo l W1 w aN nN cN aM nM cM gn aS cS xs mvs Ms D) (hg : w.grownBy w' none) : MdAt K bo l W1 w' aN nN cN aM nM cM gn aS cS xs mvs Ms D := ⟨h.own.kept hg, grown_trans h.old hg⟩
theorem MdAt.box (h : MdAt K bo l W1 w aN nN cN aM nM cM gn aS cS xs mvs Ms D) : w.cell? ⟨bo, 0, none⟩ = some (.int .i64 (l : Int)) ∧ w.cell? ⟨bo, 1, none⟩ = some (.int .i64 0) ∧ w.cell? ⟨bo, 2, none⟩ = some (.slice aN nN cN) ∧ w.cell? ⟨bo, 3, none⟩ = some (.slice aM nM cM) ∧ ∀ k, w.frozen? ⟨bo, k, none⟩ = false :=
  ⟨h.own.cell rfl, h.own.cell rfl, h.own.cell rfl, h.own.cell rfl, h.own.fz⟩
theorem MdAt.num (h : MdAt K bo l W1 w aN nN cN aM nM cM gn aS cS xs mvs Ms D) {y : Nat} (hy : y < K) : w.cell? ⟨gn, y, none⟩ = some (.int .i64 (if y ∈ xs then ((ix id xs y : Nat) : Int) else -1)) ∧ w.frozen? ⟨gn, y, none⟩ = false :=
  ⟨(at_4 h.own).cell (numL_get hy), (at_4 h.own).fz y⟩
theorem MdAt.set (h : MdAt K bo l W1 w aN nN cN aM nM cM gn aS cS xs mvs Ms D) {i : Nat} (hi : i < xs.length) : ∃ gS, aS = some ⟨gS, 0, none⟩ ∧ w.cell? ⟨gS, i, none⟩ = some (.int .i64 ((xs.getD i 0 : Nat) : Int)) := by
  have h5 := at_5 h.own
  obtain ⟨g, c, e, _⟩ := h5.form (by simp [vals]; omega)
  simp only [Value.slice.injEq] at e
  obtain ⟨rfl, _, rfl⟩ := e
  exact ⟨g, rfl, h5.cell (natInts_get hi)⟩
theorem MdAt.bare (h : MdAt K bo l W1 w aN nN cN aM nM cM gn aS cS xs mvs Ms []) : MdAt K bo l W1 w aN nN cN aM nM cM gn aS cS xs mvs Ms [(3, .slice none 0 0, vals [])] := ⟨to_6 (h.own.empty 3), h.old⟩
theorem to6 {B : Nat} {w : World} {x1 x2 x3 x4 x5 x6 : Item} {r : List Item} (h : Owns B w (x6 :: x1 :: x2 :: x3 :: x4 :: x5 :: r)) : Owns B w (x1 :: x2 :: x3 :: x4 :: x5 :: x6 :: r) := to_6 h
/-- A new set is given its number, then put behind. -/
theorem MdAt.push {y H : Nat} (h : MdAt K bo l W1 w aN nN cN aM nM cM gn aS cS xs mvs Ms D) (hy : y < K) (hn : y ∉ xs) (hl : xs.length ≤ 100000000) (hH : w.heap.size = H) :
    ∃ g cap w', (AppS #[22, 22] 22 #[.slice aS xs.length cS, .slice (some ⟨H, 0, none⟩) 1 1]).run Tryd.prog ((w.setCell ⟨gn, y, none⟩ (.int .i64 (xs.length : Int))).alloc (.cells #[.int .i64 (y : Int)] 3)) = .ok (.slice (some ⟨g, 0, none⟩) (xs.length + 1) cap) w' ∧
      MdAt K bo l W1 w' aN nN cN aM nM cM gn (some ⟨g, 0, none⟩) cap (xs ++ [y]) mvs Ms D := by
  have h4 := (at_4 h.own).set hy (.int .i64 (xs.length : Int))
  rw [vals_set, numL_snoc hy hn] at h4
  have h1 := to_4 h4
  have hs : (w.setCell ⟨gn, y, none⟩ (.int .i64 (xs.length : Int))).heap.size = w.heap.size := by simp [World.setCell]
  have old1 : W1.grownBy (w.setCell ⟨gn, y, none⟩ (.int .i64 (xs.length : Int))) none := grown_new h.old (grown_set _ _ _) (at_4 h.own).ge.1
  obtain ⟨g, cap, w', hr, ho, hk⟩ := push_int (at_5 h1) (by rw [hs]; exact h.old.size) (hs.trans hH) (by simpa using hl) (y : Int)
  refine ⟨g, cap, w', hr, ⟨?_, hk W1 (Nat.le_refl _) old1⟩⟩
  have h5 := to_5 ho
  have e1 : natInts xs ++ [(y : Int)] = natInts (xs ++ [y]) := by simp [natInts]
  rw [e1] at h5
  rw [List.length_append]
  exact h5
/-- A number is put behind the row that is being made. -/
theorem MdAt.putI {ag : Option Addr} {n c H : Nat} {zs : List Int} (h : MdAt K bo l W1 w aN nN cN aM nM cM gn aS cS xs mvs Ms [(3, .slice ag n c, vals zs)]) (hH : w.heap.size = H) (hl : zs.length ≤ 100000000) (x : Int) :
    ∃ g cap w', (AppS #[22, 22] 22 #[.slice ag n c, .slice (some ⟨H, 0, none⟩) 1 1]).run Tryd.prog (w.alloc (.cells #[.int .i64 x] 3)) = .ok (.slice (some ⟨g, 0, none⟩) (n + 1) cap) w' ∧
      MdAt K bo l W1 w' aN nN cN aM nM cM gn aS cS xs mvs Ms [(3, .slice (some ⟨g, 0, none⟩) (n + 1) cap, vals (zs ++ [x]))] := by
  obtain ⟨g, cap, w', hr, ho, hk⟩ := push_int (at_6 h.own) h.old.size hH hl x
  exact ⟨g, cap, w', hr, ⟨to_6 ho, hk W1 (Nat.le_refl _) h.old⟩⟩
/-- The row is put behind the rows. -/
theorem MdAt.putR {g n c H : Nat} {zs : List Int} (h : MdAt K bo l W1 w aN nN cN aM nM cM gn aS cS xs mvs Ms [(3, .slice (some ⟨g, 0, none⟩) n c, vals zs)]) (hH : w.heap.size = H) (hl : mvs.length ≤ 100000000) :
    ∃ g' cap w', (AppS #[23, 23] 23 #[.slice aN nN cN, .slice (some ⟨H, 0, none⟩) 1 1]).run Tryd.prog (w.alloc (.cells #[.slice (some ⟨g, 0, none⟩) n c] 22)) = .ok (.slice (some ⟨g', 0, none⟩) (nN + 1) cap) w' ∧ w'.cell? ⟨bo, 2, none⟩ = some (.slice aN nN cN) ∧ w'.frozen? ⟨bo, 2, none⟩ = false ∧
      MdAt K bo l W1 (w'.setCell ⟨bo, 2, none⟩ (.slice (some ⟨g', 0, none⟩) (nN + 1) cap)) (some ⟨g', 0, none⟩) (nN + 1) cap aM nM cM gn aS cS xs (mvs ++ [(.slice (some ⟨g, 0, none⟩) n c, zs)]) Ms [] := by
  obtain ⟨g', cap, w', hr, ho, hk⟩ := push_row (at_2 h.own) h.old.size hH (by simpa using hl) (some ⟨g, 0, none⟩) n c
  have h2 := to_2 ho
  refine ⟨g', cap, w', hr, h2.cell rfl, h2.fz 2, ⟨?_, (hk.set h2.ge.1 _ _) W1 (Nat.le_refl _) h.old⟩⟩
  have h3 := h2.set (i := 2) (by decide) (.slice (some ⟨g', 0, none⟩) (nN + 1) cap)
  refine h3.perm ?_
  simp only [List.map_append, List.map_cons, List.map_nil, List.nil_append]
  refine List.Perm.cons _ (List.Perm.cons _ (List.Perm.cons _ (List.Perm.cons _ (List.Perm.cons _ ?_))))
  exact List.perm_append_comm (l₁ := [(3, .slice (some ⟨g, 0, none⟩) n c, vals zs)]) (l₂ := rowItems mvs)
/-- The mark is put behind the marks. -/
theorem MdAt.putM {H : Nat} (h : MdAt K bo l W1 w aN nN cN aM nM cM gn aS cS xs mvs Ms D) (hH : w.heap.size = H) (hl : Ms.length ≤ 100000000) (x : Int) :
    ∃ g cap w', (AppS #[22, 22] 22 #[.slice aM nM cM, .slice (some ⟨H, 0, none⟩) 1 1]).run Tryd.prog (w.alloc (.cells #[.int .i64 x] 3)) = .ok (.slice (some ⟨g, 0, none⟩) (nM + 1) cap) w' ∧ w'.cell? ⟨bo, 3, none⟩ = some (.slice aM nM cM) ∧ w'.frozen? ⟨bo, 3, none⟩ = false ∧
      MdAt K bo l W1 (w'.setCell ⟨bo, 3, none⟩ (.slice (some ⟨g, 0, none⟩) (nM + 1) cap)) aN nN cN (some ⟨g, 0, none⟩) (nM + 1) cap gn aS cS xs mvs (Ms ++ [x]) D := by
  obtain ⟨g, cap, w', hr, ho, hk⟩ := push_int (at_3 h.own) h.old.size hH hl x
  have h2 := to_3 ho
  exact ⟨g, cap, w', hr, h2.cell rfl, h2.fz 3, ⟨h2.set (i := 3) (by decide) _, (hk.set h2.ge.1 _ _) W1 (Nat.le_refl _) h.old⟩⟩
/-- The automaton lies there. -/
theorem MdAt.whole (h : MdAt K bo l W1 w aN nN cN aM nM cM gn aS cS xs mvs Ms []) (hm : ∀ x, x ∈ mvs → x.2.length ≤ maxLen) (hR : mvs.length ≤ maxLen) (hM : Ms.length ≤ maxLen) : DetAt w ⟨l, 0, mvs.map (·.2), Ms⟩ aN aM := by
  refine det_of_owns (L := (l : Int)) (S := 0) (nR := nN) (nM := nM) (cR := cN) (cM := cM) (its := [(25, .slice (some ⟨bo, 0, none⟩) 4 4, [.int .i64 (l : Int), .int .i64 0, .slice aN nN cN, .slice aM nM cM]), (3, .slice (some ⟨gn, 0, none⟩) K K, vals (numL K xs)), (3, .slice aS xs.length cS, vals (natInts xs))]) (h.own.perm ?_) hm hR hM
  rw [List.nil_append]
  refine (List.perm_middle (l₁ := [_]) (a := (22, Value.slice aN nN cN, mvs.map (·.1)))).trans ?_
  refine List.Perm.cons _ ((List.perm_middle (l₁ := [_]) (a := (3, Value.slice aM nM cM, vals Ms))).trans (List.Perm.cons _ ?_))
  exact List.perm_append_comm (l₁ := [(25, Value.slice (some ⟨bo, 0, none⟩) 4 4, [Value.int .i64 (l : Int), .int .i64 0, .slice aN nN cN, .slice aM nM cM]), (3, .slice (some ⟨gn, 0, none⟩) K K, vals (numL K xs)), (3, .slice aS xs.length cS, vals (natInts xs))])
end

/-- The numbers, of which k are -1 already. -/
def filL (K k : Nat) : List Int := List.replicate k (-1) ++ List.replicate (K - k) 0
theorem filL_len {K k : Nat} (hk : k ≤ K) : (filL K k).length = K := by simp only [filL, List.length_append, List.length_replicate]; omega
theorem filL_set {K k : Nat} (hk : k < K) : (filL K k).set k (-1) = filL K (k + 1) := by
  unfold filL
  rw [List.set_append_right _ _ (by simp)]
  simp only [List.length_replicate, Nat.sub_self]
  rw [show K - k = (K - (k + 1)) + 1 by omega, List.replicate_succ, List.set_cons_zero, List.replicate_succ' (n := k), List.append_assoc]
  rfl
theorem filL_end (K : Nat) : filL K K = List.replicate K (-1) := by unfold filL; rw [Nat.sub_self, List.replicate_zero, List.append_nil]
theorem filL_start (K : Nat) : filL K 0 = List.replicate K 0 := by unfold filL; rw [List.replicate_zero, List.nil_append, Nat.sub_zero]
theorem fil_make (K : Nat) (hK : K ≤ 4096) (w : World) : ∃ W, (Instr.makeSlice 22 (.int .i64 (K : Int)) (.int .i64 (K : Int))).run Tryd.prog w = .ok (.slice (some ⟨w.heap.size, 0, none⟩) K K) W ∧ Owns w.heap.size W [(3, .slice (some ⟨w.heap.size, 0, none⟩) K K, vals (filL K 0))] ∧ w.grownBy W none := by
  refine ⟨_, make_ints w K (by omega), ?_, grown_alloc _ _⟩
  have h1 := (Owns.no w.heap.size w).made (arr := Array.replicate K (Value.int .i64 0)) (n := K) (Nat.le_refl _) 3 Array.size_replicate (by unfold maxLen; omega)
  have e : (Array.replicate K (Value.int .i64 0)).toList = vals (filL K 0) := by rw [filL_start, Array.toList_replicate]; unfold vals; rw [List.map_replicate]
  rw [e] at h1
  exact h1
theorem fil_step {K B : Nat} {w : World} {g k : Nat} (h : Owns B w [(3, .slice (some ⟨g, 0, none⟩) K K, vals (filL K k))]) (hk : k < K) :
    (∃ u, w.cell? ⟨g, k, none⟩ = some (.int .i64 u)) ∧ w.frozen? ⟨g, k, none⟩ = false ∧ B ≤ g ∧ Owns B (w.setCell ⟨g, k, none⟩ (.int .i64 (-1))) [(3, .slice (some ⟨g, 0, none⟩) K K, vals (filL K (k + 1)))] := by
  have h1 := h.set hk (.int .i64 (-1))
  rw [vals_set, filL_set hk] at h1
  exact ⟨⟨_, h.cell (vals_get (by rw [filL_len (by omega)]; exact hk))⟩, h.fz k, h.ge.1, h1⟩
/-- How it begins: the first set is put into the row, then given its number, then the box is made. -/
theorem MdAt.begin {K : Nat} {W2 w3 : World} {g s l H : Nat} (h : Owns W2.heap.size w3 [(3, .slice (some ⟨g, 0, none⟩) K K, vals (filL K K))]) (hg : W2.grownBy w3 none) (hs : s < K) (hH : w3.heap.size = H) :
    ∃ gS cap w', (AppS #[22, 22] 22 #[.slice none 0 0, .slice (some ⟨H, 0, none⟩) 1 1]).run Tryd.prog (w3.alloc (.cells #[.int .i64 (s : Int)] 3)) = .ok (.slice (some ⟨gS, 0, none⟩) 1 cap) w' ∧
      w'.cell? ⟨gS, 0, none⟩ = some (.int .i64 (s : Int)) ∧ (∃ u, w'.cell? ⟨g, s, none⟩ = some (.int .i64 u)) ∧ w'.frozen? ⟨g, s, none⟩ = false ∧ W2.grownBy (w'.setCell ⟨g, s, none⟩ (.int .i64 0)) none ∧
      MdAt K (w'.heap.size) l W2 ((w'.setCell ⟨g, s, none⟩ (.int .i64 0)).alloc (.cells #[.int .i64 (l : Int), .int .i64 0, .slice none 0 0, .slice none 0 0] 25)) none 0 0 none 0 0 g (some ⟨gS, 0, none⟩) cap [s] [] [] [] := by
  have h0 := h.empty 3
  obtain ⟨gS, cap, w', hr, ho, hk⟩ := push_int (F := []) h0 hg.size hH (by simp) (s : Int)
  have old1 : W2.grownBy w' none := hk W2 (Nat.le_refl _) hg
  have ho' : Owns W2.heap.size w' ((3, .slice (some ⟨gS, 0, none⟩) 1 cap, vals [(s : Int)]) :: [(3, .slice (some ⟨g, 0, none⟩) K K, vals (filL K K))]) := ho
  have h1 := (at_2 ho').set hs (.int .i64 0)
  have e1 : (filL K K).set s 0 = numL K [s] := by rw [filL_end]; exact numL_one s hs
  rw [vals_set, e1] at h1
  have hsz : (w'.setCell ⟨g, s, none⟩ (.int .i64 0)).heap.size = w'.heap.size := by simp [World.setCell]
  have g1 : W2.grownBy (w'.setCell ⟨g, s, none⟩ (.int .i64 0)) none := grown_new old1 (grown_set _ _ _) (at_2 ho').ge.1
  have h3 := (h1.empty 3).empty 22
  have h4 := h3.made (arr := #[.int .i64 (l : Int), .int .i64 0, .slice none 0 0, .slice none 0 0]) (n := 4) g1.size 25 rfl (by unfold maxLen; omega)
  rw [hsz] at h4
  exact ⟨gS, cap, w', hr, ho'.cell rfl, ⟨_, (at_2 ho').cell (vals_get (by rw [filL_len (Nat.le_refl _)]; exact hs))⟩, (at_2 ho').fz s, g1, ⟨h4, grown_trans g1 (grown_alloc _ _)⟩⟩

/-- The first numbers of a row. -/
def nxRow (δ : Nat → Nat → Nat) (ys : List Nat) (x a : Nat) : List Int := (List.range a).map fun b => ((ix id ys (δ x b) : Nat) : Int)
theorem nxRow_len (δ : Nat → Nat → Nat) (ys : List Nat) (x a : Nat) : (nxRow δ ys x a).length = a := by simp [nxRow]
theorem nxRow_snoc (δ : Nat → Nat → Nat) (ys : List Nat) (x a : Nat) : nxRow δ ys x a ++ [((ix id ys (δ x a) : Nat) : Int)] = nxRow δ ys x (a + 1) := by simp [nxRow, List.range_succ]
theorem nxRow_more {δ : Nat → Nat → Nat} {xs : List Nat} {x a y : Nat} (ha : ∀ b, b < a → hasK id xs (δ x b)) : nxRow δ xs x a = nxRow δ (xs ++ [y]) x a := by
  unfold nxRow
  refine List.map_congr_left fun b hb => ?_
  rw [ix_append (ha b (List.mem_range.1 hb))]

end Go.Proofs.YtkkmdcnbifepjaaDoor
