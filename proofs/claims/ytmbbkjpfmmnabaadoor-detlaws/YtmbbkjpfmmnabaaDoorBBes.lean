/- det.beside: two automata beside one another. -/
import Derived.Test.YtmbbkjpfmmnabaaDoorRLeast
import Derived.Test.YtmbbkjpfmmnabaaDoorDFit
namespace Go.Proofs.YtmbbkjpfmmnabaaDoor
open Go.RowKit
set_option linter.unusedVariables false
attribute [local go_sem ↓] app_fold

theorem Tryd.infoInts : (Tryd.prog.info? 22).map (fun i => (i.zero, i.size, i.bytes)) = some (some (.slice none 0 0), 1, 24) := by kernel_rfl
/-- Many are put behind. -/
theorem push_many {B : Nat} {w : World} {its : List Item} {aF : Option Addr} {cF nF : Nat} {F : List Value} (T e : TypeId) (z : Value) (by_ : Nat) (hT : Tryd.prog.underlying T = some (.slice e)) (hI : (Tryd.prog.info? e).map (fun i => (i.zero, i.size, i.bytes)) = some (some z, 1, by_)) (hz : z.cells.size = 1) (hby : by_ ≤ 24)
    (h : Owns B w ((e, .slice aF nF cF, F) :: its)) (hB : B ≤ w.heap.size) (b off m c : Nat) (news : List Value) (hl : news.length = m) (hnews : ∀ j u, news[j]? = some u → w.cell? ⟨b, off + j, none⟩ = some u) (h1 : ∀ u ∈ news, u.oneCell' = true) (hm : 0 < m) (hlen : F.length + m ≤ 1000000) :
    ∃ g cap w', (AppS #[T, T] T #[.slice aF nF cF, .slice (some ⟨b, off, none⟩) m c]).run Tryd.prog w = .ok (.slice (some ⟨g, 0, none⟩) (nF + m) cap) w' ∧
      Owns B w' ((e, .slice (some ⟨g, 0, none⟩) (nF + m) cap, F ++ news) :: its) ∧ Keeps B w w' := by
  have hn := h.len
  subst hn
  obtain ⟨i0, hio, hz0, hz1, hz2⟩ := info_parts hI
  have hr := h.row
  have hbytes : (F.length + m) * by_ ≤ 140737488355328 := by
    have := Nat.mul_le_mul hlen hby
    omega
  obtain ⟨g', cap, w5, hrun, ho5, hg5, hat5, hlt5⟩ := run_append_lies (P := Tryd.prog) w T T B e i0 z 1 by_ hT hio hz0 hz1 hz2 hz (by decide) (.slice aF F.length cF) F.length F hr ⟨b, off, none⟩ m c news (by rw [hl, Nat.mul_one]) (fun j u hu => by rw [add_off]; exact hnews j u hu) h1 hm (by unfold maxLen; omega) hbytes hB _ rfl
  exact ⟨g', cap, w5, hrun, h.append ho5 (by rw [hl]) hg5 hat5 rfl, Keeps.first h hg5⟩

/-- Two under way. -/
structure BsAt (bo l : Nat) (S : Int) (W1 w : World) (aN : Option Addr) (nN cN : Nat) (aM : Option Addr) (nM cM : Nat) (F : List Value) (Ms : List Int) (mvs : List (Value × List Int)) (D : List Item) : Prop where
  own : Owns W1.heap.size w ((25, .slice (some ⟨bo, 0, none⟩) 4 4, [.int .i64 (l : Int), .int .i64 S, .slice aN nN cN, .slice aM nM cM]) :: (22, .slice aN nN cN, F) :: (3, .slice aM nM cM, vals Ms) :: (D ++ rowItems mvs))
  old : W1.grownBy w none
section
variable {bo l : Nat} {S : Int} {W1 w : World} {aN : Option Addr} {nN cN : Nat} {aM : Option Addr} {nM cM : Nat} {F : List Value} {Ms : List Int} {mvs : List (Value × List Int)} {D : List Item}
theorem BsAt.kept {w' : World} (h : BsAt bo l S W1 w aN nN cN aM nM cM F Ms mvs D) (hg : w.grownBy w' none) : BsAt bo l S W1 w' aN nN cN aM nM cM F Ms mvs D := ⟨h.own.kept hg, grown_trans h.old hg⟩
theorem BsAt.box (h : BsAt bo l S W1 w aN nN cN aM nM cM F Ms mvs D) : w.cell? ⟨bo, 0, none⟩ = some (.int .i64 (l : Int)) ∧ w.cell? ⟨bo, 1, none⟩ = some (.int .i64 S) ∧ w.cell? ⟨bo, 2, none⟩ = some (.slice aN nN cN) ∧ w.cell? ⟨bo, 3, none⟩ = some (.slice aM nM cM) ∧ ∀ k, w.frozen? ⟨bo, k, none⟩ = false :=
  ⟨h.own.cell rfl, h.own.cell rfl, h.own.cell rfl, h.own.cell rfl, h.own.fz⟩
theorem BsAt.manyN (h : BsAt bo l S W1 w aN nN cN aM nM cM F Ms mvs D) (b off m c : Nat) (news : List Value) (hl : news.length = m) (hnews : ∀ j u, news[j]? = some u → w.cell? ⟨b, off + j, none⟩ = some u) (h1 : ∀ u ∈ news, u.oneCell' = true) (hm : 0 < m) (hlen : F.length + m ≤ 1000000) :
    ∃ g cap w', (AppS #[23, 23] 23 #[.slice aN nN cN, .slice (some ⟨b, off, none⟩) m c]).run Tryd.prog w = .ok (.slice (some ⟨g, 0, none⟩) (nN + m) cap) w' ∧ w'.cell? ⟨bo, 2, none⟩ = some (.slice aN nN cN) ∧ w'.frozen? ⟨bo, 2, none⟩ = false ∧
      BsAt bo l S W1 (w'.setCell ⟨bo, 2, none⟩ (.slice (some ⟨g, 0, none⟩) (nN + m) cap)) (some ⟨g, 0, none⟩) (nN + m) cap aM nM cM (F ++ news) Ms mvs D := by
  obtain ⟨g, cap, w', hr, ho, hk⟩ := push_many 23 22 (.slice none 0 0) 24 Tryd.underlying23 Tryd.infoInts rfl (Nat.le_refl _) (at_2 h.own) h.old.size b off m c news hl hnews h1 hm hlen
  have h2 := to_2 ho
  exact ⟨g, cap, w', hr, h2.cell rfl, h2.fz 2, ⟨h2.set (i := 2) (by decide) _, (hk.set h2.ge.1 _ _) W1 (Nat.le_refl _) h.old⟩⟩
theorem BsAt.manyM (h : BsAt bo l S W1 w aN nN cN aM nM cM F Ms mvs D) (b off c : Nat) (zs : List Int) (hz : ∀ i, i < zs.length → w.cell? ⟨b, off + i, none⟩ = some (.int .i64 (zs.getD i 0))) (hm : 0 < zs.length) (hlen : Ms.length + zs.length ≤ 1000000) :
    ∃ g cap w', (AppS #[22, 22] 22 #[.slice aM nM cM, .slice (some ⟨b, off, none⟩) zs.length c]).run Tryd.prog w = .ok (.slice (some ⟨g, 0, none⟩) (nM + zs.length) cap) w' ∧ w'.cell? ⟨bo, 3, none⟩ = some (.slice aM nM cM) ∧ w'.frozen? ⟨bo, 3, none⟩ = false ∧
      BsAt bo l S W1 (w'.setCell ⟨bo, 3, none⟩ (.slice (some ⟨g, 0, none⟩) (nM + zs.length) cap)) aN nN cN (some ⟨g, 0, none⟩) (nM + zs.length) cap F (Ms ++ zs) mvs D := by
  obtain ⟨g, cap, w', hr, ho, hk⟩ := push_many 22 3 (.int .i64 0) 8 Tryd.underlying22 Tryd.info3i rfl (by omega) (at_3 h.own) h.old.size b off zs.length c (vals zs) (vals_len _) (fun j u hu => by
    have hj : j < zs.length := by have := (List.getElem?_eq_some_iff.1 hu).1; rwa [vals_len] at this
    rw [vals_get hj] at hu
    exact (hz j hj).trans hu) (by intro u hu; simp only [vals, List.mem_map] at hu; obtain ⟨x, _, rfl⟩ := hu; rfl) hm (by rw [vals_len]; exact hlen)
  have h2 := to_3 ho
  have e : vals Ms ++ vals zs = vals (Ms ++ zs) := by simp [vals]
  rw [e] at h2
  exact ⟨g, cap, w', hr, h2.cell rfl, h2.fz 3, ⟨h2.set (i := 3) (by decide) _, (hk.set h2.ge.1 _ _) W1 (Nat.le_refl _) h.old⟩⟩
theorem BsAt.row (h : BsAt bo l S W1 w aN nN cN aM nM cM F Ms mvs []) (n : Nat) (hn : n ≤ 4) : ∃ W, (Instr.makeSlice 22 (.int .i64 (n : Int)) (.int .i64 (n : Int))).run Tryd.prog w = .ok (.slice (some ⟨w.heap.size, 0, none⟩) n n) W ∧
    BsAt bo l S W1 W aN nN cN aM nM cM F Ms mvs [(3, .slice (some ⟨w.heap.size, 0, none⟩) n n, vals (List.replicate n 0))] ∧ w.grownBy W none := by
  refine ⟨_, make_ints w n (by omega), ⟨?_, grown_trans h.old (grown_alloc _ _)⟩, grown_alloc _ _⟩
  have h2 := h.own.made (arr := Array.replicate n (Value.int .i64 0)) (n := n) h.old.size 3 (by simp) (by unfold maxLen; omega)
  rw [vals_zero] at h2
  exact to_4 h2
theorem BsAt.write {g n x : Nat} {zs : List Int} (h : BsAt bo l S W1 w aN nN cN aM nM cM F Ms mvs [(3, .slice (some ⟨g, 0, none⟩) n n, vals zs)]) (hx : x < n) (v : Int) :
    (∃ u, w.cell? ⟨g, x, none⟩ = some (.int .i64 u)) ∧ w.frozen? ⟨g, x, none⟩ = false ∧ BsAt bo l S W1 (w.setCell ⟨g, x, none⟩ (.int .i64 v)) aN nN cN aM nM cM F Ms mvs [(3, .slice (some ⟨g, 0, none⟩) n n, vals (zs.set x v))] := by
  have h4 := at_4 h.own
  have hlen : n = zs.length := by have := h4.len; rwa [vals_len] at this
  have h5 := h4.set hx (.int .i64 v)
  rw [vals_set] at h5
  exact ⟨⟨_, h4.cell (vals_get (i := x) (by omega))⟩, h4.fz x, ⟨to_4 h5, grown_new h.old (grown_set _ _ _) h4.ge.1⟩⟩
theorem BsAt.putR {g n c H : Nat} {zs : List Int} (h : BsAt bo l S W1 w aN nN cN aM nM cM F Ms mvs [(3, .slice (some ⟨g, 0, none⟩) n c, vals zs)]) (hH : w.heap.size = H) (hl : F.length ≤ 100000000) :
    ∃ g' cap w', (AppS #[23, 23] 23 #[.slice aN nN cN, .slice (some ⟨H, 0, none⟩) 1 1]).run Tryd.prog (w.alloc (.cells #[.slice (some ⟨g, 0, none⟩) n c] 22)) = .ok (.slice (some ⟨g', 0, none⟩) (nN + 1) cap) w' ∧ w'.cell? ⟨bo, 2, none⟩ = some (.slice aN nN cN) ∧ w'.frozen? ⟨bo, 2, none⟩ = false ∧
      BsAt bo l S W1 (w'.setCell ⟨bo, 2, none⟩ (.slice (some ⟨g', 0, none⟩) (nN + 1) cap)) (some ⟨g', 0, none⟩) (nN + 1) cap aM nM cM (F ++ [.slice (some ⟨g, 0, none⟩) n c]) Ms (mvs ++ [(.slice (some ⟨g, 0, none⟩) n c, zs)]) [] := by
  obtain ⟨g', cap, w', hr, ho, hk⟩ := push_row (at_2 h.own) h.old.size hH hl (some ⟨g, 0, none⟩) n c
  have h2 := to_2 ho
  refine ⟨g', cap, w', hr, h2.cell rfl, h2.fz 2, ⟨?_, (hk.set h2.ge.1 _ _) W1 (Nat.le_refl _) h.old⟩⟩
  have h3 := h2.set (i := 2) (by decide) (.slice (some ⟨g', 0, none⟩) (nN + 1) cap)
  refine h3.perm ?_
  simp only [List.map_append, List.map_cons, List.map_nil, List.nil_append]
  refine List.Perm.cons _ (List.Perm.cons _ (List.Perm.cons _ ?_))
  exact List.perm_append_comm (l₁ := [(3, .slice (some ⟨g, 0, none⟩) n c, vals zs)]) (l₂ := rowItems mvs)
end

/-- Two automata beside one another: the states of the second come behind those of the first. -/
def besR (R R' : List (List Int)) : List (List Int) := R ++ R'.map fun r => r.map fun x => (R.length : Int) + x
theorem besR_len (R R' : List (List Int)) : (besR R R').length = R.length + R'.length := by simp [besR]
theorem besR_fst {R R' : List (List Int)} {i : Nat} (h : i < R.length) : (besR R R').getD i [] = R.getD i [] := by
  simp only [besR, List.getD]
  rw [List.getElem?_append_left h]
theorem besR_snd {R R' : List (List Int)} {i : Nat} (h : i < R'.length) : (besR R R').getD (R.length + i) [] = (R'.getD i []).map fun x => (R.length : Int) + x := by simp [besR, List.getD, h]
theorem bes_fit {l : Nat} {S S' S2 : Int} {R R' : List (List Int)} {M M' : List Int} (hG : Good ⟨l, S, R, M⟩) (hG2 : Good ⟨l, S', R', M'⟩) : Fit ⟨l, S2, besR R R', M ++ M'⟩ := by
  have m1 : M.length = R.length := hG.ml
  have m2 : M'.length = R'.length := hG2.ml
  have n1 : R.length ≤ 3000 := hG.n3
  have n2 : R'.length ≤ 3000 := hG2.n3
  have n0 : 1 ≤ R.length := hG.n1
  have hl := besR_len R R'
  have key : ∀ i, i < R.length + R'.length → i < R.length ∨ ∃ j, j < R'.length ∧ i = R.length + j := fun i hi => by
    rcases Nat.lt_or_ge i R.length with h | h
    · exact .inl h
    · exact .inr ⟨i - R.length, by omega, by omega⟩
  refine ⟨hG.l1, hG.l4, by simp only; omega, by simp only; omega, by simp only [List.length_append]; omega, fun i hi => ?_, fun i hi x hx => ?_, fun i hi => ?_⟩
  · simp only at hi ⊢
    rw [hl] at hi
    rcases key i hi with h | ⟨j, hj, rfl⟩
    · rw [besR_fst h]; exact hG.rl i h
    · rw [besR_snd hj, List.length_map]; exact hG2.rl j hj
  · simp only at hi hx ⊢
    rw [hl] at hi ⊢
    rcases key i hi with h | ⟨j, hj, rfl⟩
    · rw [besR_fst h] at hx ⊢
      have := hG.r i h x hx
      simp only at this
      omega
    · rw [besR_snd hj] at hx ⊢
      rw [List.length_map] at hx
      have := hG2.r j hj x hx
      simp only at this
      have e : ((R'.getD j []).map fun x => (R.length : Int) + x).getD x 0 = (R.length : Int) + (R'.getD j []).getD x 0 := by
        simp only [List.getD, List.getElem?_map]
        rw [List.getElem?_eq_getElem (by simpa [List.getD] using hx)]
        rfl
      rw [e]
      omega
  · simp only [List.length_append] at hi ⊢
    rcases Nat.lt_or_ge i M.length with h | h
    · have := hG.m i h
      simp only [List.getD, List.getElem?_append_left h]
      exact this
    · have := hG2.m (i - M.length) (by simp only; omega)
      simp only [List.getD, List.getElem?_append_right h]
      exact this

theorem row_writeI {l a : Nat} {F : Nat → Int} (ha : a < l) : ((List.range l).map fun b => if b < a then F b else 0).set a (F a) = (List.range l).map fun b => if b < a + 1 then F b else 0 := by
  apply List.ext_getElem (by simp)
  intro i h1 h2
  simp at h2
  rw [List.getElem_set]
  simp only [List.getElem_map, List.getElem_range]
  by_cases e : a = i
  · subst e; simp
  · rw [if_neg e]
    by_cases h3 : i < a
    · rw [if_pos h3, if_pos (by omega)]
    · rw [if_neg h3, if_neg (by omega)]
def BesPost (l : Nat) (S : Int) (R : List (List Int)) (M : List Int) (w : World) (E : Ending) (w' : World) : Prop :=
  ∃ (aN : Option Addr) (cN : Nat) (aM : Option Addr) (cM : Nat), E = .returned (.agg #[.int .i64 (l : Int), .int .i64 S, .slice aN R.length cN, .slice aM M.length cM]) ∧ DetAt w' ⟨l, S, R, M⟩ aN aM ∧ w.grownBy w' none
/-- The rows of the second, moved. -/
def movR (n : Nat) (r : List Int) : List Int := r.map fun x => (n : Int) + x

set_option maxHeartbeats 1600000 in
set_option maxRecDepth 100000 in
theorem beside_any (S S' : Int) (l : Nat) (R R' : List (List Int)) (M M' : List Int) (a a' e e' : Option Addr) (c c' f f' : Nat) (w : World) (h : DetAt w ⟨l, S, R, M⟩ a a') (hG : Good ⟨l, S, R, M⟩) (h2 : DetAt w ⟨l, S', R', M'⟩ e e') (hG2 : Good ⟨l, S', R', M'⟩) :
    Calls Tryd.prog 40 #[.agg #[.int .i64 l, .int .i64 S, .slice a R.length c, .slice a' M.length c'], .agg #[.int .i64 l, .int .i64 S', .slice e R'.length f, .slice e' M'.length f']] w (BesPost l S (besR R R') (M ++ M') w) := by
  have hl1 : 1 ≤ l := by have := hG.l1; simp only at this; omega
  have hl4 : l ≤ 4 := by have := hG.l4; simp only at this; omega
  have hn1 : 1 ≤ R.length := hG.n1
  have hn3 : R.length ≤ 3000 := hG.n3
  have hk1 : 1 ≤ R'.length := hG2.n1
  have hk3 : R'.length ≤ 3000 := hG2.n3
  have hml : M.length = R.length := hG.ml
  have hml' : M'.length = R'.length := hG2.ml
  obtain ⟨ba, oa, rfl, hrows⟩ := h.rows.at (k := 0) (by simp only; omega)
  obtain ⟨be, oe, rfl, hrows'⟩ := h2.rows.at (k := 0) (by simp only; omega)
  obtain ⟨bm, om, rfl, hmk⟩ := h.marks.at (k := 0) (by simp only; omega)
  obtain ⟨bm', om', rfl, hmk'⟩ := h2.marks.at (k := 0) (by simp only; omega)
  simp only at hrows hrows' hmk hmk'
  obtain ⟨vs, hvs⟩ : ∃ vs : List Value, vs = (List.range R.length).map fun i => (w.cell? ⟨ba, oa + i, none⟩).getD (.bool false) := ⟨_, rfl⟩
  have hvl : vs.length = R.length := by rw [hvs]; simp
  have hvg : ∀ i, i < R.length → ∃ x cx, vs[i]? = some (.slice x (R.getD i []).length cx) ∧ w.cell? ⟨ba, oa + i, none⟩ = some (.slice x (R.getD i []).length cx) ∧ Ints w x (R.getD i []) := fun i hi => by
    obtain ⟨x, cx, h1, h3, _⟩ := hrows i hi
    exact ⟨x, cx, by rw [hvs]; simp [hi, h1], h1, h3⟩
  have HV : Hid (∀ i, i < R.length → ∃ x cx, vs[i]? = some (.slice x (R.getD i []).length cx) ∧ w.cell? ⟨ba, oa + i, none⟩ = some (.slice x (R.getD i []).length cx) ∧ Ints w x (R.getD i [])) := hvg
  obtain ⟨W1, hW1⟩ : ∃ W1, W1 = ((w.alloc (.cells #[.int .i64 l, .int .i64 S, .slice (some ⟨ba, oa, none⟩) R.length c, .slice (some ⟨bm, om, none⟩) M.length c'] 25)).alloc (.cells #[.int .i64 l, .int .i64 S', .slice (some ⟨be, oe, none⟩) R'.length f, .slice (some ⟨bm', om', none⟩) M'.length f'] 25)).alloc (.cells #[.int .i64 0, .int .i64 0, .slice none 0 0, .slice none 0 0] 25) := ⟨_, rfl⟩
  have HS1 : Hid (W1.heap.size = w.heap.size + 1 + 1 + 1) := by show _ = _; rw [hW1]; simp
  have Box : Hid (∀ W, W1.grownBy W none → w.grownBy W none ∧ W.cell? ⟨w.heap.size, 2, none⟩ = some (.slice (some ⟨ba, oa, none⟩) R.length c) ∧ W.cell? ⟨w.heap.size, 3, none⟩ = some (.slice (some ⟨bm, om, none⟩) M.length c') ∧ W.cell? ⟨w.heap.size + 1, 2, none⟩ = some (.slice (some ⟨be, oe, none⟩) R'.length f) ∧ W.cell? ⟨w.heap.size + 1, 3, none⟩ = some (.slice (some ⟨bm', om', none⟩) M'.length f')) := fun W hW => by
    rw [hW1] at hW
    have h1 := grown_trans (grown_alloc _ _) hW
    have h3 := grown_trans (grown_alloc _ _) h1
    have b1 := box4 (w := w) h3
    have b2 := box4 h1
    rw [World.size_alloc] at b2
    exact ⟨grown_trans (grown_alloc _ _) h3, b1.2.2.1, b1.2.2.2, b2.2.2.1, b2.2.2.2⟩
  have HZ1 : Hid (∀ W, W1.grownBy W none → W.heap[w.heap.size + 1 + 1]? = some (.cells #[.int .i64 0, .int .i64 0, .slice none 0 0, .slice none 0 0] 25 (0, 0))) := fun W hW => by
    have h1 := heap_alloc_new ((w.alloc (.cells #[.int .i64 l, .int .i64 S, .slice (some ⟨ba, oa, none⟩) R.length c, .slice (some ⟨bm, om, none⟩) M.length c'] 25)).alloc (.cells #[.int .i64 l, .int .i64 S', .slice (some ⟨be, oe, none⟩) R'.length f, .slice (some ⟨bm', om', none⟩) M'.length f'] 25)) (.cells #[.int .i64 0, .int .i64 0, .slice none 0 0, .slice none 0 0] 25)
    rw [World.size_alloc, World.size_alloc, ← hW1] at h1
    exact (hW.block _ (by rw [HS1.out]; omega) (by simp)).trans h1
  obtain ⟨W2, hW2⟩ : ∃ W2, W2 = W1.alloc (.cells #[.int .i64 (l : Int), .int .i64 S, .slice none 0 0, .slice none 0 0] 25) := ⟨_, rfl⟩
  have HW2 : Hid (W2 = (((w.alloc (.cells #[.int .i64 l, .int .i64 S, .slice (some ⟨ba, oa, none⟩) R.length c, .slice (some ⟨bm, om, none⟩) M.length c'] 25)).alloc (.cells #[.int .i64 l, .int .i64 S', .slice (some ⟨be, oe, none⟩) R'.length f, .slice (some ⟨bm', om', none⟩) M'.length f'] 25)).alloc (.cells #[.int .i64 0, .int .i64 0, .slice none 0 0, .slice none 0 0] 25)).alloc (.cells #[.int .i64 (l : Int), .int .i64 S, .slice none 0 0, .slice none 0 0] 25)) := by show _ = _; rw [hW2, hW1]
  have A2 : BsAt (w.heap.size + 1 + 1 + 1) l S W1 W2 none 0 0 none 0 0 [] [] [] [] := by
    refine ⟨?_, by rw [hW2]; exact grown_alloc _ _⟩
    have o1 := (((Owns.no W1.heap.size W1).empty 3).empty 22).made (arr := #[.int .i64 (l : Int), .int .i64 S, .slice none 0 0, .slice none 0 0]) (n := 4) (Nat.le_refl _) 25 rfl (by unfold maxLen; omega)
    rw [← hW2, HS1.out] at o1
    rw [HS1.out]
    exact o1
  have g2 : w.grownBy W2 none := (Box.out _ A2.old).1
  obtain ⟨g3, c3, w3, run3, p3, z3, A3⟩ := A2.manyN ba oa R.length c vs hvl (fun j u hu => by
    have hj : j < R.length := by have := (List.getElem?_eq_some_iff.1 hu).1; rwa [hvl] at this
    obtain ⟨x, cx, h1, h3, _⟩ := hvg j hj
    rw [h1] at hu
    rw [← hu]
    exact g2.cell h3 (by simp)) (fun u hu => by
    obtain ⟨i, hi, rfl⟩ := List.getElem_of_mem hu
    obtain ⟨x, cx, h1, _⟩ := hvg i (by omega)
    rw [List.getElem?_eq_getElem hi] at h1
    rw [Option.some.inj h1]
    rfl) (by omega) (by simp; omega)
  have g3' := (Box.out _ A3.old).1
  obtain ⟨g4, c4, w4, run4, p4, z4, A4⟩ := A3.manyM bm om c' M (fun i hi => g3'.cell (hmk i hi) (by simp)) (by omega) (by simp; omega)
  have g4' := (Box.out _ A4.old).1
  obtain ⟨g5, c5, w5, run5, p5, z5, A5⟩ := A4.manyM bm' om' f' M' (fun i hi => g4'.cell (hmk' i hi) (by simp)) (by omega) (by simp; omega)
  simp only [Nat.zero_add] at run3 A3 run4 p4 A4 run5 p5 A5
  obtain ⟨_, x2, _, _, _⟩ := Box.out _ A2.old
  obtain ⟨_, _, y3, _, _⟩ := Box.out _ A3.old
  obtain ⟨_, _, _, _, y4⟩ := Box.out _ A4.old
  obtain ⟨_, _, _, y5, _⟩ := Box.out _ A5.old
  obtain ⟨_, _, o2, _, _⟩ := A2.box
  obtain ⟨_, _, _, o3, _⟩ := A3.box
  obtain ⟨_, _, _, o4, _⟩ := A4.box
  have A5' : Hid _ := A5
  have HML : Hid (M.length = R.length) := hml
  have HML' : Hid (M'.length = R'.length) := hml'
  rw [HW2.out] at run3 x2 o2
  have H2 : Hid (DetAt w ⟨l, S', R', M'⟩ (some ⟨be, oe, none⟩) (some ⟨bm', om', none⟩)) := h2
  have GD2 : Hid (Good ⟨l, S', R', M'⟩) := hG2
  have HVL : Hid (vs.length = R.length) := hvl
  have HGl : Hid (∀ i, i < R.length → (R.getD i []).length = l) := fun i hi => by have := hG.row (s := i) hi; simpa using this
  clear hml hml' hvl hG hG2
  clear h h2 hrows hrows' hmk hmk' hvs hvg hW1 hW2 A2 A3 A4 A5 g2 g3' g4'
  go_enter Tryd.func40, Tryd.ntmps40
  go_wp2_with fail
  clear run3 run4 run5 p3 p4 p5 z3 z4 z5 x2 y3 y4 y5 o2 o3 o4
  go_loopw [37] (fun v wr => ∃ (j : Nat) (aN : Option Addr) (cN : Nat) (mvs : List (Value × List Int)), v = .int .i64 j ∧ j ≤ R'.length ∧ mvs.length = j ∧ mvs.map (·.2) = (R'.take j).map (movR R.length) ∧ BsAt (w.heap.size + 1 + 1 + 1) l S W1 wr aN (R.length + j) cN (some ⟨g5, 0, none⟩) (M.length + M'.length) c5 (vs ++ mvs.map (·.1)) (M ++ M') mvs []) (fun v _ => R'.length - (intOf v).toNat)
  case atStart => exact ⟨0, _, _, [], rfl, by omega, rfl, by simp, by simpa using A5'.out⟩
  case round =>
    clear A5'
    rename World => wo
    obtain ⟨j, aN, cN, mvs, rfl, hj, hmv, hms, hA⟩ := hrel
    have A : Hid (BsAt (w.heap.size + 1 + 1 + 1) l S W1 wo aN (R.length + j) cN (some ⟨g5, 0, none⟩) (M.length + M'.length) c5 (vs ++ mvs.map (·.1)) (M ++ M') mvs []) := hA
    have HMV : Hid (mvs.length = j) := hmv
    have HMS : Hid (mvs.map (·.2) = (R'.take j).map (movR R.length)) := hms
    obtain ⟨hgw, x2, _, _, _⟩ := Box.out wo hA.old
    clear hmv hms
    by_cases hlt : j < R'.length
    · have hji : (j : Int) < (R'.length : Int) := by omega
      obtain ⟨b9, o9, e9, hr9⟩ := (H2.out.grown hgw).rows.at (k := j) hlt
      cases e9
      obtain ⟨xr, cr, hcr, hir, _⟩ := hr9 j hlt
      simp only at hcr hir
      have hrl : (R'.getD j []).length = l := by have := GD2.out.row (s := j) hlt; simpa using this
      obtain ⟨row, hrow⟩ : ∃ row, R'.getD j [] = row := ⟨_, rfl⟩
      rw [hrow] at hcr hir hrl
      rw [hrl] at hcr
      have HRow : Hid (R'.getD j [] = row) := hrow
      have HRl : Hid (row.length = l) := hrl
      obtain ⟨bx, ox, rfl, hcx⟩ := hir.at (k := 0) (by omega)
      have HCx : Hid (∀ W, W1.grownBy W none → True) := fun _ _ => trivial
      have HIr : Hid (Ints w (some ⟨bx, ox, none⟩) row ∨ True) := .inr trivial
      have hvr : ∀ x, x < l → 0 ≤ row.getD x 0 ∧ row.getD x 0 < (R'.length : Int) := fun x hx => by
        have := GD2.out.r j hlt x (by rw [hrow]; omega)
        rw [hrow] at this
        exact this
      have HVr : Hid (∀ x, x < l → 0 ≤ row.getD x 0 ∧ row.getD x 0 < (R'.length : Int)) := hvr
      have HCr : Hid (∀ i, i < row.length → wo.cell? ⟨bx, ox + i, none⟩ = some (.int .i64 (row.getD i 0))) := hcx
      obtain ⟨W6, hmk6, hA6, hg6⟩ := hA.row l hl4
      obtain ⟨gr, hgr⟩ : ∃ gr, wo.heap.size = gr := ⟨_, rfl⟩
      have HGr : Hid (wo.heap.size = gr) := hgr
      rw [hgr] at hmk6 hA6
      have A6 : Hid _ := hA6
      have G6 : Hid (wo.grownBy W6 none) := hg6
      clear hgr
      clear hA hr9 hir hcx hvr hrow hrl hA6 hg6 HCx HIr A hgw
      go_wp2_with fail
      clear hmk6 hcr x2
      go_loopw [46] (fun v wq => ∃ (x : Nat), v = .int .i64 x ∧ x ≤ l ∧ BsAt (w.heap.size + 1 + 1 + 1) l S W1 wq aN (R.length + j) cN (some ⟨g5, 0, none⟩) (M.length + M'.length) c5 (vs ++ mvs.map (·.1)) (M ++ M') mvs [(3, .slice (some ⟨gr, 0, none⟩) l l, vals ((List.range l).map fun b => if b < x then ((R.length : Int) + row.getD b 0) else 0))] ∧ wo.grownBy wq none) (fun v _ => l - (intOf v).toNat)
      case atStart =>
        refine ⟨0, rfl, by omega, ?_, G6.out⟩
        have e : ((List.range l).map fun b => if b < 0 then ((R.length : Int) + row.getD b 0) else 0) = List.replicate l 0 := by rw [List.eq_replicate_iff]; simp
        rw [e]
        exact A6.out
      case round =>
        clear A6 G6
        obtain ⟨x, rfl, hx, hA, hg⟩ := hrel
        have G : Hid (wo.grownBy wr none) := hg
        obtain ⟨_, x2, _, _, _⟩ := Box.out wr hA.old
        by_cases hxl : x < l
        · have hxi : (x : Int) < (l : Int) := by omega
          have hcx := hg.cell (HCr.out x (by rw [HRl.out]; exact hxl)) (by simp)
          have hv := HVr.out x hxl
          obtain ⟨⟨u, hu⟩, hfz, hA7⟩ := hA.write hxl ((R.length : Int) + row.getD x 0)
          rw [row_writeI hxl] at hA7
          have A7 : Hid _ := hA7
          have G7 : Hid (wo.grownBy (wr.setCell ⟨gr, x, none⟩ (.int .i64 ((R.length : Int) + row.getD x 0))) none) := grown_new hg (grown_set _ _ _) (Nat.le_of_eq HGr.out)
          have hwr : IntKind.i64.wrap ((R.length : Int) + row.getD x 0) = (R.length : Int) + row.getD x 0 := by rw [IntKind.wrap_i64]; omega
          clear hA hA7 hg G hv
          generalize row.getD x 0 = v at *
          go_wp2_with fail
          go_roundw
          case rel => exact ⟨x + 1, by go_num, by omega, A7.out, G7.out⟩
          case measure => simp [intOf]; omega
        · have hxi : ¬ (x : Int) < (l : Int) := by omega
          have hxe : x = l := by omega
          subst hxe
          have e1 : ((List.range x).map fun b => if b < x then ((R.length : Int) + row.getD b 0) else 0) = movR R.length row := by
            unfold movR
            apply List.ext_getElem (by simp [HRl.out])
            intro i h1 h3
            have hi : i < x := by simpa using h1
            have hi2 : i < row.length := by rw [HRl.out]; exact hi
            simp [hi, List.getD, hi2]
          rw [e1] at hA
          obtain ⟨g8, c8, w8, run8, p8, z8, hA8⟩ := hA.putR rfl (by rw [List.length_append, List.length_map, HVL.out, HMV.out]; omega)
          obtain ⟨_, _, o2, _, _⟩ := hA.box
          have A8 : Hid (BsAt (w.heap.size + 1 + 1 + 1) x S W1 (w8.setCell ⟨w.heap.size + 1 + 1 + 1, 2, none⟩ (.slice (some ⟨g8, 0, none⟩) (R.length + j + 1) c8)) (some ⟨g8, 0, none⟩) (R.length + (j + 1)) c8 (some ⟨g5, 0, none⟩) (M.length + M'.length) c5 (vs ++ (mvs ++ [(Value.slice (some ⟨gr, 0, none⟩) x x, movR R.length row)]).map (·.1)) (M ++ M') (mvs ++ [(Value.slice (some ⟨gr, 0, none⟩) x x, movR R.length row)]) []) := by
            show BsAt _ _ _ _ _ _ _ _ _ _ _ _ _ _ _
            rw [List.map_append, ← List.append_assoc]
            exact hA8
          have HMV2 : Hid ((mvs ++ [(Value.slice (some ⟨gr, 0, none⟩) x x, movR R.length row)]).length = j + 1) := by show _ = _; simp [HMV.out]
          have HMS2 : Hid ((mvs ++ [(Value.slice (some ⟨gr, 0, none⟩) x x, movR R.length row)]).map (·.2) = (R'.take (j + 1)).map (movR R.length)) := by
            show _ = _
            have e2 : R'[j] = row := by have := HRow.out; simpa [List.getD, hlt] using this
            rw [List.take_add_one, List.getElem?_eq_getElem hlt, List.map_append, List.map_append, HMS.out, e2]
            rfl
          clear hA hA8 hg G
          go_wp2_with fail
          go_roundw
          case rel => exact ⟨j + 1, _, _, _, by go_num, by omega, HMV2.out, HMS2.out, A8.out⟩
          case measure => simp [intOf]; omega
    · have hji : ¬ (j : Int) < (R'.length : Int) := by omega
      have hje : j = R'.length := by omega
      subst hje
      obtain ⟨o0, o1, o2, o3, _⟩ := hA.box
      have hk1' := HZ1.out wo hA.old
      obtain ⟨r0, r1, r2, r3, rz⟩ := block_cells hk1'
      have rz0 := rz 0
      have rz1 := rz 1
      have rz2 := rz 2
      have rz3 := rz 3
      obtain ⟨W9, hW9, hg9, q0, q1, q2, q3⟩ := det_store hk1' (.int .i64 (l : Int)) (.int .i64 S) (.slice aN (R.length + R'.length) cN) (.slice (some ⟨g5, 0, none⟩) (M.length + M'.length) c5)
      have G9 : Hid (w.grownBy W9 none) := grown_new hgw hg9 (by omega)
      have O9 := A.out.own.below hg9 (by rw [HS1.out]; omega)
      have D9 : Hid (DetAt W9 ⟨l, S, besR R R', M ++ M'⟩ aN (some ⟨g5, 0, none⟩)) := by
        have hvl := HVL.out
        have hmv := HMV.out
        have hms := HMS.out
        rw [List.take_length] at hms
        refine ⟨?_, ((at_3 O9).ints).2, by simp only [besR_len]; unfold maxLen; omega, by simp only [List.length_append]; have := HML.out; have := HML'.out; unfold maxLen; omega⟩
        right
        obtain ⟨gN, rfl⟩ := (at_2 O9).formM List.mem_cons_self (by simp; omega)
        refine ⟨gN, 0, rfl, fun i hi => ?_⟩
        simp only [besR_len] at hi ⊢
        rcases Nat.lt_or_ge i R.length with h1 | h1
        · obtain ⟨xx, cx, v1, v2, v3⟩ := HV.out i h1
          have hrr : (R.getD i []).length ≤ maxLen := by
            have := HGl.out i h1
            unfold maxLen; omega
          rw [besR_fst h1]
          refine ⟨xx, cx, ?_, v3.grown G9.out, hrr⟩
          rw [Nat.zero_add]
          exact (at_2 O9).cell (by rw [List.getElem?_append_left (by omega)]; exact v1)
        · obtain ⟨i', hi', rfl⟩ : ∃ i', i' < R'.length ∧ i = R.length + i' := ⟨i - R.length, by omega, by omega⟩
          have him : i' < mvs.length := by omega
          have e1 : mvs[i'].2 = movR R.length (R'.getD i' []) := by
            have h3 : (mvs.map (·.2))[i']? = (R'.map (movR R.length))[i']? := by rw [hms]
            rw [List.getElem?_map, List.getElem?_map, List.getElem?_eq_getElem him, List.getElem?_eq_getElem hi'] at h3
            simpa [List.getD, hi'] using h3
          have m1 : (3, mvs[i'].1, vals mvs[i'].2) ∈ rowItems mvs := List.mem_map.2 ⟨mvs[i'], List.getElem_mem _, rfl⟩
          have hr1 : Owns W1.heap.size W9 [(3, mvs[i'].1, vals mvs[i'].2)] := ⟨fun it hit => O9.1 it (by simp only [List.mem_singleton] at hit; subst hit; simp only [List.nil_append]; exact List.mem_cons_of_mem _ (List.mem_cons_of_mem _ (List.mem_cons_of_mem _ m1))), List.pairwise_singleton _ _⟩
          obtain ⟨_, az, cz, hv⟩ := hr1.head
          simp only [vals_len] at hv
          rw [hv] at hr1
          have hi3 := hr1.ints.2
          rw [besR_snd hi']
          show ∃ x c, _ = some (Value.slice x (movR R.length (R'.getD i' [])).length c) ∧ Ints W9 x (movR R.length (R'.getD i' [])) ∧ _
          rw [← e1]
          refine ⟨az, cz, ?_, hi3, ?_⟩
          · rw [Nat.zero_add, ← hv]
            exact (at_2 O9).cell (by rw [List.getElem?_append_right (by omega), hvl, Nat.add_sub_cancel_left, List.getElem?_map, List.getElem?_eq_getElem him]; rfl)
          · rw [List.length_map]
            have := GD2.out.row (s := i') hi'
            simp only [Int.toNat_natCast] at this
            rw [this]
            unfold maxLen; omega
      clear hA A hk1' rz hg9 O9 hgw x2
      go_wp2_with fail
      rw [← hW9]
      refine bodyPost_ret (v := .agg #[.int .i64 (l : Int), .int .i64 S, .slice aN (R.length + R'.length) cN, .slice (some ⟨g5, 0, none⟩) (M.length + M'.length) c5]) (by simp [results, Tryd.results40, go_sem, q0, q1, q2, q3]) rfl ⟨aN, cN, _, c5, by rw [besR_len, List.length_append], D9.out, G9.out⟩

end Go.Proofs.YtmbbkjpfmmnabaaDoor
