/- The automaton of the stacks while its steps are written down. -/
/- The automata of the stacks, one a control, while they are made. -/
import Derived.Test.YtcgkflddipflbaaSbMath
import Derived.Test.YtcgkflddipflbaaSgR
import Derived.Test.YtcgkflddipflbaaUAu
import Derived.Test.YtcgkflddipflbaaUBase
import Derived.Test.YtcgkflddipflbaaHWU
namespace Go.Proofs.Ytcgkflddipflbaa
open Go.RowKit
set_option linter.unusedVariables false

/-- The box k3 of the automaton, its row of steps T, the row of its end, the edges; what lay below is as it was. -/
structure StB (W0 : World) (k3 b : Nat) (E : Edg) (en : Nat) (W : World) (vT : Value) (T : List StepI) (bf : Nat) : Prop where
  gr : W0.grownBy W none
  size : W0.heap.size = k3
  lt : k3 < W.heap.size
  box : W.heap[k3]? = some (.cells #[.int .i64 3, .int .i64 6, .slice none 0 0, vT, .slice (some ⟨bf, 0, none⟩) 1 1] 75 (0, 0))
  own : OwnsG (k3 + 1) W [⟨78, 3, vT, T.length, flatT T⟩]
  edges : EdgesAt W b E
  end_ : W.cell? ⟨bf, 0, none⟩ = some (.int .i64 (en : Int))
  far : bf < k3 ∧ b < k3
theorem StB.kept {W0 W W' : World} {k3 b en bf : Nat} {E : Edg} {vT : Value} {T : List StepI} (h : StB W0 k3 b E en W vT T bf) (hg : W.grownBy W' none) : StB W0 k3 b E en W' vT T bf :=
  ⟨grown_trans h.gr hg, h.size, Nat.lt_of_lt_of_le h.lt hg.size, (hg.block _ h.lt (by simp)).trans h.box, h.own.kept hg, h.edges.kept hg (by simp), hg.cell h.end_ (by simp), h.far⟩
theorem boxB_cells {w : World} {B : Nat} {v0 v1 v2 v3 v4 : Value} {t : TypeId} (h : w.heap[B]? = some (.cells #[v0, v1, v2, v3, v4] t (0, 0))) :
    w.cell? ⟨B, 0, none⟩ = some v0 ∧ w.cell? ⟨B, 1, none⟩ = some v1 ∧ w.cell? ⟨B, 2, none⟩ = some v2 ∧ w.cell? ⟨B, 3, none⟩ = some v3 ∧ w.cell? ⟨B, 4, none⟩ = some v4 ∧ ∀ k, w.frozen? ⟨B, k, none⟩ = false :=
  ⟨by rw [cell_of_row _ _ 0 _ _ (0, 0) h]; rfl, by rw [cell_of_row _ _ 1 _ _ (0, 0) h]; rfl, by rw [cell_of_row _ _ 2 _ _ (0, 0) h]; rfl, by rw [cell_of_row _ _ 3 _ _ (0, 0) h]; rfl, by rw [cell_of_row _ _ 4 _ _ (0, 0) h]; rfl, fun k => frozen_of_row _ _ k _ _ h⟩
/-- A step comes to it. -/
theorem StB.add {W0 W : World} {k3 b en bf : Nat} {E : Edg} {vT : Value} {T : List StepI} (h : StB W0 k3 b E en W vT T bf) (hn : T.length ≤ 1000) (x : StepI) :
    ∃ a c g cap w', vT = .slice a T.length c ∧ (AppS #[73, 73] 73 #[.slice a T.length c, .slice (some ⟨W.heap.size, 0, none⟩) 1 1]).run Try.prog (W.alloc (.cells #[.int .i64 x.1, .int .i64 x.2.1, .int .i64 x.2.2] 78)) = .ok (.slice (some ⟨g, 0, none⟩) (T.length + 1) cap) w' ∧ w'.cell? ⟨k3, 3, none⟩ = some (.slice a T.length c) ∧ w'.frozen? ⟨k3, 3, none⟩ = false ∧
      StB W0 k3 b E en (w'.setCell ⟨k3, 3, none⟩ (.slice (some ⟨g, 0, none⟩) (T.length + 1) cap)) (.slice (some ⟨g, 0, none⟩) (T.length + 1) cap) (T ++ [x]) bf := by
  obtain ⟨a, c, hv⟩ := h.own.head.2
  have hv' : vT = .slice a T.length c := hv
  subst hv'
  obtain ⟨g, cap, w', hr, ho, hk, hg⟩ := OwnsG.push3 73 78 Try.underlying73 Try.infoT h.own h.lt (by omega) x.1 x.2.1 x.2.2 rfl
  have own2 := h.own.kept (grown_alloc W (.cells #[.int .i64 x.1, .int .i64 x.2.1, .int .i64 x.2.2] 78))
  have hlow : ∀ j, j < k3 + 1 → w'.heap[j]? = W.heap[j]? := fun j hj => by
    have h1 : j < W.heap.size := Nat.lt_of_lt_of_le hj h.lt
    have h2 := (hg.block j (Nat.lt_of_lt_of_le h1 (grown_alloc W (.cells #[.int .i64 x.1, .int .i64 x.2.1, .int .i64 x.2.2] 78)).size) fun e => by
      have := (own2.head.1.lt j e.symm).1
      omega)
    rw [h2]
    exact (grown_alloc W _).block j h1 (by simp)
  have hbx : w'.heap[k3]? = some (.cells #[.int .i64 3, .int .i64 6, .slice none 0 0, .slice a T.length c, .slice (some ⟨bf, 0, none⟩) 1 1] 75 (0, 0)) := (hlow k3 (by omega)).trans h.box
  obtain ⟨_, _, _, c3, _, fz⟩ := boxB_cells hbx
  have hlt : k3 < w'.heap.size := (Array.getElem?_eq_some_iff.1 hbx).1
  have gr2 : W0.grownBy w' none := hk W0 (by have := h.size; omega) h.gr
  have e1 : flatT T ++ [.int .i64 x.1, .int .i64 x.2.1, .int .i64 x.2.2] = flatT (T ++ [x]) := by simp [flatT]
  rw [e1] at ho
  have g9 : w'.grownBy (w'.setCell ⟨k3, 3, none⟩ (.slice (some ⟨g, 0, none⟩) (T.length + 1) cap)) (some k3) := grown_set _ _ _
  have hedg : EdgesAt w' b E := by
    have hb : b < W.heap.size := by have := h.far.2; have := h.lt; omega
    have h3 : (W.alloc (.cells #[.int .i64 x.1, .int .i64 x.2.1, .int .i64 x.2.2] 78)).grownBy w' (Value.slice a T.length c).ownBlock := hg
    refine (h.edges.kept (grown_alloc W _) (by simp)).kept h3 fun e => ?_
    have := (own2.head.1.lt b e).1
    have := h.far.2
    omega
  refine ⟨a, c, g, cap, w', rfl, hr, c3, fz 3, ⟨grown_new gr2 g9 (Nat.le_of_eq h.size), h.size, Nat.lt_of_lt_of_le hlt g9.size, ?_, ?_, hedg.kept g9 (by have := h.far.2; simp; omega), ?_, h.far⟩⟩
  · rw [heap_setCell_same w' k3 3 _ _ _ hbx]
    rfl
  · rw [List.length_append, List.length_singleton]
    refine ⟨fun it hm => ?_, List.pairwise_singleton _ _⟩
    have e : it = ⟨78, 3, .slice (some ⟨g, 0, none⟩) (T.length + 1) cap, T.length + 1, flatT (T ++ [x])⟩ := by simpa using hm
    subst e
    have h4 := ho.head
    refine ⟨h4.1.kept g9 (.inr ?_), h4.2⟩
    have := (h4.1.lt g rfl).1
    simp [Value.ownBlock]
    omega
  · have hb : bf < W.heap.size := by have := h.far.1; have := h.lt; omega
    have h5 : w'.cell? ⟨bf, 0, none⟩ = some (.int .i64 (en : Int)) := by
      have h6 := hlow bf (by have := h.far.1; omega)
      have h7 := h.end_
      unfold World.cell? at h7 ⊢
      rw [h6]
      exact h7
    exact g9.cell h5 (by have := h.far.1; simp; omega)

end Go.Proofs.Ytcgkflddipflbaa

namespace Go.Proofs.Ytcgkflddipflbaa
open Go.RowKit
set_option linter.unusedVariables false

theorem Try.infoDet : (Try.prog.info? 36).map (fun i => (i.zero, i.size, i.bytes)) = some (some (.agg #[.int .i64 0, .int .i64 0, .slice none 0 0, .slice none 0 0]), 4, 64) := by kernel_rfl
/-- Four cells are put behind a row of such. -/
theorem OwnsG.push4 (T E : TypeId) (hT : Try.prog.underlying T = some (.slice E)) (hI : (Try.prog.info? E).map (fun i => (i.zero, i.size, i.bytes)) = some (some (.agg #[.int .i64 0, .int .i64 0, .slice none 0 0, .slice none 0 0]), 4, 64)) {B : Nat} {w : World} {r : List ItemG} {v : Value} {n : Nat} {xs : List Value} (h : OwnsG B w (⟨E, 4, v, n, xs⟩ :: r)) (hB : B ≤ w.heap.size) (hn : n ≤ 1000000) (x y : Int) (a1 a2 : Option Addr) (n1 c1 n2 c2 : Nat) {H : Nat} (hH : w.heap.size = H) :
    ∃ g cap w', (AppS #[T, T] T #[v, .slice (some ⟨H, 0, none⟩) 1 1]).run Try.prog (w.alloc (.cells #[.int .i64 x, .int .i64 y, .slice a1 n1 c1, .slice a2 n2 c2] E)) = .ok (.slice (some ⟨g, 0, none⟩) (n + 1) cap) w' ∧ OwnsG B w' (⟨E, 4, .slice (some ⟨g, 0, none⟩) (n + 1) cap, n + 1, xs ++ [.int .i64 x, .int .i64 y, .slice a1 n1 c1, .slice a2 n2 c2]⟩ :: r) ∧ Keeps B w w' ∧ (w.alloc (.cells #[.int .i64 x, .int .i64 y, .slice a1 n1 c1, .slice a2 n2 c2] E)).grownBy w' v.ownBlock ∧ (v.ownBlock = some g ∨ w.heap.size ≤ g) := by
  subst hH
  obtain ⟨i0, hio, hz0, hz1, hz2⟩ := info_parts hI
  have h' := h.kept (grown_alloc w (.cells #[.int .i64 x, .int .i64 y, .slice a1 n1 c1, .slice a2 n2 c2] E))
  have hb := heap_alloc_new w (.cells #[.int .i64 x, .int .i64 y, .slice a1 n1 c1, .slice a2 n2 c2] E)
  obtain ⟨g, cap, w5, hrun, ho5, hg5, hat5, hlt5⟩ := run_append_lies (P := Try.prog) (w.alloc (.cells #[.int .i64 x, .int .i64 y, .slice a1 n1 c1, .slice a2 n2 c2] E)) T T B E i0 (.agg #[.int .i64 0, .int .i64 0, .slice none 0 0, .slice none 0 0]) 4 64 hT hio hz0 hz1 hz2 rfl (by decide) v n xs h'.head.1 ⟨w.heap.size, 0, none⟩ 1 1 [.int .i64 x, .int .i64 y, .slice a1 n1 c1, .slice a2 n2 c2] rfl (fun j u hu => by
    rw [addr_add, cell_of_row _ _ j _ _ (0, 0) hb]
    simpa using hu) (by intro u hu; simp at hu; rcases hu with rfl | rfl | rfl | rfl <;> rfl) (by omega) (by unfold maxLen; omega) (by omega) (by simp; omega) _ rfl
  refine ⟨g, cap, w5, hrun, h'.turn ⟨ho5, _, _, rfl⟩ hg5 ?_, fun w0 hB0 h0 => h'.frame hB0 (grown_trans h0 (grown_alloc _ _)) hg5, hg5, ?_⟩
  · rcases hat5 with h1 | h1
    · exact .inl (by simp only; rw [h1]; rfl)
    · exact .inr ⟨g, rfl, by rw [h1]; exact Nat.le_refl _⟩
  · rcases hat5 with h1 | h1
    · exact .inl h1
    · refine .inr ?_
      rw [h1]
      simp

/-- The rows of an automaton that is made. -/
abbrev itsD (aR : Option Addr) (cR : Nat) (aM : Option Addr) (cM : Nat) (rs : List (Value × List Int)) (M : List Int) : List Item := (23, .slice aR rs.length cR, rs.map (·.1)) :: (3, .slice aM M.length cM, vals M) :: rowItems rs
/-- The least automaton of a control's stacks, its rows from block lo up to block hi. -/
def DetK (lo hi : Nat) (W : World) (E : Edg) (en c : Nat) (vs : List Value) : Prop :=
  ∃ (aR aM : Option Addr) (cR cM : Nat) (rs : List (Value × List Int)) (M : List Int), vs = [.int .i64 3, .int .i64 0, .slice aR rs.length cR, .slice aM M.length cM] ∧ LeastOf (dset (tE E 108)) (mset [(en : Int)]) 256 3 (setOf [(c : Int)]) (rs.map (·.2)) M ∧ rs.length ≤ 256 ∧ M.length = rs.length ∧ (∀ x, x ∈ rs → x.2.length = 3) ∧
    Owns lo W (itsD aR cR aM cM rs M) ∧ (∀ it, it ∈ itsD aR cR aM cM rs M → ∀ k, it.2.1.ownBlock = some k → k < hi) ∧ hi ≤ W.heap.size
theorem DetK.kept {lo hi : Nat} {W W' : World} {E : Edg} {en c : Nat} {vs : List Value} (h : DetK lo hi W E en c vs) (hg : W.grownBy W' none) : DetK lo hi W' E en c vs := by
  obtain ⟨aR, aM, cR, cM, rs, M, h1, h2, h3, h4, h5, h6, h7, h8⟩ := h
  exact ⟨aR, aM, cR, cM, rs, M, h1, h2, h3, h4, h5, h6.kept hg, h7, Nat.le_trans h8 hg.size⟩
theorem DetK.far {lo hi b : Nat} {W W' : World} {E : Edg} {en c : Nat} {vs : List Value} (h : DetK lo hi W E en c vs) (hg : W.grownBy W' (some b)) (hb : b < lo ∨ hi ≤ b) : DetK lo hi W' E en c vs := by
  obtain ⟨aR, aM, cR, cM, rs, M, h1, h2, h3, h4, h5, h6, h7, h8⟩ := h
  refine ⟨aR, aM, cR, cM, rs, M, h1, h2, h3, h4, h5, h6.far hg (fun it hm e => ?_), h7, Nat.le_trans h8 hg.size⟩
  have := ((h6.1 it hm).1.lt b e).1
  have := h7 it hm b e
  omega
theorem DetK.own {lo hi : Nat} {W W' : World} {E : Edg} {en c : Nat} {vs : List Value} {row : Option Nat} (h : DetK lo hi W E en c vs) (hg : W.grownBy W' row) (hb : ∀ b, row = some b → b < lo ∨ hi ≤ b) : DetK lo hi W' E en c vs := by
  cases row with
  | none => exact h.kept hg
  | some b => exact h.far hg (hb b rfl)
theorem DetK.new {W w' : World} {E : Edg} {en c : Nat} {e : Ending} (h : LeastGPost (dset (tE E 108)) (mset [(en : Int)]) 256 3 (setOf [(c : Int)]) W e w') :
    ∃ aR nR cR aM nM cM, e = .returned (.tuple #[.agg #[.int .i64 3, .int .i64 0, .slice aR nR cR, .slice aM nM cM], .int .i64 0]) ∧ DetK W.heap.size w'.heap.size w' E en c [.int .i64 3, .int .i64 0, .slice aR nR cR, .slice aM nM cM] ∧ W.grownBy w' none := by
  obtain ⟨v, rfl, aR, cR, aM, cM, rs, M, he, hlo, hn7, hm7, hr7, ho7, hg7⟩ := h
  simp only [Ending.returned.injEq] at he
  subst he
  exact ⟨aR, rs.length, cR, aM, M.length, cM, rfl, ⟨aR, aM, cR, cM, rs, M, rfl, hlo, hn7, hm7, hr7, ho7, fun it hm k hk => ((ho7.1 it hm).1.lt k hk).2, Nat.le_refl _⟩, hg7⟩
/-- An automaton that was made lies there. -/
theorem DetK.at {lo hi : Nat} {W : World} {E : Edg} {en c : Nat} {vs : List Value} (h : DetK lo hi W E en c vs) :
    ∃ aR aM cR cM R M, vs = [.int .i64 3, .int .i64 0, .slice aR (List.length R) cR, .slice aM (List.length M) cM] ∧ LeastOf (dset (tE E 108)) (mset [(en : Int)]) 256 3 (setOf [(c : Int)]) R M ∧ DetAt W ⟨3, 0, R, M⟩ aR aM := by
  obtain ⟨aR, aM, cR, cM, rs, M, h1, h2, h3, h4, h5, h6, h7, h8⟩ := h
  exact ⟨aR, aM, cR, cM, rs.map (·.2), M, by rw [List.length_map]; exact h1, h2, det_of_owns (L := 3) (S := 0) (its := []) (by rw [List.append_nil]; exact h6) (fun x hx => by rw [h5 x hx]; unfold maxLen; omega) (by unfold maxLen; omega) (by unfold maxLen; omega)⟩

/-- While the automata are made: the box k3, its steps at aT, the end's row bf; those of the first n controls in a row of one's own from block tb on. -/
structure StC (w0 : World) (k3 tb : Nat) (E : Edg) (en bf : Nat) (aT : Option Addr) (nT cT : Nat) (n : Nat) (W : World) (vO : Value) (cs : List (List Value)) : Prop where
  gr : w0.grownBy W none
  size : w0.heap.size ≤ k3
  ktb : k3 < tb
  tbW : tb ≤ W.heap.size
  box : ∃ vS, W.heap[k3]? = some (.cells #[.int .i64 3, .int .i64 6, vS, .slice aT nT cT, .slice (some ⟨bf, 0, none⟩) 1 1] 75 (0, 0))
  steps : StepsAt W aT (tE E 108)
  tfar : ∀ y, aT = some y → k3 < y.block ∧ y.block < tb
  end_ : W.cell? ⟨bf, 0, none⟩ = some (.int .i64 (en : Int))
  bfar : bf < k3
  out : OwnsG tb W [⟨36, 4, vO, n, cs.flatten⟩]
  len : cs.length = n
  dets : ∀ c, c < n → ∃ lo hi, DetK lo hi W E en c (cs.getD c []) ∧ tb ≤ lo ∧ ∀ g, vO.ownBlock = some g → g < lo ∨ hi ≤ g
theorem stepsB_far {w w' : World} {a : Option Addr} {T : List StepI} {row : Option Nat} (h : StepsAt w a T) (hn : ∀ y, a = some y → row ≠ some y.block) (hg : w.grownBy w' row) : StepsAt w' a T := by
  rcases h with h | ⟨b0, off, rfl, hc⟩
  · exact .inl h
  · have hb := hn _ rfl
    exact .inr ⟨b0, off, rfl, fun i hi => ⟨hg.cell (hc i hi).1 (fun e => hb e.symm), hg.cell (hc i hi).2.1 (fun e => hb e.symm), hg.cell (hc i hi).2.2 (fun e => hb e.symm)⟩⟩
theorem StC.kept {w0 W W' : World} {k3 tb : Nat} {E : Edg} {en bf : Nat} {aT : Option Addr} {nT cT n : Nat} {vO : Value} {cs : List (List Value)} (h : StC w0 k3 tb E en bf aT nT cT n W vO cs) (hg : W.grownBy W' none) : StC w0 k3 tb E en bf aT nT cT n W' vO cs := by
  obtain ⟨vS, hb⟩ := h.box
  exact ⟨grown_trans h.gr hg, h.size, h.ktb, Nat.le_trans h.tbW hg.size, ⟨vS, (hg.block _ (Nat.lt_of_lt_of_le h.ktb h.tbW) (by simp)).trans hb⟩, h.steps.grown hg, h.tfar, hg.cell h.end_ (by simp), h.bfar, h.out.kept hg, h.len, fun c hc => by
    obtain ⟨lo, hi, h1, h2, h3⟩ := h.dets c hc
    exact ⟨lo, hi, h1.kept hg, h2, h3⟩⟩
/-- The box gets another start. -/
theorem StC.start {w0 W : World} {k3 tb : Nat} {E : Edg} {en bf : Nat} {aT : Option Addr} {nT cT n : Nat} {vO : Value} {cs : List (List Value)} (h : StC w0 k3 tb E en bf aT nT cT n W vO cs) (v : Value) : StC w0 k3 tb E en bf aT nT cT n (W.setCell ⟨k3, 2, none⟩ v) vO cs ∧ (W.setCell ⟨k3, 2, none⟩ v).heap[k3]? = some (.cells #[.int .i64 3, .int .i64 6, v, .slice aT nT cT, .slice (some ⟨bf, 0, none⟩) 1 1] 75 (0, 0)) := by
  obtain ⟨vS, hb⟩ := h.box
  have hg := grown_set W ⟨k3, 2, none⟩ v
  have hnb : (W.setCell ⟨k3, 2, none⟩ v).heap[k3]? = some (.cells #[.int .i64 3, .int .i64 6, v, .slice aT nT cT, .slice (some ⟨bf, 0, none⟩) 1 1] 75 (0, 0)) := by
    rw [heap_setCell_same W k3 2 _ _ _ hb]
    rfl
  refine ⟨⟨grown_new h.gr hg h.size, h.size, h.ktb, Nat.le_trans h.tbW hg.size, ⟨v, hnb⟩, stepsB_far h.steps (fun y hy e => ?_) hg, h.tfar, hg.cell h.end_ (by have := h.bfar; simp; omega), h.bfar, ?_, h.len, fun c hc => ?_⟩, hnb⟩
  · have := (h.tfar y hy).1
    simp at e
    omega
  · refine ⟨fun it hm => ?_, List.pairwise_singleton _ _⟩
    have e := h.out.1 it hm
    refine ⟨e.1.kept hg ?_, e.2⟩
    cases hv : it.v.ownBlock with
    | none => exact .inl rfl
    | some g => have := (e.1.lt g hv).1; have := h.ktb; exact .inr (by simp; omega)
  · obtain ⟨lo, hi, h1, h2, h3⟩ := h.dets c hc
    exact ⟨lo, hi, h1.far hg (.inl (by have := h.ktb; simp; omega)), h2, h3⟩
/-- An automaton more. -/
theorem StC.add {w0 W : World} {k3 tb : Nat} {E : Edg} {en bf : Nat} {aT : Option Addr} {nT cT n : Nat} {vO : Value} {cs : List (List Value)} (h : StC w0 k3 tb E en bf aT nT cT n W vO cs) (hn : n ≤ 100) {aR aM : Option Addr} {nR cR nM cM lo hi : Nat} (hD : DetK lo hi W E en n [.int .i64 3, .int .i64 0, .slice aR nR cR, .slice aM nM cM]) (hlo : tb ≤ lo) (hgo : ∀ g, vO.ownBlock = some g → g < lo ∨ hi ≤ g) :
    ∃ a c g cap w', vO = .slice a n c ∧ (AppS #[29, 29] 29 #[.slice a n c, .slice (some ⟨W.heap.size, 0, none⟩) 1 1]).run Try.prog (W.alloc (.cells #[.int .i64 3, .int .i64 0, .slice aR nR cR, .slice aM nM cM] 36)) = .ok (.slice (some ⟨g, 0, none⟩) (n + 1) cap) w' ∧
      StC w0 k3 tb E en bf aT nT cT (n + 1) w' (.slice (some ⟨g, 0, none⟩) (n + 1) cap) (cs ++ [[.int .i64 3, .int .i64 0, .slice aR nR cR, .slice aM nM cM]]) := by
  obtain ⟨a, c, hv⟩ := h.out.head.2
  have hv' : vO = .slice a n c := hv
  subst hv'
  obtain ⟨g, cap, w', hr, ho, hk, hg, hat⟩ := OwnsG.push4 29 36 Try.underlying29 Try.infoDet h.out h.tbW (by omega) 3 0 aR aM nR cR nM cM rfl
  have gA : W.grownBy (W.alloc (.cells #[.int .i64 3, .int .i64 0, .slice aR nR cR, .slice aM nM cM] 36)) none := grown_alloc _ _
  have hA := h.kept gA
  have hrow : ∀ b, (Value.slice a n c).ownBlock = some b → tb ≤ b := fun b hb => (hA.out.head.1.lt b hb).1
  have hnr : ∀ b, b < tb → (Value.slice a n c).ownBlock ≠ some b := fun b hb e => by have := hrow b e; omega
  obtain ⟨vS, hb⟩ := hA.box
  have hkt := h.ktb
  refine ⟨a, c, g, cap, w', rfl, hr, ⟨hk w0 (by have := h.size; omega) h.gr, h.size, h.ktb, Nat.le_trans hA.tbW hg.size, ⟨vS, (hg.block _ (Nat.lt_of_lt_of_le hA.ktb hA.tbW) (fun e => hnr k3 hkt e.symm)).trans hb⟩, stepsB_far hA.steps (fun y hy e => hnr _ (h.tfar y hy).2 e) hg, h.tfar, hg.cell hA.end_ (fun e => hnr bf (by have := h.bfar; omega) e.symm), h.bfar, ?_, ?_, fun d hd => ?_⟩⟩
  · have e : (cs ++ [[Value.int .i64 3, .int .i64 0, .slice aR nR cR, .slice aM nM cM]]).flatten = cs.flatten ++ [.int .i64 3, .int .i64 0, .slice aR nR cR, .slice aM nM cM] := by simp
    rw [e]
    exact ho
  · rw [List.length_append, h.len]; rfl
  · by_cases e : d = n
    · subst e
      refine ⟨lo, hi, ?_, hlo, fun g' hg' => ?_⟩
      · have e2 : (cs ++ [[Value.int .i64 3, .int .i64 0, .slice aR nR cR, .slice aM nM cM]]).getD d [] = [.int .i64 3, .int .i64 0, .slice aR nR cR, .slice aM nM cM] := by simp [List.getD, h.len]
        rw [e2]
        exact (hD.kept gA).own hg hgo
      · have e3 : g = g' := by simpa [Value.ownBlock] using hg'
        subst e3
        rcases hat with h1 | h1
        · exact hgo g h1
        · obtain ⟨_, _, _, _, _, _, _, _, _, _, _, _, _, h8⟩ := hD
          exact .inr (by omega)
    · have hd' : d < n := by omega
      obtain ⟨lo', hi', h1, h2, h3⟩ := h.dets d hd'
      have e2 : (cs ++ [[Value.int .i64 3, .int .i64 0, .slice aR nR cR, .slice aM nM cM]]).getD d [] = cs.getD d [] := by
        have hl := h.len
        simp [List.getD, List.getElem?_append_left (by omega : d < cs.length)]
      refine ⟨lo', hi', by rw [e2]; exact (h1.kept gA).own hg h3, h2, fun g' hg' => ?_⟩
      have e3 : g = g' := by simpa [Value.ownBlock] using hg'
      subst e3
      rcases hat with h4 | h4
      · exact h3 g h4
      · obtain ⟨_, _, _, _, _, _, _, _, _, _, _, _, _, h8⟩ := h1
        exact .inr (by omega)

end Go.Proofs.Ytcgkflddipflbaa
