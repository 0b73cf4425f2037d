/- The program's own answer to whether two lassos tell one word. -/
import Derived.Test.YthccdfjmkdcehaaSame
import Derived.Deep.RegionHeld3
import Derived.Deep.DrawnRows
import Derived.Deep.CutRange
namespace Go.Proofs.Ythccdfjmkdcehaa
open Go.RowKit
set_option linter.unusedVariables false
attribute [local go_sem ↓] Go.wp_at_zero Go.wp_at_succ

/-- What stays while the two shortest lassos are made: the two boxes, and what was there ahead of the call. -/
def Keep2 (B : Nat) (w W : World) (va vb vc vd : Value) : Prop :=
  Below B w W ∧ B + 1 < W.heap.size ∧ W.cell? ⟨B, 0, none⟩ = some va ∧ W.cell? ⟨B, 1, none⟩ = some vb ∧ W.cell? ⟨B + 1, 0, none⟩ = some vc ∧ W.cell? ⟨B + 1, 1, none⟩ = some vd

section
variable {B : Nat} {w W W' : World} {va vb vc vd : Value}
theorem Keep2.drew (h : Keep2 B w W va vb vc vd) : Keep2 B w W.drew va vb vc vd := ⟨h.1.drew, h.2⟩
theorem Keep2.call (h : Keep2 B w W va vb vc vd) (hb : Below W.heap.size W W') : Keep2 B w W' va vb vc vd := by
  obtain ⟨h1, h2, h3, h4, h5, h6⟩ := h
  exact ⟨h1.trans (hb.mono (by omega)), Nat.lt_of_lt_of_le h2 hb.size, cell_later hb h3, cell_later hb h4, cell_later hb h5, cell_later hb h6⟩
theorem Keep2.alloc (h : Keep2 B w W va vb vc vd) (o : Obj) : Keep2 B w (W.alloc o) va vb vc vd := h.call ((Below.refl _ _).alloc (Nat.le_refl _) o)
theorem Keep2.set (h : Keep2 B w W va vb vc vd) {b o : Nat} (hb : B + 1 < b) (u : Value) : Keep2 B w (W.setCell ⟨b, o, none⟩ u) va vb vc vd := by
  obtain ⟨h1, h2, h3, h4, h5, h6⟩ := h
  refine ⟨h1.setCell (by simp; omega) u, by simpa using h2, ?_, ?_, ?_, ?_⟩ <;> (rw [World.cell?_setCell_far _ _ _ _ (by simp; omega)]; assumption)
theorem Keep2.blocks (h : Keep2 B w W va vb vc vd) (hb : Below (B + 2) W W') : Keep2 B w W' va vb vc vd := by
  obtain ⟨h1, h2, h3, h4, h5, h6⟩ := h
  exact ⟨h1.trans (hb.mono (by omega)), Nat.lt_of_lt_of_le h2 hb.size, (hb.cell (by simp)).trans h3, (hb.cell (by simp)).trans h4, (hb.cell (by simp)).trans h5, (hb.cell (by simp)).trans h6⟩
theorem below_alloc2 {V V' : World} {o o' : Obj} (h : Below (B + 2) V V') (hs : B + 1 < V.heap.size) : Below (B + 2) (V.alloc o) (V'.alloc o') := by
  have h2 := h.size
  refine ⟨h.os, h.tape, h.output, by simpa using h2, fun k hk => ?_⟩
  rw [Below.heap_alloc _ _ _ (by omega), Below.heap_alloc _ _ _ (by omega)]
  exact h.block k hk
end

theorem Own.through {base : Nat} {wA V wB : World} {v : Value} {zs : List Int} (h : Own base wA v zs) (hb : Below V.heap.size V wB) (ha : Below wA.heap.size wA V) : Own base wB v zs := (h.later ha).later hb
theorem Own.alloc {base : Nat} {W : World} {v : Value} {zs : List Int} (h : Own base W v zs) (o : Obj) : Own base (W.alloc o) v zs := h.later ((Below.refl _ _).alloc (Nat.le_refl _) o)

theorem Own.far {base : Nat} {w wc : World} {g m c : Nat} {zs : List Int} (h : Own base w (.slice (some ⟨g, 0, none⟩) m c) zs) (hc : ∀ i, wc.cell? ⟨g, i, none⟩ = w.cell? ⟨g, i, none⟩) : Ints wc (some ⟨g, 0, none⟩) zs := by
  rcases h.ints with h0 | ⟨b, off, ha, hi⟩
  · exact .inl h0
  · simp only [Option.some.injEq, Addr.mk.injEq] at ha
    obtain ⟨rfl, rfl, _⟩ := ha
    exact .inr ⟨g, 0, rfl, fun i hh => (hc _).trans (hi i hh)⟩

/-- What the two shortest lassos have come to, wherever their variables lie. -/
def Both (h l h' l' : List Int) (w : World) (v v' : Value) (wc : World) : Prop :=
  ∃ b8 b9 p n g g' p2 n2 k k' : Nat, v = .pointer (some ⟨b8, 0, none⟩) ∧ v' = .pointer (some ⟨b9, 0, none⟩) ∧
    wc.cell? ⟨b8, 0, none⟩ = some (.slice (some ⟨g, 0, none⟩) n n) ∧ wc.cell? ⟨b8, 1, none⟩ = some (.slice (some ⟨g', 0, none⟩) p p) ∧
    wc.cell? ⟨b9, 0, none⟩ = some (.slice (some ⟨k, 0, none⟩) n2 n2) ∧ wc.cell? ⟨b9, 1, none⟩ = some (.slice (some ⟨k', 0, none⟩) p2 p2) ∧
    Per l p ∧ Rep h l p n ∧ Per l' p2 ∧ Rep h' l' p2 n2 ∧
    Ints wc (some ⟨g, 0, none⟩) (pieceF h l 0 n) ∧ Ints wc (some ⟨g', 0, none⟩) (pieceF h l n p) ∧ Ints wc (some ⟨k, 0, none⟩) (pieceF h' l' 0 n2) ∧ Ints wc (some ⟨k', 0, none⟩) (pieceF h' l' n2 p2) ∧
    Below w.heap.size w wc

set_option maxHeartbeats 8000000 in
theorem sameW_ok (a a' b b' : Option Addr) (c c' d d' : Nat) (h l h' l' : List Int) (w : World) (hh : Ints w a h) (hl : Ints w a' l) (gh : Ints w b h') (gl : Ints w b' l') (hm : h.length ≤ 60) (hm' : l.length ≤ 60) (gm : h'.length ≤ 60) (gm' : l'.length ≤ 60) (hl0 : 0 < l.length) (gl0 : 0 < l'.length)
    (HL : Hid (∀ W, Below w.heap.size w W → Calls Try.prog 11 #[.int .i64 4, .agg #[.slice a h.length c, .slice a' l.length c']] W fun e w' => e = .returned (.int .i64 0) ∧ Below W.heap.size W w'))
    (HL' : Hid (∀ W, Below w.heap.size w W → Calls Try.prog 11 #[.int .i64 4, .agg #[.slice b h'.length d, .slice b' l'.length d']] W fun e w' => e = .returned (.int .i64 0) ∧ Below W.heap.size W w')) :
    Calls Try.prog 15 #[.agg #[.slice a h.length c, .slice a' l.length c'], .agg #[.slice b h'.length d, .slice b' l'.length d']] w fun e w' => e = .returned (.tuple #[.bool (sameF h l h' l'), .int .i64 0]) ∧ Below w.heap.size w w' := by
  have HC : Hid (∀ (W : World), Keep2 w.heap.size w W (.slice a h.length c) (.slice a' l.length c') (.slice b h'.length d) (.slice b' l'.length d') → Calls Try.prog 27 #[.agg #[.slice a h.length c, .slice a' l.length c']] W fun e w' => ∃ p n g g' : Nat, e = .returned (.agg #[.slice (some ⟨g, 0, none⟩) n n, .slice (some ⟨g', 0, none⟩) p p]) ∧
      Per l p ∧ Rep h l p n ∧ Own W.heap.size w' (.slice (some ⟨g, 0, none⟩) n n) (pieceF h l 0 n) ∧ Own W.heap.size w' (.slice (some ⟨g', 0, none⟩) p p) (pieceF h l n p) ∧ Below W.heap.size W w') :=
    fun W hW => shortest_any a a' c c' h l W (hh.later hW.1) (hl.later hW.1) hm hm' hl0
  have HD : Hid (∀ (W : World), Keep2 w.heap.size w W (.slice a h.length c) (.slice a' l.length c') (.slice b h'.length d) (.slice b' l'.length d') → Calls Try.prog 27 #[.agg #[.slice b h'.length d, .slice b' l'.length d']] W fun e w' => ∃ p n g g' : Nat, e = .returned (.agg #[.slice (some ⟨g, 0, none⟩) n n, .slice (some ⟨g', 0, none⟩) p p]) ∧
      Per l' p ∧ Rep h' l' p n ∧ Own W.heap.size w' (.slice (some ⟨g, 0, none⟩) n n) (pieceF h' l' 0 n) ∧ Own W.heap.size w' (.slice (some ⟨g', 0, none⟩) p p) (pieceF h' l' n p) ∧ Below W.heap.size W w') :=
    fun W hW => shortest_any b b' d d' h' l' W (gh.later hW.1) (gl.later hW.1) gm gm' gl0
  clear hh hl gh gl
  have hb0 : ∀ o o', Below w.heap.size w ((w.alloc o).alloc o') := fun o o' => ((Below.refl _ _).alloc (Nat.le_refl _) o).alloc (by simp) o'
  have hk0 : Keep2 w.heap.size w ((w.alloc (.cells #[.slice a h.length c, .slice a' l.length c'] 30)).alloc (.cells #[.slice b h'.length d, .slice b' l'.length d'] 30)) (.slice a h.length c) (.slice a' l.length c') (.slice b h'.length d) (.slice b' l'.length d') :=
    ⟨hb0 _ _, by simp, by simp, by simp, by simp, by simp⟩
  have HK0 : Hid (Keep2 w.heap.size w ((w.alloc (.cells #[.slice a h.length c, .slice a' l.length c'] 30)).alloc (.cells #[.slice b h'.length d, .slice b' l'.length d'] 30)) (.slice a h.length c) (.slice a' l.length c') (.slice b h'.length d) (.slice b' l'.length d')) := hk0
  clear hk0
  go_enter Try.func15, Try.ntmps15
  go_wp2_with fail
  refine (HL.out _ (hb0 _ _)).mono ?_
  rintro e w1 ⟨rfl, hb1⟩
  have HK1 := HK0.out.call hb1
  clear hb1
  obtain ⟨hB1, hs1, c0, c1, e0, e1⟩ := HK1
  go_wp2_with fail
  refine (HL'.out _ hB1).mono ?_
  rintro e w2 ⟨rfl, hb2⟩
  have HK2 : Hid (Keep2 w.heap.size w w2 (.slice a h.length c) (.slice a' l.length c') (.slice b h'.length d) (.slice b' l'.length d')) := Keep2.call ⟨hB1, hs1, c0, c1, e0, e1⟩ hb2
  clear hb2 hB1 hs1 c0 c1 e0 e1
  have hs2 : w.heap.size + 1 < w2.heap.size := HK2.out.2.1
  go_wp2
  go_cut [8, 9] from 20 to 35 (fun v v' wc => Both h l h' l' w v v' wc)
  case first =>
    go_region_held3 (fun W => Below w.heap.size w W ∧ w.heap.size + 1 < W.heap.size ∧ W.cell? ⟨w.heap.size, 0, none⟩ = some (.slice a h.length c) ∧ W.cell? ⟨w.heap.size, 1, none⟩ = some (.slice a' l.length c') ∧ W.cell? ⟨w.heap.size + 1, 0, none⟩ = some (.slice b h'.length d) ∧ W.cell? ⟨w.heap.size + 1, 1, none⟩ = some (.slice b' l'.length d'))
      (first | exact Keep2.drew HK2.out | exact Keep2.call (by assumption) hbB | exact Keep2.call (by assumption) hbA | exact Keep2.alloc (by assumption) _ | exact Keep2.set (Keep2.set (by assumption) (by omega) _) (by omega) _ | exact Keep2.blocks (by assumption) (below_alloc2 (Below.refl _ _) (by first | omega | (simp; omega))) | exact Keep2.blocks (by assumption) (below_alloc2 (((Below.refl _ _).setCell (by simp; omega) _).setCell (by simp; omega) _) (by first | omega | (simp; omega))) | exact Keep2.blocks (by assumption) (below_alloc2 (below_alloc2 (Below.refl _ _) (by omega)) (by simp; omega)))
      (first | (go_at_call_of 27 (Value.slice a h.length c); refine (HC.out _ (by assumption)).mono ?_; rintro e wA ⟨p, n, g, g', rfl, hper, hrep, hoA, hoA', hbA⟩; obtain ⟨hcA, hfA⟩ := bcell hbA; have hsA : w.heap.size + 1 < wA.heap.size := (Keep2.call (by assumption) hbA).2.1; have hzA := hbA.size; (try simp at hzA); (try (have hzA1 : w2.heap.size < wA.heap.size := by omega)); (try (have hzA2 : w2.heap.size + 1 < wA.heap.size := by omega)); have ltA := hoA.lt.1; have ltA' := hoA'.lt.1; (try simp at ltA); (try simp at ltA'); have mtA := hoA.lt.2; have mtA' := hoA'.lt.2) | (go_at_call_of 27 (Value.slice b h'.length d); refine (HD.out _ (by assumption)).mono ?_; rintro e wB ⟨p2, n2, k, k', rfl, hper2, hrep2, hoB, hoB', hbB⟩; obtain ⟨hcB, hfB⟩ := bcell hbB; have hsB : w.heap.size + 1 < wB.heap.size := (Keep2.call (by assumption) hbB).2.1; have hzB := hbB.size; (try simp at hzB); (try (have hzB1 : wA.heap.size < wB.heap.size := by omega)); (try (have hzB2 : wA.heap.size + 1 < wB.heap.size := by omega)); (try (have hzB3 : w2.heap.size < wB.heap.size := by omega)); (try (have hzB4 : w2.heap.size + 1 < wB.heap.size := by omega)); have ltB := hoB.lt.1; have ltB' := hoB'.lt.1; (try simp at ltB); (try simp at ltB'); have mtB := hoB.lt.2; have mtB' := hoB'.lt.2; have oA := Own.through hoA hbB (by first | exact Below.refl _ _ | exact (Below.refl _ _).alloc (Nat.le_refl _) _ | exact ((Below.refl _ _).alloc (Nat.le_refl _) _).alloc (by simp) _); have oA' := Own.through hoA' hbB (by first | exact Below.refl _ _ | exact (Below.refl _ _).alloc (Nat.le_refl _) _ | exact ((Below.refl _ _).alloc (Nat.le_refl _) _).alloc (by simp) _)))
    all_goals
      go_wp2
      go_meet
      case rel =>
        refine ⟨_, _, p, n, g, g', p2, n2, k, k', rfl, rfl, ?_, ?_, ?_, ?_, hper, hrep, hper2, hrep2, ?_, ?_, ?_, ?_, ?_⟩
        · first | (go_simp; done) | (go_simp; refine World.cell?_setCell_same' _ _ _ ?_; simp (disch := first | omega | (simp; done) | (simp; omega)) [hcB, hcA, World.cell?_alloc_lt])
        · first | (go_simp; done) | (go_simp; refine World.cell?_setCell_same' _ _ _ ?_; simp (disch := first | omega | (simp; done) | (simp; omega)) [World.cell?_setCell_other, hcB, hcA, World.cell?_alloc_lt])
        · first | (go_simp; done) | (go_simp; refine World.cell?_setCell_same' _ _ _ ?_; simp (disch := first | omega | (simp; done) | (simp; omega)) [World.cell?_setCell_far, hcB, hcA, World.cell?_alloc_lt])
        · first | (go_simp; done) | (go_simp; refine World.cell?_setCell_same' _ _ _ ?_; simp (disch := first | omega | (simp; done) | (simp; omega)) [World.cell?_setCell_far, World.cell?_setCell_other, hcB, hcA, World.cell?_alloc_lt])
        · refine oA.far fun i => ?_; simp (disch := first | omega | (simp; done) | (simp; omega)) only [World.cell?_setCell_far, World.cell?_alloc_lt]
        · refine oA'.far fun i => ?_; simp (disch := first | omega | (simp; done) | (simp; omega)) only [World.cell?_setCell_far, World.cell?_alloc_lt]
        · refine hoB.far fun i => ?_; simp (disch := first | omega | (simp; done) | (simp; omega)) only [World.cell?_setCell_far, World.cell?_alloc_lt]
        · refine hoB'.far fun i => ?_; simp (disch := first | omega | (simp; done) | (simp; omega)) only [World.cell?_setCell_far, World.cell?_alloc_lt]
        · exact (show Keep2 w.heap.size w _ (.slice a h.length c) (.slice a' l.length c') (.slice b h'.length d) (.slice b' l'.length d') from by assumption).1
  case rest =>
    obtain ⟨b8, b9, p, n, g, g', p2, n2, k, k', rfl, rfl, c0, c1, e0, e1, hper, hrep, hper2, hrep2, i1, i2, i3, i4, hbw⟩ := hcut
    have S1 := shortest_of hl0 hper hrep
    have S2 := shortest_of gl0 hper2 hrep2
    have HI : Hid (sameF h l h' l' = (decide (pieceF h l 0 n = pieceF h' l' 0 n2) && decide (pieceF h l n p = pieceF h' l' n2 p2))) := by
      rw [Bool.eq_iff_iff, sameF_iff hl0 gl0, ← pieces_iff S1 S2, Bool.and_eq_true, decide_eq_true_iff, decide_eq_true_iff]; exact Iff.rfl
    have E1 : Hid (∀ m, Calls Try.prog 28 #[.slice (some ⟨g, 0, none⟩) n n, .slice (some ⟨k, 0, none⟩) n2 n2] (wc.drewN m) fun e w' => e = .returned (.bool (decide (pieceF h l 0 n = pieceF h' l' 0 n2))) ∧ ∃ m', w' = (wc.drewN m).drewN m') := by
      intro m
      have := equal_any (some ⟨g, 0, none⟩) (some ⟨k, 0, none⟩) n n2 (pieceF h l 0 n) (pieceF h' l' 0 n2) (wc.drewN m) (i1.later (below_drewN (Below.refl _ _) _)) (i3.later (below_drewN (Below.refl _ _) _)) (by rw [length_pieceF]; have := hrep.le; unfold maxLen; omega) (by rw [length_pieceF]; have := hrep2.le; unfold maxLen; omega)
      simpa only [length_pieceF] using this
    have E2 : Hid (∀ m, Calls Try.prog 28 #[.slice (some ⟨g', 0, none⟩) p p, .slice (some ⟨k', 0, none⟩) p2 p2] (wc.drewN m) fun e w' => e = .returned (.bool (decide (pieceF h l n p = pieceF h' l' n2 p2))) ∧ ∃ m', w' = (wc.drewN m).drewN m') := by
      intro m
      have := equal_any (some ⟨g', 0, none⟩) (some ⟨k', 0, none⟩) p p2 (pieceF h l n p) (pieceF h' l' n2 p2) (wc.drewN m) (i2.later (below_drewN (Below.refl _ _) _)) (i4.later (below_drewN (Below.refl _ _) _)) (by rw [length_pieceF]; have := hper.le; unfold maxLen; omega) (by rw [length_pieceF]; have := hper2.le; unfold maxLen; omega)
      simpa only [length_pieceF] using this
    have HBW : Hid (Below w.heap.size w wc) := hbw
    clear S1 S2 hper hrep hper2 hrep2 i1 i2 i3 i4 hbw
    generalize decide (pieceF h l 0 n = pieceF h' l' 0 n2) = x at *
    generalize decide (pieceF h l n p = pieceF h' l' n2 p2) = y at *
    go_wp2_with fail
    refine (E1.out 0).mono ?_
    rintro e w5 ⟨rfl, m1, rfl⟩
    cases x
    · go_wp2
      go_ret2
      exact ⟨by rw [HI.out]; rfl, below_drewN HBW.out _⟩
    · go_wp2_with fail
      refine (E2.out _).mono ?_
      rintro e w6 ⟨rfl, m2, rfl⟩
      go_wp2
      go_ret2
      exact ⟨by rw [HI.out]; simp, below_drewN HBW.out _⟩

end Go.Proofs.Ythccdfjmkdcehaa
