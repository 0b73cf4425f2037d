/- How the program reads a whole formula over words. -/
import Derived.Test.YtaommgnlnfhbfaaKRow
namespace Go.Proofs.Ytaommgnlnfhbfaa
open Go.RowKit
set_option linter.unusedVariables false

theorem two_cellsK {w : World} {b : Nat} {u0 u1 : Value} {t : TypeId} (h : w.heap[b]? = some (.cells #[u0, u1] t (0, 0))) :
    w.cell? ⟨b, 0, none⟩ = some u0 ∧ w.cell? ⟨b, 1, none⟩ = some u1 ∧ w.frozen? ⟨b, 0, none⟩ = false ∧ w.frozen? ⟨b, 1, none⟩ = false :=
  ⟨by rw [cell_of_row w b 0 _ t (0, 0) h]; rfl, by rw [cell_of_row w b 1 _ t (0, 0) h]; rfl, frozen_of_row w b 0 _ t h, frozen_of_row w b 1 _ t h⟩
def codeK : LRes → Int | .good _ _ _ => 0 | .bad c _ => c
def atK : LRes → Nat | .good _ _ _ => 0 | .bad _ j => j
/-- What reading a formula leaves behind. -/
def KParsed (w : World) (R : LRes) (e : Ending) (w' : World) : Prop :=
  Below w.heap.size w w' ∧ ∃ v, e = .returned (.tuple #[v, .agg #[.int .i64 (codeK R), .int .i64 (atK R)]]) ∧ match R with
  | .good f _ _ => TreeL (fun k => w.heap.size ≤ k) w' v (trL f)
  | .bad c j => True
theorem two_newK (w : World) (s : ByteArray) : ∃ W, W = ((w.alloc (.cells #[.int .i64 0, .int .i64 0] 24)).alloc (.cells #[.string s, .int .i64 0, .int .i64 0, .int .i64 0, .int .i64 0, .int .i64 0] 49)) ∧ w.grownBy W none ∧ W.heap[w.heap.size]? = some (.cells #[.int .i64 0, .int .i64 0] 24 (0, 0)) ∧ LRd W (w.heap.size + 1) s 0 0 0 0 0 ∧ W.heap.size = w.heap.size + 2 := by
  have h0 := heap_alloc_new w (.cells #[.int .i64 0, .int .i64 0] 24)
  have h1 := heap_alloc_new (w.alloc (.cells #[.int .i64 0, .int .i64 0] 24)) (.cells #[.string s, .int .i64 0, .int .i64 0, .int .i64 0, .int .i64 0, .int .i64 0] 49)
  rw [World.size_alloc] at h1
  refine ⟨_, rfl, grown_trans (grown_alloc _ _) (grown_alloc _ _), ?_, h1, by simp⟩
  rw [Below.heap_alloc _ _ _ (by simp)]; exact h0

set_option maxRecDepth 100000 in
set_option maxHeartbeats 3200000 in
theorem readK_any (s : ByteArray) (w : World) (hm : s.size ≤ maxLen) : Calls Try.prog 10 #[.string s] w (KParsed w (parseK s)) := by
  unfold maxLen at hm
  by_cases hs : 4000 < s.size
  · have hs' : (4000 : Int) < (s.size : Int) := by omega
    have hR : parseK s = .bad 1 0 := by simp [parseK, hs]
    rw [hR]
    go_enter Try.func10, Try.ntmps10
    go_wp2
    exact bodyPost_ret (v := .tuple #[.pointer none, .agg #[.int .i64 1, .int .i64 0]]) (by simp [results, Try.results10, go_sem]) rfl ⟨(Below.refl _ _).alloc (Nat.le_refl _) _, _, rfl, trivial⟩
  · have hs' : ¬ (4000 : Int) < (s.size : Int) := by omega
    have hs4 : s.size ≤ 4000 := by omega
    obtain ⟨W0, hW0, g0, k0, r0, z0⟩ := two_newK w s
    have HW0 : Hid (((w.alloc (.cells #[.int .i64 0, .int .i64 0] 24)).alloc (.cells #[.string s, .int .i64 0, .int .i64 0, .int .i64 0, .int .i64 0, .int .i64 0] 49)) = W0) := hW0.symm
    have HW : Hid (Calls Try.prog 15 #[.pointer (some ⟨w.heap.size + 1, 0, none⟩), .slice none 0 0] W0 (KGives s (w.heap.size + 1) 0 W0 (formK s (lvK s (s.size + 1)) 0 0 0 []))) := formK_all s hs4 (s.size + 1) 0 0 0 _ [] W0 none 0 (by omega) (by omega) (by omega) (by omega) (by simp) r0 (.inl ⟨rfl, rfl, rfl⟩)
    have hfw := formK_fwd (s := s) (lvK_fwd (s.size + 1)) 0 0 0 [] (by omega) (by omega)
    -- what formula leaves: the reader, the fault's box, the answer
    have HX : Hid (∀ (e : Ending) (w3 : World), KGives s (w.heap.size + 1) 0 W0 (formK s (lvK s (s.size + 1)) 0 0 0 []) e w3 → ∃ (x : Option Addr) (q n : Nat) (c : Int) (a : Nat), e = .returned (.pointer x) ∧ w3.heap[w.heap.size]? = some (.cells #[.int .i64 0, .int .i64 0] 24 (0, 0)) ∧ Below w.heap.size w w3 ∧ LRd w3 (w.heap.size + 1) s q n 0 c a ∧ q ≤ s.size ∧
        ((∃ f, parseK s = (if q < s.size then .bad 4 q else .good f q n) ∧ c = 0 ∧ a = 0 ∧ TreeL (fun k => w.heap.size + 2 ≤ k) w3 (.pointer x) (trL f)) ∨ (parseK s = .bad c a ∧ c ≠ 0 ∧ q = s.size))) := by
      intro e w3 h
      obtain ⟨hg, h⟩ := h
      have b1 : w3.heap[w.heap.size]? = some (.cells #[.int .i64 0, .int .i64 0] 24 (0, 0)) := (hg.block _ (by omega) (by simp)).trans k0
      have b2 : Below w.heap.size w w3 := (below_of_grown g0).trans (grown_below hg (by omega) g0.size)
      have hp : parseK s = match formK s (lvK s (s.size + 1)) 0 0 0 [] with
        | .bad c j => .bad c j
        | .good f j n => if j < s.size then .bad 4 j else .good f j n := by unfold parseK; rw [if_neg hs]; cases formK s (lvK s (s.size + 1)) 0 0 0 [] <;> rfl
      cases hR : formK s (lvK s (s.size + 1)) 0 0 0 [] with
      | good f j n =>
        rw [hR] at h hp hfw
        obtain ⟨v, rfl, hr, ht⟩ := h
        obtain ⟨x, rfl⟩ := ht.form
        exact ⟨x, j, n, 0, 0, rfl, b1, b2, hr, hfw.2.1, .inl ⟨f, hp, rfl, rfl, ht.from (by omega)⟩⟩
      | bad c j =>
        rw [hR] at h hp hfw
        obtain ⟨v, k, l, r, se, u, y, n', rfl, _, hr, ht⟩ := h
        obtain ⟨x, rfl⟩ := ht.form
        exact ⟨x, s.size, n', c, j, rfl, b1, b2, hr, Nat.le_refl _, .inr ⟨hp, by have := hfw.1; omega, rfl⟩⟩
    clear hs hm hW0 hfw g0 k0 r0 z0
    generalize parseK s = R at *
    go_enter Try.func10, Try.ntmps10
    go_wp2_with fail
    rw [HW0.out]
    refine HW.out.mono ?_
    intro e w3 hg3
    obtain ⟨x, q, n, c, a, rfl, hf3, hb3, hr3, hq, hcase⟩ := HX.out e w3 hg3
    have F3 : Hid (w3.heap[w.heap.size]? = some (.cells #[.int .i64 0, .int .i64 0] 24 (0, 0))) := hf3
    have B3 : Hid (Below w.heap.size w w3) := hb3
    have R3 : Hid (LRd w3 (w.heap.size + 1) s q n 0 c a) := hr3
    clear hf3 hb3 hr3 hg3 HX HW HW0
    have c1 := R3.out.c1
    rcases hcase with ⟨f, rfl, rfl, rfl, ht⟩ | ⟨rfl, hc, rfl⟩
    · have T3 : Hid (TreeL (fun k => w.heap.size + 2 ≤ k) w3 (.pointer x) (trL f)) := ht
      clear ht
      by_cases hjl : q < s.size
      · have hjl' : (q : Int) < (s.size : Int) := by omega
        rw [if_pos hjl]
        go_wp2_with fail
        refine (failK_first s (w.heap.size + 1) q n 0 0 4 w3 hs4 R3.out).mono ?_
        rintro e w4 ⟨rfl, hg4, hr4⟩
        have B4 : Hid (Below w.heap.size w w4) := B3.out.trans (grown_below hg4 (by omega) B3.out.size)
        have F4 : Hid (w4.heap[w.heap.size]? = some (.cells #[.int .i64 0, .int .i64 0] 24 (0, 0))) := (hg4.block _ (Array.getElem?_eq_some_iff.1 F3.out).1 (by simp)).trans F3.out
        have c4 := hr4.c4
        have c5 := hr4.c5
        obtain ⟨d0, d1, e0, e1⟩ := two_cellsK F4.out
        clear hg4 hr4 c1 R3 F3 B3 T3
        go_wp2_with fail
        go_region
        go_wp2_with fail
        have q0 : ((w4.setCell ⟨w.heap.size, 0, none⟩ (.int .i64 4)).setCell ⟨w.heap.size, 1, none⟩ (.int .i64 (q : Nat))).heap[w.heap.size]? = some (.cells #[.int .i64 4, .int .i64 (q : Nat)] 24 (0, 0)) := by
          rw [heap_setCell_same _ w.heap.size 1 _ 24 _ (heap_setCell_same _ w.heap.size 0 _ 24 _ F4.out)]; rfl
        have k0 : ((w4.setCell ⟨w.heap.size, 0, none⟩ (.int .i64 4)).setCell ⟨w.heap.size, 1, none⟩ (.int .i64 (q : Nat))).drew.cell? ⟨w.heap.size, 0, none⟩ = some (.int .i64 4) := (two_cellsK q0).1
        have k1 : ((w4.setCell ⟨w.heap.size, 0, none⟩ (.int .i64 4)).setCell ⟨w.heap.size, 1, none⟩ (.int .i64 (q : Nat))).drew.cell? ⟨w.heap.size, 1, none⟩ = some (.int .i64 (q : Nat)) := (two_cellsK q0).2.1
        exact bodyPost_ret (v := .tuple #[.pointer x, .agg #[.int .i64 4, .int .i64 (q : Nat)]]) (by simp [results, Try.results10, go_sem, k0, k1]) rfl ⟨((B4.out.setCell (Nat.le_refl _) _).setCell (Nat.le_refl _) _).drew, _, rfl, trivial⟩
      · have hjl' : ¬ (q : Int) < (s.size : Int) := by omega
        rw [if_neg hjl]
        have c4 := R3.out.c4
        have c5 := R3.out.c5
        obtain ⟨d0, d1, e0, e1⟩ := two_cellsK F3.out
        go_wp2_with fail
        go_region
        go_wp2_with fail
        have q0 : ((w3.setCell ⟨w.heap.size, 0, none⟩ (.int .i64 0)).setCell ⟨w.heap.size, 1, none⟩ (.int .i64 0)).heap[w.heap.size]? = some (.cells #[.int .i64 0, .int .i64 0] 24 (0, 0)) := by
          rw [heap_setCell_same _ w.heap.size 1 _ 24 _ (heap_setCell_same _ w.heap.size 0 _ 24 _ F3.out)]; rfl
        have k0 : ((w3.setCell ⟨w.heap.size, 0, none⟩ (.int .i64 0)).setCell ⟨w.heap.size, 1, none⟩ (.int .i64 0)).drew.cell? ⟨w.heap.size, 0, none⟩ = some (.int .i64 0) := (two_cellsK q0).1
        have k1 : ((w3.setCell ⟨w.heap.size, 0, none⟩ (.int .i64 0)).setCell ⟨w.heap.size, 1, none⟩ (.int .i64 0)).drew.cell? ⟨w.heap.size, 1, none⟩ = some (.int .i64 0) := (two_cellsK q0).2.1
        exact bodyPost_ret (v := .tuple #[.pointer x, .agg #[.int .i64 0, .int .i64 0]]) (by simp [results, Try.results10, go_sem, k0, k1]) rfl ⟨((B3.out.setCell (Nat.le_refl _) _).setCell (Nat.le_refl _) _).drew, _, rfl, (T3.out.kept fun g hg hlt => ⟨by omega, by show (World.setCell _ _ _).heap[g]? = _; rw [Below.heap_setCell _ _ _ _ (by simp; omega), Below.heap_setCell _ _ _ _ (by simp; omega)]⟩)⟩
    · have c4 := R3.out.c4
      have c5 := R3.out.c5
      have hjl' : ¬ (s.size : Int) < (s.size : Int) := by omega
      obtain ⟨d0, d1, e0, e1⟩ := two_cellsK F3.out
      go_wp2_with fail
      go_region
      go_wp2_with fail
      have q0 : ((w3.setCell ⟨w.heap.size, 0, none⟩ (.int .i64 c)).setCell ⟨w.heap.size, 1, none⟩ (.int .i64 (a : Nat))).heap[w.heap.size]? = some (.cells #[.int .i64 c, .int .i64 (a : Nat)] 24 (0, 0)) := by
        rw [heap_setCell_same _ w.heap.size 1 _ 24 _ (heap_setCell_same _ w.heap.size 0 _ 24 _ F3.out)]; rfl
      have k0 : ((w3.setCell ⟨w.heap.size, 0, none⟩ (.int .i64 c)).setCell ⟨w.heap.size, 1, none⟩ (.int .i64 (a : Nat))).drew.cell? ⟨w.heap.size, 0, none⟩ = some (.int .i64 c) := (two_cellsK q0).1
      have k1 : ((w3.setCell ⟨w.heap.size, 0, none⟩ (.int .i64 c)).setCell ⟨w.heap.size, 1, none⟩ (.int .i64 (a : Nat))).drew.cell? ⟨w.heap.size, 1, none⟩ = some (.int .i64 (a : Nat)) := (two_cellsK q0).2.1
      exact bodyPost_ret (v := .tuple #[.pointer x, .agg #[.int .i64 c, .int .i64 (a : Nat)]]) (by simp [results, Try.results10, go_sem, k0, k1]) rfl ⟨((B3.out.setCell (Nat.le_refl _) _).setCell (Nat.le_refl _) _).drew, _, rfl, trivial⟩

theorem KParsed.flat {w w' : World} {R : LRes} {e : Ending} (h : KParsed w R e w') : ∃ v, e = .returned (.tuple #[v, .agg #[.int .i64 (codeK R), .int .i64 (atK R)]]) ∧ Below w.heap.size w w' := by
  obtain ⟨hb, v, he, _⟩ := h
  exact ⟨v, he, hb⟩

theorem checkK_any (s : ByteArray) (w : World) (hm : s.size ≤ maxLen) : Calls Try.prog 5 #[.string s] w fun e w' => e = .returned (.agg #[.int .i64 (codeK (parseK s)), .int .i64 (atK (parseK s))]) ∧ Below w.heap.size w w' := by
  have H : Hid (∀ W, Calls Try.prog 10 #[.string s] W fun e w' => ∃ v, e = .returned (.tuple #[v, .agg #[.int .i64 (codeK (parseK s)), .int .i64 (atK (parseK s))]]) ∧ Below W.heap.size W w') := fun W => (readK_any s W hm).mono fun e w' h => h.flat
  generalize codeK (parseK s) = c at *
  generalize atK (parseK s) = a at *
  go_enter Try.func5, Try.ntmps5
  go_wp2_with fail
  refine (H.out _).mono ?_
  rintro e w2 ⟨v, rfl, hb⟩
  have d0 : w2.cell? ⟨w.heap.size, 0, none⟩ = some (.int .i64 0) := by rw [hb.cell (by simp)]; simp
  have d1 : w2.cell? ⟨w.heap.size, 1, none⟩ = some (.int .i64 0) := by rw [hb.cell (by simp)]; simp
  have e0 : w2.frozen? ⟨w.heap.size, 0, none⟩ = false := by rw [hb.frozen (by simp)]; simp
  have e1 : w2.frozen? ⟨w.heap.size, 1, none⟩ = false := by rw [hb.frozen (by simp)]; simp
  have hlt : w.heap.size < w2.heap.size := by have := hb.size; simp at this; omega
  have B : Hid (Below w.heap.size w w2) := ((Below.refl _ _).alloc (Nat.le_refl _) _).trans (hb.mono (by simp))
  have F : Hid (w2.heap[w.heap.size]? = some (.cells #[.int .i64 0, .int .i64 0] 24 (0, 0))) := (hb.block _ (by simp)).trans (heap_alloc_new w _)
  clear hb
  go_wp2_with fail
  have q0 : (((w2.setCell ⟨w.heap.size, 0, none⟩ (.int .i64 c)).setCell ⟨w.heap.size, 1, none⟩ (.int .i64 (a : Nat))).alloc (.cells #[.int .i64 c, .int .i64 a] 24)).heap[w.heap.size]? = some (.cells #[.int .i64 c, .int .i64 (a : Nat)] 24 (0, 0)) := by
    rw [Below.heap_alloc _ _ _ (by simpa [World.setCell] using hlt), heap_setCell_same _ w.heap.size 1 _ 24 _ (heap_setCell_same _ w.heap.size 0 _ 24 _ F.out)]; rfl
  have kB : Below w.heap.size w (((w2.setCell ⟨w.heap.size, 0, none⟩ (.int .i64 c)).setCell ⟨w.heap.size, 1, none⟩ (.int .i64 (a : Nat))).alloc (.cells #[.int .i64 c, .int .i64 a] 24)) := ((B.out.setCell (Nat.le_refl _) _).setCell (Nat.le_refl _) _).alloc (by simp [World.setCell]; omega) _
  generalize (((w2.setCell ⟨w.heap.size, 0, none⟩ (.int .i64 c)).setCell ⟨w.heap.size, 1, none⟩ (.int .i64 (a : Nat))).alloc (.cells #[.int .i64 c, .int .i64 a] 24)) = W5 at q0 kB ⊢
  exact bodyPost_ret (v := .agg #[.int .i64 c, .int .i64 a]) (by simp [results, Try.results5, go_sem, (two_cellsK q0).1, (two_cellsK q0).2.1]) rfl ⟨rfl, kB⟩

end Go.Proofs.Ytaommgnlnfhbfaa
