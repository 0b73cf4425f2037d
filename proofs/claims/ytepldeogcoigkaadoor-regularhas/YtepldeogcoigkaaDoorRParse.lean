/- How the reference reads a whole text. -/
import Derived.Test.YtepldeogcoigkaaDoorRWhole
import Derived.BigRegion
namespace Go.Proofs.YtepldeogcoigkaaDoor
open Go.RowKit
set_option linter.unusedVariables false

/-- What the reference's reading of a text leaves behind. -/
def RParsed (w : World) (R : Res) (e : Ending) (w' : World) : Prop :=
  Below w.heap.size w w' ∧ match R with
  | .good m j => ∃ (L : Value) (ps : List PartR) (b k : Nat), e = .returned (.tuple #[L, .agg #[.int .i64 0, .int .i64 0]]) ∧ w.heap.size ≤ b ∧ Parts w' b L ps ∧ k + 1 = ps.length ∧ Means ps k m ∧ ps.length ≤ 13000
  | .bad c j => e = .returned (.tuple #[.slice none 0 0, .agg #[.int .i64 c, .int .i64 j]])

set_option maxHeartbeats 1600000 in
theorem rparse_any (s : ByteArray) (w : World) (hm : s.size ≤ maxLen) : Calls Tryd.prog 5 #[.string s] w (RParsed w (parseR s)) := by
  unfold maxLen at hm
  by_cases hs : 4000 < s.size
  · have hs' : (4000 : Int) < (s.size : Int) := by omega
    have hR : parseR s = .bad 1 0 := by simp [parseR, hs]
    rw [hR]
    go_enter Tryd.func5, Tryd.ntmps5
    go_wp2
    refine bodyPost_ret (v := .tuple #[.slice none 0 0, .agg #[.int .i64 1, .int .i64 0]]) (by simp [results, Tryd.results5, go_sem]) rfl ⟨(Below.refl _ _).alloc (Nat.le_refl _) _, rfl⟩
  · have hs' : ¬ (4000 : Int) < (s.size : Int) := by omega
    have hs4 : s.size ≤ 4000 := by omega
    generalize hW : ((w.alloc (.cells #[.int .i64 0, .int .i64 0] 28)).alloc (.cells #[.string s, .int .i64 0, .int .i64 0, .slice none 0 0, .int .i64 0, .int .i64 0] 42)) = w2
    have HG : Hid (((w.alloc (.cells #[.int .i64 0, .int .i64 0] 28)).alloc (.cells #[.string s, .int .i64 0, .int .i64 0, .slice none 0 0, .int .i64 0, .int .i64 0] 42)) = w2) := hW
    have R0 : Hid (RRd w2 (w.heap.size + 1) s 0 0 (.slice none 0 0) 0 0) := by
      have h1 := heap_alloc_new (w.alloc (.cells #[.int .i64 0, .int .i64 0] 28)) (.cells #[.string s, .int .i64 0, .int .i64 0, .slice none 0 0, .int .i64 0, .int .i64 0] 42)
      have h2 : (w.alloc (.cells #[.int .i64 0, .int .i64 0] 28)).heap.size = w.heap.size + 1 := by simp
      rw [h2, hW] at h1
      exact h1
    have F0 : Hid (w2.heap[w.heap.size]? = some (.cells #[.int .i64 0, .int .i64 0] 28 (0, 0))) := by
      have h1 := Below.heap_alloc (w.alloc (.cells #[.int .i64 0, .int .i64 0] 28)) (.cells #[.string s, .int .i64 0, .int .i64 0, .slice none 0 0, .int .i64 0, .int .i64 0] 42) w.heap.size (by simp)
      rw [hW] at h1
      exact h1.trans (heap_alloc_new w _)
    have B0 : Hid (Below w.heap.size w w2) := by
      show Below _ _ _
      rw [← hW]; exact ((Below.refl _ _).alloc (Nat.le_refl _) _).alloc (by simp) _
    have P0 : Hid (Parts w2 (w.heap.size + 1) (.slice none 0 0) []) := ⟨World.ownsRow_nil _ _ _ _, fun p hp => by simp at hp⟩
    have HW : Hid (Calls Tryd.prog 12 #[.pointer (some ⟨w.heap.size + 1, 0, none⟩)] w2 (RGives s (w.heap.size + 1) 0 0 w2 (.slice none 0 0) [] 0 2 (wholeF s (s.size + 1) 0 0))) := rwhole_all s hs4 (s.size + 1) 0 0 _ w2 _ [] (by omega) (by omega) (by omega) (by simp) R0.out P0.out
    have hadv := adv_whole (s := s) (s.size + 1) 0 0
    have hpr : parseR s = match wholeF s (s.size + 1) 0 0 with
      | .bad c j => .bad c j
      | .good m j => if j < s.size then .bad 4 j else .good m j := by unfold parseR; rw [if_neg hs]; cases wholeF s (s.size + 1) 0 0 <;> rfl
    rw [hpr]
    clear hs hm hW hpr
    generalize wholeF s (s.size + 1) 0 0 = R at *
    have HX : Hid (∀ (e : Ending) (w3 : World), RGives s (w.heap.size + 1) 0 0 w2 (.slice none 0 0) [] 0 2 R e w3 → ∃ (k : Int) (L : Value) (qs : List PartR) (q : Nat) (c : Int) (a : Nat), e = .returned (.int .i64 k) ∧ w3.heap[w.heap.size]? = some (.cells #[.int .i64 0, .int .i64 0] 28 (0, 0)) ∧ Below w.heap.size w w3 ∧ Parts w3 (w.heap.size + 1) L qs ∧ RRd w3 (w.heap.size + 1) s q 0 L c a ∧ qs.length ≤ 13000 ∧ q ≤ s.size ∧
        ((∃ m, R = .good m q ∧ c = 0 ∧ a = 0 ∧ (∃ kk : Nat, kk + 1 = qs.length ∧ Means qs kk m)) ∨ (R = .bad c q ∧ c ≠ 0 ∧ q = a))) := by
      intro e w3 h
      cases R with
      | good m j =>
        obtain ⟨L', qs, hF, hP, hN, kk, hkk, he, h0, hR, hM, hq⟩ := h
        have := hadv m j rfl
        refine ⟨kk, L', qs, j, 0, 0, he, (hF.block _ (Array.getElem?_eq_some_iff.1 F0.out).1 (by omega) (by simp [Value.ownBlock])).trans F0.out, B0.out.trans (hF.below (by omega) B0.out.size (by simp [Value.ownBlock])), by simpa using hP, hR, by omega, by omega, .inl ⟨m, rfl, rfl, rfl, kk, by simpa using hkk, by simpa using hM⟩⟩
      | bad c j =>
        obtain ⟨L', qs, hF, hP, hN, ⟨k, he⟩, hR, hc, h1, h2, hq⟩ := h
        exact ⟨k, L', qs, j, c, j, he, (hF.block _ (Array.getElem?_eq_some_iff.1 F0.out).1 (by omega) (by simp [Value.ownBlock])).trans F0.out, B0.out.trans (hF.below (by omega) B0.out.size (by simp [Value.ownBlock])), by simpa using hP, hR, by omega, h2, .inr ⟨rfl, hc, rfl⟩⟩
    clear R0 F0 B0 P0 hadv
    go_enter Tryd.func5, Tryd.ntmps5
    go_wp2_with fail
    rw [HG.out]
    refine HW.out.mono ?_
    intro e w3 hg3
    obtain ⟨k, L, qs, q, c, a, rfl, hf3, hb3, hp3, hr3, hq3, hqs, hcase⟩ := HX.out e w3 hg3
    have F3 : Hid (w3.heap[w.heap.size]? = some (.cells #[.int .i64 0, .int .i64 0] 28 (0, 0))) := hf3
    have B3 : Hid (Below w.heap.size w w3) := hb3
    have P3 : Hid (Parts w3 (w.heap.size + 1) L qs) := hp3
    have R3 : Hid (RRd w3 (w.heap.size + 1) s q 0 L c a) := hr3
    clear hf3 hb3 hp3 hr3 hg3 HX HW HG
    have c1 := R3.out.c1
    have f1 := R3.out.f 1
    rcases hcase with ⟨m, rfl, rfl, rfl, kk, hkk, hM⟩ | ⟨rfl, hc, rfl⟩
    · by_cases hjl : q < s.size
      · have hjl' : (q : Int) < (s.size : Int) := by omega
        go_wp2_with fail
        refine (fail_first s (w.heap.size + 1) q 0 L 0 4 w3 R3.out).mono ?_
        rintro e w4 ⟨rfl, hg4, hr4⟩
        have B4 : Hid (Below w.heap.size w w4) := B3.out.trans (grown_below hg4 (by omega) B3.out.size)
        have F4 : w4.heap[w.heap.size]? = some (.cells #[.int .i64 0, .int .i64 0] 28 (0, 0)) := (hg4.block _ (Array.getElem?_eq_some_iff.1 F3.out).1 (by simp)).trans F3.out
        have HF4 : Hid (w4.heap[w.heap.size]? = some (.cells #[.int .i64 0, .int .i64 0] 28 (0, 0))) := F4
        have c4 := hr4.c4
        have c5 := hr4.c5
        have f4 := hr4.f 4
        have f5 := hr4.f 5
        have d0 := (two_cells F4).1
        have d1 := (two_cells F4).2.1
        have e0 := (two_cells F4).2.2.1
        have e1 := (two_cells F4).2.2.2
        clear hg4 hr4 F4 c1 f1 R3 P3 F3 B3
        go_wp2_with fail
        go_region
        go_wp2_with fail
        have q0 : ((w4.setCell ⟨w.heap.size, 0, none⟩ (.int .i64 4)).setCell ⟨w.heap.size, 1, none⟩ (.int .i64 (q : Nat))).heap[w.heap.size]? = some (.cells #[.int .i64 4, .int .i64 (q : Nat)] 28 (0, 0)) := by
          rw [heap_setCell_same _ w.heap.size 1 _ 28 _ (heap_setCell_same _ w.heap.size 0 _ 28 _ HF4.out)]; rfl
        have k0 : ((w4.setCell ⟨w.heap.size, 0, none⟩ (.int .i64 4)).setCell ⟨w.heap.size, 1, none⟩ (.int .i64 (q : Nat))).drew.cell? ⟨w.heap.size, 0, none⟩ = some (.int .i64 4) := (two_cells q0).1
        have k1 : ((w4.setCell ⟨w.heap.size, 0, none⟩ (.int .i64 4)).setCell ⟨w.heap.size, 1, none⟩ (.int .i64 (q : Nat))).drew.cell? ⟨w.heap.size, 1, none⟩ = some (.int .i64 (q : Nat)) := (two_cells q0).2.1
        have kB : Below w.heap.size w ((w4.setCell ⟨w.heap.size, 0, none⟩ (.int .i64 4)).setCell ⟨w.heap.size, 1, none⟩ (.int .i64 (q : Nat))).drew := ((B4.out.setCell (Nat.le_refl _) _).setCell (Nat.le_refl _) _).drew
        generalize ((w4.setCell ⟨w.heap.size, 0, none⟩ (.int .i64 4)).setCell ⟨w.heap.size, 1, none⟩ (.int .i64 (q : Nat))).drew = W5 at k0 k1 kB ⊢
        exact bodyPost_ret (v := .tuple #[.slice none 0 0, .agg #[.int .i64 4, .int .i64 q]]) (by simp [results, Tryd.results5, go_sem, k0, k1]) rfl ⟨kB, rfl⟩
      · have hjl' : ¬ (q : Int) < (s.size : Int) := by omega
        have c3 := R3.out.c3
        have f3 := R3.out.f 3
        have c4 := R3.out.c4
        have f4 := R3.out.f 4
        have d0 := (two_cells F3.out).1
        have d1 := (two_cells F3.out).2.1
        have e0 := (two_cells F3.out).2.2.1
        have e1 := (two_cells F3.out).2.2.2
        have hres : (if q < s.size then Res.bad 4 q else .good m q) = .good m q := if_neg hjl
        have HRES : Hid ((if q < s.size then Res.bad 4 q else .good m q) = .good m q) := hres
        have E : Hid (RParsed w (.good m q) (.returned (.tuple #[L, .agg #[.int .i64 0, .int .i64 0]])) ((w3.setCell ⟨w.heap.size, 0, none⟩ (.int .i64 0)).setCell ⟨w.heap.size, 1, none⟩ (.int .i64 0))) := by
          refine ⟨(B3.out.setCell (Nat.le_refl _) _).setCell (Nat.le_refl _) _, L, qs, w.heap.size + 1, kk, rfl, by omega, ?_, hkk, hM, hq3⟩
          have hg : w3.grownBy ((w3.setCell ⟨w.heap.size, 0, none⟩ (.int .i64 0)).setCell ⟨w.heap.size, 1, none⟩ (.int .i64 0)) (some w.heap.size) := grown_trans (grown_set _ _ _) (grown_set _ _ _)
          refine ⟨P3.out.own.kept hg (.inr fun e => by have := P3.out.block _ e; omega), fun p hp => (P3.out.at_ p hp).kept fun g hg' hlt => ⟨hg', hg.block g hlt (by simp; omega)⟩⟩
        have q0 : ((w3.setCell ⟨w.heap.size, 0, none⟩ (.int .i64 0)).setCell ⟨w.heap.size, 1, none⟩ (.int .i64 0)).heap[w.heap.size]? = some (.cells #[.int .i64 0, .int .i64 0] 28 (0, 0)) := by
          rw [heap_setCell_same _ w.heap.size 1 _ 28 _ (heap_setCell_same _ w.heap.size 0 _ 28 _ F3.out)]; rfl
        have Q0 : Hid _ := q0
        clear hres q0 hM P3 R3 F3 B3
        go_wp2_with fail
        refine bodyPost_ret (v := .tuple #[L, .agg #[.int .i64 0, .int .i64 0]]) (by simp [results, Tryd.results5, go_sem, (two_cells Q0.out).1, (two_cells Q0.out).2.1]) rfl ?_
        first | exact E.out | (rw [HRES.out]; exact E.out)
    · have c4 := R3.out.c4
      have c5 := R3.out.c5
      have f4 := R3.out.f 4
      have f5 := R3.out.f 5
      have hc' : (c == 0) = false := by simpa using hc
      have d0 := (two_cells F3.out).1
      have d1 := (two_cells F3.out).2.1
      have e0 := (two_cells F3.out).2.2.1
      have e1 := (two_cells F3.out).2.2.2
      by_cases hjl : q < s.size
      · have hjl' : (q : Int) < (s.size : Int) := by omega
        go_wp2_with fail
        refine (fail_again s (w.heap.size + 1) q 0 L c q 4 w3 hc R3.out).mono ?_
        rintro e w4 ⟨rfl, hw4⟩
        obtain rfl : w3 = w4 := hw4.symm
        go_wp2_with fail
        go_region
        go_wp2_with fail
        have q0 : ((w3.setCell ⟨w.heap.size, 0, none⟩ (.int .i64 c)).setCell ⟨w.heap.size, 1, none⟩ (.int .i64 (q : Nat))).heap[w.heap.size]? = some (.cells #[.int .i64 c, .int .i64 (q : Nat)] 28 (0, 0)) := by
          rw [heap_setCell_same _ w.heap.size 1 _ 28 _ (heap_setCell_same _ w.heap.size 0 _ 28 _ F3.out)]; rfl
        have k0 : ((w3.setCell ⟨w.heap.size, 0, none⟩ (.int .i64 c)).setCell ⟨w.heap.size, 1, none⟩ (.int .i64 (q : Nat))).drew.cell? ⟨w.heap.size, 0, none⟩ = some (.int .i64 c) := (two_cells q0).1
        have k1 : ((w3.setCell ⟨w.heap.size, 0, none⟩ (.int .i64 c)).setCell ⟨w.heap.size, 1, none⟩ (.int .i64 (q : Nat))).drew.cell? ⟨w.heap.size, 1, none⟩ = some (.int .i64 (q : Nat)) := (two_cells q0).2.1
        have kB : Below w.heap.size w ((w3.setCell ⟨w.heap.size, 0, none⟩ (.int .i64 c)).setCell ⟨w.heap.size, 1, none⟩ (.int .i64 (q : Nat))).drew := ((B3.out.setCell (Nat.le_refl _) _).setCell (Nat.le_refl _) _).drew
        generalize ((w3.setCell ⟨w.heap.size, 0, none⟩ (.int .i64 c)).setCell ⟨w.heap.size, 1, none⟩ (.int .i64 (q : Nat))).drew = W5 at k0 k1 kB ⊢
        exact bodyPost_ret (v := .tuple #[.slice none 0 0, .agg #[.int .i64 c, .int .i64 q]]) (by simp [results, Tryd.results5, go_sem, k0, k1]) rfl ⟨kB, rfl⟩
      · have hjl' : ¬ (q : Int) < (s.size : Int) := by omega
        go_wp2_with fail
        go_region
        go_wp2_with fail
        have q0 : ((w3.setCell ⟨w.heap.size, 0, none⟩ (.int .i64 c)).setCell ⟨w.heap.size, 1, none⟩ (.int .i64 (q : Nat))).heap[w.heap.size]? = some (.cells #[.int .i64 c, .int .i64 (q : Nat)] 28 (0, 0)) := by
          rw [heap_setCell_same _ w.heap.size 1 _ 28 _ (heap_setCell_same _ w.heap.size 0 _ 28 _ F3.out)]; rfl
        have k0 : ((w3.setCell ⟨w.heap.size, 0, none⟩ (.int .i64 c)).setCell ⟨w.heap.size, 1, none⟩ (.int .i64 (q : Nat))).drew.cell? ⟨w.heap.size, 0, none⟩ = some (.int .i64 c) := (two_cells q0).1
        have k1 : ((w3.setCell ⟨w.heap.size, 0, none⟩ (.int .i64 c)).setCell ⟨w.heap.size, 1, none⟩ (.int .i64 (q : Nat))).drew.cell? ⟨w.heap.size, 1, none⟩ = some (.int .i64 (q : Nat)) := (two_cells q0).2.1
        have kB : Below w.heap.size w ((w3.setCell ⟨w.heap.size, 0, none⟩ (.int .i64 c)).setCell ⟨w.heap.size, 1, none⟩ (.int .i64 (q : Nat))).drew := ((B3.out.setCell (Nat.le_refl _) _).setCell (Nat.le_refl _) _).drew
        generalize ((w3.setCell ⟨w.heap.size, 0, none⟩ (.int .i64 c)).setCell ⟨w.heap.size, 1, none⟩ (.int .i64 (q : Nat))).drew = W5 at k0 k1 kB ⊢
        exact bodyPost_ret (v := .tuple #[.slice none 0 0, .agg #[.int .i64 c, .int .i64 q]]) (by simp [results, Tryd.results5, go_sem, k0, k1]) rfl ⟨kB, rfl⟩

end Go.Proofs.YtepldeogcoigkaaDoor
