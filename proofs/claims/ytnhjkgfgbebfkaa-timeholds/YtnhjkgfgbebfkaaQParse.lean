/- How the reference reads a whole formula. -/
import Derived.Test.YtnhjkgfgbebfkaaQRow
import Derived.Test.YtnhjkgfgbebfkaaTParse
import Derived.BigRegion
namespace Go.Proofs.Ytnhjkgfgbebfkaa
open Go.RowKit
set_option linter.unusedVariables false

/-- What the reference's reading of a formula leaves behind. -/
def QParsed (w : World) (R : TRes) (e : Ending) (w' : World) : Prop :=
  Below w.heap.size w w' ∧ match R with
  | .good f _ _ _ => ∃ (L : Value) (ps : List NodR) (b k : Nat), e = .returned (.tuple #[L, .int .i64 (k : Int), .agg #[.int .i64 0, .int .i64 0]]) ∧ w.heap.size ≤ b ∧ NodsAt w' b L ps ∧ k < ps.length ∧ MeansN ps k f ∧ ps.length ≤ 31 ∧ AllN ps
  | .bad c j => e = .returned (.tuple #[.slice none 0 0, .int .i64 0, .agg #[.int .i64 c, .int .i64 j]])

theorem two_newQ (w : World) (s : ByteArray) : ∃ W, W = ((w.alloc (.cells #[.int .i64 0, .int .i64 0] 24)).alloc (.cells #[.string s, .int .i64 0, .int .i64 0, .int .i64 0, .int .i64 0, .slice none 0 0, .int .i64 0, .int .i64 0] 43)) ∧ w.grownBy W none ∧ W.heap[w.heap.size]? = some (.cells #[.int .i64 0, .int .i64 0] 24 (0, 0)) ∧ QRd W (w.heap.size + 1) s 0 0 0 0 (.slice none 0 0) 0 0 ∧ W.heap.size = w.heap.size + 2 := by
  have h0 := heap_alloc_new w (.cells #[.int .i64 0, .int .i64 0] 24)
  have h1 := heap_alloc_new (w.alloc (.cells #[.int .i64 0, .int .i64 0] 24)) (.cells #[.string s, .int .i64 0, .int .i64 0, .int .i64 0, .int .i64 0, .slice none 0 0, .int .i64 0, .int .i64 0] 43)
  rw [World.size_alloc] at h1
  refine ⟨_, rfl, grown_trans (grown_alloc _ _) (grown_alloc _ _), ?_, h1, by simp⟩
  rw [Below.heap_alloc _ _ _ (by simp)]; exact h0

set_option maxRecDepth 100000 in
set_option maxHeartbeats 3200000 in
theorem parseQ_any (s : ByteArray) (w : World) (hm : s.size ≤ maxLen) : Calls Try.prog 6 #[.string s] w (QParsed w (parseQ s)) := by
  unfold maxLen at hm
  by_cases hs : 4000 < s.size
  · have hs' : (4000 : Int) < (s.size : Int) := by omega
    have hR : parseQ s = .bad 1 0 := by simp [parseQ, hs]
    rw [hR]
    go_enter Try.func6, Try.ntmps6
    go_wp2
    refine bodyPost_ret (v := .tuple #[.slice none 0 0, .int .i64 0, .agg #[.int .i64 1, .int .i64 0]]) (by simp [results, Try.results6, go_sem]) rfl ⟨(Below.refl _ _).alloc (Nat.le_refl _) _, rfl⟩
  · have hs' : ¬ (4000 : Int) < (s.size : Int) := by omega
    have hs4 : s.size ≤ 4000 := by omega
    obtain ⟨W0, hW0, g0, k0, r0, z0⟩ := two_newQ w s
    have HW0 : Hid (((w.alloc (.cells #[.int .i64 0, .int .i64 0] 24)).alloc (.cells #[.string s, .int .i64 0, .int .i64 0, .int .i64 0, .int .i64 0, .slice none 0 0, .int .i64 0, .int .i64 0] 43)) = W0) := hW0.symm
    have P0 : NodsAt W0 (w.heap.size + 1) (.slice none 0 0) [] := World.ownsRow_nil _ _ _ _
    have HW : Hid (Calls Try.prog 11 #[.pointer (some ⟨w.heap.size + 1, 0, none⟩)] W0 (QGives s (w.heap.size + 1) 0 0 W0 (.slice none 0 0) [] (formQ s (lvQ s (s.size + 1)).2 0 0 0 0))) := formQ_all s hs4 (s.size + 1) 0 0 0 0 _ W0 _ [] (by omega) (by omega) (by omega) (by omega) (by omega) (by simp) r0 P0
    have hfw := formQ_fwd (s := s) (lvQ_fwd (s.size + 1)).2
    have hpr : parseQ s = match formQ s (lvQ s (s.size + 1)).2 0 0 0 0 with
      | .bad c j => .bad c j
      | .good f j n t => if j < s.size then .bad 4 j else .good f j n t := by unfold parseQ; rw [if_neg hs]; cases formQ s (lvQ s (s.size + 1)).2 0 0 0 0 <;> rfl
    have HX : Hid (∀ (e : Ending) (w3 : World), QGives s (w.heap.size + 1) 0 0 W0 (.slice none 0 0) [] (formQ s (lvQ s (s.size + 1)).2 0 0 0 0) e w3 → ∃ (k : Nat) (L : Value) (qs : List NodR) (q n t : Nat) (c : Int) (a : Nat), e = .returned (.int .i64 (k : Int)) ∧ w3.heap[w.heap.size]? = some (.cells #[.int .i64 0, .int .i64 0] 24 (0, 0)) ∧ Below w.heap.size w w3 ∧ NodsAt w3 (w.heap.size + 1) L qs ∧ QRd w3 (w.heap.size + 1) s q n t 0 L c a ∧ qs.length ≤ 31 ∧ q ≤ 5000 ∧
        ((∃ f, parseQ s = (if q < s.size then .bad 4 q else .good f q n t) ∧ c = 0 ∧ a = 0 ∧ q ≤ s.size ∧ k < qs.length ∧ MeansN qs k f ∧ AllN qs) ∨ (parseQ s = .bad c a ∧ c ≠ 0))) := by
      intro e w3 h
      have key : ∀ {L' : Value}, FrQ W0 w3 (w.heap.size + 1) (.slice none 0 0) L' → w3.heap[w.heap.size]? = some (.cells #[.int .i64 0, .int .i64 0] 24 (0, 0)) ∧ Below w.heap.size w w3 := fun hF => ⟨(hF.block _ (by omega) (by omega) (by simp [Value.ownBlock])).trans k0, (below_of_grown g0).trans (hF.below (by omega) g0.size (by simp [Value.ownBlock]))⟩
      cases hR : formQ s (lvQ s (s.size + 1)).2 0 0 0 0 with
      | good f j n t =>
        rw [hR] at h hpr
        obtain ⟨a1, a2, a3, a4, a5⟩ := hfw.good hR (by omega) (by omega) (by omega)
        obtain ⟨L', qs, n', hF, hP, h1, h2, h3, hn', k, he, hk, hr, hM⟩ := h
        obtain ⟨b1, b2⟩ := key hF
        exact ⟨k, L', qs, j, n, t, 0, 0, he, b1, b2, hP, hr, by omega, by omega, .inl ⟨f, hpr, rfl, rfl, a2, hk, hM.1, hM.2 (fun j hj => by simp at hj)⟩⟩
      | bad c j =>
        rw [hR] at h hpr
        have hc := (hfw.bad hR (by omega) (by omega) (by omega)).1
        obtain ⟨L', qs, n', hF, hP, h1, h2, h3, k, i', t', he, hi', ht', hr⟩ := h
        obtain ⟨b1, b2⟩ := key hF
        exact ⟨k, L', qs, i', n', t', c, j, he, b1, b2, hP, hr, by omega, by omega, .inr ⟨hpr, by omega⟩⟩
    clear hs hm hW0 hpr hfw g0 k0 r0 z0 P0
    generalize parseQ s = R at *
    go_enter Try.func6, Try.ntmps6
    go_wp2_with fail
    rw [HW0.out]
    refine HW.out.mono ?_
    intro e w3 hg3
    obtain ⟨k, L, qs, q, n, t, c, a, rfl, hf3, hb3, hp3, hr3, hq3, hqs, hcase⟩ := HX.out e w3 hg3
    have F3 : Hid (w3.heap[w.heap.size]? = some (.cells #[.int .i64 0, .int .i64 0] 24 (0, 0))) := hf3
    have B3 : Hid (Below w.heap.size w w3) := hb3
    have P3 : Hid (NodsAt w3 (w.heap.size + 1) L qs) := hp3
    have R3 : Hid (QRd w3 (w.heap.size + 1) s q n t 0 L c a) := hr3
    clear hf3 hb3 hp3 hr3 hg3 HX HW HW0
    have c1 := R3.out.c1
    have f1 := R3.out.f 1
    rcases hcase with ⟨f, rfl, rfl, rfl, hqn, hk, hM, hAN⟩ | ⟨rfl, hc⟩
    · by_cases hjl : q < s.size
      · have hjl' : (q : Int) < (s.size : Int) := by omega
        rw [if_pos hjl]
        go_wp2_with fail
        refine (failQ_first s (w.heap.size + 1) q n t 0 L 0 4 w3 R3.out).mono ?_
        rintro e w4 ⟨rfl, hg4, hr4⟩
        have B4 : Hid (Below w.heap.size w w4) := B3.out.trans (grown_below hg4 (by omega) B3.out.size)
        have F4 : w4.heap[w.heap.size]? = some (.cells #[.int .i64 0, .int .i64 0] 24 (0, 0)) := (hg4.block _ (Array.getElem?_eq_some_iff.1 F3.out).1 (by simp)).trans F3.out
        have HF4 : Hid (w4.heap[w.heap.size]? = some (.cells #[.int .i64 0, .int .i64 0] 24 (0, 0))) := F4
        have c6 := hr4.c6
        have c7 := hr4.c7
        have f6 := hr4.f 6
        have f7 := hr4.f 7
        obtain ⟨d0, d1, e0, e1⟩ := two_cellsT F4
        clear hg4 hr4 F4 c1 f1 R3 P3 F3 B3
        go_wp2_with fail
        go_region
        go_wp2_with fail
        have q0 : ((w4.setCell ⟨w.heap.size, 0, none⟩ (.int .i64 4)).setCell ⟨w.heap.size, 1, none⟩ (.int .i64 (q : Nat))).heap[w.heap.size]? = some (.cells #[.int .i64 4, .int .i64 (q : Nat)] 24 (0, 0)) := by
          rw [heap_setCell_same _ w.heap.size 1 _ 24 _ (heap_setCell_same _ w.heap.size 0 _ 24 _ HF4.out)]; rfl
        have k0 : ((w4.setCell ⟨w.heap.size, 0, none⟩ (.int .i64 4)).setCell ⟨w.heap.size, 1, none⟩ (.int .i64 (q : Nat))).drew.cell? ⟨w.heap.size, 0, none⟩ = some (.int .i64 4) := (two_cellsT q0).1
        have k1 : ((w4.setCell ⟨w.heap.size, 0, none⟩ (.int .i64 4)).setCell ⟨w.heap.size, 1, none⟩ (.int .i64 (q : Nat))).drew.cell? ⟨w.heap.size, 1, none⟩ = some (.int .i64 (q : Nat)) := (two_cellsT q0).2.1
        have kB : Below w.heap.size w ((w4.setCell ⟨w.heap.size, 0, none⟩ (.int .i64 4)).setCell ⟨w.heap.size, 1, none⟩ (.int .i64 (q : Nat))).drew := ((B4.out.setCell (Nat.le_refl _) _).setCell (Nat.le_refl _) _).drew
        generalize ((w4.setCell ⟨w.heap.size, 0, none⟩ (.int .i64 4)).setCell ⟨w.heap.size, 1, none⟩ (.int .i64 (q : Nat))).drew = W5 at k0 k1 kB ⊢
        exact bodyPost_ret (v := .tuple #[.slice none 0 0, .int .i64 0, .agg #[.int .i64 4, .int .i64 q]]) (by simp [results, Try.results6, go_sem, k0, k1]) rfl ⟨kB, rfl⟩
      · have hjl' : ¬ (q : Int) < (s.size : Int) := by omega
        rw [if_neg hjl]
        have c5 := R3.out.c5
        have f5 := R3.out.f 5
        have c6 := R3.out.c6
        have f6 := R3.out.f 6
        obtain ⟨d0, d1, e0, e1⟩ := two_cellsT F3.out
        have E : Hid (QParsed w (.good f q n t) (.returned (.tuple #[L, .int .i64 (k : Int), .agg #[.int .i64 0, .int .i64 0]])) ((w3.setCell ⟨w.heap.size, 0, none⟩ (.int .i64 0)).setCell ⟨w.heap.size, 1, none⟩ (.int .i64 0))) := by
          refine ⟨(B3.out.setCell (Nat.le_refl _) _).setCell (Nat.le_refl _) _, L, qs, w.heap.size + 1, k, rfl, by omega, ?_, hk, hM, hq3, hAN⟩
          have hg : w3.grownBy ((w3.setCell ⟨w.heap.size, 0, none⟩ (.int .i64 0)).setCell ⟨w.heap.size, 1, none⟩ (.int .i64 0)) (some w.heap.size) := grown_trans (grown_set _ _ _) (grown_set _ _ _)
          exact P3.out.kept hg (.inr fun e => by have := nods_block P3.out _ e; omega)
        have q0 : ((w3.setCell ⟨w.heap.size, 0, none⟩ (.int .i64 0)).setCell ⟨w.heap.size, 1, none⟩ (.int .i64 0)).heap[w.heap.size]? = some (.cells #[.int .i64 0, .int .i64 0] 24 (0, 0)) := by
          rw [heap_setCell_same _ w.heap.size 1 _ 24 _ (heap_setCell_same _ w.heap.size 0 _ 24 _ F3.out)]; rfl
        have Q0 : Hid _ := q0
        clear q0 hM P3 R3 F3 B3
        go_wp2_with fail
        exact bodyPost_ret (v := .tuple #[L, .int .i64 (k : Int), .agg #[.int .i64 0, .int .i64 0]]) (by simp [results, Try.results6, go_sem, (two_cellsT Q0.out).1, (two_cellsT Q0.out).2.1]) rfl E.out
    · have c6 := R3.out.c6
      have c7 := R3.out.c7
      have f6 := R3.out.f 6
      have f7 := R3.out.f 7
      have hc' : (c == 0) = false := by simpa using hc
      have hc2 : (c != 0) = true := by simpa using hc
      obtain ⟨d0, d1, e0, e1⟩ := two_cellsT F3.out
      by_cases hjl : q < s.size
      · have hjl' : (q : Int) < (s.size : Int) := by omega
        go_wp2_with fail
        refine (failQ_again s (w.heap.size + 1) q n t 0 L c a 4 w3 hc R3.out).mono ?_
        rintro e w4 ⟨rfl, hw4⟩
        obtain rfl : w3 = w4 := hw4.symm
        go_wp2_with fail
        go_region
        go_wp2_with fail
        have q0 : ((w3.setCell ⟨w.heap.size, 0, none⟩ (.int .i64 c)).setCell ⟨w.heap.size, 1, none⟩ (.int .i64 (a : Nat))).heap[w.heap.size]? = some (.cells #[.int .i64 c, .int .i64 (a : Nat)] 24 (0, 0)) := by
          rw [heap_setCell_same _ w.heap.size 1 _ 24 _ (heap_setCell_same _ w.heap.size 0 _ 24 _ F3.out)]; rfl
        have k0 : ((w3.setCell ⟨w.heap.size, 0, none⟩ (.int .i64 c)).setCell ⟨w.heap.size, 1, none⟩ (.int .i64 (a : Nat))).drew.cell? ⟨w.heap.size, 0, none⟩ = some (.int .i64 c) := (two_cellsT q0).1
        have k1 : ((w3.setCell ⟨w.heap.size, 0, none⟩ (.int .i64 c)).setCell ⟨w.heap.size, 1, none⟩ (.int .i64 (a : Nat))).drew.cell? ⟨w.heap.size, 1, none⟩ = some (.int .i64 (a : Nat)) := (two_cellsT q0).2.1
        have kB : Below w.heap.size w ((w3.setCell ⟨w.heap.size, 0, none⟩ (.int .i64 c)).setCell ⟨w.heap.size, 1, none⟩ (.int .i64 (a : Nat))).drew := ((B3.out.setCell (Nat.le_refl _) _).setCell (Nat.le_refl _) _).drew
        generalize ((w3.setCell ⟨w.heap.size, 0, none⟩ (.int .i64 c)).setCell ⟨w.heap.size, 1, none⟩ (.int .i64 (a : Nat))).drew = W5 at k0 k1 kB ⊢
        exact bodyPost_ret (v := .tuple #[.slice none 0 0, .int .i64 0, .agg #[.int .i64 c, .int .i64 a]]) (by simp [results, Try.results6, go_sem, k0, k1]) rfl ⟨kB, rfl⟩
      · have hjl' : ¬ (q : Int) < (s.size : Int) := by omega
        go_wp2_with fail
        go_region
        go_wp2_with fail
        have q0 : ((w3.setCell ⟨w.heap.size, 0, none⟩ (.int .i64 c)).setCell ⟨w.heap.size, 1, none⟩ (.int .i64 (a : Nat))).heap[w.heap.size]? = some (.cells #[.int .i64 c, .int .i64 (a : Nat)] 24 (0, 0)) := by
          rw [heap_setCell_same _ w.heap.size 1 _ 24 _ (heap_setCell_same _ w.heap.size 0 _ 24 _ F3.out)]; rfl
        have k0 : ((w3.setCell ⟨w.heap.size, 0, none⟩ (.int .i64 c)).setCell ⟨w.heap.size, 1, none⟩ (.int .i64 (a : Nat))).drew.cell? ⟨w.heap.size, 0, none⟩ = some (.int .i64 c) := (two_cellsT q0).1
        have k1 : ((w3.setCell ⟨w.heap.size, 0, none⟩ (.int .i64 c)).setCell ⟨w.heap.size, 1, none⟩ (.int .i64 (a : Nat))).drew.cell? ⟨w.heap.size, 1, none⟩ = some (.int .i64 (a : Nat)) := (two_cellsT q0).2.1
        have kB : Below w.heap.size w ((w3.setCell ⟨w.heap.size, 0, none⟩ (.int .i64 c)).setCell ⟨w.heap.size, 1, none⟩ (.int .i64 (a : Nat))).drew := ((B3.out.setCell (Nat.le_refl _) _).setCell (Nat.le_refl _) _).drew
        generalize ((w3.setCell ⟨w.heap.size, 0, none⟩ (.int .i64 c)).setCell ⟨w.heap.size, 1, none⟩ (.int .i64 (a : Nat))).drew = W5 at k0 k1 kB ⊢
        exact bodyPost_ret (v := .tuple #[.slice none 0 0, .int .i64 0, .agg #[.int .i64 c, .int .i64 a]]) (by simp [results, Try.results6, go_sem, k0, k1]) rfl ⟨kB, rfl⟩

theorem QParsed.flat {w w' : World} {R : TRes} {e : Ending} (h : QParsed w R e w') : ∃ v k, e = .returned (.tuple #[v, .int .i64 (k : Int), .agg #[.int .i64 (codeQ R), .int .i64 (atQ R)]]) ∧ Below w.heap.size w w' := by
  obtain ⟨hb, h⟩ := h
  cases R with
  | good f i n t => obtain ⟨L, ps, b, k, he, _⟩ := h; exact ⟨L, k, he, hb⟩
  | bad c j => exact ⟨_, 0, h, hb⟩

set_option maxHeartbeats 800000 in
theorem treads_walk (s : ByteArray) (w : World) (hm : s.size ≤ maxLen) : Calls Try.prog 3 #[.string s] w fun e w' => e = .returned (.bool true) ∧ Below w.heap.size w w' := by
  have H1 : Hid (∀ W, Calls Try.prog 5 #[.string s] W fun e w' => e = .returned (.agg #[.int .i64 (codeQ (parseQ s)), .int .i64 (atQ (parseQ s))]) ∧ Below W.heap.size W w') := fun W => checkT_any s W hm
  have H2 : Hid (∀ W, Calls Try.prog 6 #[.string s] W fun e w' => ∃ v k, e = .returned (.tuple #[v, .int .i64 (k : Int), .agg #[.int .i64 (codeQ (parseQ s)), .int .i64 (atQ (parseQ s))]]) ∧ Below W.heap.size W w') := fun W => (parseQ_any s W hm).mono fun e w' h => h.flat
  generalize codeQ (parseQ s) = c at *
  generalize atQ (parseQ s) = a at *
  go_enter Try.func3, Try.ntmps3
  go_wp2_with fail
  refine (H1.out _).mono ?_
  rintro e w2 ⟨rfl, hb⟩
  have B2 : Hid (Below w.heap.size w (w2.alloc (.cells #[.int .i64 c, .int .i64 a] 24))) := hb.alloc hb.size _
  clear hb
  go_wp2_with fail
  refine (H2.out _).mono ?_
  rintro e w3 ⟨v, k, rfl, hb3⟩
  have d0 : w3.cell? ⟨w2.heap.size, 0, none⟩ = some (.int .i64 c) := by rw [hb3.cell (by simp)]; simp
  have d1 : w3.cell? ⟨w2.heap.size, 1, none⟩ = some (.int .i64 a) := by rw [hb3.cell (by simp)]; simp
  have hlt : w2.heap.size < w3.heap.size := by have := hb3.size; simp at this; omega
  have B3 : Hid (Below w.heap.size w (w3.alloc (.cells #[.int .i64 c, .int .i64 a] 24))) := by
    have h1 := B2.out.trans (hb3.mono B2.out.size)
    exact h1.alloc h1.size _
  clear hb3 B2
  go_wp2_with fail
  go_ret
  exact ⟨rfl, B3.out⟩

end Go.Proofs.Ytnhjkgfgbebfkaa
