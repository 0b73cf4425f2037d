/- How the reference reads a whole formula. -/
import Derived.Test.YtaommgnlnfhbfaaJRow
import Derived.Test.YtaommgnlnfhbfaaKParse
namespace Go.Proofs.Ytaommgnlnfhbfaa
open Go.RowKit
set_option linter.unusedVariables false
set_option linter.unusedSimpArgs false

theorem two_newJ (w : World) (s : ByteArray) : ∃ W, W = ((w.alloc (.cells #[.int .i64 0, .int .i64 0] 24)).alloc (.cells #[.string s, .int .i64 0, .int .i64 0, .int .i64 0, .string (ByteArray.mk #[]), .slice none 0 0, .int .i64 0, .int .i64 0] 41)) ∧ w.grownBy W none ∧ W.heap[w.heap.size]? = some (.cells #[.int .i64 0, .int .i64 0] 24 (0, 0)) ∧ JRd W (w.heap.size + 1) s 0 0 0 (ByteArray.mk #[]) (.slice none 0 0) 0 0 ∧ W.heap.size = w.heap.size + 2 := by
  have h0 := heap_alloc_new w (.cells #[.int .i64 0, .int .i64 0] 24)
  have h1 := heap_alloc_new (w.alloc (.cells #[.int .i64 0, .int .i64 0] 24)) (.cells #[.string s, .int .i64 0, .int .i64 0, .int .i64 0, .string (ByteArray.mk #[]), .slice none 0 0, .int .i64 0, .int .i64 0] 41)
  rw [World.size_alloc] at h1
  refine ⟨_, rfl, grown_trans (grown_alloc _ _) (grown_alloc _ _), ?_, h1, by simp⟩
  rw [Below.heap_alloc _ _ _ (by simp)]; exact h0

/-- The reference's list of nodes, and what it means. -/
def ListJ (B : Nat) (s : ByteArray) (v : Value) (w' : World) : Prop := ∀ f i n, parseK s = .good f i n → ∃ ns : List NdJ, w'.ownsRow B 46 5 v ns.length (flatJ ns) ∧ ns.length ≤ 31 ∧ TopJ ns ((ns.length : Int) - 1) f
/-- What the reference's reading of a formula leaves behind. -/
def JParsed (w : World) (c : Int) (a : Nat) (Z : Value → World → Prop) (e : Ending) (w' : World) : Prop :=
  Below w.heap.size w w' ∧ ∃ v, e = .returned (.tuple #[v, .agg #[.int .i64 c, .int .i64 (a : Int)]]) ∧ Z v w'

set_option maxRecDepth 100000 in
set_option maxHeartbeats 3200000 in
theorem parseJ_any (s : ByteArray) (w : World) (hm : s.size ≤ maxLen) : Calls Try.prog 6 #[.string s] w (JParsed w (codeK (parseK s)) (atK (parseK s)) (ListJ (w.heap.size + 2) s)) := by
  unfold maxLen at hm
  by_cases hs : 4000 < s.size
  · have hs' : (4000 : Int) < (s.size : Int) := by omega
    have hR : parseK s = .bad 1 0 := by simp [parseK, hs]
    have HZ0 : Hid (∀ v w', ListJ (w.heap.size + 2) s v w') := fun v w' f i n e => by rw [hR] at e; cases e
    rw [hR]
    go_enter Try.func6, Try.ntmps6
    go_wp2
    refine bodyPost_ret (v := .tuple #[.slice none 0 0, .agg #[.int .i64 1, .int .i64 0]]) (by simp [results, Try.results6, go_sem]) rfl ⟨(Below.refl _ _).alloc (Nat.le_refl _) _, _, rfl, HZ0.out _ _⟩
  · have hs' : ¬ (4000 : Int) < (s.size : Int) := by omega
    have hs4 : s.size ≤ 4000 := by omega
    obtain ⟨W0, hW0, g0, k0, r0, z0⟩ := two_newJ w s
    have HW0 : Hid (((w.alloc (.cells #[.int .i64 0, .int .i64 0] 24)).alloc (.cells #[.string s, .int .i64 0, .int .i64 0, .int .i64 0, .string (ByteArray.mk #[]), .slice none 0 0, .int .i64 0, .int .i64 0] 41)) = W0) := hW0.symm
    have P0 : NodJ W0 (w.heap.size + 1) (.slice none 0 0) [] := World.ownsRow_nil _ _ _ _
    have HW : Hid (Calls Try.prog 11 #[.pointer (some ⟨w.heap.size + 1, 0, none⟩)] W0 (JGives s (w.heap.size + 1) 0 0 (ByteArray.mk #[]) W0 (.slice none 0 0) [] (formK s (lvK s (s.size + 1)) 0 0 0 []))) := formJ_all s hs4 (s.size + 1) 0 0 0 _ W0 _ [] _ [] (by omega) (by omega) (by omega) (by omega) (by simp) ⟨rfl, fun k hk => by simp at hk⟩ (by simp) r0 P0
    have hfw := formK_fwd (s := s) (lvK_fwd (s.size + 1)) 0 0 0 [] (by omega) (by omega)
    have hpr : parseK s = match formK s (lvK s (s.size + 1)) 0 0 0 [] with
      | .bad c j => .bad c j
      | .good f j n => if j < s.size then .bad 4 j else .good f j n := by unfold parseK; rw [if_neg hs]; cases formK s (lvK s (s.size + 1)) 0 0 0 [] <;> rfl
    have HX : Hid (∀ (e : Ending) (w3 : World), JGives s (w.heap.size + 1) 0 0 (ByteArray.mk #[]) W0 (.slice none 0 0) [] (formK s (lvK s (s.size + 1)) 0 0 0 []) e w3 → ∃ (k : Int) (L : Value) (q n : Nat) (c : Int) (a : Nat), e = .returned (.int .i64 k) ∧ w3.heap[w.heap.size]? = some (.cells #[.int .i64 0, .int .i64 0] 24 (0, 0)) ∧ Below w.heap.size w w3 ∧ JRd w3 (w.heap.size + 1) s q n 0 (ByteArray.mk #[]) L c a ∧ q ≤ 5000 ∧ (codeK (parseK s) = (if q < s.size ∧ c = 0 then 4 else c)) ∧ (atK (parseK s) = (if q < s.size ∧ c = 0 then q else a)) ∧ (c = 0 → a = 0) ∧ (∀ W, w3.grownBy W (some w.heap.size) → ListJ (w.heap.size + 2) s L W)) := by
      intro e w3 h
      obtain ⟨k, L', m', n', i', c', a', he, hF, hN, h3, h4, h5, h6, hE, hM⟩ := h.out
      have b1 : w3.heap[w.heap.size]? = some (.cells #[.int .i64 0, .int .i64 0] 24 (0, 0)) := (hF.block _ (by omega) (by omega) (by simp [Value.ownBlock])).trans k0
      have b2 : Below w.heap.size w w3 := (below_of_grown g0).trans (hF.below (by omega) g0.size (by simp [Value.ownBlock]))
      cases hR : formK s (lvK s (s.size + 1)) 0 0 0 [] with
      | good f j n =>
        rw [hR] at hE hpr hfw
        obtain ⟨g1, g2, g3, g4⟩ := hfw
        obtain ⟨rfl, rfl, rfl, rfl⟩ := hE
        refine ⟨k, L', i', n', 0, 0, he, b1, b2, h6, by omega, ?_, ?_, fun _ => rfl, fun W hW => ?_⟩
        rotate_left 2
        · rw [hR] at hM
          obtain ⟨j, hj, hj2, hT⟩ := hM.2 _ _ _ rfl
          intro f2 i2 n2 e
          rw [hpr] at e
          by_cases hjl : i' < s.size
          · simp [hjl] at e
          · simp [hjl] at e
            have hN2 : NodJ W (w.heap.size + 1) L' m' := World.ownsRow.kept hN hW (.inr fun e => by have := nodJ_block hN _ e; omega)
            refine ⟨m', hN2, by simp at h5; omega, j, by omega, hj2, ?_⟩
            rw [← e.1]
            exact hT
        · rw [hpr]
          by_cases hj : i' < s.size
          · simp [hj, codeK]
          · simp [hj, codeK]
        · rw [hpr]
          by_cases hj : i' < s.size
          · simp [hj, atK]
          · simp [hj, atK]
      | bad c j =>
        rw [hR] at hE hpr hfw
        have hc : c ≠ 0 := by have := hfw.1; omega
        obtain ⟨e1, rfl, rfl⟩ := hE
        refine ⟨k, L', i', n', c', a', he, b1, b2, h6, by omega, ?_, ?_, fun h => absurd h hc, fun W hW f2 i2 n2 e => by rw [hpr] at e; cases e⟩
        · rw [hpr]; simp [hc, codeK]
        · rw [hpr]; simp [hc, atK]
    have HZ0 : Hid (∀ v w', codeK (parseK s) ≠ 0 → ListJ (w.heap.size + 2) s v w') := fun v w' h f i n e => by rw [e] at h; exact absurd rfl h
    generalize ListJ (w.heap.size + 2) s = Z at *
    clear hs hm hW0 hpr hfw g0 k0 r0 z0 P0
    generalize codeK (parseK s) = cc at *
    generalize atK (parseK s) = aa at *
    go_enter Try.func6, Try.ntmps6
    go_wp2_with fail
    rw [HW0.out]
    refine HW.out.mono ?_
    intro e w3 hg3
    obtain ⟨k, L, q, n, c, a, rfl, hf3, hb3, hr3, hq3, hcc, haa, hca, hzz⟩ := HX.out e w3 hg3
    have HZZ : Hid (∀ W, w3.grownBy W (some w.heap.size) → Z L W) := hzz
    clear hzz
    have F3 : Hid (w3.heap[w.heap.size]? = some (.cells #[.int .i64 0, .int .i64 0] 24 (0, 0))) := hf3
    have B3 : Hid (Below w.heap.size w w3) := hb3
    have R3 : Hid (JRd w3 (w.heap.size + 1) s q n 0 (ByteArray.mk #[]) L c a) := hr3
    have HCC : Hid (cc = (if q < s.size ∧ c = 0 then 4 else c) ∧ aa = (if q < s.size ∧ c = 0 then q else a)) := ⟨hcc, haa⟩
    clear hf3 hb3 hr3 hg3 HX HW HW0 hcc haa
    have c1 := R3.out.c1
    have f1 := R3.out.f 1
    have fin : Hid (∀ (W : World) (c5 : Int) (a5 : Nat), Below w.heap.size w W → W.heap[w.heap.size]? = some (.cells #[.int .i64 0, .int .i64 0] 24 (0, 0)) → ((W.setCell ⟨w.heap.size, 0, none⟩ (.int .i64 c5)).setCell ⟨w.heap.size, 1, none⟩ (.int .i64 (a5 : Nat))).drew.cell? ⟨w.heap.size, 0, none⟩ = some (.int .i64 c5) ∧ ((W.setCell ⟨w.heap.size, 0, none⟩ (.int .i64 c5)).setCell ⟨w.heap.size, 1, none⟩ (.int .i64 (a5 : Nat))).drew.cell? ⟨w.heap.size, 1, none⟩ = some (.int .i64 (a5 : Nat)) ∧ Below w.heap.size w ((W.setCell ⟨w.heap.size, 0, none⟩ (.int .i64 c5)).setCell ⟨w.heap.size, 1, none⟩ (.int .i64 (a5 : Nat))).drew) := fun W c5 a5 hB hF => by
      have q0 : ((W.setCell ⟨w.heap.size, 0, none⟩ (.int .i64 c5)).setCell ⟨w.heap.size, 1, none⟩ (.int .i64 (a5 : Nat))).heap[w.heap.size]? = some (.cells #[.int .i64 c5, .int .i64 (a5 : Nat)] 24 (0, 0)) := by
        rw [heap_setCell_same _ w.heap.size 1 _ 24 _ (heap_setCell_same _ w.heap.size 0 _ 24 _ hF)]; rfl
      exact ⟨(two_cellsK q0).1, (two_cellsK q0).2.1, ((hB.setCell (Nat.le_refl _) _).setCell (Nat.le_refl _) _).drew⟩
    by_cases hc : c = 0
    · have ha := hca hc
      subst hc ha
      by_cases hjl : q < s.size
      · have hjl' : (q : Int) < (s.size : Int) := by omega
        have HCC2 : Hid (cc = 4 ∧ aa = q) := by have := HCC.out; simp only [hjl, true_and, if_true] at this; exact this
        clear HCC
        go_wp2_with fail
        refine (failJ_any s (ByteArray.mk #[]) (w.heap.size + 1) q n 0 L 0 0 4 q w3 R3.out).mono ?_
        rintro e w4 ⟨rfl, hg4, hr4⟩
        have B4 : Hid (Below w.heap.size w w4) := B3.out.trans (grown_below hg4 (by omega) B3.out.size)
        have F4 : w4.heap[w.heap.size]? = some (.cells #[.int .i64 0, .int .i64 0] 24 (0, 0)) := (hg4.block _ (Array.getElem?_eq_some_iff.1 F3.out).1 (by simp)).trans F3.out
        have c6 : w4.cell? ⟨w.heap.size + 1, 6, none⟩ = some (.int .i64 4) := hr4.c6
        have c7 : w4.cell? ⟨w.heap.size + 1, 7, none⟩ = some (.int .i64 (q : Int)) := hr4.c7
        have f6 := hr4.f 6
        have f7 := hr4.f 7
        obtain ⟨d0, d1, e0, e1⟩ := two_cellsK F4
        obtain ⟨k0, k1, kB⟩ := fin.out w4 4 q B4.out F4
        have K0 : Hid _ := k0
        have K1 : Hid _ := k1
        have KB : Hid _ := kB
        clear hg4 hr4 F4 c1 f1 R3 F3 B3 k0 k1 kB fin
        go_wp2_with fail
        go_region
        go_wp2_with fail
        have k0 := K0.out
        have k1 := K1.out
        have kB := KB.out
        generalize ((w4.setCell ⟨w.heap.size, 0, none⟩ (.int .i64 4)).setCell ⟨w.heap.size, 1, none⟩ (.int .i64 (q : Nat))).drew = W5 at k0 k1 kB ⊢
        have hz : ∀ v w', Z v w' := fun v w' => HZ0.out v w' (by rw [HCC2.out.1]; omega)
        rw [HCC2.out.1, HCC2.out.2]
        exact bodyPost_ret (v := .tuple #[.slice none 0 0, .agg #[.int .i64 4, .int .i64 q]]) (by simp [results, Try.results6, go_sem, k0, k1]) rfl ⟨kB, _, rfl, hz _ _⟩
      · have hjl' : ¬ (q : Int) < (s.size : Int) := by omega
        have HCC2 : Hid (cc = 0 ∧ aa = 0) := by have := HCC.out; simp only [hjl, false_and, if_false] at this; exact this
        clear HCC
        have c5 := R3.out.c5
        have f5 := R3.out.f 5
        have c6 := R3.out.c6
        have f6 := R3.out.f 6
        obtain ⟨d0, d1, e0, e1⟩ := two_cellsK F3.out
        have KB : Hid (Below w.heap.size w ((w3.setCell ⟨w.heap.size, 0, none⟩ (.int .i64 0)).setCell ⟨w.heap.size, 1, none⟩ (.int .i64 0))) := (B3.out.setCell (Nat.le_refl _) _).setCell (Nat.le_refl _) _
        have q0 : ((w3.setCell ⟨w.heap.size, 0, none⟩ (.int .i64 0)).setCell ⟨w.heap.size, 1, none⟩ (.int .i64 0)).heap[w.heap.size]? = some (.cells #[.int .i64 0, .int .i64 0] 24 (0, 0)) := by
          rw [heap_setCell_same _ w.heap.size 1 _ 24 _ (heap_setCell_same _ w.heap.size 0 _ 24 _ F3.out)]; rfl
        have Q0 : Hid _ := q0
        clear q0 R3 F3 B3 fin
        go_wp2_with fail
        rw [HCC2.out.1, HCC2.out.2]
        exact bodyPost_ret (v := .tuple #[L, .agg #[.int .i64 0, .int .i64 0]]) (by simp [results, Try.results6, go_sem, (two_cellsK Q0.out).1, (two_cellsK Q0.out).2.1]) rfl ⟨KB.out, _, rfl, HZZ.out _ (grown_trans (grown_set _ _ _) (grown_set _ _ _))⟩
    · have HCC2 : Hid (cc = c ∧ aa = a) := by have := HCC.out; simp only [hc, and_false, if_false] at this; exact this
      clear HCC
      have c6 := R3.out.c6
      have c7 := R3.out.c7
      have f6 := R3.out.f 6
      have f7 := R3.out.f 7
      have hc' : (c == 0) = false := by simpa using hc
      have hc2 : (c != 0) = true := by simpa using hc
      by_cases hjl : q < s.size
      · have hjl' : (q : Int) < (s.size : Int) := by omega
        have HFL : Hid (Calls Try.prog 12 #[.pointer (some ⟨w.heap.size + 1, 0, none⟩), .int .i64 4, .int .i64 (q : Int)] w3 fun e w' => e = .returned (.tuple #[]) ∧ w3.grownBy w' (some (w.heap.size + 1)) ∧ JRd w' (w.heap.size + 1) s q n 0 (ByteArray.mk #[]) L c a) := by
          have h1 := failJ_any s (ByteArray.mk #[]) (w.heap.size + 1) q n 0 L c a 4 q w3 R3.out
          simp only [hc, if_false] at h1
          exact h1
        clear c6 c7 f6 f7
        go_wp2_with fail
        refine HFL.out.mono ?_
        rintro e w4 ⟨rfl, hg4, hr4⟩
        have B4 : Hid (Below w.heap.size w w4) := B3.out.trans (grown_below hg4 (by omega) B3.out.size)
        have F4 : w4.heap[w.heap.size]? = some (.cells #[.int .i64 0, .int .i64 0] 24 (0, 0)) := (hg4.block _ (Array.getElem?_eq_some_iff.1 F3.out).1 (by simp)).trans F3.out
        have c6 := hr4.c6
        have c7 := hr4.c7
        have f6 := hr4.f 6
        have f7 := hr4.f 7
        obtain ⟨d0, d1, e0, e1⟩ := two_cellsK F4
        obtain ⟨k0, k1, kB⟩ := fin.out w4 c a B4.out F4
        have K0 : Hid _ := k0
        have K1 : Hid _ := k1
        have KB : Hid _ := kB
        clear hg4 hr4 F4 c1 f1 R3 F3 B3 k0 k1 kB fin HFL
        go_wp2_with fail
        go_region
        go_wp2_with fail
        have k0 := K0.out
        have k1 := K1.out
        have kB := KB.out
        generalize ((w4.setCell ⟨w.heap.size, 0, none⟩ (.int .i64 c)).setCell ⟨w.heap.size, 1, none⟩ (.int .i64 (a : Nat))).drew = W5 at k0 k1 kB ⊢
        have hz : ∀ v w', Z v w' := fun v w' => HZ0.out v w' (by rw [HCC2.out.1]; exact hc)
        rw [HCC2.out.1, HCC2.out.2]
        exact bodyPost_ret (v := .tuple #[.slice none 0 0, .agg #[.int .i64 c, .int .i64 a]]) (by simp [results, Try.results6, go_sem, k0, k1]) rfl ⟨kB, _, rfl, hz _ _⟩
      · have hjl' : ¬ (q : Int) < (s.size : Int) := by omega
        obtain ⟨d0, d1, e0, e1⟩ := two_cellsK F3.out
        obtain ⟨k0, k1, kB⟩ := fin.out w3 c a B3.out F3.out
        have K0 : Hid _ := k0
        have K1 : Hid _ := k1
        have KB : Hid _ := kB
        clear F3 B3 k0 k1 kB fin
        go_wp2_with fail
        go_region
        go_wp2_with fail
        have k0 := K0.out
        have k1 := K1.out
        have kB := KB.out
        generalize ((w3.setCell ⟨w.heap.size, 0, none⟩ (.int .i64 c)).setCell ⟨w.heap.size, 1, none⟩ (.int .i64 (a : Nat))).drew = W5 at k0 k1 kB ⊢
        have hz : ∀ v w', Z v w' := fun v w' => HZ0.out v w' (by rw [HCC2.out.1]; exact hc)
        rw [HCC2.out.1, HCC2.out.2]
        exact bodyPost_ret (v := .tuple #[.slice none 0 0, .agg #[.int .i64 c, .int .i64 a]]) (by simp [results, Try.results6, go_sem, k0, k1]) rfl ⟨kB, _, rfl, hz _ _⟩

end Go.Proofs.Ytaommgnlnfhbfaa
