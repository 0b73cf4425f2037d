/- What the law WordNormal does beside the program's calls: copies, comparisons, writing over. -/
import Derived.Test.YthccdfjmkdcehaaShorts
import Derived.Laws.CopyOwn
namespace Go.Proofs.Ythccdfjmkdcehaa
open Go.RowKit
set_option linter.unusedVariables false

theorem madeZeros (n : Nat) : madeCells (Value.cells (.int .i64 0)) n = (List.replicate n (Value.int .i64 0)).toArray := by
  apply Array.ext'
  simpa [Value.cells] using toList_madeCells_one (.int .i64 0) n

theorem copy_fact (a : Option Addr) (c : Nat) (zs : List Int) (w : World) (hz : Ints w a zs) (hm : zs.length ≤ 17592186044416) :
    ∃ W', (Builtin.copy_ #[26, 26] 3 #[.slice (some ⟨w.heap.size, 0, none⟩) zs.length (zs.length + 3), .slice a zs.length c]).run Try.prog (w.alloc (.cells (Array.replicate (zs.length + 3) (.int .i64 0)) 3)) = .ok (goInt zs.length) W' ∧
      Hid (Own w.heap.size W' (.slice (some ⟨w.heap.size, 0, none⟩) zs.length (zs.length + 3)) zs) ∧ Hid (Below w.heap.size w W') := by
  obtain ⟨i0, hi, hz0, hz1, hz2⟩ := info_parts Try.info3
  have hsz : (Try.prog.info? 3).map (·.size) = some 1 := by rw [hi]; simp [hz1]
  have hbo : ∀ o, Below w.heap.size w (w.alloc o) := fun o => (Below.refl _ _).alloc (Nat.le_refl _) o
  have hg := heap_alloc_new w (.cells (Array.replicate (zs.length + 3) (Value.int .i64 0)) 3)
  rcases hz with rfl | ⟨b, off, rfl, hc⟩
  · refine ⟨_, run_copy_none _ 26 26 3 3 _ _ _ _ _ _ Try.underlying26 hsz (by simp), ?_, hbo _⟩
    exact ⟨by simp, .inr ⟨w.heap.size, 3, _, rfl, Nat.le_refl _, hg, by simp, by unfold maxLen; omega, by simp, by simp⟩⟩
  · have hsrc : ∀ j v, (zs.map (Value.int .i64))[j]? = some v → (w.alloc (.cells (Array.replicate (zs.length + 3) (.int .i64 0)) 3)).cell? ((⟨b, off, none⟩ : Addr).add j) = some v := by
      intro j v hv
      rw [List.getElem?_map] at hv
      obtain ⟨x, hx, rfl⟩ := Option.map_eq_some_iff.1 hv
      obtain ⟨hj, hx'⟩ := List.getElem?_eq_some_iff.1 hx
      have hadd : (⟨b, off, none⟩ : Addr).add j = ⟨b, off + j, none⟩ := by
        by_cases h0 : j = 0
        · subst h0; simp [Addr.add]
        · simp [Addr.add, h0]
      rw [hadd]
      have := hc j hj
      rw [getD_lt hj, hx'] at this
      exact cell_later (hbo _) this
    have hrun := run_copy_row Try.prog _ 26 26 3 3 w.heap.size 0 zs.length (zs.length + 3) ⟨b, off, none⟩ zs.length c _ 3 (zs.map (Value.int .i64)) Try.underlying26 hsz hg (by simp) hsrc (by simp) (ints_oneCell _ _)
    have hlen : goInt ((zs.map (Value.int .i64)).length : Nat) = goInt (zs.length : Nat) := by rw [List.length_map]
    rw [hlen] at hrun
    refine ⟨_, hrun, ?_, below_setRow (hbo _) (Nat.le_refl _) _⟩
    exact ⟨by simp, .inr ⟨w.heap.size, zs.length + 3, _, rfl, Nat.le_refl _, setRow_heap _ _ _ _ _ _ hg, by omega, by unfold maxLen; omega, by simp, by simp⟩⟩

set_option maxHeartbeats 1000000 in
theorem list_any (a : Option Addr) (c : Nat) (zs : List Int) (w : World) (hz : Ints w a zs) (hm : zs.length ≤ 17592186044416) :
    Calls Try.prog 29 #[.slice a zs.length c] w fun e w' => e = .returned (.slice (some ⟨w.heap.size, 0, none⟩) zs.length (zs.length + 3)) ∧ Own w.heap.size w' (.slice (some ⟨w.heap.size, 0, none⟩) zs.length (zs.length + 3)) zs ∧ Below w.heap.size w w' := by
  obtain ⟨i0, hi, hz0, hz1, hz2⟩ := info_parts Try.info3
  have hmk := run_make (P := Try.prog) w 26 3 i0 (.int .i64 0) Try.underlying26 hi hz0 .i64 .i64 (zs.length : Int) ((zs.length : Int) + 3) (by omega) (by omega) (by rw [hz2]; omega) (by omega)
  rw [hz1, Nat.mul_one, show ((zs.length : Int) + 3).toNat = zs.length + 3 by omega, Int.toNat_natCast, madeZeros] at hmk
  obtain ⟨W', hcp, HO, HB⟩ := copy_fact a c zs w hz hm
  clear hz
  go_enter Try.func29, Try.ntmps29
  go_wp2
  go_ret
  exact ⟨rfl, HO.out, HB.out⟩

set_option maxHeartbeats 1000000 in
theorem lassoL_any (a a' : Option Addr) (c c' : Nat) (h l : List Int) (w : World) (hh : Ints w a h) (hl : Ints w a' l) (hm : h.length ≤ 17592186044416) (hm' : l.length ≤ 17592186044416) :
    Calls Try.prog 17 #[.agg #[.slice a h.length c, .slice a' l.length c']] w fun e w' => ∃ g g' : Nat, e = .returned (.agg #[.slice (some ⟨g, 0, none⟩) h.length (h.length + 3), .slice (some ⟨g', 0, none⟩) l.length (l.length + 3)]) ∧
      Own w.heap.size w' (.slice (some ⟨g, 0, none⟩) h.length (h.length + 3)) h ∧ Own w.heap.size w' (.slice (some ⟨g', 0, none⟩) l.length (l.length + 3)) l ∧ Below w.heap.size w w' := by
  have H1 : Hid (∀ W, Below w.heap.size w W → Calls Try.prog 29 #[.slice a h.length c] W fun e w' => ∃ g, e = .returned (.slice (some ⟨g, 0, none⟩) h.length (h.length + 3)) ∧ Own W.heap.size w' (.slice (some ⟨g, 0, none⟩) h.length (h.length + 3)) h ∧ Below W.heap.size W w') :=
    fun W hW => (list_any a c h W (hh.later hW) hm).mono (R' := fun e w' => ∃ g, e = .returned (.slice (some ⟨g, 0, none⟩) h.length (h.length + 3)) ∧ Own W.heap.size w' (.slice (some ⟨g, 0, none⟩) h.length (h.length + 3)) h ∧ Below W.heap.size W w') (fun e w' hw => ⟨_, hw⟩)
  have H2 : Hid (∀ W, Below w.heap.size w W → Calls Try.prog 29 #[.slice a' l.length c'] W fun e w' => ∃ g, e = .returned (.slice (some ⟨g, 0, none⟩) l.length (l.length + 3)) ∧ Own W.heap.size w' (.slice (some ⟨g, 0, none⟩) l.length (l.length + 3)) l ∧ Below W.heap.size W w') :=
    fun W hW => (list_any a' c' l W (hl.later hW) hm').mono (R' := fun e w' => ∃ g, e = .returned (.slice (some ⟨g, 0, none⟩) l.length (l.length + 3)) ∧ Own W.heap.size w' (.slice (some ⟨g, 0, none⟩) l.length (l.length + 3)) l ∧ Below W.heap.size W w') (fun e w' hw => ⟨_, hw⟩)
  clear hh hl
  have hb0 : ∀ o o', Below w.heap.size w ((w.alloc o).alloc o') := fun o o' => ((Below.refl _ _).alloc (Nat.le_refl _) o).alloc (by simp) o'
  go_enter Try.func17, Try.ntmps17
  go_wp2_with fail
  refine (H1.out _ (hb0 _ _)).mono ?_
  rintro e w1 ⟨g, rfl, ho1, hb1⟩
  have c1 : w1.cell? ⟨w.heap.size, 1, none⟩ = some (.slice a' l.length c') := by rw [hb1.cell (by simp; omega)]; simp
  have r0 : w1.cell? ⟨w.heap.size + 1, 0, none⟩ = some (.slice none 0 0) := by rw [hb1.cell (by simp)]; simp
  have r1 : w1.cell? ⟨w.heap.size + 1, 1, none⟩ = some (.slice none 0 0) := by rw [hb1.cell (by simp)]; simp
  have f0 : w1.frozen? ⟨w.heap.size + 1, 0, none⟩ = false := by rw [hb1.frozen (by simp)]; simp
  have f1 : w1.frozen? ⟨w.heap.size + 1, 1, none⟩ = false := by rw [hb1.frozen (by simp)]; simp
  have hs1 : w.heap.size + 1 < w1.heap.size := by have := hb1.size; simp at this; omega
  have HB : Hid (Below w.heap.size w w1) := (hb0 _ _).trans (hb1.mono (by simp; omega))
  have l1 := ho1.lt
  simp only [World.size_alloc] at l1
  have HO1 : Hid (Own _ w1 (.slice (some ⟨g, 0, none⟩) h.length (h.length + 3)) h) := ho1
  clear hb1 ho1
  go_wp2_with fail
  refine (H2.out _ HB.out).mono ?_
  rintro e w2 ⟨g', rfl, ho2, hb2⟩
  have r02 : w2.cell? ⟨w.heap.size + 1, 0, none⟩ = some (.slice none 0 0) := cell_later hb2 r0
  have r12 : w2.cell? ⟨w.heap.size + 1, 1, none⟩ = some (.slice none 0 0) := cell_later hb2 r1
  have f02 : w2.frozen? ⟨w.heap.size + 1, 0, none⟩ = false := (hb2.frozen (by simpa using hs1)).trans f0
  have f12 : w2.frozen? ⟨w.heap.size + 1, 1, none⟩ = false := (hb2.frozen (by simpa using hs1)).trans f1
  have l2 := ho2.lt
  have HE : Hid (Own w.heap.size ((w2.setCell ⟨w.heap.size + 1, 0, none⟩ (.slice (some ⟨g, 0, none⟩) h.length (h.length + 3))).setCell ⟨w.heap.size + 1, 1, none⟩ (.slice (some ⟨g', 0, none⟩) l.length (l.length + 3))) (.slice (some ⟨g, 0, none⟩) h.length (h.length + 3)) h ∧ Own w.heap.size ((w2.setCell ⟨w.heap.size + 1, 0, none⟩ (.slice (some ⟨g, 0, none⟩) h.length (h.length + 3))).setCell ⟨w.heap.size + 1, 1, none⟩ (.slice (some ⟨g', 0, none⟩) l.length (l.length + 3))) (.slice (some ⟨g', 0, none⟩) l.length (l.length + 3)) l ∧ Below w.heap.size w ((w2.setCell ⟨w.heap.size + 1, 0, none⟩ (.slice (some ⟨g, 0, none⟩) h.length (h.length + 3))).setCell ⟨w.heap.size + 1, 1, none⟩ (.slice (some ⟨g', 0, none⟩) l.length (l.length + 3)))) :=
    ⟨(((HO1.out.later hb2).mono (by simp; omega)).setOther (by omega) _).setOther (by omega) _, ((ho2.mono (by omega)).setOther (by omega) _).setOther (by omega) _, ((HB.out.trans (hb2.mono (by omega))).setCell (by simp) _).setCell (by simp) _⟩
  clear hb2 ho2
  go_wp2
  have q0 : (w2.setCell ⟨w.heap.size + 1, 0, none⟩ (.slice (some ⟨g, 0, none⟩) h.length (h.length + 3))).cell? ⟨w.heap.size + 1, 0, none⟩ = some (.slice (some ⟨g, 0, none⟩) h.length (h.length + 3)) := cell_set_same r02
  have q1 : ((w2.setCell ⟨w.heap.size + 1, 0, none⟩ (.slice (some ⟨g, 0, none⟩) h.length (h.length + 3))).setCell ⟨w.heap.size + 1, 1, none⟩ (.slice (some ⟨g', 0, none⟩) l.length (l.length + 3))).cell? ⟨w.heap.size + 1, 1, none⟩ = some (.slice (some ⟨g', 0, none⟩) l.length (l.length + 3)) := cell_set_two r12
  exact bodyPost_ret (v := .agg #[.slice (some ⟨g, 0, none⟩) h.length (h.length + 3), .slice (some ⟨g', 0, none⟩) l.length (l.length + 3)]) (by simp [results, Try.results17, go_sem, q0, q1]) rfl ⟨g, g', rfl, HE.out.1, HE.out.2.1, HE.out.2.2⟩

set_option maxHeartbeats 1000000 in
theorem alike_any (a a' b b' : Option Addr) (n n' m m' c c' d d' : Nat) (h l h' l' : List Int) (w : World) (hh : Ints w a h) (hl : Ints w a' l) (gh : Ints w b h') (gl : Ints w b' l') (e1 : h.length = n) (e2 : l.length = n') (e3 : h'.length = m) (e4 : l'.length = m')
    (hm : h.length ≤ maxLen) (hm' : l.length ≤ maxLen) (gm : h'.length ≤ maxLen) (gm' : l'.length ≤ maxLen) :
    Calls Try.prog 20 #[.agg #[.slice a n c, .slice a' n' c'], .agg #[.slice b m d, .slice b' m' d']] w fun e w' => e = .returned (.bool (decide (h = h') && decide (l = l'))) ∧ Below w.heap.size w w' := by
  subst e1 e2 e3 e4
  have H1 : Hid (∀ W, Below w.heap.size w W → Calls Try.prog 8 #[.slice a h.length c, .slice b h'.length d] W fun e w' => e = .returned (.bool (decide (h = h'))) ∧ ∃ n, w' = W.drewN n) := fun W hW => words_any a b c d h h' W (hh.later hW) (gh.later hW) hm gm
  have H2 : Hid (∀ W, Below w.heap.size w W → Calls Try.prog 8 #[.slice a' l.length c', .slice b' l'.length d'] W fun e w' => e = .returned (.bool (decide (l = l'))) ∧ ∃ n, w' = W.drewN n) := fun W hW => words_any a' b' c' d' l l' W (hl.later hW) (gl.later hW) hm' gm'
  clear hh hl gh gl
  have hb0 : ∀ o o', Below w.heap.size w ((w.alloc o).alloc o') := fun o o' => ((Below.refl _ _).alloc (Nat.le_refl _) o).alloc (by simp) o'
  generalize decide (h = h') = x at *
  generalize decide (l = l') = y at *
  go_enter Try.func20, Try.ntmps20
  go_wp2_with fail
  refine (H1.out _ (hb0 _ _)).mono ?_
  rintro e w1 ⟨rfl, n1, rfl⟩
  go_wp2_with fail
  refine (H2.out _ (below_drewN (hb0 _ _) _)).mono ?_
  rintro e w2 ⟨rfl, n2, rfl⟩
  cases x
  · go_wp2
    go_ret
    exact ⟨by simp, below_drewN (hb0 _ _) _⟩
  · go_wp2
    go_ret
    exact ⟨by simp, below_drewN (hb0 _ _) _⟩

set_option maxHeartbeats 1000000 in
theorem noLasso_any (a a' : Option Addr) (n n' c c' : Nat) (w : World) (hm : n ≤ 60) (hm' : n' ≤ 60) :
    Calls Try.prog 21 #[.agg #[.slice a n c, .slice a' n' c']] w fun e w' => e = .returned (.bool ((n : Int) + (n' : Int) == 0)) ∧ Below w.heap.size w w' := by
  have hb0 : ∀ o, Below w.heap.size w (w.alloc o) := fun o => (Below.refl _ _).alloc (Nat.le_refl _) o
  go_enter Try.func21, Try.ntmps21
  go_wp2
  go_ret
  exact ⟨rfl, hb0 _⟩

end Go.Proofs.Ythccdfjmkdcehaa
