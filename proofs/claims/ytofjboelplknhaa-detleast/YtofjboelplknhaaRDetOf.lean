/- An automaton with memory of its own, as the law makes it. -/
import Derived.Test.YtofjboelplknhaaRList
import Derived.Test.YtofjboelplknhaaJoin
namespace Go.Proofs.Ytofjboelplknhaa
open Go.RowKit
set_option linter.unusedVariables false

/-- What a copy of an automaton leaves behind. -/
def DetOfPost (L S : Int) (R : List (List Int)) (M : List Int) (w : World) (e : Ending) (w' : World) : Prop :=
  ∃ (vR vM : Value) (rs : List (Value × List Int)), e = .returned (.agg #[.int .i64 L, .int .i64 S, vR, vM]) ∧ rs.map (·.2) = R ∧ Owns w.heap.size w' ((3, vM, vals M) :: (23, vR, rs.map (·.1)) :: rowItems rs) ∧ w.grownBy w' none

set_option maxHeartbeats 3200000 in
set_option maxRecDepth 100000 in
theorem detOf_any (L S : Int) (R : List (List Int)) (M : List Int) (a a' : Option Addr) (c c' : Nat) (w : World) (h : DetAt w ⟨L, S, R, M⟩ a a') (hn : R.length * 24 ≤ 140737488355328) (hm : ∀ i, i < R.length → (R.getD i []).length ≤ 17592186044416) (hM : M.length ≤ 17592186044416) :
    Calls Try.prog 9 #[.agg #[.int .i64 L, .int .i64 S, .slice a R.length c, .slice a' M.length c']] w (DetOfPost L S R M w) := by
  have HLs : Hid (∀ W, w.grownBy W none → Calls Try.prog 38 #[.slice a R.length c] W (ListsPost R W)) := fun W hW => lists_any a c R W (h.rows.grown hW) hn hm
  have HLi : Hid (∀ W, w.grownBy W none → Calls Try.prog 39 #[.slice a' M.length c'] W fun e w' => e = .returned (.slice (some ⟨W.heap.size, 0, none⟩) M.length (M.length + 3)) ∧ Owns W.heap.size w' [(3, .slice (some ⟨W.heap.size, 0, none⟩) M.length (M.length + 3), vals M)] ∧ W.grownBy w' none) := fun W hW => list_any a' c' M W (h.marks.grown hW) hM
  obtain ⟨W0, hW0⟩ : ∃ W0, W0 = w.alloc (.cells #[.int .i64 L, .int .i64 S, .slice a R.length c, .slice a' M.length c'] 25) := ⟨_, rfl⟩
  obtain ⟨W1, hW1⟩ : ∃ W1, W1 = W0.alloc (.cells #[.int .i64 0, .int .i64 0, .slice none 0 0, .slice none 0 0] 25) := ⟨_, rfl⟩
  have hs0 : W0.heap.size = w.heap.size + 1 := by rw [hW0]; simp
  have hs1 : W1.heap.size = w.heap.size + 2 := by rw [hW1]; simp [hs0]
  have g1 : w.grownBy W1 none := by rw [hW1, hW0]; exact grown_trans (grown_alloc _ _) (grown_alloc _ _)
  have k0 : W1.heap[w.heap.size]? = some (.cells #[.int .i64 L, .int .i64 S, .slice a R.length c, .slice a' M.length c'] 25 (0, 0)) := by
    have h1 : W0.heap[w.heap.size]? = some (.cells #[.int .i64 L, .int .i64 S, .slice a R.length c, .slice a' M.length c'] 25 (0, 0)) := by rw [hW0]; exact heap_alloc_new w _
    rw [hW1]
    exact ((grown_alloc W0 _).block _ (by omega) (by simp)).trans h1
  have k1 : W1.heap[w.heap.size + 1]? = some (.cells #[.int .i64 0, .int .i64 0, .slice none 0 0, .slice none 0 0] 25 (0, 0)) := by rw [hW1, ← hs0]; exact heap_alloc_new W0 _
  have K0 : Hid _ := k0
  have K1 : Hid _ := k1
  have G1 : Hid (w.grownBy W1 none) := g1
  have HW1 : Hid (W1 = (w.alloc (.cells #[.int .i64 L, .int .i64 S, .slice a R.length c, .slice a' M.length c'] 25)).alloc (.cells #[.int .i64 0, .int .i64 0, .slice none 0 0, .slice none 0 0] 25)) := by show _ = _; rw [hW1, hW0]
  have HS1 : Hid (W1.heap.size = w.heap.size + 2) := hs1
  clear h hW0 hW1 hs0 hs1 g1 k0 k1 hm
  go_enter Try.func9, Try.ntmps9
  go_wp2_with fail
  rw [← HW1.out]
  refine (HLs.out _ G1.out).mono ?_
  rintro e w2 ⟨v, rs, rfl, hrs, ho2, hg2⟩
  obtain ⟨_, aV, cV, hv⟩ := ho2.head
  simp only at hv
  subst hv
  have HRS : Hid (rs.map (·.2) = R) := hrs
  have O2 : Hid (Owns (w.heap.size + 2) w2 ((23, .slice aV (rs.map (·.1)).length cV, rs.map (·.1)) :: rowItems rs)) := by show Owns _ _ _; rw [← HS1.out]; exact ho2
  have K2 : Hid (w2.heap[w.heap.size]? = some (.cells #[.int .i64 L, .int .i64 S, .slice a R.length c, .slice a' M.length c'] 25 (0, 0))) := (hg2.block _ (by rw [HS1.out]; omega) (by simp)).trans K0.out
  have K2r : Hid (w2.heap[w.heap.size + 1]? = some (.cells #[.int .i64 0, .int .i64 0, .slice none 0 0, .slice none 0 0] 25 (0, 0))) := (hg2.block _ (by rw [HS1.out]; omega) (by simp)).trans K1.out
  have G2 : Hid (w.grownBy w2 none) := grown_trans G1.out hg2
  have HS2 : Hid (w.heap.size + 2 ≤ w2.heap.size) := by show _ ≤ _; rw [← HS1.out]; exact hg2.size
  obtain ⟨_, _, b2, b3, bz⟩ := block_cells K2.out
  have bz2 := bz 2
  obtain ⟨W3, hW3⟩ : ∃ W3, W3 = w2.setCell ⟨w.heap.size, 2, none⟩ (.slice aV (rs.map (·.1)).length cV) := ⟨_, rfl⟩
  have K3 : Hid (W3.heap[w.heap.size]? = some (.cells #[.int .i64 L, .int .i64 S, .slice aV (rs.map (·.1)).length cV, .slice a' M.length c'] 25 (0, 0))) := by show _ = _; rw [hW3]; exact (block_set K2.out _).1
  have K3r : Hid (W3.heap[w.heap.size + 1]? = some (.cells #[.int .i64 0, .int .i64 0, .slice none 0 0, .slice none 0 0] 25 (0, 0))) := by show _ = _; rw [hW3]; exact (Below.heap_setCell _ _ _ _ (by simp)).trans K2r.out
  have O3 : Hid (Owns (w.heap.size + 2) W3 ((23, .slice aV (rs.map (·.1)).length cV, rs.map (·.1)) :: rowItems rs)) := by show Owns _ _ _; rw [hW3]; exact O2.out.below (grown_set _ _ _) (by simp)
  have G3 : Hid (w.grownBy W3 none) := by show World.grownBy _ _ _; rw [hW3]; exact grown_new G2.out (grown_set _ _ _) (Nat.le_refl _)
  have HS3 : Hid (w.heap.size + 2 ≤ W3.heap.size) := by show _ ≤ _; rw [hW3]; simpa [World.setCell] using HS2.out
  have c3 : W3.cell? ⟨w.heap.size, 3, none⟩ = some (.slice a' M.length c') := (block_cells K3.out).2.2.2.1
  have z3 := (block_cells K3.out).2.2.2.2 3
  clear hrs ho2 hg2 bz
  generalize (rs.map (·.1)).length = nv at *
  rw [hW3] at c3 z3
  go_wp2_with fail
  rw [← hW3]
  refine (HLi.out _ G3.out).mono ?_
  rintro e w4 ⟨rfl, ho4, hg4⟩
  have O4 : Hid (Owns (w.heap.size + 2) w4 ((3, .slice (some ⟨W3.heap.size, 0, none⟩) M.length (M.length + 3), vals M) :: (23, .slice aV nv cV, rs.map (·.1)) :: rowItems rs)) := O3.out.join hg4 ho4 HS3.out
  have K4 : Hid (w4.heap[w.heap.size]? = some (.cells #[.int .i64 L, .int .i64 S, .slice aV nv cV, .slice a' M.length c'] 25 (0, 0))) := (hg4.block _ (by have := HS3.out; omega) (by simp)).trans K3.out
  have K4r : Hid (w4.heap[w.heap.size + 1]? = some (.cells #[.int .i64 0, .int .i64 0, .slice none 0 0, .slice none 0 0] 25 (0, 0))) := (hg4.block _ (by have := HS3.out; omega) (by simp)).trans K3r.out
  have G4 : Hid (w.grownBy w4 none) := grown_trans G3.out hg4
  obtain ⟨W5, hW5⟩ : ∃ W5, W5 = w4.setCell ⟨w.heap.size, 3, none⟩ (.slice (some ⟨W3.heap.size, 0, none⟩) M.length (M.length + 3)) := ⟨_, rfl⟩
  have K5 : Hid (W5.heap[w.heap.size]? = some (.cells #[.int .i64 L, .int .i64 S, .slice aV nv cV, .slice (some ⟨W3.heap.size, 0, none⟩) M.length (M.length + 3)] 25 (0, 0))) := by show _ = _; rw [hW5]; exact (block_set K4.out _).2
  have K5r : Hid (W5.heap[w.heap.size + 1]? = some (.cells #[.int .i64 0, .int .i64 0, .slice none 0 0, .slice none 0 0] 25 (0, 0))) := by show _ = _; rw [hW5]; exact (Below.heap_setCell _ _ _ _ (by simp)).trans K4r.out
  have O5 : Hid (Owns (w.heap.size + 2) W5 ((3, .slice (some ⟨W3.heap.size, 0, none⟩) M.length (M.length + 3), vals M) :: (23, .slice aV nv cV, rs.map (·.1)) :: rowItems rs)) := by show Owns _ _ _; rw [hW5]; exact O4.out.below (grown_set _ _ _) (by simp)
  have G5 : Hid (w.grownBy W5 none) := by show World.grownBy _ _ _; rw [hW5]; exact grown_new G4.out (grown_set _ _ _) (Nat.le_refl _)
  obtain ⟨_, _, _, e3, ez⟩ := block_cells K4.out
  have ez3 := ez 3
  obtain ⟨f0, f1, f2, f3, fz⟩ := block_cells K5.out
  obtain ⟨r0, r1, r2, r3, rz⟩ := block_cells K5r.out
  have rz0 := rz 0
  have rz1 := rz 1
  have rz2 := rz 2
  have rz3 := rz 3
  obtain ⟨W9, hW9, hg9, q0, q1, q2, q3⟩ := det_store K5r.out (.int .i64 L) (.int .i64 S) (.slice aV nv cV) (.slice (some ⟨W3.heap.size, 0, none⟩) M.length (M.length + 3))
  have G9 : Hid (w.grownBy W9 none) := grown_new G5.out hg9 (by omega)
  have O9 : Hid (Owns w.heap.size W9 ((3, .slice (some ⟨W3.heap.size, 0, none⟩) M.length (M.length + 3), vals M) :: (23, .slice aV nv cV, rs.map (·.1)) :: rowItems rs)) := (O5.out.below hg9 (by omega)).base (by omega)
  clear ho4 hg4 b2 b3 c3 z3 bz2 ez rz fz hg9
  generalize W3.heap.size = gm at *
  rw [hW5] at f0 f1 f2 f3 r0 r1 r2 r3 rz0 rz1 rz2 rz3 hW9
  go_wp2_with fail
  rw [← hW9]
  exact bodyPost_ret (v := .agg #[.int .i64 L, .int .i64 S, .slice aV nv cV, .slice (some ⟨gm, 0, none⟩) M.length (M.length + 3)]) (by simp [results, Try.results9, go_sem, q0, q1, q2, q3]) rfl ⟨_, _, rs, rfl, HRS.out, O9.out, G9.out⟩

end Go.Proofs.Ytofjboelplknhaa
