/- Copies with memory of their own, as the law makes them: lists. -/
/- Copies with memory of their own, as the law makes them: lists, lists of lists, automata. -/
/- An automaton with memory of its own, as the law makes it. -/
import Derived.Test.YticmfgclkepgoaaJoins
namespace Go.Proofs.Yticmfgclkepgoaa
open Go.RowKit
set_option linter.unusedVariables false

set_option maxHeartbeats 1000000 in
theorem list_any (a : Option Addr) (c : Nat) (zs : List Int) (w : World) (hz : Ints w a zs) (hm : zs.length ≤ 17592186044416) :
    Calls Try.prog 14 #[.slice a zs.length c] w fun e w' => e = .returned (.slice (some ⟨w.heap.size, 0, none⟩) zs.length (zs.length + 3)) ∧ Owns w.heap.size w' [(3, .slice (some ⟨w.heap.size, 0, none⟩) zs.length (zs.length + 3), vals zs)] ∧ w.grownBy w' none := by
  obtain ⟨i0, hi, hz0, hz1, hz2⟩ := info_parts Try.info3i
  have hmk := run_make (P := Try.prog) w 23 3 i0 (.int .i64 0) Try.underlying23 hi hz0 .i64 .i64 (zs.length : Int) ((zs.length : Int) + 3) (by omega) (by omega) (by rw [hz2]; omega) (by omega)
  have e : madeCells (Value.cells (.int .i64 0)) (zs.length + 3) = Array.replicate (zs.length + 3) (Value.int .i64 0) := by
    apply Array.ext'
    simpa [Value.cells] using toList_madeCells_one (.int .i64 0) (zs.length + 3)
  rw [hz1, Nat.mul_one, show ((zs.length : Int) + 3).toNat = zs.length + 3 by omega, Int.toNat_natCast, e] at hmk
  obtain ⟨W', hcp, HO, HB⟩ := copy_fact a c zs w hz hm
  clear hz
  go_enter Try.func14, Try.ntmps14
  go_wp2
  go_ret
  exact ⟨rfl, HO.out, HB.out⟩

end Go.Proofs.Yticmfgclkepgoaa

namespace Go.Proofs.Yticmfgclkepgoaa
open Go.RowKit
set_option linter.unusedVariables false

/-- What a copy of rows leaves behind. -/
def ListsPost (R : List (List Int)) (w : World) (e : Ending) (w' : World) : Prop :=
  ∃ (v : Value) (rs : List (Value × List Int)), e = .returned v ∧ rs.map (·.2) = R ∧ Owns w.heap.size w' ((23, v, rs.map (·.1)) :: rowItems rs) ∧ w.grownBy w' none

set_option maxHeartbeats 2000000 in
set_option maxRecDepth 100000 in
theorem lists_any (a : Option Addr) (c : Nat) (R : List (List Int)) (w : World) (hR : RowsAt w a R) (hn : R.length * 24 ≤ 140737488355328) (hm : ∀ i, i < R.length → (R.getD i []).length ≤ 17592186044416) :
    Calls Try.prog 13 #[.slice a R.length c] w (ListsPost R w) := by
  have HR : Hid (RowsAt w a R) := hR
  have HM : Hid (∀ i, i < R.length → (R.getD i []).length ≤ 17592186044416) := hm
  obtain ⟨i0, hi, hz0, hz1, hz2⟩ := info_parts Try.infoS
  clear hR hm
  go_enter Try.func13, Try.ntmps13
  go_wp2_with fail
  go_loopw [3, 4] (fun v i wr => ∃ (k : Nat) (a0 : Option Addr) (d0 : Nat) (rs : List (Value × List Int)), v = .slice a0 k d0 ∧ i = .int .i64 k ∧ k ≤ R.length ∧ rs.length = k ∧ rs.map (·.2) = R.take k ∧ Owns w.heap.size wr ((23, .slice a0 k d0, rs.map (·.1)) :: rowItems rs) ∧ w.grownBy wr none) (fun _ i _ => R.length - (intOf i).toNat)
  case atStart => exact ⟨0, none, 0, [], rfl, rfl, by omega, rfl, by simp, (Owns.no _ _).empty _, grown_refl _ _⟩
  case round =>
    obtain ⟨k, a0, d0, rs, rfl, rfl, hk, hrl, hrs, ho, hg⟩ := hrel
    have O : Hid (Owns w.heap.size wr ((23, .slice a0 k d0, rs.map (·.1)) :: rowItems rs)) := ho
    have G : Hid (w.grownBy wr none) := hg
    have HRL : Hid (rs.length = k) := hrl
    have HRS : Hid (rs.map (·.2) = R.take k) := hrs
    clear hrl hrs ho hg
    by_cases hlt : k < R.length
    · obtain ⟨b, off, rfl, hc⟩ := HR.out.at hlt
      obtain ⟨x, cx, hx1, hx2, hx3⟩ := hc k hlt
      have hcw : wr.cell? ⟨b, off + k, none⟩ = some (.slice x (R.getD k []).length cx) := G.out.cell hx1 (by simp)
      have hl44 := HM.out k hlt
      have HL : Hid (Calls Try.prog 14 #[.slice x (R.getD k []).length cx] wr fun e w' => e = .returned (.slice (some ⟨wr.heap.size, 0, none⟩) (R.getD k []).length ((R.getD k []).length + 3)) ∧ Owns wr.heap.size w' [(3, .slice (some ⟨wr.heap.size, 0, none⟩) (R.getD k []).length ((R.getD k []).length + 3), vals (R.getD k []))] ∧ wr.grownBy w' none) := list_any x cx _ wr (hx2.grown G.out) hl44
      have HT : Hid (R.take (k + 1) = R.take k ++ [R.getD k []]) := by
        show _ = _
        rw [List.take_add_one]
        simp [List.getD, hlt]
      clear hc hx1 hx2 hx3
      generalize R.getD k [] = zs at *
      have hki : (k : Int) < (R.length : Int) := by omega
      go_wp2_with fail
      refine HL.out.mono ?_
      rintro e w2 ⟨rfl, ho2, hg2⟩
      have O2 : Hid (Owns w.heap.size w2 ((3, .slice (some ⟨wr.heap.size, 0, none⟩) zs.length (zs.length + 3), vals zs) :: (23, .slice a0 k d0, rs.map (·.1)) :: rowItems rs)) := O.out.join hg2 ho2 G.out.size
      have G2 : Hid (w.grownBy w2 none) := grown_trans G.out hg2
      have hO2 : Hid (∀ o, (w2.alloc o).ownsRow w.heap.size 23 1 (.slice a0 k d0) k (rs.map (·.1))) := fun o => by
        have h2 := ((O2.out.kept (grown_alloc w2 o)).perm (List.Perm.swap _ _ _)).row
        simpa [HRL.out] using h2
      have HS2 : Hid (w.heap.size ≤ w2.heap.size) := G2.out.size
      clear ho2 hg2 hcw
      go_wp2_with (at_builtin; refine wpList_append_lies _ rfl (.tmp 17) (.tmp 19) 22 rfl w.heap.size 23 i0 (.slice none 0 0) 1 24 Try.underlying22 hi hz0 hz1 hz2 rfl (by decide) (.slice a0 k d0) k _ rfl (hO2.out _) ⟨w2.heap.size, 0, none⟩ 1 1 [.slice (some ⟨wr.heap.size, 0, none⟩) zs.length (zs.length + 3)] rfl rfl (cell_one_new _ _ _) (by intro u hu; simp at hu; subst hu; rfl) (by omega) (by unfold maxLen; omega) (by omega) (by have := HS2.out; simp; omega) (w2.heap.size + 1) (by simp) ?_; intro g cap w3 ho3 hg3 hat3 _; have O3 : Hid (Owns w.heap.size w3 ((23, .slice (some ⟨g, 0, none⟩) (k + 1) cap, rs.map (·.1) ++ [.slice (some ⟨wr.heap.size, 0, none⟩) zs.length (zs.length + 3)]) :: (3, .slice (some ⟨wr.heap.size, 0, none⟩) zs.length (zs.length + 3), vals zs) :: rowItems rs)) := (((O2.out.kept (grown_alloc w2 _)).perm (List.Perm.swap _ _ _)).append ho3 (by simp [HRL.out]) hg3 hat3 (by simp)); have G3 : Hid (w.grownBy w3 none) := (Owns.frame ((O2.out.kept (grown_alloc w2 _)).perm (List.Perm.swap _ _ _)) (Nat.le_refl _) (grown_trans G2.out (grown_alloc w2 _)) hg3); clear ho3 hg3 hat3)
      go_roundw
      case rel =>
        refine ⟨k + 1, some ⟨g, 0, none⟩, cap, rs ++ [(.slice (some ⟨wr.heap.size, 0, none⟩) zs.length (zs.length + 3), zs)], rfl, by go_num, by omega, by simp [HRL.out], by rw [List.map_append, HRS.out, HT.out]; rfl, ?_, G3.out⟩
        refine O3.out.perm ?_
        simp only [List.map_append, List.map_cons, List.map_nil]
        exact List.Perm.cons _ (List.perm_append_comm (l₁ := [(3, _, vals zs)]) (l₂ := rowItems rs))
      case measure => simp [intOf]; omega
    · have hki : ¬ (k : Int) < (R.length : Int) := by omega
      have HE : Hid (R.take k = R) := List.take_of_length_le (by omega)
      go_wp2_with fail
      go_ret
      exact ⟨_, rs, rfl, by rw [HRS.out, HE.out], O.out, G.out⟩

end Go.Proofs.Yticmfgclkepgoaa

namespace Go.Proofs.Yticmfgclkepgoaa
open Go.RowKit
set_option linter.unusedVariables false

/-- What a copy of an automaton leaves behind. -/
def DetOfPost (L S : Int) (R : List (List Int)) (M : List Int) (w : World) (e : Ending) (w' : World) : Prop :=
  ∃ (vR vM : Value) (rs : List (Value × List Int)), e = .returned (.agg #[.int .i64 L, .int .i64 S, vR, vM]) ∧ rs.map (·.2) = R ∧ Owns w.heap.size w' ((3, vM, vals M) :: (23, vR, rs.map (·.1)) :: rowItems rs) ∧ w.grownBy w' none

set_option maxHeartbeats 3200000 in
set_option maxRecDepth 100000 in
theorem detOf_any (L S : Int) (R : List (List Int)) (M : List Int) (a a' : Option Addr) (c c' : Nat) (w : World) (h : DetAt w ⟨L, S, R, M⟩ a a') (hn : R.length * 24 ≤ 140737488355328) (hm : ∀ i, i < R.length → (R.getD i []).length ≤ 17592186044416) (hM : M.length ≤ 17592186044416) :
    Calls Try.prog 4 #[.agg #[.int .i64 L, .int .i64 S, .slice a R.length c, .slice a' M.length c']] w (DetOfPost L S R M w) := by
  have HLs : Hid (∀ W, w.grownBy W none → Calls Try.prog 13 #[.slice a R.length c] W (ListsPost R W)) := fun W hW => lists_any a c R W (h.rows.grown hW) hn hm
  have HLi : Hid (∀ W, w.grownBy W none → Calls Try.prog 14 #[.slice a' M.length c'] W fun e w' => e = .returned (.slice (some ⟨W.heap.size, 0, none⟩) M.length (M.length + 3)) ∧ Owns W.heap.size w' [(3, .slice (some ⟨W.heap.size, 0, none⟩) M.length (M.length + 3), vals M)] ∧ W.grownBy w' none) := fun W hW => list_any a' c' M W (h.marks.grown hW) hM
  obtain ⟨W0, hW0⟩ : ∃ W0, W0 = w.alloc (.cells #[.int .i64 L, .int .i64 S, .slice a R.length c, .slice a' M.length c'] 25) := ⟨_, rfl⟩
  obtain ⟨W1, hW1⟩ : ∃ W1, W1 = W0.alloc (.cells #[.int .i64 0, .int .i64 0, .slice none 0 0, .slice none 0 0] 25) := ⟨_, rfl⟩
  have hs0 : W0.heap.size = w.heap.size + 1 := by rw [hW0]; simp
  have hs1 : W1.heap.size = w.heap.size + 2 := by rw [hW1]; simp [hs0]
  have g1 : w.grownBy W1 none := by rw [hW1, hW0]; exact grown_trans (grown_alloc _ _) (grown_alloc _ _)
  have k0 : W1.heap[w.heap.size]? = some (.cells #[.int .i64 L, .int .i64 S, .slice a R.length c, .slice a' M.length c'] 25 (0, 0)) := by
    have h1 : W0.heap[w.heap.size]? = some (.cells #[.int .i64 L, .int .i64 S, .slice a R.length c, .slice a' M.length c'] 25 (0, 0)) := by rw [hW0]; exact heap_alloc_new w _
    rw [hW1]
    exact ((grown_alloc W0 _).block _ (by omega) (by simp)).trans h1
  have k1 : W1.heap[w.heap.size + 1]? = some (.cells #[.int .i64 0, .int .i64 0, .slice none 0 0, .slice none 0 0] 25 (0, 0)) := by rw [hW1, ← hs0]; exact heap_alloc_new W0 _
  have K0 : Hid _ := k0
  have K1 : Hid _ := k1
  have G1 : Hid (w.grownBy W1 none) := g1
  have HW1 : Hid (W1 = (w.alloc (.cells #[.int .i64 L, .int .i64 S, .slice a R.length c, .slice a' M.length c'] 25)).alloc (.cells #[.int .i64 0, .int .i64 0, .slice none 0 0, .slice none 0 0] 25)) := by show _ = _; rw [hW1, hW0]
  have HS1 : Hid (W1.heap.size = w.heap.size + 2) := hs1
  clear h hW0 hW1 hs0 hs1 g1 k0 k1 hm
  go_enter Try.func4, Try.ntmps4
  go_wp2_with fail
  rw [← HW1.out]
  refine (HLs.out _ G1.out).mono ?_
  rintro e w2 ⟨v, rs, rfl, hrs, ho2, hg2⟩
  obtain ⟨_, aV, cV, hv⟩ := ho2.head
  simp only at hv
  subst hv
  have HRS : Hid (rs.map (·.2) = R) := hrs
  have O2 : Hid (Owns (w.heap.size + 2) w2 ((23, .slice aV (rs.map (·.1)).length cV, rs.map (·.1)) :: rowItems rs)) := by show Owns _ _ _; rw [← HS1.out]; exact ho2
  have K2 : Hid (w2.heap[w.heap.size]? = some (.cells #[.int .i64 L, .int .i64 S, .slice a R.length c, .slice a' M.length c'] 25 (0, 0))) := (hg2.block _ (by rw [HS1.out]; omega) (by simp)).trans K0.out
  have K2r : Hid (w2.heap[w.heap.size + 1]? = some (.cells #[.int .i64 0, .int .i64 0, .slice none 0 0, .slice none 0 0] 25 (0, 0))) := (hg2.block _ (by rw [HS1.out]; omega) (by simp)).trans K1.out
  have G2 : Hid (w.grownBy w2 none) := grown_trans G1.out hg2
  have HS2 : Hid (w.heap.size + 2 ≤ w2.heap.size) := by show _ ≤ _; rw [← HS1.out]; exact hg2.size
  obtain ⟨_, _, b2, b3, bz⟩ := block_cells K2.out
  have bz2 := bz 2
  obtain ⟨W3, hW3⟩ : ∃ W3, W3 = w2.setCell ⟨w.heap.size, 2, none⟩ (.slice aV (rs.map (·.1)).length cV) := ⟨_, rfl⟩
  have K3 : Hid (W3.heap[w.heap.size]? = some (.cells #[.int .i64 L, .int .i64 S, .slice aV (rs.map (·.1)).length cV, .slice a' M.length c'] 25 (0, 0))) := by show _ = _; rw [hW3]; exact (block_set K2.out _).1
  have K3r : Hid (W3.heap[w.heap.size + 1]? = some (.cells #[.int .i64 0, .int .i64 0, .slice none 0 0, .slice none 0 0] 25 (0, 0))) := by show _ = _; rw [hW3]; exact (Below.heap_setCell _ _ _ _ (by simp)).trans K2r.out
  have O3 : Hid (Owns (w.heap.size + 2) W3 ((23, .slice aV (rs.map (·.1)).length cV, rs.map (·.1)) :: rowItems rs)) := by show Owns _ _ _; rw [hW3]; exact O2.out.below (grown_set _ _ _) (by simp)
  have G3 : Hid (w.grownBy W3 none) := by show World.grownBy _ _ _; rw [hW3]; exact grown_new G2.out (grown_set _ _ _) (Nat.le_refl _)
  have HS3 : Hid (w.heap.size + 2 ≤ W3.heap.size) := by show _ ≤ _; rw [hW3]; simpa [World.setCell] using HS2.out
  have c3 : W3.cell? ⟨w.heap.size, 3, none⟩ = some (.slice a' M.length c') := (block_cells K3.out).2.2.2.1
  have z3 := (block_cells K3.out).2.2.2.2 3
  clear hrs ho2 hg2 bz
  generalize (rs.map (·.1)).length = nv at *
  rw [hW3] at c3 z3
  go_wp2_with fail
  rw [← hW3]
  refine (HLi.out _ G3.out).mono ?_
  rintro e w4 ⟨rfl, ho4, hg4⟩
  have O4 : Hid (Owns (w.heap.size + 2) w4 ((3, .slice (some ⟨W3.heap.size, 0, none⟩) M.length (M.length + 3), vals M) :: (23, .slice aV nv cV, rs.map (·.1)) :: rowItems rs)) := O3.out.join hg4 ho4 HS3.out
  have K4 : Hid (w4.heap[w.heap.size]? = some (.cells #[.int .i64 L, .int .i64 S, .slice aV nv cV, .slice a' M.length c'] 25 (0, 0))) := (hg4.block _ (by have := HS3.out; omega) (by simp)).trans K3.out
  have K4r : Hid (w4.heap[w.heap.size + 1]? = some (.cells #[.int .i64 0, .int .i64 0, .slice none 0 0, .slice none 0 0] 25 (0, 0))) := (hg4.block _ (by have := HS3.out; omega) (by simp)).trans K3r.out
  have G4 : Hid (w.grownBy w4 none) := grown_trans G3.out hg4
  obtain ⟨W5, hW5⟩ : ∃ W5, W5 = w4.setCell ⟨w.heap.size, 3, none⟩ (.slice (some ⟨W3.heap.size, 0, none⟩) M.length (M.length + 3)) := ⟨_, rfl⟩
  have K5 : Hid (W5.heap[w.heap.size]? = some (.cells #[.int .i64 L, .int .i64 S, .slice aV nv cV, .slice (some ⟨W3.heap.size, 0, none⟩) M.length (M.length + 3)] 25 (0, 0))) := by show _ = _; rw [hW5]; exact (block_set K4.out _).2
  have K5r : Hid (W5.heap[w.heap.size + 1]? = some (.cells #[.int .i64 0, .int .i64 0, .slice none 0 0, .slice none 0 0] 25 (0, 0))) := by show _ = _; rw [hW5]; exact (Below.heap_setCell _ _ _ _ (by simp)).trans K4r.out
  have O5 : Hid (Owns (w.heap.size + 2) W5 ((3, .slice (some ⟨W3.heap.size, 0, none⟩) M.length (M.length + 3), vals M) :: (23, .slice aV nv cV, rs.map (·.1)) :: rowItems rs)) := by show Owns _ _ _; rw [hW5]; exact O4.out.below (grown_set _ _ _) (by simp)
  have G5 : Hid (w.grownBy W5 none) := by show World.grownBy _ _ _; rw [hW5]; exact grown_new G4.out (grown_set _ _ _) (Nat.le_refl _)
  obtain ⟨_, _, _, e3, ez⟩ := block_cells K4.out
  have ez3 := ez 3
  obtain ⟨f0, f1, f2, f3, fz⟩ := block_cells K5.out
  obtain ⟨r0, r1, r2, r3, rz⟩ := block_cells K5r.out
  have rz0 := rz 0
  have rz1 := rz 1
  have rz2 := rz 2
  have rz3 := rz 3
  obtain ⟨W9, hW9, hg9, q0, q1, q2, q3⟩ := det_store K5r.out (.int .i64 L) (.int .i64 S) (.slice aV nv cV) (.slice (some ⟨W3.heap.size, 0, none⟩) M.length (M.length + 3))
  have G9 : Hid (w.grownBy W9 none) := grown_new G5.out hg9 (by omega)
  have O9 : Hid (Owns w.heap.size W9 ((3, .slice (some ⟨W3.heap.size, 0, none⟩) M.length (M.length + 3), vals M) :: (23, .slice aV nv cV, rs.map (·.1)) :: rowItems rs)) := (O5.out.below hg9 (by omega)).base (by omega)
  clear ho4 hg4 b2 b3 c3 z3 bz2 ez rz fz hg9
  generalize W3.heap.size = gm at *
  rw [hW5] at f0 f1 f2 f3 r0 r1 r2 r3 rz0 rz1 rz2 rz3 hW9
  go_wp2_with fail
  rw [← hW9]
  exact bodyPost_ret (v := .agg #[.int .i64 L, .int .i64 S, .slice aV nv cV, .slice (some ⟨gm, 0, none⟩) M.length (M.length + 3)]) (by simp [results, Try.results4, go_sem, q0, q1, q2, q3]) rfl ⟨_, _, rs, rfl, HRS.out, O9.out, G9.out⟩

end Go.Proofs.Yticmfgclkepgoaa
