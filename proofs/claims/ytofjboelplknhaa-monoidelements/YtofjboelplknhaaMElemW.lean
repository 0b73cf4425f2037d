/- The walk of the law MonoidElements, case by case. -/
import Derived.Test.YtofjboelplknhaaMElem
import Derived.Test.YtofjboelplknhaaMRefE
namespace Go.Proofs.Ytofjboelplknhaa
open Go.RowKit
set_option linter.unusedVariables false

set_option maxHeartbeats 1600000 in
set_option maxRecDepth 100000 in
theorem melem_A (L S y : Int) (a a' : Option Addr) (n m c c' : Nat) (w : World) (hy : y ≠ 0)
    (HEl : Hid (∀ W, w.grownBy W none → Calls Try.prog 22 #[detV L S a n c a' m c'] W (Says (.tuple #[.slice none 0 0, .int .i64 y]) W)))
    (HSm : Hid (∀ W, w.grownBy W none → Calls Try.prog 23 #[detV L S a n c a' m c'] W (LeastBPost y W))) :
    Calls Try.prog 5 #[detV L S a n c a' m c'] w (Says (.bool true) w) := by
  have f1 : (y != 0) = true := by simpa using hy
  obtain ⟨W1, hW1, g1, s1, bx1⟩ := box_new w (.int .i64 L) (.int .i64 S) (.slice a n c) (.slice a' m c') 25
  have HW1 : Hid (W1 = _) := hW1
  have G1 : Hid (w.grownBy W1 none) := g1
  have Bx : Hid (∀ W, W1.grownBy W none → W.cell? ⟨w.heap.size, 0, none⟩ = some (.int .i64 L) ∧ W.cell? ⟨w.heap.size, 1, none⟩ = some (.int .i64 S) ∧ W.cell? ⟨w.heap.size, 2, none⟩ = some (.slice a n c) ∧ W.cell? ⟨w.heap.size, 3, none⟩ = some (.slice a' m c')) := bx1
  clear hy hW1 g1 s1 bx1
  go_enter Try.func5, Try.ntmps5
  go_wp2_with fail
  rw [← HW1.out]
  refine (HEl.out _ G1.out).mono ?_
  rintro E w2 ⟨rfl, hg2⟩
  have G2 : Hid (W1.grownBy w2 none) := hg2
  obtain ⟨x0, x1, x2, x3⟩ := Bx.out _ hg2
  clear hg2
  go_wp2_with fail
  refine (HSm.out _ (grown_trans G1.out G2.out)).mono ?_
  rintro E w3 ⟨rfl, hg3⟩
  have G3 : Hid (∀ o, w.grownBy (w3.alloc o) none) := fun o => grown_trans (grown_trans G1.out (grown_trans G2.out hg3)) (grown_alloc _ _)
  clear hg3 x0 x1 x2 x3
  go_wp2_with fail
  go_ret
  exact ⟨rfl, G3.out _⟩

set_option maxHeartbeats 1600000 in
set_option maxRecDepth 100000 in
theorem melem_B (L S : Int) (l : Nat) (a a' : Option Addr) (n m c c' : Nat) (w : World) (δ : Nat → Nat → Nat) (mk : Nat → Bool) (nn s0 : Nat) (RL : List (List Int)) (ML : List Int) (hG : Good ⟨l, 0, RL, ML⟩) (h5 : RL.length ≤ 5) (hU : ∀ R M, LeastOf δ mk nn l s0 R M → R = RL ∧ M = ML)
    (HEl : Hid (∀ W, w.grownBy W none → Calls Try.prog 22 #[detV L S a n c a' m c'] W (ElemPost (deed (Dfa.nx ⟨l, 0, RL, ML⟩) RL.length) RL.length l W)))
    (HSm : Hid (∀ W, w.grownBy W none → Calls Try.prog 23 #[detV L S a n c a' m c'] W (LeastGPost δ mk nn l s0 W))) :
    Calls Try.prog 5 #[detV L S a n c a' m c'] w (Says (.bool true) w) := by
  have HRe : Hid (∀ W aR cR aM cM, DetAt W ⟨l, 0, RL, ML⟩ aR aM → Calls Try.prog 24 #[detV l 0 aR RL.length cR aM ML.length cM] W (RElemPost (deed (Dfa.nx ⟨l, 0, RL, ML⟩) RL.length) RL.length l W)) := fun W aR cR aM cM hd => elemR_any 0 l RL ML aR aM cR cM W hd hG h5
  have HWd : Hid (∀ W az cz az' cz' (zs : List Int), Ints W az zs → Ints W az' zs → zs.length = RL.length → Calls Try.prog 18 #[.slice az RL.length cz, .slice az' RL.length cz'] W (Says (.bool true) W)) := fun W az cz az' cz' zs i1 i2 l1 => by
    have h1 := wordsR_any az az' cz cz' zs zs W i1 i2 (by rw [l1]; unfold maxLen; omega) (by rw [l1]; unfold maxLen; omega)
    rw [l1] at h1
    exact h1.mono fun e w' h => says_of_tells h rfl
  have hml : ML.length = RL.length := hG.ml
  have hl4 : l ≤ 4 := by have := hG.l4; simp only at this; omega
  have HU : Hid (∀ R M, LeastOf δ mk nn l s0 R M → R = RL ∧ M = ML) := hU
  rw [hml] at HRe
  generalize deed (Dfa.nx ⟨l, 0, RL, ML⟩) RL.length = κ at *
  obtain ⟨N, hN⟩ : ∃ N, RL.length = N := ⟨_, rfl⟩
  rw [hN] at HEl HRe HWd h5
  have HN : Hid (RL.length = N ∧ ML.length = N) := ⟨hN, by rw [hml]; exact hN⟩
  obtain ⟨W1, hW1, g1, s1, bx1⟩ := box_new w (.int .i64 L) (.int .i64 S) (.slice a n c) (.slice a' m c') 25
  have HW1 : Hid (W1 = _) := hW1
  have G1 : Hid (w.grownBy W1 none) := g1
  have Bx : Hid (∀ W, W1.grownBy W none → W.cell? ⟨w.heap.size, 0, none⟩ = some (.int .i64 L) ∧ W.cell? ⟨w.heap.size, 1, none⟩ = some (.int .i64 S) ∧ W.cell? ⟨w.heap.size, 2, none⟩ = some (.slice a n c) ∧ W.cell? ⟨w.heap.size, 3, none⟩ = some (.slice a' m c')) := bx1
  clear hG hU hml hN hW1 g1 s1 bx1
  go_enter Try.func5, Try.ntmps5
  go_wp2_with fail
  rw [← HW1.out]
  refine (HEl.out _ G1.out).mono ?_
  rintro E w2 ⟨k, aR, cR, hend, hk3, rfl, hrows, hg2⟩
  have G2 : Hid (W1.grownBy w2 none) := hg2
  have HEnd : Hid (EndW κ l k) := hend
  have HR2 : Hid (RowsAt w2 aR (elemR κ N l k)) := hrows
  obtain ⟨x0, x1, x2, x3⟩ := Bx.out _ hg2
  clear hg2 hend hrows
  go_wp2_with fail
  refine (HSm.out _ (grown_trans G1.out G2.out)).mono ?_
  rintro E w3 ⟨v, rfl, aL, cL, aN, cN, rs, M9, hv, hlo, hrn, hm9, hrl, ho, hg3⟩
  cases hv
  obtain ⟨e1, e2⟩ := HU.out _ _ hlo
  have er : rs.length = N := by rw [← HN.out.1, ← e1, List.length_map]
  have em : M9.length = N := by rw [← HN.out.2, e2]
  have D3 : DetAt w3 ⟨l, 0, RL, ML⟩ aL aN := by
    have h3 := det_of_owns (L := (l : Int)) (S := 0) (its := []) (by rw [List.append_nil]; exact ho) (fun x hx => by rw [hrl x hx]; unfold maxLen; omega) (by rw [er]; unfold maxLen; omega) (by rw [em]; unfold maxLen; omega)
    rw [e1, e2] at h3
    exact h3
  rw [er, em]
  obtain ⟨W4, hW4, g4, s4, bx4⟩ := box_new w3 (.int .i64 l) (.int .i64 0) (.slice aL N cL) (.slice aN N cN) 25
  have HW4 : Hid (W4 = _) := hW4
  have D4 : Hid (DetAt W4 ⟨l, 0, RL, ML⟩ aL aN) := D3.grown g4
  have G4 : Hid (W1.grownBy W4 none) := grown_trans G2.out (grown_trans hg3 g4)
  have R4 : Hid (RowsAt W4 aR (elemR κ N l k)) := HR2.out.grown (grown_trans hg3 g4)
  have HC4 : Hid (Calls Try.prog 24 #[detV l 0 aL N cL aN N cN] W4 (RElemPost κ N l W4)) := HRe.out W4 aL cL aN cN D4.out
  clear hlo hrn hm9 hrl ho hg3 e1 e2 er em D3 hW4 g4 s4 bx4 x0 x1 x2 x3 HR2 HSm HEl
  go_wp2_with fail
  rw [← HW4.out]
  refine HC4.out.mono ?_
  rintro E w5 ⟨k', aS, cS, es, rfl, hend', hes, hws, hA, hg5⟩
  have ek := hend'.one HEnd.out
  subst ek
  have A5 : Hid (ElAt κ N W4 w5 aS cS es []) := hA
  have HWs : Hid (WordsOf es (bfsW κ l k')) := hws
  have R5 : Hid (RowsAt w5 aR (elemR κ N l k')) := R4.out.grown hg5
  have G5 : Hid (w.grownBy w5 none) := grown_trans (grown_trans G1.out G4.out) hg5
  have HEs : Hid (es.length = k') := hes
  have hk4 : ¬ (3200 : Int) < (k' : Int) := by omega
  clear hend' hes hws hA hg5 HC4 R4
  go_wp2_with fail
  go_loopw [8] (fun v8 wr => ∃ i : Nat, v8 = .int .i64 i ∧ i ≤ k' ∧ w5.grownBy wr none) (fun v _ => k' - (intOf v).toNat)
  case atStart => exact ⟨0, rfl, by omega, grown_refl _ _⟩
  case round =>
    obtain ⟨i, rfl, hi, hg⟩ := hrel
    have G6 : Hid (w5.grownBy wr none) := hg
    by_cases hlt : i < k'
    · have hii : (i : Int) < (k' : Int) := by omega
      have hiw : i < (bfsW κ l k').length := by rw [HEnd.out.len]; exact hlt
      have hrl : (elemR κ N l k').length = k' := by unfold elemR; rw [List.length_map]; exact HEnd.out.len
      have hrow : (elemR κ N l k').getD i [] = natInts (doesL N (κ ((bfsW κ l k').getD i []))) := by simp [elemR, List.getD, hiw]
      obtain ⟨ba, oa, rfl, hra⟩ := (R5.out.grown hg).at (k := i) (by rw [hrl]; exact hlt)
      obtain ⟨xa, xc, r1, r2, _⟩ := hra i (by rw [hrl]; exact hlt)
      rw [hrow] at r1 r2
      have hln : (natInts (doesL N (κ ((bfsW κ l k').getD i [])))).length = N := by simp [doesL]
      rw [hln] at r1
      obtain ⟨e, he, heu⟩ := HWs.out.at hiw
      obtain ⟨g, rfl, d1, _, ⟨az, cz, ez, iz⟩, _⟩ := (A5.out.kept hg).read he
      rw [ez] at d1
      rw [heu] at iz
      have HW6 : Hid (Calls Try.prog 18 #[.slice xa N xc, .slice az N cz] wr.drew (Says (.bool true) wr.drew)) := HWd.out wr.drew xa xc az cz _ (r2.grown (grown_drew (grown_refl _ _))) (iz.grown (grown_drew (grown_refl _ _))) hln
      clear hg hiw hrl hrow hra r2 hln he heu ez iz
      go_wp2_with fail
      go_region_with (go_at_call 18; refine HW6.out.mono ?_; rintro E w7 ⟨rfl, hg7⟩; have G7 : Hid (w5.grownBy w7 none) := (grown_trans G6.out (grown_trans (grown_drew (grown_refl _ _)) hg7)); clear hg7)
      all_goals
        go_wp2_with fail
        go_roundw
        case rel => exact ⟨i + 1, by go_num, by omega, G7.out⟩
        case measure => simp [intOf]; omega
    · have hii : ¬ (i : Int) < (k' : Int) := by omega
      have G9 : Hid (w.grownBy wr none) := grown_trans G5.out hg
      clear hg
      go_wp2_with fail
      go_ret
      exact ⟨rfl, G9.out⟩

end Go.Proofs.Ytofjboelplknhaa
