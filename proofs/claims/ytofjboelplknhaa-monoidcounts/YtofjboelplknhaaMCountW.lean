/- The walk of the law MonoidCounts, case by case. -/
import Derived.Test.YtofjboelplknhaaMRefC
namespace Go.Proofs.Ytofjboelplknhaa
open Go.RowKit
set_option linter.unusedVariables false

set_option maxHeartbeats 1600000 in
set_option maxRecDepth 100000 in
theorem mcount_A (L S y : Int) (a a' : Option Addr) (n m c c' : Nat) (w : World) (hy : y ≠ 0)
    (HEl : Hid (∀ W, w.grownBy W none → Calls Try.prog 29 #[detV L S a n c a' m c'] W (Says (.tuple #[.slice none 0 0, .int .i64 0, .bool false, .int .i64 y]) W)))
    (HSm : Hid (∀ W, w.grownBy W none → Calls Try.prog 23 #[detV L S a n c a' m c'] W (LeastBPost y W))) :
    Calls Try.prog 7 #[detV L S a n c a' m c'] w (Says (.bool true) w) := by
  have f1 : (y != 0) = true := by simpa using hy
  obtain ⟨W1, hW1, g1, s1, bx1⟩ := box_new w (.int .i64 L) (.int .i64 S) (.slice a n c) (.slice a' m c') 25
  have HW1 : Hid (W1 = _) := hW1
  have G1 : Hid (w.grownBy W1 none) := g1
  have Bx : Hid (∀ W, W1.grownBy W none → W.cell? ⟨w.heap.size, 0, none⟩ = some (.int .i64 L) ∧ W.cell? ⟨w.heap.size, 1, none⟩ = some (.int .i64 S) ∧ W.cell? ⟨w.heap.size, 2, none⟩ = some (.slice a n c) ∧ W.cell? ⟨w.heap.size, 3, none⟩ = some (.slice a' m c')) := bx1
  clear hy hW1 g1 s1 bx1
  go_enter Try.func7, Try.ntmps7
  go_wp2_with fail
  rw [← HW1.out]
  refine (HEl.out _ G1.out).mono ?_
  rintro E w2 ⟨rfl, hg2⟩
  have G2 : Hid (W1.grownBy w2 none) := hg2
  obtain ⟨x0, x1, x2, x3⟩ := Bx.out _ hg2
  clear hg2
  go_wp2_with fail
  refine (HSm.out _ (grown_trans G1.out G2.out)).mono ?_
  rintro E w3 ⟨rfl, hg3⟩
  have G3 : Hid (∀ o, w.grownBy (w3.alloc o) none) := fun o => grown_trans (grown_trans G1.out (grown_trans G2.out hg3)) (grown_alloc _ _)
  clear hg3 x0 x1 x2 x3
  go_wp2_with fail
  go_ret
  exact ⟨rfl, G3.out _⟩

/-- What both find is one. -/
theorem counts_one {κ : List Nat → Nat} {l k i i' : Nat} (hend : EndW κ l k) (hi : i < (bfsW κ l i).length) (hgo : ∀ j, j < i → j < (bfsW κ l j).length) (hno : ∀ j, j < i → cts (κ ((bfsW κ l i).getD j [])) = false) (hyes : cts (κ ((bfsW κ l i).getD i [])) = true)
    (hi' : i' < k) (hno' : ∀ j, j < i' → cts (κ ((bfsW κ l k).getD j [])) = false) (hyes' : cts (κ ((bfsW κ l k).getD i' [])) = true) : (bfsW κ l i).getD i [] = (bfsW κ l k).getD i' [] := by
  have hik : i < k := by
    rcases Nat.lt_or_ge i k with h | h
    · exact h
    · rcases Nat.lt_or_ge k i with h2 | h2
      · have := hgo k h2; rw [hend.len] at this; omega
      · have e : i = k := by omega
        subst e
        rw [hend.len] at hi; omega
  obtain ⟨zs, e⟩ := bfsW_le (κ := κ) (l := l) (show i ≤ k by omega)
  have ge : ∀ j, j ≤ i → (bfsW κ l k).getD j [] = (bfsW κ l i).getD j [] := fun j hj => by rw [e, getDL_app _ (by omega)]
  have hii : i = i' := by
    rcases Nat.lt_trichotomy i i' with h | h | h
    · have := hno' i h; rw [ge i (Nat.le_refl _), hyes] at this; cases this
    · exact h
    · have := hno i' h; rw [← ge i' (by omega), hyes'] at this; cases this
  subst hii
  exact (ge i (Nat.le_refl _)).symm
theorem counts_none {κ : List Nat → Nat} {l k i : Nat} (hend : EndW κ l k) (hi : i < (bfsW κ l i).length) (hgo : ∀ j, j < i → j < (bfsW κ l j).length) (hyes : cts (κ ((bfsW κ l i).getD i [])) = true) (hno : ∀ u, u ∈ bfsW κ l k → cts (κ u) = false) : False := by
  have hik : i < k := by
    rcases Nat.lt_or_ge i k with h | h
    · exact h
    · rcases Nat.lt_or_ge k i with h2 | h2
      · have := hgo k h2; rw [hend.len] at this; omega
      · have e : i = k := by omega
        subst e
        rw [hend.len] at hi; omega
  obtain ⟨zs, e⟩ := bfsW_le (κ := κ) (l := l) (show i ≤ k by omega)
  have h1 := hno _ (getDL_mem (ws := bfsW κ l k) (i := i) (by rw [hend.len]; exact hik))
  rw [e, getDL_app _ hi, hyes] at h1
  cases h1
theorem counts_none' {κ : List Nat → Nat} {l k k' i : Nat} (hend : EndW κ l k) (hno : ∀ u, u ∈ bfsW κ l k → cts (κ u) = false) (hend' : EndW κ l k') (hi : i < k') (hyes : cts (κ ((bfsW κ l k').getD i [])) = true) : False := by
  have e := hend.one hend'
  subst e
  have h1 := hno _ (getDL_mem (ws := bfsW κ l k) (i := i) (by rw [hend.len]; exact hi))
  rw [hyes] at h1
  cases h1

set_option maxHeartbeats 1600000 in
set_option maxRecDepth 100000 in
theorem mcount_B (L S : Int) (l : Nat) (a a' : Option Addr) (n m c c' : Nat) (w : World) (δ : Nat → Nat → Nat) (mk : Nat → Bool) (nn s0 : Nat) (RL : List (List Int)) (ML : List Int) (hG : Good ⟨l, 0, RL, ML⟩) (h5 : RL.length ≤ 5) (hU : ∀ R M, LeastOf δ mk nn l s0 R M → R = RL ∧ M = ML)
    (HEl : Hid (∀ W, w.grownBy W none → Calls Try.prog 29 #[detV L S a n c a' m c'] W (CountPost (deed (Dfa.nx ⟨l, 0, RL, ML⟩) RL.length) l W)))
    (HSm : Hid (∀ W, w.grownBy W none → Calls Try.prog 23 #[detV L S a n c a' m c'] W (LeastGPost δ mk nn l s0 W))) :
    Calls Try.prog 7 #[detV L S a n c a' m c'] w (Says (.bool true) w) := by
  have HRe : Hid (∀ W aR cR aM cM, DetAt W ⟨l, 0, RL, ML⟩ aR aM → Calls Try.prog 30 #[detV l 0 aR RL.length cR aM ML.length cM] W (RCountPost (deed (Dfa.nx ⟨l, 0, RL, ML⟩) RL.length) l W)) := fun W aR cR aM cM hd => countR_any 0 l RL ML aR aM cR cM W hd hG h5
  have HWd : Hid (∀ W az cz az' cz' (u : List Nat), u.length ≤ 4000 → Ints W az (natInts u) → Ints W az' (natInts u) → Calls Try.prog 18 #[.slice az u.length cz, .slice az' u.length cz'] W (Says (.bool true) W)) := fun W az cz az' cz' u hl i1 i2 => by
    have h1 := wordsR_any az az' cz cz' (natInts u) (natInts u) W i1 i2 (by rw [List.length_map]; unfold maxLen; omega) (by rw [List.length_map]; unfold maxLen; omega)
    rw [List.length_map] at h1
    exact h1.mono fun e w' h => says_of_tells h rfl
  have HLg : Hid (∀ k i, EndW (deed (Dfa.nx ⟨l, 0, RL, ML⟩) RL.length) l k → i < k → ((bfsW (deed (Dfa.nx ⟨l, 0, RL, ML⟩) RL.length) l k).getD i []).length ≤ 4000) := fun k i hend hi => by
    obtain ⟨ss, hp⟩ := parW_ex (deed (Dfa.nx ⟨l, 0, RL, ML⟩) RL.length) l k
    have h1 := parW_long hp i (by rw [hend.len]; exact hi)
    have h2 := words_few (bfsW_nodup (κ := deed (Dfa.nx ⟨l, 0, RL, ML⟩) RL.length) (l := l) k) (fun u hu => (deed_facts h5 (fun s a hs ha => hG.nx_lt hs (by simp; exact ha)) u (bfsW_letters k u hu)).1)
    rw [hend.len] at h2
    omega
  have hml : ML.length = RL.length := hG.ml
  have hl4 : l ≤ 4 := by have := hG.l4; simp only at this; omega
  have HU : Hid (∀ R M, LeastOf δ mk nn l s0 R M → R = RL ∧ M = ML) := hU
  rw [hml] at HRe
  generalize deed (Dfa.nx ⟨l, 0, RL, ML⟩) RL.length = κ at *
  obtain ⟨N, hN⟩ : ∃ N, RL.length = N := ⟨_, rfl⟩
  rw [hN] at HRe h5
  have HN : Hid (RL.length = N ∧ ML.length = N) := ⟨hN, by rw [hml]; exact hN⟩
  obtain ⟨W1, hW1, g1, s1, bx1⟩ := box_new w (.int .i64 L) (.int .i64 S) (.slice a n c) (.slice a' m c') 25
  have HW1 : Hid (W1 = _) := hW1
  have G1 : Hid (w.grownBy W1 none) := g1
  have Bx : Hid (∀ W, W1.grownBy W none → W.cell? ⟨w.heap.size, 0, none⟩ = some (.int .i64 L) ∧ W.cell? ⟨w.heap.size, 1, none⟩ = some (.int .i64 S) ∧ W.cell? ⟨w.heap.size, 2, none⟩ = some (.slice a n c) ∧ W.cell? ⟨w.heap.size, 3, none⟩ = some (.slice a' m c')) := bx1
  clear hG hU hml hN hW1 g1 s1 bx1
  go_enter Try.func7, Try.ntmps7
  go_wp2_with fail
  rw [← HW1.out]
  refine (HEl.out _ G1.out).mono ?_
  rintro E w2 ⟨hg2, (⟨rfl, k, hend, hno⟩ | ⟨i, az, cz, hi, hgo, hno, hyes, rfl, hints⟩)⟩
  · have HE : Hid (EndW κ l k ∧ ∀ u, u ∈ bfsW κ l k → cts (κ u) = false) := ⟨hend, hno⟩
    clear hend hno
    have G2 : Hid (W1.grownBy w2 none) := hg2
    obtain ⟨x0, x1, x2, x3⟩ := Bx.out _ hg2
    clear hg2
    go_wp2_with fail
    refine (HSm.out _ (grown_trans G1.out G2.out)).mono ?_
    rintro E w3 ⟨v, rfl, aL, cL, aN, cN, rs, M9, hv, hlo, hrn, hm9, hrl, ho, hg3⟩
    cases hv
    obtain ⟨e1, e2⟩ := HU.out _ _ hlo
    have er : rs.length = N := by rw [← HN.out.1, ← e1, List.length_map]
    have em : M9.length = N := by rw [← HN.out.2, e2]
    have D3 : DetAt w3 ⟨l, 0, RL, ML⟩ aL aN := by
      have h3 := det_of_owns (L := (l : Int)) (S := 0) (its := []) (by rw [List.append_nil]; exact ho) (fun x hx => by rw [hrl x hx]; unfold maxLen; omega) (by rw [er]; unfold maxLen; omega) (by rw [em]; unfold maxLen; omega)
      rw [e1, e2] at h3
      exact h3
    rw [er, em]
    obtain ⟨W4, hW4, g4, s4, bx4⟩ := box_new w3 (.int .i64 l) (.int .i64 0) (.slice aL N cL) (.slice aN N cN) 25
    have HW4 : Hid (W4 = _) := hW4
    have D4 : Hid (DetAt W4 ⟨l, 0, RL, ML⟩ aL aN) := D3.grown g4
    have G24 : Hid (w2.grownBy W4 none) := grown_trans hg3 g4
    have G4 : Hid (W1.grownBy W4 none) := grown_trans G2.out (grown_trans hg3 g4)
    have HC4 : Hid (Calls Try.prog 30 #[detV l 0 aL N cL aN N cN] W4 (RCountPost κ l W4)) := HRe.out W4 aL cL aN cN D4.out
    clear hlo hrn hm9 hrl ho hg3 e1 e2 er em D3 hW4 g4 s4 bx4 x0 x1 x2 x3 HSm HEl
    go_wp2_with fail
    rw [← HW4.out]
    refine HC4.out.mono ?_
    rintro E w5 ⟨hg5, (⟨rfl, k', hend', hno'⟩ | ⟨k', i', az', cz', hend', hi', hno', hyes', rfl, hints'⟩)⟩
    · have HW5 : Hid (Calls Try.prog 18 #[.slice none 0 0, .slice none 0 0] w5 (Says (.bool true) w5)) := HWd.out w5 none 0 none 0 [] (by simp) (.inl rfl) (.inl rfl)
      have G5 : Hid (W1.grownBy w5 none) := grown_trans G4.out hg5
      clear hg5 hend' hno' HC4
      go_wp2_with fail
      refine HW5.out.mono ?_
      rintro E w6 ⟨rfl, hg6⟩
      have G6 : Hid (w.grownBy w6 none) := grown_trans G1.out (grown_trans G5.out hg6)
      clear hg6
      go_wp2_with fail
      go_ret
      exact ⟨rfl, G6.out⟩
    · exact absurd (counts_none' HE.out.1 HE.out.2 hend' hi' hyes') id
  · have HE : Hid (i < (bfsW κ l i).length ∧ (∀ j, j < i → j < (bfsW κ l j).length) ∧ (∀ j, j < i → cts (κ ((bfsW κ l i).getD j [])) = false) ∧ cts (κ ((bfsW κ l i).getD i [])) = true) := ⟨hi, hgo, hno, hyes⟩
    have HT : Hid (0 < cbk (κ ((bfsW κ l i).getD i [])) 5) := by
      show 0 < _
      have := hyes
      unfold cts at this
      exact of_decide_eq_true this
    obtain ⟨u, hu⟩ : ∃ u, (bfsW κ l i).getD i [] = u := ⟨_, rfl⟩
    rw [hu] at hints HT
    have HUi : Hid ((bfsW κ l i).getD i [] = u) := hu
    have HI2 : Hid (Ints w2 az (natInts u)) := hints
    rw [hu]
    obtain ⟨t, ht⟩ : ∃ t, cbk (κ u) 5 = t := ⟨_, rfl⟩
    have HTt : Hid (cbk (κ u) 5 = t) := ht
    rw [ht] at HT ⊢
    obtain ⟨ul, hul⟩ : ∃ ul, u.length = ul := ⟨_, rfl⟩
    have HUl : Hid (u.length = ul) := hul
    rw [hul]
    clear hi hgo hno hyes hints hu ht hul
    have G2 : Hid (W1.grownBy w2 none) := hg2
    obtain ⟨x0, x1, x2, x3⟩ := Bx.out _ hg2
    clear hg2
    go_wp2_with fail
    refine (HSm.out _ (grown_trans G1.out G2.out)).mono ?_
    rintro E w3 ⟨v, rfl, aL, cL, aN, cN, rs, M9, hv, hlo, hrn, hm9, hrl, ho, hg3⟩
    cases hv
    obtain ⟨e1, e2⟩ := HU.out _ _ hlo
    have er : rs.length = N := by rw [← HN.out.1, ← e1, List.length_map]
    have em : M9.length = N := by rw [← HN.out.2, e2]
    have D3 : DetAt w3 ⟨l, 0, RL, ML⟩ aL aN := by
      have h3 := det_of_owns (L := (l : Int)) (S := 0) (its := []) (by rw [List.append_nil]; exact ho) (fun x hx => by rw [hrl x hx]; unfold maxLen; omega) (by rw [er]; unfold maxLen; omega) (by rw [em]; unfold maxLen; omega)
      rw [e1, e2] at h3
      exact h3
    rw [er, em]
    obtain ⟨W4, hW4, g4, s4, bx4⟩ := box_new w3 (.int .i64 l) (.int .i64 0) (.slice aL N cL) (.slice aN N cN) 25
    have HW4 : Hid (W4 = _) := hW4
    have D4 : Hid (DetAt W4 ⟨l, 0, RL, ML⟩ aL aN) := D3.grown g4
    have G24 : Hid (w2.grownBy W4 none) := grown_trans hg3 g4
    have G4 : Hid (W1.grownBy W4 none) := grown_trans G2.out (grown_trans hg3 g4)
    have HC4 : Hid (Calls Try.prog 30 #[detV l 0 aL N cL aN N cN] W4 (RCountPost κ l W4)) := HRe.out W4 aL cL aN cN D4.out
    clear hlo hrn hm9 hrl ho hg3 e1 e2 er em D3 hW4 g4 s4 bx4 x0 x1 x2 x3 HSm HEl
    go_wp2_with fail
    rw [← HW4.out]
    refine HC4.out.mono ?_
    rintro E w5 ⟨hg5, (⟨rfl, k', hend', hno'⟩ | ⟨k', i', az', cz', hend', hi', hno', hyes', rfl, hints'⟩)⟩
    · exact absurd (counts_none hend' HE.out.1 HE.out.2.1 HE.out.2.2.2 hno') id
    · have eu : u = (bfsW κ l k').getD i' [] := by rw [← HUi.out]; exact counts_one hend' HE.out.1 HE.out.2.1 HE.out.2.2.1 HE.out.2.2.2 hi' hno' hyes'
      have hlg := HLg.out k' i' hend' hi'
      rw [← eu] at hints' hlg ⊢
      rw [HTt.out, HUl.out]
      have HW5 : Hid (Calls Try.prog 18 #[.slice az ul cz, .slice az' ul cz'] w5 (Says (.bool true) w5)) := by
        have h1 := HWd.out w5 az cz az' cz' u hlg (HI2.out.grown (grown_trans G24.out hg5)) hints'
        rw [HUl.out] at h1
        exact h1
      have G5 : Hid (W1.grownBy w5 none) := grown_trans G4.out hg5
      have hti : (0 : Int) < (t : Int) := by have := HT.out; omega
      clear hg5 hend' hno' hi' hyes' hints' eu hlg HC4
      go_wp2_with fail
      refine HW5.out.mono ?_
      rintro E w6 ⟨rfl, hg6⟩
      have G6 : Hid (w.grownBy w6 none) := grown_trans G1.out (grown_trans G5.out hg6)
      clear hg6
      go_wp2_with fail
      go_ret
      exact ⟨rfl, G6.out⟩

end Go.Proofs.Ytofjboelplknhaa
