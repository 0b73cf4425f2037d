/- The law's walk: MonoidAlike. -/
/- The law's walk: MonoidAlike, where all is well. -/
import Derived.Test.YtofjboelplknhaaMAlike
import Derived.Test.YtofjboelplknhaaMAfter
import Derived.Test.YtofjboelplknhaaRWords
import Derived.Test.YtofjboelplknhaaMays
namespace Go.Proofs.Ytofjboelplknhaa
open Go.RowKit
set_option linter.unusedVariables false

set_option maxHeartbeats 1600000 in
set_option maxRecDepth 100000 in
theorem malike_A1 (L S y : Int) (a a' b b' : Option Addr) (n m c c' nu d nv d' : Nat) (w : World) (hy : y ≠ 0)
    (HEl : Hid (∀ W, w.grownBy W none → Calls Try.prog 25 #[detV L S a n c a' m c', .slice b nu d, .slice b' nv d'] W (Says (.tuple #[.slice none 0 0, .slice none 0 0, .bool false, .int .i64 y]) W)))
    (HSm : Hid (∀ W, w.grownBy W none → Calls Try.prog 23 #[detV L S a n c a' m c'] W (LeastBPost y W))) :
    Calls Try.prog 6 #[detV L S a n c a' m c', .slice b nu d, .slice b' nv d'] w (Says (.bool true) w) := by
  have f1 : (y != 0) = true := by simpa using hy
  have f2 : (y == 0) = false := by simpa using hy
  obtain ⟨W1, hW1, g1, s1, bx1⟩ := box_new w (.int .i64 L) (.int .i64 S) (.slice a n c) (.slice a' m c') 25
  have HW1 : Hid (W1 = _) := hW1
  have G1 : Hid (w.grownBy W1 none) := g1
  have Bx : Hid (∀ W, W1.grownBy W none → W.cell? ⟨w.heap.size, 0, none⟩ = some (.int .i64 L) ∧ W.cell? ⟨w.heap.size, 1, none⟩ = some (.int .i64 S) ∧ W.cell? ⟨w.heap.size, 2, none⟩ = some (.slice a n c) ∧ W.cell? ⟨w.heap.size, 3, none⟩ = some (.slice a' m c')) := bx1
  clear hy hW1 g1 s1 bx1
  go_enter Try.func6, Try.ntmps6
  go_wp2_with fail
  rw [← HW1.out]
  refine (HEl.out _ G1.out).mono ?_
  rintro E w2 ⟨rfl, hg2⟩
  have G2 : Hid (W1.grownBy w2 none) := hg2
  obtain ⟨x0, x1, x2, x3⟩ := Bx.out _ hg2
  clear hg2
  go_wp2_with fail
  refine (HSm.out _ (grown_trans G1.out G2.out)).mono ?_
  rintro E w3 ⟨rfl, hg3⟩
  have GE : Hid (∀ o, w.grownBy (w3.alloc o) none) := fun o => grown_trans (grown_trans G1.out (grown_trans G2.out hg3)) (grown_alloc _ _)
  clear hg3 x0 x1 x2 x3
  go_wp2_with fail
  go_ret
  exact ⟨rfl, GE.out _⟩

set_option maxHeartbeats 1600000 in
set_option maxRecDepth 100000 in
theorem malike_A2 (L S y yu yv : Int) (l : Nat) (a a' b b' : Option Addr) (n m c c' nu d nv d' : Nat) (w : World) (δ : Nat → Nat → Nat) (mk : Nat → Bool) (nn s0 : Nat) (hy : y ≠ 0) (hyy : y = yu ∨ yu = 0 ∧ y = yv)
    (HEl : Hid (∀ W, w.grownBy W none → Calls Try.prog 25 #[detV L S a n c a' m c', .slice b nu d, .slice b' nv d'] W (Says (.tuple #[.slice none 0 0, .slice none 0 0, .bool false, .int .i64 y]) W)))
    (HSm : Hid (∀ W, w.grownBy W none → Calls Try.prog 23 #[detV L S a n c a' m c'] W (LeastGPost δ mk nn l s0 W)))
    (HMu : Hid (∀ W, w.grownBy W none → Calls Try.prog 26 #[.int .i64 L, .slice b nu d] W fun e w' => e = .returned (.int .i64 yu) ∧ w' = W))
    (HMv : Hid (∀ W, w.grownBy W none → Calls Try.prog 26 #[.int .i64 L, .slice b' nv d'] W fun e w' => e = .returned (.int .i64 yv) ∧ w' = W)) :
    Calls Try.prog 6 #[detV L S a n c a' m c', .slice b nu d, .slice b' nv d'] w (Says (.bool true) w) := by
  have f1 : (y != 0) = true := by simpa using hy
  have f2 : (y == 0) = false := by simpa using hy
  obtain ⟨W1, hW1, g1, s1, bx1⟩ := box_new w (.int .i64 L) (.int .i64 S) (.slice a n c) (.slice a' m c') 25
  have HW1 : Hid (W1 = _) := hW1
  have G1 : Hid (w.grownBy W1 none) := g1
  have Bx : Hid (∀ W, W1.grownBy W none → W.cell? ⟨w.heap.size, 0, none⟩ = some (.int .i64 L) ∧ W.cell? ⟨w.heap.size, 1, none⟩ = some (.int .i64 S) ∧ W.cell? ⟨w.heap.size, 2, none⟩ = some (.slice a n c) ∧ W.cell? ⟨w.heap.size, 3, none⟩ = some (.slice a' m c')) := bx1
  clear hW1 g1 s1 bx1
  go_enter Try.func6, Try.ntmps6
  go_wp2_with fail
  rw [← HW1.out]
  refine (HEl.out _ G1.out).mono ?_
  rintro E w2 ⟨rfl, hg2⟩
  have G2 : Hid (W1.grownBy w2 none) := hg2
  obtain ⟨x0, x1, x2, x3⟩ := Bx.out _ hg2
  clear hg2
  go_wp2_with fail
  refine (HSm.out _ (grown_trans G1.out G2.out)).mono ?_
  rintro E w3 ⟨v, rfl, aL, cL, aN, cN, rs, M9, hv, hlo, hrn, hm9, hrl, ho, hg3⟩
  cases hv
  clear hlo hrn hm9 hrl ho
  generalize rs.length = nr at *
  generalize M9.length = nm at *
  obtain ⟨W4, hW4, g4, s4, bx4⟩ := box_new w3 (.int .i64 l) (.int .i64 0) (.slice aL nr cL) (.slice aN nm cN) 25
  have HW4 : Hid (W4 = _) := hW4
  have G4 : Hid (w.grownBy W4 none) := grown_trans G1.out (grown_trans G2.out (grown_trans hg3 g4))
  have y0 := (Bx.out W4 (grown_trans G2.out (grown_trans hg3 g4))).1
  rw [hW4] at y0
  clear hg3 hW4 g4 s4 bx4 x0 x1 x2 x3
  go_wp2_with fail
  rw [← HW4.out]
  refine (HMu.out _ G4.out).mono ?_
  rintro E w5 ⟨rfl, rfl⟩
  by_cases hu : yu = 0
  · subst hu
    obtain rfl : y = yv := by rcases hyy with h | h; exact absurd h hy; exact h.2
    rw [HW4.out]
    go_wp2_with fail
    rw [← HW4.out]
    refine (HMv.out _ G4.out).mono ?_
    rintro E w6 ⟨rfl, rfl⟩
    go_wp2_with fail
    go_ret
    exact ⟨rfl, G4.out⟩
  · obtain rfl : y = yu := by rcases hyy with h | h; exact h; exact absurd h.1 hu
    rw [HW4.out]
    go_wp2_with fail
    rw [← HW4.out]
    go_ret
    exact ⟨rfl, G4.out⟩

end Go.Proofs.Ytofjboelplknhaa

namespace Go.Proofs.Ytofjboelplknhaa
open Go.RowKit
set_option linter.unusedVariables false
set_option linter.unusedSimpArgs false

theorem natInts_inj {xs ys : List Nat} (h : natInts xs = natInts ys) : xs = ys := by
  have h2 := congrArg (List.map Int.toNat) h
  simpa [natInts, List.map_map, Function.comp_def] using h2

set_option maxHeartbeats 3200000 in
set_option maxRecDepth 100000 in
theorem malike_B (S : Int) (l : Nat) (R : List (List Int)) (M : List Int) (a a' b b' : Option Addr) (c c' d d' : Nat) (us vs : List Nat) (w : World) (δ : Nat → Nat → Nat) (mk : Nat → Bool) (nn s0 : Nat) (RL : List (List Int)) (ML : List Int) (hG : Good ⟨l, 0, RL, ML⟩) (h5 : RL.length ≤ 5) (hU : ∀ R M, LeastOf δ mk nn l s0 R M → R = RL ∧ M = ML)
    (hD : DetAt w ⟨l, S, R, M⟩ a a') (hG0 : Good ⟨l, S, R, M⟩)
    (hus : ∀ x, x ∈ us → x < l) (hvs : ∀ x, x ∈ vs → x < l) (hiu : Ints w b (natInts us)) (hiv : Ints w b' (natInts vs)) (hlu : us.length ≤ 100000000) (hlv : vs.length ≤ 100000000)
    (hlang : ∀ z : List Nat, (∀ x, x ∈ z → x < l) → Dfa.mk1 ⟨l, 0, RL, ML⟩ (z.foldl (Dfa.nx ⟨l, 0, RL, ML⟩) 0) = Dfa.mk1 ⟨l, S, R, M⟩ (z.foldl (Dfa.nx ⟨l, S, R, M⟩) S.toNat))
    (hap : ∀ p q zs is, p < RL.length → q < RL.length → p ≠ q → FirstOf (tellT (Dfa.nx ⟨l, 0, RL, ML⟩) (Dfa.mk1 ⟨l, 0, RL, ML⟩) p q) l zs is → tellT (Dfa.nx ⟨l, 0, RL, ML⟩) (Dfa.mk1 ⟨l, 0, RL, ML⟩) p q zs = true)
    (HEl : Hid (∀ W, w.grownBy W none → Calls Try.prog 25 #[detV l S a R.length c a' M.length c', .slice b us.length d, .slice b' vs.length d'] W (AlikePost (deed (Dfa.nx ⟨l, 0, RL, ML⟩) RL.length) (tellT (Dfa.nx ⟨l, 0, RL, ML⟩) (Dfa.mk1 ⟨l, 0, RL, ML⟩)) l (deed (Dfa.nx ⟨l, 0, RL, ML⟩) RL.length us) (deed (Dfa.nx ⟨l, 0, RL, ML⟩) RL.length vs) W)))
    (HSm : Hid (∀ W, w.grownBy W none → Calls Try.prog 23 #[detV l S a R.length c a' M.length c'] W (LeastGPost δ mk nn l s0 W)))
    (HMu : Hid (∀ W, w.grownBy W none → Calls Try.prog 26 #[.int .i64 l, .slice b us.length d] W fun e w' => e = .returned (.int .i64 0) ∧ w' = W))
    (HMv : Hid (∀ W, w.grownBy W none → Calls Try.prog 26 #[.int .i64 l, .slice b' vs.length d'] W fun e w' => e = .returned (.int .i64 0) ∧ w' = W)) :
    Calls Try.prog 6 #[detV l S a R.length c a' M.length c', .slice b us.length d, .slice b' vs.length d'] w (Says (.bool true) w) := by
  have hml : ML.length = RL.length := hG.ml
  have hδ : ∀ s a, s < RL.length → a < l → Dfa.nx ⟨l, 0, RL, ML⟩ s a < RL.length := fun s a hs ha => hG.nx_lt hs (by simp; exact ha)
  have hδ0 : ∀ s a, s < R.length → a < l → Dfa.nx ⟨l, S, R, M⟩ s a < R.length := fun s a hs ha => hG0.nx_lt hs (by simp; exact ha)
  have hl4 : l ≤ 4 := by have := hG.l4; simp only at this; omega
  have hs1 : 0 ≤ S ∧ S < (R.length : Int) := hG0.s
  obtain ⟨s1, hs⟩ : ∃ s1 : Nat, S = s1 := ⟨S.toNat, by omega⟩
  have HS : Hid (S = (s1 : Int)) := hs
  have hs1l : s1 < R.length := by omega
  have hS2 : S.toNat = s1 := by omega
  rw [hS2] at hlang
  have HU : Hid (∀ R M, LeastOf δ mk nn l s0 R M → R = RL ∧ M = ML) := hU
  have GD : Hid (Good ⟨l, 0, RL, ML⟩) := hG
  have G0 : Hid (Good ⟨l, S, R, M⟩) := hG0
  have fold_lt : ∀ (z : List Nat) (s : Nat), s < R.length → (∀ x, x ∈ z → x < l) → z.foldl (Dfa.nx ⟨l, S, R, M⟩) s < R.length := by
    intro z
    induction z with
    | nil => intro s hs _; exact hs
    | cons x z ih => intro s hs hz; exact ih _ (hδ0 s x hs (hz x (by simp))) (fun y hy => hz y (by simp [hy]))
  have HFl : Hid (∀ (z : List Nat) (s : Nat), s < R.length → (∀ x, x ∈ z → x < l) → z.foldl (Dfa.nx ⟨l, S, R, M⟩) s < R.length) := fold_lt
  have HDo : Hid (∀ W aL cL aN cN (xs : List Nat) aw cw, DetAt W ⟨l, 0, RL, ML⟩ aL aN → (∀ x, x ∈ xs → x < l) → Ints W aw (natInts xs) → xs.length ≤ 100000000 → Calls Try.prog 27 #[detV l 0 aL RL.length cL aN RL.length cN, .slice aw xs.length cw] W (DoesPost RL.length (deed (Dfa.nx ⟨l, 0, RL, ML⟩) RL.length xs) W)) := fun W aL cL aN cN xs aw cw h1 h2 h3 h4 => by
    have := doesR_any 0 l RL ML aL aN aw cL cN cw xs W h1 hG h5 h2 h3 h4
    rw [hml] at this
    exact this
  have HWd : Hid (∀ W az cz az' cz', Ints W az (natInts (doesL RL.length (deed (Dfa.nx ⟨l, 0, RL, ML⟩) RL.length us))) → Ints W az' (natInts (doesL RL.length (deed (Dfa.nx ⟨l, 0, RL, ML⟩) RL.length vs))) → Calls Try.prog 18 #[.slice az RL.length cz, .slice az' RL.length cz'] W (TellsB (deed (Dfa.nx ⟨l, 0, RL, ML⟩) RL.length us = deed (Dfa.nx ⟨l, 0, RL, ML⟩) RL.length vs) W)) := fun W az cz az' cz' h1 h2 => by
    have h3 := wordsR_any az az' cz cz' _ _ W h1 h2 (by rw [List.length_map, doesL_len]; unfold maxLen; omega) (by rw [List.length_map, doesL_len]; unfold maxLen; omega)
    rw [List.length_map, doesL_len, List.length_map, doesL_len] at h3
    refine h3.mono ?_
    rintro e w' ⟨bb, rfl, hb, hg⟩
    refine ⟨bb, rfl, hb.trans ?_, hg⟩
    unfold SameW
    constructor
    · intro e
      refine does_inj h5 hδ hus hvs ?_
      exact natInts_inj e
    · intro e; rw [e]
  have HAf : Hid (∀ W (xs : List Nat) aw cw q, w.grownBy W none → q < R.length → (∀ x, x ∈ xs → x < l) → Ints W aw (natInts xs) → xs.length ≤ 100000000 → Calls Try.prog 28 #[detV l S a R.length c a' M.length c', .int .i64 (q : Nat), .slice aw xs.length cw] W (Says (.int .i64 ((xs.foldl (Dfa.nx ⟨l, S, R, M⟩) q : Nat) : Int)) W)) := fun W xs aw cw q hW hq hx hi hl => afterR_any S l R M a a' aw c c' cw q xs W (hD.grown hW) hG0 hq hx hi hl
  have HX : Hid ((∀ x, x ∈ us → x < l) ∧ (∀ x, x ∈ vs → x < l) ∧ Ints w b (natInts us) ∧ Ints w b' (natInts vs) ∧ us.length ≤ 100000000 ∧ vs.length ≤ 100000000) := ⟨hus, hvs, hiu, hiv, hlu, hlv⟩
  have HMk : Hid (∀ W s, w.grownBy W none → s < R.length → ∃ bm om, a' = some ⟨bm, om, none⟩ ∧ W.cell? ⟨bm, om + s, none⟩ = some (.int .i64 (M.getD s 0))) := fun W s hW hs => by
    have hmn : M.length = R.length := hG0.ml
    obtain ⟨bm, om, ha, hc⟩ := (hD.grown hW).marks.at (k := s) (by simp only; omega)
    exact ⟨bm, om, ha, hc s (by simp only; omega)⟩
  have HFin : Hid (∀ (pre suf : List Nat) is, (∀ x, x ∈ pre → x < l) → dg (deed (Dfa.nx ⟨l, 0, RL, ML⟩) RL.length us) (dg (deed (Dfa.nx ⟨l, 0, RL, ML⟩) RL.length pre) 0) ≠ dg (deed (Dfa.nx ⟨l, 0, RL, ML⟩) RL.length vs) (dg (deed (Dfa.nx ⟨l, 0, RL, ML⟩) RL.length pre) 0) → FirstOf (tellT (Dfa.nx ⟨l, 0, RL, ML⟩) (Dfa.mk1 ⟨l, 0, RL, ML⟩) (dg (deed (Dfa.nx ⟨l, 0, RL, ML⟩) RL.length us) (dg (deed (Dfa.nx ⟨l, 0, RL, ML⟩) RL.length pre) 0)) (dg (deed (Dfa.nx ⟨l, 0, RL, ML⟩) RL.length vs) (dg (deed (Dfa.nx ⟨l, 0, RL, ML⟩) RL.length pre) 0))) l suf is → M.getD (suf.foldl (Dfa.nx ⟨l, S, R, M⟩) (us.foldl (Dfa.nx ⟨l, S, R, M⟩) (pre.foldl (Dfa.nx ⟨l, S, R, M⟩) s1))) 0 ≠ M.getD (suf.foldl (Dfa.nx ⟨l, S, R, M⟩) (vs.foldl (Dfa.nx ⟨l, S, R, M⟩) (pre.foldl (Dfa.nx ⟨l, S, R, M⟩) s1))) 0) := fun pre suf is hp hne hf => by
    have n1 : 1 ≤ RL.length := hG.n1
    have fp := (deed_facts h5 hδ pre hp).2.1 0 (by omega)
    have fu := (deed_facts h5 hδ us hus).2.1 _ fp.2
    have fv := (deed_facts h5 hδ vs hvs).2.1 _ fp.2
    rw [fp.1, fu.1, fv.1] at hne hf
    have ht := hap _ _ suf is fu.2 fv.2 hne hf
    have key : ∀ z : List Nat, (∀ x, x ∈ z → x < l) → Dfa.mk1 ⟨l, 0, RL, ML⟩ (suf.foldl (Dfa.nx ⟨l, 0, RL, ML⟩) (z.foldl (Dfa.nx ⟨l, 0, RL, ML⟩) (pre.foldl (Dfa.nx ⟨l, 0, RL, ML⟩) 0))) = Dfa.mk1 ⟨l, S, R, M⟩ (suf.foldl (Dfa.nx ⟨l, S, R, M⟩) (z.foldl (Dfa.nx ⟨l, S, R, M⟩) (pre.foldl (Dfa.nx ⟨l, S, R, M⟩) s1))) := fun z hz => by
      have := hlang (pre ++ z ++ suf) (fun x hx => by
        rcases List.mem_append.1 hx with h | h
        · rcases List.mem_append.1 h with h | h
          · exact hp x h
          · exact hz x h
        · exact hf.1 x h)
      simpa only [List.foldl_append] using this
    unfold tellT at ht
    rw [key us hus, key vs hvs] at ht
    intro e
    unfold Dfa.mk1 at ht
    simp only at ht
    rw [e] at ht
    simp at ht
  obtain ⟨W1, hW1, g1, sz1, bx1⟩ := box_new w (.int .i64 l) (.int .i64 S) (.slice a R.length c) (.slice a' M.length c') 25
  have HW1 : Hid (W1 = _) := hW1
  have G1 : Hid (w.grownBy W1 none) := g1
  have Bx : Hid (∀ W, W1.grownBy W none → W.cell? ⟨w.heap.size, 0, none⟩ = some (.int .i64 l) ∧ W.cell? ⟨w.heap.size, 1, none⟩ = some (.int .i64 S) ∧ W.cell? ⟨w.heap.size, 2, none⟩ = some (.slice a R.length c) ∧ W.cell? ⟨w.heap.size, 3, none⟩ = some (.slice a' M.length c')) := bx1
  have hn1 : 1 ≤ RL.length := GD.out.n1
  clear hU hG hG0 hD hus hvs hiu hiv hlu hlv hlang hap hml hδ hδ0 fold_lt hS2 hs hW1 g1 sz1 bx1 hs1
  go_enter Try.func6, Try.ntmps6
  go_wp2_with fail
  rw [← HW1.out]
  refine (HEl.out _ G1.out).mono ?_
  rintro E w2 ⟨hg2, (⟨heq, rfl⟩ | ⟨hne, pre, suf, is, az, ab, cz, cb, hpl, hpd, hf, hn1', hn2', rfl, hi1, hi2⟩)⟩
  · -- alike
    have G2 : Hid (W1.grownBy w2 none) := hg2
    obtain ⟨x0, x1, x2, x3⟩ := Bx.out _ hg2
    clear hg2
    go_wp2_with fail
    refine (HSm.out _ (grown_trans G1.out G2.out)).mono ?_
    rintro E w3 ⟨v, rfl, aL, cL, aN, cN, rs, M9, hv, hlo, hrn, hm9, hrl, ho, hg3⟩
    cases hv
    obtain ⟨e1, e2⟩ := HU.out _ _ hlo
    have er : rs.length = RL.length := by rw [← e1, List.length_map]
    have em : M9.length = RL.length := by rw [e2]; exact GD.out.ml
    have D3 : DetAt w3 ⟨l, 0, RL, ML⟩ aL aN := by
      have h3 := det_of_owns (L := (l : Int)) (S := 0) (its := []) (by rw [List.append_nil]; exact ho) (fun x hx => by rw [hrl x hx]; unfold maxLen; omega) (by rw [er]; unfold maxLen; omega) (by rw [em]; unfold maxLen; omega)
      rw [e1, e2] at h3
      exact h3
    rw [er, em]
    obtain ⟨W4, hW4, g4, s4, bx4⟩ := box_new w3 (.int .i64 l) (.int .i64 0) (.slice aL RL.length cL) (.slice aN RL.length cN) 25
    have HW4 : Hid (W4 = _) := hW4
    have D4 : Hid (DetAt W4 ⟨l, 0, RL, ML⟩ aL aN) := D3.grown g4
    have G24 : Hid (w2.grownBy W4 none) := grown_trans hg3 g4
    have G4 : Hid (W1.grownBy W4 none) := grown_trans G2.out (grown_trans hg3 g4)
    have BX4 : Hid (∀ W', W4.grownBy W' none → W'.cell? ⟨w3.heap.size, 0, none⟩ = some (.int .i64 l) ∧ W'.cell? ⟨w3.heap.size, 1, none⟩ = some (.int .i64 0) ∧ W'.cell? ⟨w3.heap.size, 2, none⟩ = some (.slice aL RL.length cL) ∧ W'.cell? ⟨w3.heap.size, 3, none⟩ = some (.slice aN RL.length cN)) := bx4
    have y0 := (Bx.out W4 G4.out).1
    rw [hW4] at y0
    clear hlo hrn hm9 hrl ho hg3 e1 e2 er em D3 hW4 g4 s4 bx4 x0 x1 x2 x3 HSm HEl
    go_wp2_with fail
    rw [← HW4.out]
    refine (HMu.out _ (grown_trans G1.out G4.out)).mono ?_
    rintro E w5 ⟨rfl, hw5⟩
    obtain rfl : W4 = w5 := hw5.symm
    rw [HW4.out]
    go_wp2_with fail
    rw [← HW4.out]
    refine (HMv.out _ (grown_trans G1.out G4.out)).mono ?_
    rintro E w6 ⟨rfl, hw6⟩
    obtain rfl : W4 = w6 := hw6.symm
    rw [HW4.out]
    go_wp2_with fail
    rw [← HW4.out]
    refine (HDo.out W4 aL cL aN cN us b d D4.out HX.out.1 (HX.out.2.2.1.grown (grown_trans G1.out G4.out)) HX.out.2.2.2.2.1).mono ?_
    rintro E w7 ⟨g, cg, rfl, ho7, hg7⟩
    have O7 : Hid (Ints w7 (some ⟨g, 0, none⟩) (natInts (doesL RL.length (deed (Dfa.nx ⟨l, 0, RL, ML⟩) RL.length us)))) := ho7.ints.2
    have G47 : Hid (W4.grownBy w7 none) := hg7
    obtain ⟨x0, x1, x2, x3⟩ := BX4.out w7 hg7
    clear y0 ho7 hg7
    go_wp2_with fail
    refine (HDo.out w7 aL cL aN cN vs b' d' (D4.out.grown G47.out) HX.out.2.1 (HX.out.2.2.2.1.grown (grown_trans G1.out (grown_trans G4.out G47.out))) HX.out.2.2.2.2.2).mono ?_
    rintro E w8 ⟨g', cg', rfl, ho8, hg8⟩
    have O8 : Hid (Ints w8 (some ⟨g', 0, none⟩) (natInts (doesL RL.length (deed (Dfa.nx ⟨l, 0, RL, ML⟩) RL.length vs)))) := ho8.ints.2
    have G78 : Hid (w7.grownBy w8 none) := hg8
    clear x0 x1 x2 x3 ho8 hg8
    go_wp2_with fail
    refine (HWd.out w8 _ cg _ cg' (O7.out.grown G78.out) O8.out).mono ?_
    rintro E w9 ⟨bb, rfl, hb, hg9⟩
    have G9 : Hid (W1.grownBy w9 none) := grown_trans G4.out (grown_trans G47.out (grown_trans G78.out hg9))
    have G29 : Hid (w2.grownBy w9 none) := grown_trans G24.out (grown_trans G47.out (grown_trans G78.out hg9))
    clear hg9
    obtain rfl : bb = true := hb.2 heq
    clear hb
    go_wp2_with fail
    go_ret
    exact ⟨rfl, grown_trans G1.out G9.out⟩
  · -- not alike
    have HP : Hid ((∀ x, x ∈ pre → x < l) ∧ dg (deed (Dfa.nx ⟨l, 0, RL, ML⟩) RL.length us) (dg (deed (Dfa.nx ⟨l, 0, RL, ML⟩) RL.length pre) 0) ≠ dg (deed (Dfa.nx ⟨l, 0, RL, ML⟩) RL.length vs) (dg (deed (Dfa.nx ⟨l, 0, RL, ML⟩) RL.length pre) 0) ∧ FirstOf (tellT (Dfa.nx ⟨l, 0, RL, ML⟩) (Dfa.mk1 ⟨l, 0, RL, ML⟩) (dg (deed (Dfa.nx ⟨l, 0, RL, ML⟩) RL.length us) (dg (deed (Dfa.nx ⟨l, 0, RL, ML⟩) RL.length pre) 0)) (dg (deed (Dfa.nx ⟨l, 0, RL, ML⟩) RL.length vs) (dg (deed (Dfa.nx ⟨l, 0, RL, ML⟩) RL.length pre) 0))) l suf is ∧ pre.length ≤ 100000000 ∧ suf.length ≤ 100000000 ∧ Ints w2 az (natInts pre) ∧ Ints w2 ab (natInts suf)) := ⟨hpl, hpd, hf, hn1', hn2', hi1, hi2⟩
    clear hpl hpd hf hi1 hi2
    have G2 : Hid (W1.grownBy w2 none) := hg2
    obtain ⟨x0, x1, x2, x3⟩ := Bx.out _ hg2
    clear hg2
    go_wp2_with fail
    refine (HSm.out _ (grown_trans G1.out G2.out)).mono ?_
    rintro E w3 ⟨v, rfl, aL, cL, aN, cN, rs, M9, hv, hlo, hrn, hm9, hrl, ho, hg3⟩
    cases hv
    obtain ⟨e1, e2⟩ := HU.out _ _ hlo
    have er : rs.length = RL.length := by rw [← e1, List.length_map]
    have em : M9.length = RL.length := by rw [e2]; exact GD.out.ml
    have D3 : DetAt w3 ⟨l, 0, RL, ML⟩ aL aN := by
      have h3 := det_of_owns (L := (l : Int)) (S := 0) (its := []) (by rw [List.append_nil]; exact ho) (fun x hx => by rw [hrl x hx]; unfold maxLen; omega) (by rw [er]; unfold maxLen; omega) (by rw [em]; unfold maxLen; omega)
      rw [e1, e2] at h3
      exact h3
    rw [er, em]
    obtain ⟨W4, hW4, g4, s4, bx4⟩ := box_new w3 (.int .i64 l) (.int .i64 0) (.slice aL RL.length cL) (.slice aN RL.length cN) 25
    have HW4 : Hid (W4 = _) := hW4
    have D4 : Hid (DetAt W4 ⟨l, 0, RL, ML⟩ aL aN) := D3.grown g4
    have G24 : Hid (w2.grownBy W4 none) := grown_trans hg3 g4
    have G4 : Hid (W1.grownBy W4 none) := grown_trans G2.out (grown_trans hg3 g4)
    have BX4 : Hid (∀ W', W4.grownBy W' none → W'.cell? ⟨w3.heap.size, 0, none⟩ = some (.int .i64 l) ∧ W'.cell? ⟨w3.heap.size, 1, none⟩ = some (.int .i64 0) ∧ W'.cell? ⟨w3.heap.size, 2, none⟩ = some (.slice aL RL.length cL) ∧ W'.cell? ⟨w3.heap.size, 3, none⟩ = some (.slice aN RL.length cN)) := bx4
    have y0 := (Bx.out W4 G4.out).1
    rw [hW4] at y0
    clear hlo hrn hm9 hrl ho hg3 e1 e2 er em D3 hW4 g4 s4 bx4 x0 x1 x2 x3 HSm HEl
    go_wp2_with fail
    rw [← HW4.out]
    refine (HMu.out _ (grown_trans G1.out G4.out)).mono ?_
    rintro E w5 ⟨rfl, hw5⟩
    obtain rfl : W4 = w5 := hw5.symm
    rw [HW4.out]
    go_wp2_with fail
    rw [← HW4.out]
    refine (HMv.out _ (grown_trans G1.out G4.out)).mono ?_
    rintro E w6 ⟨rfl, hw6⟩
    obtain rfl : W4 = w6 := hw6.symm
    rw [HW4.out]
    go_wp2_with fail
    rw [← HW4.out]
    refine (HDo.out W4 aL cL aN cN us b d D4.out HX.out.1 (HX.out.2.2.1.grown (grown_trans G1.out G4.out)) HX.out.2.2.2.2.1).mono ?_
    rintro E w7 ⟨g, cg, rfl, ho7, hg7⟩
    have O7 : Hid (Ints w7 (some ⟨g, 0, none⟩) (natInts (doesL RL.length (deed (Dfa.nx ⟨l, 0, RL, ML⟩) RL.length us)))) := ho7.ints.2
    have G47 : Hid (W4.grownBy w7 none) := hg7
    obtain ⟨x0, x1, x2, x3⟩ := BX4.out w7 hg7
    clear y0 ho7 hg7
    go_wp2_with fail
    refine (HDo.out w7 aL cL aN cN vs b' d' (D4.out.grown G47.out) HX.out.2.1 (HX.out.2.2.2.1.grown (grown_trans G1.out (grown_trans G4.out G47.out))) HX.out.2.2.2.2.2).mono ?_
    rintro E w8 ⟨g', cg', rfl, ho8, hg8⟩
    have O8 : Hid (Ints w8 (some ⟨g', 0, none⟩) (natInts (doesL RL.length (deed (Dfa.nx ⟨l, 0, RL, ML⟩) RL.length vs)))) := ho8.ints.2
    have G78 : Hid (w7.grownBy w8 none) := hg8
    clear x0 x1 x2 x3 ho8 hg8
    go_wp2_with fail
    refine (HWd.out w8 _ cg _ cg' (O7.out.grown G78.out) O8.out).mono ?_
    rintro E w9 ⟨bb, rfl, hb, hg9⟩
    have G9 : Hid (W1.grownBy w9 none) := grown_trans G4.out (grown_trans G47.out (grown_trans G78.out hg9))
    have G29 : Hid (w2.grownBy w9 none) := grown_trans G24.out (grown_trans G47.out (grown_trans G78.out hg9))
    clear hg9
    have hbf : bb = false := by cases bb with | false => rfl | true => exact absurd (hb.1 rfl) hne
    subst hbf
    clear hb
    have HC1 : Hid (∀ W i, w2.grownBy W none → i < pre.length → ∃ bw ow, az = some ⟨bw, ow, none⟩ ∧ W.cell? ⟨bw, ow + i, none⟩ = some (.int .i64 ((pre.getD i 0 : Nat) : Int)) ∧ pre.getD i 0 < l) := fun W i hW hi' => by
      obtain ⟨bw, ow, ha, hcw⟩ := (HP.out.2.2.2.2.2.1.grown hW).at (k := i) (by rw [List.length_map]; exact hi')
      have c1 := hcw i (by rw [List.length_map]; exact hi')
      have e1 : (natInts pre).getD i 0 = ((pre.getD i 0 : Nat) : Int) := by simp [natInts, List.getD, hi']
      rw [e1] at c1
      exact ⟨bw, ow, ha, c1, HP.out.1 _ (by simp [List.getD, hi'])⟩
    have HC2 : Hid (∀ W i, w2.grownBy W none → i < suf.length → ∃ bw ow, ab = some ⟨bw, ow, none⟩ ∧ W.cell? ⟨bw, ow + i, none⟩ = some (.int .i64 ((suf.getD i 0 : Nat) : Int)) ∧ suf.getD i 0 < l) := fun W i hW hi' => by
      obtain ⟨bw, ow, ha, hcw⟩ := (HP.out.2.2.2.2.2.2.grown hW).at (k := i) (by rw [List.length_map]; exact hi')
      have c1 := hcw i (by rw [List.length_map]; exact hi')
      have e1 : (natInts suf).getD i 0 = ((suf.getD i 0 : Nat) : Int) := by simp [natInts, List.getD, hi']
      rw [e1] at c1
      exact ⟨bw, ow, ha, c1, HP.out.2.2.1.1 _ (by simp [List.getD, hi'])⟩
    have hwr : IntKind.i64.wrap ((pre.length : Int) + (suf.length : Int)) = (pre.length : Int) + (suf.length : Int) := by rw [IntKind.wrap_i64]; omega
    obtain ⟨np, hnp⟩ : ∃ np, pre.length = np := ⟨_, rfl⟩
    obtain ⟨ns, hns⟩ : ∃ ns, suf.length = ns := ⟨_, rfl⟩
    have HNp : Hid (pre.length = np) := hnp
    have HNs : Hid (suf.length = ns) := hns
    rw [hnp, hns] at hwr
    rw [hnp] at HC1 hn1'
    rw [hns] at HC2 hn2'
    rw [hnp, hns]
    clear hnp hns
    go_wp2_with fail
    go_loopw [16] (fun v wr => ∃ i : Nat, v = .int .i64 i ∧ i ≤ np + ns ∧ w9.grownBy wr none) (fun v _ => np + ns - (intOf v).toNat)
    case atStart => exact ⟨0, rfl, by omega, grown_refl _ _⟩
    case round =>
      obtain ⟨i, rfl, hi, hg⟩ := hrel
      have GR : Hid (w9.grownBy wr none) := hg
      obtain ⟨x0, x1, x2, x3⟩ := Bx.out wr (grown_trans G9.out hg)
      have g2r := grown_trans G29.out hg
      by_cases hlt : i < np
      · have hii : (i : Int) < (np : Int) + (ns : Int) := by omega
        have hii2 : (i : Int) < (np : Int) := by omega
        obtain ⟨bw, ow, rfl, c1, cl⟩ := HC1.out wr i g2r hlt
        clear hg g2r
        generalize pre.getD i 0 = k at *
        have k1 : ¬ (k : Int) < 0 := by omega
        have k2 : ¬ (l : Int) ≤ (k : Int) := by omega
        have k3 : (k : Int) < (l : Int) := by omega
        go_wp2_with fail
        go_roundw
        case rel => exact ⟨i + 1, by go_num, by omega, GR.out⟩
        case measure => simp [intOf]; omega
      · by_cases hlt2 : i < np + ns
        · obtain ⟨j, rfl⟩ : ∃ j, i = np + j := ⟨i - np, by omega⟩
          have hii : ((np + j : Nat) : Int) < (np : Int) + (ns : Int) := by omega
          have hii2 : ¬ ((np + j : Nat) : Int) < (np : Int) := by omega
          have hii3 : (np : Int) ≤ ((np + j : Nat) : Int) := by omega
          have hwj : IntKind.i64.wrap (((np + j : Nat) : Int) - (np : Int)) = (j : Int) := by rw [show ((np + j : Nat) : Int) - (np : Int) = (j : Int) by omega, IntKind.wrap_i64]; omega
          have hjn : (j : Int) < (ns : Int) := by omega
          have hj0 : (0 : Int) ≤ (j : Int) := by omega
          obtain ⟨bw, ow, rfl, c1, cl⟩ := HC2.out wr j g2r (by omega)
          clear hg g2r
          generalize suf.getD j 0 = k at *
          have k1 : ¬ (k : Int) < 0 := by omega
          have k2 : ¬ (l : Int) ≤ (k : Int) := by omega
          have k3 : (k : Int) < (l : Int) := by omega
          generalize hij : np + j = ij at *
          go_wp2_with fail
          go_roundw
          case rel => exact ⟨ij + 1, by go_num, by omega, GR.out⟩
          case measure => simp [intOf]; omega
        · have hie : i = np + ns := by omega
          have hii : ¬ (i : Int) < (np : Int) + (ns : Int) := by omega
          clear hg g2r
          have GG : Hid (∀ W, wr.grownBy W none → w.grownBy W none ∧ w2.grownBy W none ∧ W1.grownBy W none) := fun W hW => ⟨grown_trans G1.out (grown_trans G9.out (grown_trans GR.out hW)), grown_trans G29.out (grown_trans GR.out hW), grown_trans G9.out (grown_trans GR.out hW)⟩
          have hp1 := HFl.out pre s1 hs1l HP.out.1
          have hx1 := HFl.out us _ hp1 HX.out.1
          have hy1 := HFl.out vs _ hp1 HX.out.2.1
          have hx2 := HFl.out suf _ hx1 HP.out.2.2.1.1
          have hy2 := HFl.out suf _ hy1 HP.out.2.2.1.1
          have hfin := HFin.out pre suf is HP.out.1 HP.out.2.1 HP.out.2.2.1
          have H1 : Hid (∀ W, wr.grownBy W none → Calls Try.prog 28 #[detV l S a R.length c a' M.length c', .int .i64 S, .slice az np cz] W (Says (.int .i64 ((pre.foldl (Dfa.nx ⟨l, S, R, M⟩) s1 : Nat) : Int)) W)) := fun W hW => by
            have h1 := HAf.out W pre az cz s1 (GG.out W hW).1 hs1l HP.out.1 (HP.out.2.2.2.2.2.1.grown (GG.out W hW).2.1) HP.out.2.2.2.1
            rw [HNp.out, ← HS.out] at h1
            exact h1
          have H2 : Hid (∀ W, wr.grownBy W none → Calls Try.prog 28 #[detV l S a R.length c a' M.length c', .int .i64 ((pre.foldl (Dfa.nx ⟨l, S, R, M⟩) s1 : Nat) : Int), .slice b us.length d] W (Says (.int .i64 ((us.foldl (Dfa.nx ⟨l, S, R, M⟩) (pre.foldl (Dfa.nx ⟨l, S, R, M⟩) s1) : Nat) : Int)) W)) := fun W hW => HAf.out W us b d _ (GG.out W hW).1 hp1 HX.out.1 (HX.out.2.2.1.grown (GG.out W hW).1) HX.out.2.2.2.2.1
          have H3 : Hid (∀ W, wr.grownBy W none → Calls Try.prog 28 #[detV l S a R.length c a' M.length c', .int .i64 ((pre.foldl (Dfa.nx ⟨l, S, R, M⟩) s1 : Nat) : Int), .slice b' vs.length d'] W (Says (.int .i64 ((vs.foldl (Dfa.nx ⟨l, S, R, M⟩) (pre.foldl (Dfa.nx ⟨l, S, R, M⟩) s1) : Nat) : Int)) W)) := fun W hW => HAf.out W vs b' d' _ (GG.out W hW).1 hp1 HX.out.2.1 (HX.out.2.2.2.1.grown (GG.out W hW).1) HX.out.2.2.2.2.2
          have H4 : Hid (∀ W, wr.grownBy W none → Calls Try.prog 28 #[detV l S a R.length c a' M.length c', .int .i64 ((us.foldl (Dfa.nx ⟨l, S, R, M⟩) (pre.foldl (Dfa.nx ⟨l, S, R, M⟩) s1) : Nat) : Int), .slice ab ns cb] W (Says (.int .i64 ((suf.foldl (Dfa.nx ⟨l, S, R, M⟩) (us.foldl (Dfa.nx ⟨l, S, R, M⟩) (pre.foldl (Dfa.nx ⟨l, S, R, M⟩) s1)) : Nat) : Int)) W)) := fun W hW => by
            have h1 := HAf.out W suf ab cb _ (GG.out W hW).1 hx1 HP.out.2.2.1.1 (HP.out.2.2.2.2.2.2.grown (GG.out W hW).2.1) HP.out.2.2.2.2.1
            rw [HNs.out] at h1
            exact h1
          have H5 : Hid (∀ W, wr.grownBy W none → Calls Try.prog 28 #[detV l S a R.length c a' M.length c', .int .i64 ((vs.foldl (Dfa.nx ⟨l, S, R, M⟩) (pre.foldl (Dfa.nx ⟨l, S, R, M⟩) s1) : Nat) : Int), .slice ab ns cb] W (Says (.int .i64 ((suf.foldl (Dfa.nx ⟨l, S, R, M⟩) (vs.foldl (Dfa.nx ⟨l, S, R, M⟩) (pre.foldl (Dfa.nx ⟨l, S, R, M⟩) s1)) : Nat) : Int)) W)) := fun W hW => by
            have h1 := HAf.out W suf ab cb _ (GG.out W hW).1 hy1 HP.out.2.2.1.1 (HP.out.2.2.2.2.2.2.grown (GG.out W hW).2.1) HP.out.2.2.2.2.1
            rw [HNs.out] at h1
            exact h1
          generalize suf.foldl (Dfa.nx ⟨l, S, R, M⟩) (us.foldl (Dfa.nx ⟨l, S, R, M⟩) (pre.foldl (Dfa.nx ⟨l, S, R, M⟩) s1)) = e5 at *
          generalize suf.foldl (Dfa.nx ⟨l, S, R, M⟩) (vs.foldl (Dfa.nx ⟨l, S, R, M⟩) (pre.foldl (Dfa.nx ⟨l, S, R, M⟩) s1)) = e4 at *
          generalize us.foldl (Dfa.nx ⟨l, S, R, M⟩) (pre.foldl (Dfa.nx ⟨l, S, R, M⟩) s1) = e3 at *
          generalize vs.foldl (Dfa.nx ⟨l, S, R, M⟩) (pre.foldl (Dfa.nx ⟨l, S, R, M⟩) s1) = e2 at *
          generalize pre.foldl (Dfa.nx ⟨l, S, R, M⟩) s1 = e1 at *
          clear hp1 hx1 hy1
          go_wp2_with fail
          refine (H1.out _ (grown_refl _ _)).mono ?_
          rintro E v1 ⟨rfl, hv1⟩
          obtain ⟨x0, x1, x2, x3⟩ := Bx.out v1 (GG.out v1 hv1).2.2
          have V1 : Hid (wr.grownBy v1 none) := hv1
          clear hv1
          go_wp2_with fail
          refine (H2.out _ V1.out).mono ?_
          rintro E v2 ⟨rfl, hv2⟩
          have V2 : Hid (wr.grownBy v2 none) := grown_trans V1.out hv2
          obtain ⟨x0, x1, x2, x3⟩ := Bx.out v2 (GG.out v2 V2.out).2.2
          clear hv2
          go_wp2_with fail
          refine (H3.out _ V2.out).mono ?_
          rintro E v3 ⟨rfl, hv3⟩
          have V3 : Hid (wr.grownBy v3 none) := grown_trans V2.out hv3
          obtain ⟨x0, x1, x2, x3⟩ := Bx.out v3 (GG.out v3 V3.out).2.2
          clear hv3
          go_wp2_with fail
          refine (H4.out _ V3.out).mono ?_
          rintro E v4 ⟨rfl, hv4⟩
          have V4 : Hid (wr.grownBy v4 none) := grown_trans V3.out hv4
          obtain ⟨x0, x1, x2, x3⟩ := Bx.out v4 (GG.out v4 V4.out).2.2
          clear hv4
          go_wp2_with fail
          refine (H5.out _ V4.out).mono ?_
          rintro E v5 ⟨rfl, hv5⟩
          have V5 : Hid (wr.grownBy v5 none) := grown_trans V4.out hv5
          obtain ⟨x0, x1, x2, x3⟩ := Bx.out v5 (GG.out v5 V5.out).2.2
          have GF : Hid (w.grownBy v5 none) := (GG.out v5 V5.out).1
          obtain ⟨bm, om, rfl, c1⟩ := HMk.out v5 e5 GF.out hx2
          obtain ⟨bm', om', hbm, c2⟩ := HMk.out v5 e4 GF.out hy2
          cases hbm
          have hxi : (e5 : Int) < (M.length : Int) := by have h : M.length = R.length := G0.out.ml; omega
          have hyi : (e4 : Int) < (M.length : Int) := by have h : M.length = R.length := G0.out.ml; omega
          clear hv5
          generalize M.getD e5 0 = m5 at *
          generalize M.getD e4 0 = m4 at *
          have hmm : (m5 != m4) = true := by simpa using hfin
          go_wp2_with fail
          go_quiet (fail)
          all_goals
            go_wp2_with fail
            go_ret
            exact ⟨rfl, grown_drewN GF.out _⟩

end Go.Proofs.Ytofjboelplknhaa
