/- One table beside another: the program's tableBeside. -/
import Derived.Test.YtkmcbdjcolbknaaWeTab
namespace Go.Proofs.Ytkmcbdjcolbknaa
open Go.RowKit
set_option linter.unusedVariables false
set_option linter.unusedSimpArgs false

theorem zeros_at (w : World) (n : Nat) {W : World} (hW : W = w.alloc (.cells (Array.replicate n (Value.int .i64 0)) 3)) : Ints W (some ⟨w.heap.size, 0, none⟩) (List.replicate n 0) := by
  have hb := heap_alloc_new w (.cells (Array.replicate n (Value.int .i64 0)) 3)
  rw [← hW] at hb
  have h : RowN W w.heap.size (List.replicate n 0) := by
    unfold RowN
    rw [hb]
    simp
  exact h.ints
theorem cells_two (w : World) (u v : Value) (t : TypeId) : (w.alloc (.cells #[u, v] t)).cell? ⟨w.heap.size, 0, none⟩ = some u ∧ (w.alloc (.cells #[u, v] t)).cell? ⟨w.heap.size, 1, none⟩ = some v := by
  have hb := heap_alloc_new w (.cells #[u, v] t)
  exact ⟨by rw [cell_of_row _ _ _ _ _ (0, 0) hb]; rfl, by rw [cell_of_row _ _ _ _ _ (0, 0) hb]; rfl⟩
theorem take_snocR {α : Type} {l : List (List α)} {k : Nat} (hk : k < l.length) : l.take (k + 1) = l.take k ++ [l.getD k []] := by
  rw [List.take_add_one, List.getElem?_eq_getElem hk, List.getD_eq_getElem?_getD, List.getElem?_eq_getElem hk]
  rfl
theorem besT_snoc1 {S : List (List Int)} {m i : Nat} (hi : i < S.length) : ((S.take (i + 1)).map fun r => r ++ List.replicate m (0 : Int)) = ((S.take i).map fun r => r ++ List.replicate m (0 : Int)) ++ [S.getD i [] ++ List.replicate m 0] := by rw [take_snocR hi, List.map_append]; rfl
theorem besT_snoc2 {T : List (List Int)} {n j : Nat} (hj : j < T.length) : ((T.take (j + 1)).map fun r => List.replicate n (0 : Int) ++ r) = ((T.take j).map fun r => List.replicate n (0 : Int) ++ r) ++ [List.replicate n 0 ++ T.getD j []] := by rw [take_snocR hj, List.map_append]; rfl

attribute [local go_sem ↓] appY_fold in
set_option maxHeartbeats 1600000 in
set_option maxRecDepth 100000 in
theorem tableBeside_any (S T : List (List Int)) (a1 a2 : Option Addr) (n m c1 c2 : Nat) (w : World) (h1 : RowsAt w a1 S) (h2 : RowsAt w a2 T) (e1 : S.length = n) (e2 : T.length = m) (hn : n ≤ 30) (hm : m ≤ 30) (b1 : ∀ r, r ∈ S → r.length ≤ 30) (b2 : ∀ r, r ∈ T → r.length ≤ 30) :
    Calls Try.prog 22 #[.slice a1 n c1, .slice a2 m c2] w (TabP (besT S T) w) := by
  have HS : Hid (RowsAt w a1 S) := h1
  have HT : Hid (RowsAt w a2 T) := h2
  have HL : Hid (S.length = n ∧ T.length = m ∧ (∀ r, r ∈ S → r.length ≤ 30) ∧ ∀ r, r ∈ T → r.length ≤ 30) := ⟨e1, e2, b1, b2⟩
  obtain ⟨Po, hPo⟩ : ∃ P, P = TabP (besT S T) w := ⟨_, rfl⟩
  have HPo : Hid (Po = TabP (besT S T) w) := hPo
  rw [← hPo]
  clear h1 h2 e1 e2 b1 b2 hPo
  go_enter Try.func22, Try.ntmps22
  go_wp2_with fail
  go_loopw [12, 5] (fun p q W => ∃ (i : Nat) (a : Option Addr) (c : Nat) (ps : List Wrd), p = .int .i64 i ∧ q = .slice a i c ∧ i ≤ n ∧ RowsO w.heap.size W.heap.size W a c ps ∧ w.grownBy W none ∧ ps.length = i ∧ wdL ps = (S.take i).map fun r => r ++ List.replicate m 0) (fun p _ _ => n - (intOf p).toNat)
  case atStart => exact ⟨0, none, 0, [], rfl, rfl, Nat.zero_le _, RowsO.nil, grown_refl _ _, rfl, rfl⟩
  case round =>
    obtain ⟨wi, hwi⟩ : ∃ W, W = wr := ⟨_, rfl⟩
    subst hwi
    obtain ⟨i, a, c, ps, rfl, rfl, hi, ho, hg, hl, hw⟩ := hrel
    by_cases hlt : i < n
    · have HO : Hid (RowsO w.heap.size wi.heap.size wi a c ps ∧ w.grownBy wi none ∧ ps.length = i ∧ wdL ps = ((S.take i).map fun r => r ++ List.replicate m 0) ∧ i ≤ 900) := ⟨ho, hg, hl, hw, by omega⟩
      clear ho hg hl hw
      obtain ⟨b4, o4, rfl, hc4⟩ := (HS.out.grown HO.out.2.1).at (k := i) (by rw [HL.out.1]; exact hlt)
      obtain ⟨r5, k5, q5, hr5, hm5⟩ := hc4 i (by rw [HL.out.1]; exact hlt)
      obtain ⟨T0, hT0⟩ : ∃ R, S.getD i [] = R := ⟨_, rfl⟩
      rw [hT0] at q5 hr5
      have hl0 : T0.length ≤ 30 := by rw [← hT0]; exact HL.out.2.2.1 _ (mem_getD (by rw [HL.out.1]; exact hlt))
      have HLe : Hid (T0.length ≤ 30) := hl0
      have HT0 : Hid (S.getD i [] = T0) := hT0
      obtain ⟨W8, hW8⟩ : ∃ W, W = wi.alloc (.cells (Array.replicate m (Value.int .i64 0)) 3) := ⟨_, rfl⟩
      have s8 : W8.heap.size = wi.heap.size + 1 := by rw [hW8]; simp
      have g8 : wi.grownBy W8 none := by rw [hW8]; exact grown_alloc _ _
      obtain ⟨W9, hW9⟩ : ∃ W, W = W8.alloc (.cells #[.slice r5 (T0.length) k5, .slice (some ⟨wi.heap.size, 0, none⟩) m m] 22) := ⟨_, rfl⟩
      have g9 : W8.grownBy W9 none := by rw [hW9]; exact grown_alloc _ _
      have HW9 : Hid (W9 = (wi.alloc (.cells (Array.replicate m (Value.int .i64 0)) 3)).alloc (.cells #[.slice r5 (T0.length) k5, .slice (some ⟨wi.heap.size, 0, none⟩) m m] 22)) := by show _ = _; rw [hW9, hW8]
      have hz8 : Ints W8 (some ⟨wi.heap.size, 0, none⟩) (List.replicate m 0) := zeros_at wi m hW8
      have hz9 := hz8.grown g9
      have hr9 : Ints W9 r5 T0 := hr5.grown (grown_trans g8 g9)
      have c9 := cells_two W8 (.slice r5 T0.length k5) (.slice (some ⟨wi.heap.size, 0, none⟩) m m) 22
      rw [← hW9, s8] at c9
      have HC0 := catX_any T0 (List.replicate m 0) r5 (some ⟨wi.heap.size, 0, none⟩) k5 m (wi.heap.size + 1) W9 hr9 hz9 (by omega) (by rw [List.length_replicate]; omega) c9.1 (by rw [List.length_replicate]; exact c9.2)
      obtain ⟨Wd, hWd⟩ : ∃ l, (T0 ++ List.replicate m 0) = l := ⟨_, rfl⟩
      have HWd : Hid ((T0 ++ List.replicate m 0) = Wd) := hWd
      have HWl : Hid (Wd.length ≤ 1000) := by show _ ≤ _; rw [← hWd]; simp; omega
      have HC : Hid (Calls Try.prog 21 #[.slice (some ⟨wi.heap.size + 1, 0, none⟩) 2 2] W9 (CatX Wd W9)) := hWd ▸ HC0
      have G9 : Hid (wi.grownBy W9 none) := grown_trans g8 g9
      have hmk := make_intsN wi m (by omega)
      have io : (i : Int) < (n : Int) := by omega
      obtain ⟨lT, hlT⟩ : ∃ k, T0.length = k := ⟨_, rfl⟩
      rw [hlT] at q5 HW9
      clear hc4 hm5 hT0 hr5 hW8 hW9 g8 g9 s8 hz8 hz9 hr9 c9 HC0 hl0 hlT hWd
      go_wp2_with fail
      rw [← HW9.out]
      clear hmk q5
      refine HC.out.mono ?_
      rintro E w6 ⟨a6, c6, rfl, hi6, hg6, hn6, hc6⟩
      have g6 : wi.grownBy w6 none := grown_trans G9.out hg6
      obtain ⟨a7, c7, w7, hrun, ho7, hs7, hf7⟩ := HO.out.1.one HO.out.2.2.1 HO.out.2.2.2.2 HO.out.2.1.size (Nat.le_refl _) g6 (a6, c6, Wd) hi6 HWl.out (fun y hy => by have := (hn6 y hy).1; have := G9.out.size; omega)
      simp only [wdV] at hrun
      have HO7 : Hid (RowsO w.heap.size w7.heap.size w7 a7 c7 (ps ++ [(a6, c6, Wd)]) ∧ w.grownBy w7 none ∧ (ps ++ [(a6, c6, Wd)]).length = i + 1) := ⟨ho7, hf7 w (Nat.le_refl _) (grown_trans HO.out.2.1 g6), by rw [List.length_append, HO.out.2.2.1]; rfl⟩
      have HW7 : Hid (wdL (ps ++ [(a6, c6, Wd)]) = (S.take (i + 1)).map fun r => r ++ List.replicate m 0) := by
        show _ = _
        rw [besT_snoc1 (by rw [HL.out.1]; exact hlt), HT0.out, HWd.out, ← HO.out.2.2.2.1]
        simp [wdL]
      clear hi6 hg6 hn6 hc6 g6 ho7 hs7 hf7 HC
      go_wp2_with fail
      go_roundw
      case rel => exact ⟨i + 1, a7, c7, _, by go_num, rfl, by omega, HO7.out.1, HO7.out.2.1, HO7.out.2.2, HW7.out⟩
      case measure => simp [intOf]; omega
    · have io : ¬ (i : Int) < (n : Int) := by omega
      have hSw : wdL ps = S.map fun r => r ++ List.replicate m 0 := by
        have e : S.take i = S := List.take_of_length_le (by rw [HL.out.1]; omega)
        rw [e] at hw
        exact hw
      have HO1 : Hid (RowsO w.heap.size wi.heap.size wi a c ps ∧ w.grownBy wi none ∧ ps.length = i ∧ wdL ps = S.map fun r => r ++ List.replicate m 0) := ⟨ho, hg, hl, hSw⟩
      clear ho hg hl hw hSw
      go_wp2_with fail
      go_loopw [28, 5] (fun p q W => ∃ (j : Nat) (a : Option Addr) (c N : Nat) (ps : List Wrd), p = .int .i64 j ∧ q = .slice a N c ∧ j ≤ m ∧ RowsO w.heap.size W.heap.size W a c ps ∧ w.grownBy W none ∧ ps.length = N ∧ N = i + j ∧ wdL ps = (S.map fun r => r ++ List.replicate m 0) ++ (T.take j).map fun r => List.replicate n 0 ++ r) (fun p _ _ => m - (intOf p).toNat)
      case atStart => exact ⟨0, a, c, i, ps, rfl, rfl, Nat.zero_le _, HO1.out.1, HO1.out.2.1, HO1.out.2.2.1, rfl, by rw [HO1.out.2.2.2]; simp⟩
      case round =>
        clear HO1
        obtain ⟨wi, hwi⟩ : ∃ W, W = wr := ⟨_, rfl⟩
        subst hwi
        obtain ⟨j, a, c, N, ps, rfl, rfl, hj, ho, hg, hl, hN, hw⟩ := hrel
        have HNe : Hid (N = i + j) := hN
        have HNb : Hid (N ≤ 60) := by show _ ≤ _; omega
        clear hN
        by_cases hlt : j < m
        · have HO : Hid (RowsO w.heap.size wi.heap.size wi a c ps ∧ w.grownBy wi none ∧ ps.length = N ∧ wdL ps = ((S.map fun r => r ++ List.replicate m 0) ++ (T.take j).map fun r => List.replicate n 0 ++ r) ∧ N ≤ 900) := ⟨ho, hg, hl, hw, by have := HNb.out; omega⟩
          clear ho hg hl hw
          obtain ⟨b4, o4, rfl, hc4⟩ := (HT.out.grown HO.out.2.1).at (k := j) (by rw [HL.out.2.1]; exact hlt)
          obtain ⟨r5, k5, q5, hr5, hm5⟩ := hc4 j (by rw [HL.out.2.1]; exact hlt)
          obtain ⟨T0, hT0⟩ : ∃ R, T.getD j [] = R := ⟨_, rfl⟩
          rw [hT0] at q5 hr5
          have hl0 : T0.length ≤ 30 := by rw [← hT0]; exact HL.out.2.2.2 _ (mem_getD (by rw [HL.out.2.1]; exact hlt))
          have HLe : Hid (T0.length ≤ 30) := hl0
          have HT0 : Hid (T.getD j [] = T0) := hT0
          obtain ⟨W8, hW8⟩ : ∃ W, W = wi.alloc (.cells (Array.replicate n (Value.int .i64 0)) 3) := ⟨_, rfl⟩
          have s8 : W8.heap.size = wi.heap.size + 1 := by rw [hW8]; simp
          have g8 : wi.grownBy W8 none := by rw [hW8]; exact grown_alloc _ _
          obtain ⟨W9, hW9⟩ : ∃ W, W = W8.alloc (.cells #[.slice (some ⟨wi.heap.size, 0, none⟩) n n, .slice r5 (T0.length) k5] 22) := ⟨_, rfl⟩
          have g9 : W8.grownBy W9 none := by rw [hW9]; exact grown_alloc _ _
          have HW9 : Hid (W9 = (wi.alloc (.cells (Array.replicate n (Value.int .i64 0)) 3)).alloc (.cells #[.slice (some ⟨wi.heap.size, 0, none⟩) n n, .slice r5 (T0.length) k5] 22)) := by show _ = _; rw [hW9, hW8]
          have hz8 : Ints W8 (some ⟨wi.heap.size, 0, none⟩) (List.replicate n 0) := zeros_at wi n hW8
          have hz9 := hz8.grown g9
          have hr9 : Ints W9 r5 T0 := hr5.grown (grown_trans g8 g9)
          have c9 := cells_two W8 (.slice (some ⟨wi.heap.size, 0, none⟩) n n) (.slice r5 T0.length k5) 22
          rw [← hW9, s8] at c9
          have HC0 := catX_any (List.replicate n 0) T0 (some ⟨wi.heap.size, 0, none⟩) r5 n k5 (wi.heap.size + 1) W9 hz9 hr9 (by rw [List.length_replicate]; omega) (by omega) (by rw [List.length_replicate]; exact c9.1) c9.2
          obtain ⟨Wd, hWd⟩ : ∃ l, (List.replicate n 0 ++ T0) = l := ⟨_, rfl⟩
          have HWd : Hid ((List.replicate n 0 ++ T0) = Wd) := hWd
          have HWl : Hid (Wd.length ≤ 1000) := by show _ ≤ _; rw [← hWd]; simp; omega
          have HC : Hid (Calls Try.prog 21 #[.slice (some ⟨wi.heap.size + 1, 0, none⟩) 2 2] W9 (CatX Wd W9)) := hWd ▸ HC0
          have G9 : Hid (wi.grownBy W9 none) := grown_trans g8 g9
          have hmk := make_intsN wi n (by omega)
          have io : (j : Int) < (m : Int) := by omega
          obtain ⟨lT, hlT⟩ : ∃ k, T0.length = k := ⟨_, rfl⟩
          rw [hlT] at q5 HW9
          clear hc4 hm5 hT0 hr5 hW8 hW9 g8 g9 s8 hz8 hz9 hr9 c9 HC0 hl0 hlT hWd
          go_wp2_with fail
          rw [← HW9.out]
          clear hmk q5
          refine HC.out.mono ?_
          rintro E w6 ⟨a6, c6, rfl, hi6, hg6, hn6, hc6⟩
          have g6 : wi.grownBy w6 none := grown_trans G9.out hg6
          obtain ⟨a7, c7, w7, hrun, ho7, hs7, hf7⟩ := HO.out.1.one HO.out.2.2.1 HO.out.2.2.2.2 HO.out.2.1.size (Nat.le_refl _) g6 (a6, c6, Wd) hi6 HWl.out (fun y hy => by have := (hn6 y hy).1; have := G9.out.size; omega)
          simp only [wdV] at hrun
          have HO7 : Hid (RowsO w.heap.size w7.heap.size w7 a7 c7 (ps ++ [(a6, c6, Wd)]) ∧ w.grownBy w7 none ∧ (ps ++ [(a6, c6, Wd)]).length = N + 1) := ⟨ho7, hf7 w (Nat.le_refl _) (grown_trans HO.out.2.1 g6), by rw [List.length_append, HO.out.2.2.1]; rfl⟩
          have HW7 : Hid (wdL (ps ++ [(a6, c6, Wd)]) = (S.map fun r => r ++ List.replicate m 0) ++ (T.take (j + 1)).map fun r => List.replicate n 0 ++ r) := by
            show _ = _
            rw [besT_snoc2 (by rw [HL.out.2.1]; exact hlt), HT0.out, HWd.out, ← List.append_assoc, ← HO.out.2.2.2.1]
            simp [wdL]
          clear hi6 hg6 hn6 hc6 g6 ho7 hs7 hf7 HC
          go_wp2_with fail
          go_roundw
          case rel => exact ⟨j + 1, a7, c7, N + 1, _, by go_num, rfl, by omega, HO7.out.1, HO7.out.2.1, HO7.out.2.2, by have := HNe.out; omega, HW7.out⟩
          case measure => simp [intOf]; omega
        · have io2 : ¬ (j : Int) < (m : Int) := by omega
          have F : Hid (Po (.returned (.slice a N c)) wi) := by
            show Po _ _
            rw [HPo.out]
            have e : T.take j = T := List.take_of_length_le (by rw [HL.out.2.1]; omega)
            have e3 : i = n := by omega
            rw [e] at hw
            have ew : wdL ps = besT S T := by unfold besT; rw [hw, HL.out.1, HL.out.2.1]
            have ek : N = (besT S T).length := by rw [← ew, wdL_len, hl]
            exact ⟨a, c, ps, by rw [ek], ho, ew, hg⟩
          clear ho hg hl hw
          go_wp2_with fail
          first | exact F.out | (go_ret; exact F.out)
end Go.Proofs.Ytkmcbdjcolbknaa
