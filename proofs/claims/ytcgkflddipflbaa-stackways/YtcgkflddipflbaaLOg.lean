/- det.Marked over numbers: what comes out is the automaton whose states are numbered as they are come to. -/
/- det.Marked over numbers: what comes out is the automaton whose states are numbered as they are come to. -/
import Derived.Test.YtcgkflddipflbaaLOfs
import Derived.BigRegion
import Derived.Deep.RegionWith
import Derived.Deep.RegionLaw
namespace Go.Proofs.Ytcgkflddipflbaa
open Go.RowKit
set_option linter.unusedVariables false

set_option maxHeartbeats 6400000 in
set_option maxRecDepth 100000 in
theorem mkofG_any (l x0 n : Nat) (δ : Nat → Nat → Nat) (m : Nat → Bool) (p1 pM : Value) (w : World) (hl1 : 1 ≤ l) (hl : l ≤ 4) (hn : n ≤ 3000) (hx0 : x0 < n) (hδ : ∀ s a, s < n → a < l → δ s a < n)
    (hN : ∀ W, w.grownBy W none → ∀ s a, s < n → a < l → Calls Try.prog 65 #[.int .i64 (s : Nat), .int .i64 (a : Nat), p1] W fun e w' => e = .returned (.int .i64 ((δ s a : Nat) : Int)) ∧ W.grownBy w' none)
    (hM : ∀ W, w.grownBy W none → ∀ s, s < n → Calls Try.prog 63 #[.int .i64 (s : Nat), pM] W fun e w' => e = .returned (.int .i64 (if m s = true then 1 else 0)) ∧ W.grownBy w' none) :
    Calls Try.prog 62 #[.int .i64 l, .int .i64 x0, .func (.func 65) #[] #[p1], .func (.func 63) #[] #[pM]] w (OfPost l x0 n δ m w) := by
  have HN : Hid (∀ W, w.grownBy W none → ∀ s a, s < n → a < l → Calls Try.prog 65 #[.int .i64 (s : Nat), .int .i64 (a : Nat), p1] W fun e w' => e = .returned (.int .i64 ((δ s a : Nat) : Int)) ∧ W.grownBy w' none) := hN
  have HM : Hid (∀ W, w.grownBy W none → ∀ s, s < n → Calls Try.prog 63 #[.int .i64 (s : Nat), pM] W fun e w' => e = .returned (.int .i64 (if m s = true then 1 else 0)) ∧ W.grownBy w' none) := hM
  have HD : Hid (∀ s a, s < n → a < l → δ s a < n) := hδ
  clear hN hM hδ
  obtain ⟨W4, hrun4, hA4, hg4⟩ := ofAt_start (w := w) l x0 (by omega)
  have A4 : Hid (OfAt w.heap.size l W4 (.slice (some ⟨w.heap.size + 1 + 1, 0, none⟩) 1 1) (.slice none 0 0) (.slice none 0 0) [x0] [] [] []) := hA4
  have G4 : Hid (w.grownBy W4 none) := hg4
  clear hA4 hg4
  have hmm := @run_makeMap Try.prog
  go_enter Try.func62, Try.ntmps62
  go_wp2_with fail
  clear hrun4
  go_loopw [10, 12] (fun v i wr => ∃ (k : Nat) (xs : List Nat) (aS : Option Addr) (cS : Nat) (aR : Option Addr) (cR : Nat) (aM : Option Addr) (cM : Nat) (rs : List (Value × List Int)), bfsL id δ l x0 k = xs ∧ v = .slice aS xs.length cS ∧ i = .int .i64 k ∧ k ≤ xs.length ∧ (∀ j, j < k → j < (bfsL id δ l x0 j).length) ∧ rs.map (·.2) = partR id δ l x0 k ∧ rs.length = k ∧
    OfAt w.heap.size l wr (.slice aS xs.length cS) (.slice aR k cR) (.slice aM k cM) xs rs (partM id δ m l x0 k) [] ∧ w.grownBy wr none) (fun _ i _ => n - (intOf i).toNat)
  case atStart => exact ⟨0, [x0], _, _, none, 0, none, 0, [], rfl, rfl, rfl, by simp, fun j hj => by omega, by simp [partR], rfl, by simpa [partM] using A4.out, G4.out⟩
  case round =>
    clear A4 G4
    obtain ⟨k, xs, aS, cS, aR, cR, aM, cM, rs, hxs, rfl, rfl, hk, hgo, hrs, hrl, hA, hg⟩ := hrel
    have hnd : xs.length ≤ n := by
      have h1 := bfsL_nodup id δ l x0 k
      rw [hxs] at h1
      exact nodup_le n xs (by simpa using h1) (fun y hy => bfsL_lt id HD.out hx0 k y (by rw [hxs]; exact hy))
    have HXS : Hid (bfsL id δ l x0 k = xs) := hxs
    have HGo : Hid (∀ j, j < k → j < (bfsL id δ l x0 j).length) := hgo
    have HRS : Hid (rs.map (·.2) = partR id δ l x0 k) := hrs
    have HRL : Hid (rs.length = k) := hrl
    have A : Hid (OfAt w.heap.size l wr (.slice aS xs.length cS) (.slice aR k cR) (.slice aM k cM) xs rs (partM id δ m l x0 k) []) := hA
    have G : Hid (w.grownBy wr none) := hg
    clear hxs hgo hrs hrl hA hg
    by_cases hlt : k < xs.length
    · obtain ⟨W5, hmk, hA5, hg5⟩ := A.out.row hl
      have A5 : Hid (OfAt w.heap.size l W5 (.slice aS xs.length cS) (.slice aR k cR) (.slice aM k cM) xs rs (partM id δ m l x0 k) [(3, .slice (some ⟨wr.heap.size, 0, none⟩) l l, vals (List.replicate l 0))]) := hA5
      have G5 : Hid (w.grownBy W5 none) := grown_trans G.out hg5
      have hki : (k : Int) < (xs.length : Int) := by omega
      have hxn : xs.getD k 0 < n := bfsL_lt id HD.out hx0 k _ (by rw [HXS.out]; exact getD_mem hlt)
      clear hA5 hg5 A G
      obtain ⟨x, hx⟩ : ∃ x, xs.getD k 0 = x := ⟨_, rfl⟩
      rw [hx] at hxn
      have HX : Hid (xs.getD k 0 = x) := hx
      clear hx
      go_wp2_with fail
      clear hmk
      generalize wr.heap.size = gr at *
      go_loopw [10, 35] (fun v i wq => ∃ (a : Nat) (ys : List Nat) (aS : Option Addr) (cS : Nat), rowL id δ x a xs = ys ∧ v = .slice aS ys.length cS ∧ i = .int .i64 a ∧ a ≤ l ∧
        OfAt w.heap.size l wq (.slice aS ys.length cS) (.slice aR k cR) (.slice aM k cM) ys rs (partM id δ m l x0 k) [(3, .slice (some ⟨gr, 0, none⟩) l l, vals ((List.range l).map fun b => if b < a then ((ix id ys (δ x b) : Nat) : Int) else 0))] ∧ w.grownBy wq none) (fun _ i _ => l - (intOf i).toNat)
      case atStart =>
        refine ⟨0, xs, aS, cS, rfl, rfl, rfl, by omega, ?_, G5.out⟩
        have e : ((List.range l).map fun b => if b < 0 then ((ix id xs (δ x b) : Nat) : Int) else 0) = List.replicate l 0 := by rw [List.eq_replicate_iff]; simp
        rw [e]
        exact A5.out
      case round =>
        clear A5 G5
        obtain ⟨a, ys, aS, cS, hys, rfl, rfl, ha, hA, hg⟩ := hrel
        obtain ⟨zs, hzs⟩ := rowL_more id δ x a xs
        have hyn : ∀ y, y ∈ ys → y < n := fun y hy => rowL_lt (κ := id) HD.out hxn (fun z hz => bfsL_lt id HD.out hx0 k z (by rw [HXS.out]; exact hz)) ha y (by rw [hys]; exact hy)
        have hynd : ys.length ≤ n := by
          have h1 := bfsL_nodup id δ l x0 k
          rw [HXS.out] at h1
          have h2 := rowL_nodup (κ := id) (δ := δ) (x := x) h1 a
          rw [hys] at h2
          exact nodup_le n ys (by simpa using h2) hyn
        have hky : k < ys.length := by rw [← hys, hzs]; simp; omega
        have hgx : ys.getD k 0 = x := by rw [← hys, hzs, getD_app _ hlt]; exact HX.out
        have HYS : Hid (rowL id δ x a xs = ys) := hys
        have A : Hid (OfAt w.heap.size l wr (.slice aS ys.length cS) (.slice aR k cR) (.slice aM k cM) ys rs (partM id δ m l x0 k) [(3, .slice (some ⟨gr, 0, none⟩) l l, vals ((List.range l).map fun b => if b < a then ((ix id ys (δ x b) : Nat) : Int) else 0))]) := hA
        have G : Hid (w.grownBy wr none) := hg
        obtain ⟨gS, cS', eS, hcS⟩ := A.out.state hky
        rw [hgx] at hcS
        simp only [Value.slice.injEq] at eS
        obtain ⟨rfl, _, rfl⟩ := eS
        clear hys hA hg hgx hzs
        by_cases hal : a < l
        · have hali : (a : Int) < (l : Int) := by omega
          have hkyi : (k : Int) < (ys.length : Int) := by omega
          have hyd : δ x a < n := HD.out x a hxn hal
          go_wp2_with fail
          refine (HN.out _ G.out x a hxn hal).mono ?_
          rintro e w6 ⟨rfl, hg6⟩
          have A6 : Hid (OfAt w.heap.size l w6 (.slice (some ⟨gS, 0, none⟩) ys.length cS) (.slice aR k cR) (.slice aM k cM) ys rs (partM id δ m l x0 k) [(3, .slice (some ⟨gr, 0, none⟩) l l, vals ((List.range l).map fun b => if b < a then ((ix id ys (δ x b) : Nat) : Int) else 0))]) := A.out.kept hg6
          have G6 : Hid (w.grownBy w6 none) := grown_trans G.out hg6
          clear hg6 A G hcS
          obtain ⟨hl1, hl2⟩ := A6.out.num.look (y := δ x a) (by omega) (fun z hz => by have := hyn z hz; omega)
          by_cases hm : δ x a ∈ ys
          · have hrun := hl1 hm
            have hK : hasK id ys (δ x a) := ⟨_, hm, rfl⟩
            have hI := ix_lt hK
            obtain ⟨⟨u, hu⟩, hfz, hA7, hgB⟩ := A6.out.write hal (((ix id ys (δ x a) : Nat) : Int))
            have A7 : Hid (OfAt w.heap.size l (w6.setCell ⟨gr, a, none⟩ (.int .i64 ((ix id ys (δ x a) : Nat) : Int))) (.slice (some ⟨gS, 0, none⟩) ys.length cS) (.slice aR k cR) (.slice aM k cM) ys rs (partM id δ m l x0 k) [(3, .slice (some ⟨gr, 0, none⟩) l l, vals ((List.range l).map fun b => if b < a + 1 then ((ix id ys (δ x b) : Nat) : Int) else 0))]) := by
              show OfAt _ _ _ _ _ _ _ _ _ _
              rw [row_write hal] at hA7
              exact hA7
            have G7 : Hid (w.grownBy (w6.setCell ⟨gr, a, none⟩ (.int .i64 ((ix id ys (δ x a) : Nat) : Int))) none) := grown_new G6.out (grown_set _ _ _) (by simp only; omega)
            have HY1 : Hid (rowL id δ x (a + 1) xs = ys) := by
              show _ = _
              simp only [rowL]
              rw [HYS.out]
              exact ins_old hK
            clear hl1 hl2 hA7 hK A6
            generalize ix id ys (δ x a) = iy at *
            generalize δ x a = y at *
            go_wp2_with fail
            go_roundw
            case rel => exact ⟨a + 1, ys, _, _, HY1.out, rfl, by go_num, by omega, A7.out, G7.out⟩
            case measure => simp [intOf]; omega
          · obtain ⟨c0, hrun⟩ := hl2 hm
            obtain ⟨W7, hup, hN7, hg7⟩ := A6.out.num.put (y := δ x a) (by omega) (fun z hz => by have := hyn z hz; omega) hm (by omega)
            obtain ⟨k1, k2, k3⟩ := A6.out.numbered hN7 hg7
            have K1 : Hid _ := k1
            have K2 : Hid _ := k2
            have K3 : Hid (Owns (w.heap.size + 2) W7 ((3, .slice (some ⟨gS, 0, none⟩) ys.length cS, vals (natInts ys)) :: (23, .slice aR k cR, rs.map (·.1)) :: (3, .slice aM k cM, vals (partM id δ m l x0 k)) :: ([(3, .slice (some ⟨gr, 0, none⟩) l l, vals ((List.range l).map fun b => if b < a then ((ix id ys (δ x b) : Nat) : Int) else 0))] ++ rowItems rs))) := k3
            have N7 : Hid (NumAt W7 (w.heap.size + 3) (ys ++ [δ x a])) := hN7
            have G7 : Hid (w.grownBy W7 none) := grown_new G6.out hg7 (by omega)
            have hO7 : Hid (∀ o, (W7.alloc o).ownsRow (w.heap.size + 2) 3 1 (.slice (some ⟨gS, 0, none⟩) ys.length cS) ys.length (vals (natInts ys))) := fun o => by
              have := (K3.out.kept (grown_alloc W7 o)).row
              simpa using this
            have HS7 : Hid (w.heap.size + 3 < W7.heap.size) := N7.out.block.1
            have HNK : Hid (¬ hasK id ys (δ x a)) := fun ⟨r, hr, e⟩ => hm (by have e2 : r = δ x a := e; rw [← e2]; exact hr)
            have HY1 : Hid (rowL id δ x (a + 1) xs = ys ++ [δ x a]) := by
              show _ = _
              simp only [rowL]
              rw [HYS.out]
              exact ins_new HNK.out
            have HSt : Hid (((List.range l).map fun b => if b < a then ((ix id ys (δ x b) : Nat) : Int) else 0).set a (ys.length : Int) = (List.range l).map fun b => if b < a + 1 then ((ix id (ys ++ [δ x a]) (δ x b) : Nat) : Int) else 0) := by
              show _ = _
              have h1 : ((List.range l).map fun b => if b < a then ((ix id ys (δ x b) : Nat) : Int) else 0) = (List.range l).map fun b => if b < a then ((ix id (ys ++ [δ x a]) (δ x b) : Nat) : Int) else 0 := by
                refine List.map_congr_left fun b _ => ?_
                by_cases hb : b < a
                · rw [if_pos hb, if_pos hb, ix_append (HYS.out ▸ rowL_has id δ x xs hb)]
                · rw [if_neg hb, if_neg hb]
              have h2 : ys.length = ix id (ys ++ [δ x a]) (δ x a) := (ix_last HNK.out).symm
              rw [h1, ← row_write hal, ← h2]
            clear k1 k2 k3 hN7 hg7 hl1 hl2 A6 hm
            generalize hyy : δ x a = y at *
            clear hyy
            obtain ⟨i0, hi, hz0, hz1, hz2⟩ := info_parts Try.info3i
            go_wp2_with (at_builtin; refine wpList_append_lies _ rfl (.tmp 58) (.tmp 60) 23 rfl (w.heap.size + 2) 3 i0 (.int .i64 0) 1 8 Try.underlying23 hi hz0 hz1 hz2 rfl (by decide) (.slice (some ⟨gS, 0, none⟩) ys.length cS) ys.length _ rfl (hO7.out _) ⟨W7.heap.size, 0, none⟩ 1 1 [.int .i64 (y : Int)] rfl rfl (cell_one_new _ _ _) (by intro u hu; simp at hu; subst hu; rfl) (by omega) (by unfold maxLen; omega) (by omega) (by have := HS7.out; simp; omega) (W7.heap.size + 1) (by simp) ?_; intro g cap w8 ho8 hg8 hat8 _; have A8 : Hid (OfAt w.heap.size l w8 (.slice (some ⟨g, 0, none⟩) (ys.length + 1) cap) (.slice aR k cR) (.slice aM k cM) (ys ++ [y]) rs (partM id δ m l x0 k) [(3, .slice (some ⟨gr, 0, none⟩) l l, vals ((List.range l).map fun b => if b < a then ((ix id ys (δ x b) : Nat) : Int) else 0))]) := (OfAt.pushed (((grown_alloc W7 _).block _ (Array.getElem?_eq_some_iff.1 K1.out).1 (by simp)).trans K1.out) (((grown_alloc W7 _).block _ (Array.getElem?_eq_some_iff.1 K2.out).1 (by simp)).trans K2.out) (N7.out.kept (grown_alloc W7 _) (by simp)) (K3.out.kept (grown_alloc W7 _)) ho8 rfl hg8 hat8 (by simp)); have G8 : Hid (w.grownBy w8 none) := (Owns.frame (K3.out.kept (grown_alloc W7 _)) (by omega) (grown_trans G7.out (grown_alloc W7 _)) hg8); clear ho8 hg8 hat8; obtain ⟨⟨u, hu⟩, hfz, hA9, hgB⟩ := A8.out.write hal ((ys.length : Nat) : Int))
            have A9 : Hid (OfAt w.heap.size l (w8.setCell ⟨gr, a, none⟩ (.int .i64 (ys.length : Int))) (.slice (some ⟨g, 0, none⟩) (ys.length + 1) cap) (.slice aR k cR) (.slice aM k cM) (ys ++ [y]) rs (partM id δ m l x0 k) [(3, .slice (some ⟨gr, 0, none⟩) l l, vals ((List.range l).map fun b => if b < a + 1 then ((ix id (ys ++ [y]) (δ x b) : Nat) : Int) else 0))]) := by
              show OfAt _ _ _ _ _ _ _ _ _ _
              rw [HSt.out] at hA9
              exact hA9
            have G9 : Hid (w.grownBy (w8.setCell ⟨gr, a, none⟩ (.int .i64 (ys.length : Int))) none) := grown_new G8.out (grown_set _ _ _) (by simp only; omega)
            clear hA9
            go_roundw
            case rel => exact ⟨a + 1, ys ++ [y], some ⟨g, 0, none⟩, cap, HY1.out, by simp, by go_num, by omega, by simpa using A9.out, G9.out⟩
            case measure => simp [intOf]; omega
        · have hal2 : a = l := by omega
          have HY1 : Hid (bfsL id δ l x0 (k + 1) = ys) := by
            show _ = _
            simp only [bfsL]
            rw [HXS.out, if_pos hlt, HX.out, ← hal2]
            exact HYS.out
          have HRow : Hid (((List.range l).map fun b => if b < a then ((ix id ys (δ x b) : Nat) : Int) else 0) = rowR id δ l ys x) := by
            show _ = _
            unfold rowR
            refine List.map_congr_left fun b hb => ?_
            rw [if_pos (by have := List.mem_range.1 hb; omega)]
          rw [HRow.out] at A
          have hO : Hid (∀ o, (wr.alloc o).ownsRow (w.heap.size + 2) 23 1 (.slice aR k cR) k (rs.map (·.1))) := fun o => by
            have h1 : Owns (w.heap.size + 2) (wr.alloc o) ((23, .slice aR k cR, rs.map (·.1)) :: _) := (A.out.kept (grown_alloc wr o)).own.perm (List.Perm.swap _ _ _)
            have h2 := h1.row
            simpa [HRL.out] using h2
          have hali : ¬ (a : Int) < (l : Int) := by omega
          obtain ⟨d0, d1, d2, d3, dz⟩ := A.out.cells
          have HSz : Hid (w.heap.size + 3 < wr.heap.size) := A.out.lt
          obtain ⟨i0, hi, hz0, hz1, hz2⟩ := info_parts Try.infoS
          have hbnd : k < 3000 := by omega
          clear hcS
          go_wp2_with (at_builtin; refine wpList_append_lies _ rfl (.tmp 68) (.tmp 70) 34 rfl (w.heap.size + 2) 23 i0 (.slice none 0 0) 1 24 Try.underlying34 hi hz0 hz1 hz2 rfl (by decide) (.slice aR k cR) k _ rfl (hO.out _) ⟨wr.heap.size, 0, none⟩ 1 1 [.slice (some ⟨gr, 0, none⟩) l l] rfl rfl (cell_one_new _ _ _) (by intro u hu; simp at hu; subst hu; rfl) (by omega) (by unfold maxLen; omega) (by omega) (by have := HSz.out; simp; omega) (wr.heap.size + 1) (by simp) ?_; intro g cap w8 ho8 hg8 hat8 _; obtain ⟨⟨hc8, hf8⟩, hA9⟩ := (A.out.kept (grown_alloc wr _)).pushR ho8 (by rw [HRL.out]) hg8 hat8 (by simp); have G8 : Hid (w.grownBy w8 none) := (Owns.frame ((A.out.kept (grown_alloc wr _)).own.perm (List.Perm.swap _ _ _)) (by omega) (grown_trans G.out (grown_alloc wr _)) hg8); clear ho8 hg8 hat8)
          obtain ⟨W11, hW11⟩ : ∃ W, W = w8.setCell ⟨w.heap.size + 1, 2, none⟩ (.slice (some ⟨g, 0, none⟩) (k + 1) cap) := ⟨_, rfl⟩
          rw [← hW11]
          rw [← hW11] at hA9
          have G11 : Hid (w.grownBy W11 none) := by rw [hW11]; exact grown_new G8.out (grown_set _ _ _) (by simp only; omega)
          have A11 : Hid (OfAt w.heap.size l W11 (.slice (some ⟨gS, 0, none⟩) ys.length cS) (.slice (some ⟨g, 0, none⟩) (k + 1) cap) (.slice aM k cM) ys (rs ++ [(.slice (some ⟨gr, 0, none⟩) l l, rowR id δ l ys x)]) (partM id δ m l x0 k) []) := hA9
          clear hW11 hA9 hc8 hf8 d0 d1 d2 d3 dz
          have hkyi : (k : Int) < (ys.length : Int) := by omega
          have hk0 : (0 : Int) ≤ (k : Int) := Int.natCast_nonneg _
          obtain ⟨_, _, _, c1, cz⟩ := A11.out.cells
          have cz3 := cz 3
          obtain ⟨gS', cS', eS', c2⟩ := A11.out.state hky
          have egS : gS' = gS := by simp only [Value.slice.injEq, Option.some.injEq, Addr.mk.injEq] at eS'; exact eS'.1.1.symm
          rw [egS] at c2
          have hgx2 : ys.getD k 0 = x := by
            obtain ⟨zs, hzs⟩ := rowL_more id δ x a xs
            rw [← HYS.out, hzs, getD_app _ hlt]; exact HX.out
          rw [hgx2] at c2
          obtain ⟨hap1, hap2⟩ := A11.out.apartSM
          obtain ⟨q, hq⟩ : ∃ q : Int, (if m x = true then (1 : Int) else 0) = q := ⟨_, rfl⟩
          have HQ : Hid ((if m x = true then (1 : Int) else 0) = q) := hq
          have HMx : Hid (∀ W, w.grownBy W none → Calls Try.prog 63 #[.int .i64 (x : Nat), pM] W fun e w' => e = .returned (.int .i64 q) ∧ W.grownBy w' none) := fun W hW => hq ▸ HM.out W hW x hxn
          have HGo2 : Hid (∀ j, j < k + 1 → j < (bfsL id δ l x0 j).length) := fun j hj => by
            by_cases e : j = k
            · subst e; rw [HXS.out]; exact hlt
            · exact HGo.out j (by omega)
          have HRS2 : Hid ((rs ++ [(Value.slice (some ⟨gr, 0, none⟩) l l, rowR id δ l ys x)]).map (·.2) = partR id δ l x0 (k + 1)) := by
            show _ = _
            rw [partR_step (fun j hj => HGo2.out j (by omega)), List.map_append, HRS.out, HY1.out, HXS.out, HX.out]
            rfl
          have HPM : Hid (partM id δ m l x0 (k + 1) = partM id δ m l x0 k ++ [q]) := by
            show _ = _
            rw [partM_step (HGo2.out k (by omega)), HXS.out, HX.out, hq]
          have HRL2 : Hid ((rs ++ [(Value.slice (some ⟨gr, 0, none⟩) l l, rowR id δ l ys x)]).length = k + 1) := by
            show _ = _
            simp [HRL.out]
          clear hq
          clear cz eS' egS hgx2
          obtain ⟨i1, hj, hy0, hy1, hy2⟩ := info_parts Try.info3i
          have HSz2 : Hid (w.heap.size + 3 < W11.heap.size) := A11.out.lt
          have HML : Hid ((partM id δ m l x0 k).length = k) := by
            show _ = _
            simp [partM, HXS.out]; omega
          go_region_law (first
              | (go_simp; go_at_call 63; refine (HMx.out _ (by first | exact G11.out | exact grown_drew G11.out | exact grown_drewN G11.out _)).mono ?_; rintro e w12 ⟨rfl, hg12⟩; have A12 : Hid (OfAt w.heap.size l w12 (.slice (some ⟨gS, 0, none⟩) ys.length cS) (.slice (some ⟨g, 0, none⟩) (k + 1) cap) (.slice aM k cM) ys (rs ++ [(.slice (some ⟨gr, 0, none⟩) l l, rowR id δ l ys x)]) (partM id δ m l x0 k) []) := (A11.out.kept (grown_trans (by first | exact grown_refl _ _ | exact grown_drew (grown_refl _ _) | exact grown_drewN (grown_refl _ _) _) hg12)); have G12 : Hid (w.grownBy w12 none) := (grown_trans G11.out (grown_trans (by first | exact grown_refl _ _ | exact grown_drew (grown_refl _ _) | exact grown_drewN (grown_refl _ _) _) hg12)); have hO12 : Hid (∀ o, (w12.alloc o).ownsRow (w.heap.size + 2) 3 1 (.slice aM k cM) k (vals (partM id δ m l x0 k))) := (fun o => by have h2 := (ofAt_marks (A12.out.kept (grown_alloc w12 o))).row; simpa [HML.out] using h2); have HS12 : Hid (w.heap.size + 3 < w12.heap.size) := A12.out.lt; have c12 : w12.cell? ⟨w.heap.size + 1, 3, none⟩ = some (.slice aM k cM) := (hg12.cell c1 (by simp)); have c12o : ∀ o, (w12.alloc o).cell? ⟨w.heap.size + 1, 3, none⟩ = some (.slice aM k cM) := (fun o => (grown_alloc w12 o).cell c12 (by simp)))
              | (refine step_append_lies _ (by rfl) _ _ _ (by rfl) (w.heap.size + 2) 3 i1 (.int .i64 0) 1 8 Try.underlying23 hj hy0 hy1 hy2 rfl (by decide) (.slice aM k cM) k (vals (partM id δ m l x0 k)) (by rfl) (hO12.out _) ⟨w12.heap.size, 0, none⟩ 1 1 [.int .i64 q] (by rfl) (by rfl) (cell_one_new _ _ _) (by intro u hu; simp at hu; subst hu; rfl) (by omega) (by unfold maxLen; omega) (by omega) (by have := HS12.out; simp; omega) (w12.heap.size + 1) (by simp) ?_; intro g2 cap2 w13 ho13 hg13 hat13 hlt13; obtain ⟨⟨hc13, hf13⟩, hA13⟩ := (A12.out.kept (grown_alloc w12 _)).pushM ho13 (by rw [HML.out]) hg13 hat13 (by simp); have G13 : Hid (w.grownBy w13 none) := (Owns.frame (ofAt_marks (A12.out.kept (grown_alloc w12 _))) (by omega) (grown_trans G12.out (grown_alloc w12 _)) hg13)))
          all_goals
            have A14 : Hid (OfAt w.heap.size l (w13.setCell ⟨w.heap.size + 1, 3, none⟩ (.slice (some ⟨g2, 0, none⟩) (k + 1) cap2)) (.slice (some ⟨gS, 0, none⟩) ys.length cS) (.slice (some ⟨g, 0, none⟩) (k + 1) cap) (.slice (some ⟨g2, 0, none⟩) (k + 1) cap2) ys (rs ++ [(.slice (some ⟨gr, 0, none⟩) l l, rowR id δ l ys x)]) (partM id δ m l x0 (k + 1)) []) := by
              show OfAt _ _ _ _ _ _ _ _ _ _
              rw [HPM.out]
              exact hA13
            have G14 : Hid (w.grownBy (w13.setCell ⟨w.heap.size + 1, 3, none⟩ (.slice (some ⟨g2, 0, none⟩) (k + 1) cap2)) none) := grown_new G13.out (grown_set _ _ _) (by simp only; omega)
            clear hA13 hc13 hf13 ho13 hg13 hat13 c12 c12o c1 c2 cz3 hlt13 hg12
            go_wp2_with fail
            go_roundw
            case rel => exact ⟨k + 1, ys, _, _, _, _, _, _, _, HY1.out, rfl, by go_num, by omega, HGo2.out, HRS2.out, HRL2.out, A14.out, G14.out⟩
            case measure => simp [intOf]; omega
    · have hke : k = xs.length := by omega
      have HEnd : Hid (IsEnd (bfsL id δ l x0) k) := ⟨by rw [HXS.out]; exact hke.symm, HGo.out⟩
      obtain ⟨d0, d1, d2, d3, dz⟩ := A.out.cells
      obtain ⟨r0, r1, r2, r3, rz⟩ := A.out.ress
      have rz0 := rz 0
      have rz1 := rz 1
      have rz2 := rz 2
      have rz3 := rz 3
      obtain ⟨W9, hW9, hg9, q0, q1, q2, q3⟩ := det_store A.out.res (.int .i64 (l : Int)) (.int .i64 0) (.slice aR k cR) (.slice aM k cM)
      have G9 : Hid (w.grownBy W9 none) := grown_new G.out hg9 (Nat.le_refl _)
      have O9 : Hid (Owns w.heap.size W9 ((23, .slice aR k cR, rs.map (·.1)) :: (3, .slice aM k cM, vals (resM m (bfsL id δ l x0 k))) :: rowItems rs)) := by
        have h1 := A.out.own.tail.below hg9 (by omega)
        rw [partM_end HEnd.out] at h1
        exact ⟨fun it hm => ⟨ownsRow_base (h1.1 it hm).1 (by omega), (h1.1 it hm).2⟩, h1.2⟩
      have HRS3 : Hid (rs.map (·.2) = resR id δ l (bfsL id δ l x0 k)) := by
        show _ = _
        rw [HRS.out, partR_end HEnd.out]
      have hki : ¬ (k : Int) < (xs.length : Int) := by omega
      clear hg9 dz rz hke
      go_wp2_with fail
      rw [← hW9]
      exact bodyPost_ret (v := .agg #[.int .i64 (l : Int), .int .i64 0, .slice aR k cR, .slice aM k cM]) (by simp [results, Try.results62, go_sem, q0, q1, q2, q3]) rfl ⟨k, _, _, rs, HEnd.out, by omega, rfl, HRS3.out, O9.out, G9.out⟩

set_option maxHeartbeats 1600000 in
theorem clofG_any (b : Nat) (x : Bool) (s : Nat) (p2 : Value) (W : World) (hb : W.cell? ⟨b, 0, none⟩ = some (.func (.func 66) #[] #[p2])) (hM : Calls Try.prog 66 #[.int .i64 (s : Nat), p2] W fun e w' => e = .returned (.bool x) ∧ W.grownBy w' none) :
    Calls Try.prog 63 #[.int .i64 (s : Nat), .pointer (some ⟨b, 0, none⟩)] W fun e w' => e = .returned (.int .i64 (if x = true then 1 else 0)) ∧ W.grownBy w' none := by
  obtain ⟨q, hq⟩ : ∃ q : Int, (if x = true then (1 : Int) else 0) = q := ⟨_, rfl⟩
  have HB : Hid (∀ W, Calls Try.prog 64 #[.bool x] W fun e w' => e = .returned (.int .i64 q) ∧ w' = W) := fun W => hq ▸ bit_any x W
  have HM : Hid (Calls Try.prog 66 #[.int .i64 (s : Nat), p2] W fun e w' => e = .returned (.bool x) ∧ W.grownBy w' none) := hM
  rw [hq]
  clear hM hq
  go_enter Try.func63, Try.ntmps63
  go_wp2_with fail
  refine HM.out.mono ?_
  rintro e w2 ⟨rfl, hg⟩
  have G : Hid (W.grownBy w2 none) := hg
  clear hg
  go_wp2_with fail
  refine (HB.out _).mono ?_
  rintro e w3 ⟨rfl, rfl⟩
  go_wp2_with fail
  go_ret
  exact ⟨rfl, G.out⟩

set_option maxHeartbeats 3200000 in
theorem ofG_any (l x0 n : Nat) (δ : Nat → Nat → Nat) (m : Nat → Bool) (p1 p2 : Value) (w : World) (hl1 : 1 ≤ l) (hl : l ≤ 4) (hn : n ≤ 3000) (hx0 : x0 < n) (hδ : ∀ s a, s < n → a < l → δ s a < n)
    (hN : ∀ W, w.grownBy W none → ∀ s a, s < n → a < l → Calls Try.prog 65 #[.int .i64 (s : Nat), .int .i64 (a : Nat), p1] W fun e w' => e = .returned (.int .i64 ((δ s a : Nat) : Int)) ∧ W.grownBy w' none)
    (hM : ∀ W, w.grownBy W none → ∀ s, s < n → Calls Try.prog 66 #[.int .i64 (s : Nat), p2] W fun e w' => e = .returned (.bool (m s)) ∧ W.grownBy w' none) :
    Calls Try.prog 50 #[.int .i64 l, .int .i64 x0, .func (.func 65) #[] #[p1], .func (.func 66) #[] #[p2]] w (OfPost l x0 n δ m w) := by
  have HK : Hid (∀ T, Calls Try.prog 62 #[.int .i64 l, .int .i64 x0, .func (.func 65) #[] #[p1], .func (.func 63) #[] #[.pointer (some ⟨w.heap.size, 0, none⟩)]] ((w.alloc (.cells #[.func (.func 66) #[] #[p2]] T)).alloc (.cells #[.int .i64 0, .int .i64 0, .slice none 0 0, .slice none 0 0] 36))
      fun e w3 => ∃ aR nR cR aM nM cM W9, e = .returned (.agg #[.int .i64 l, .int .i64 0, .slice aR nR cR, .slice aM nM cM]) ∧ W9 = (((w3.setCell ⟨w.heap.size + 1, 0, none⟩ (.int .i64 (l : Int))).setCell ⟨w.heap.size + 1, 1, none⟩ (.int .i64 0)).setCell ⟨w.heap.size + 1, 2, none⟩ (.slice aR nR cR)).setCell ⟨w.heap.size + 1, 3, none⟩ (.slice aM nM cM) ∧
      (∀ k v, #[Value.int .i64 0, .int .i64 0, .slice none 0 0, .slice none 0 0][k]? = some v → w3.cell? ⟨w.heap.size + 1, k, none⟩ = some v) ∧ (∀ k, w3.frozen? ⟨w.heap.size + 1, k, none⟩ = false) ∧ W9.cell? ⟨w.heap.size + 1, 0, none⟩ = some (.int .i64 (l : Int)) ∧ W9.cell? ⟨w.heap.size + 1, 1, none⟩ = some (.int .i64 0) ∧ W9.cell? ⟨w.heap.size + 1, 2, none⟩ = some (.slice aR nR cR) ∧ W9.cell? ⟨w.heap.size + 1, 3, none⟩ = some (.slice aM nM cM) ∧ OfPost l x0 n δ m w (.returned (.agg #[.int .i64 l, .int .i64 0, .slice aR nR cR, .slice aM nM cM])) W9) := by
    intro T
    obtain ⟨W2, hW2, g2, s2, b2, bx⟩ := of_boxes w T (.func (.func 66) #[] #[p2])
    rw [← hW2]
    refine (mkofG_any l x0 n δ m p1 (.pointer (some ⟨w.heap.size, 0, none⟩)) W2 hl1 hl hn hx0 hδ (fun W hW => hN W (grown_trans g2 hW)) (fun W hW s hs => clofG_any w.heap.size (m s) s p2 W (bx W hW) (hM W (grown_trans g2 hW) s hs))).mono ?_
    rintro e w3 ⟨k, vR, vM, rs, h1, h2, rfl, h4, h5, h6⟩
    obtain ⟨aR, nR, cR, eR⟩ := owns_slice h5 (List.mem_cons_self ..)
    obtain ⟨aM, nM, cM, eM⟩ := owns_slice h5 (List.mem_cons_of_mem _ (List.mem_cons_self ..))
    simp only at eR eM
    subst eR eM
    have hb3 : w3.heap[w.heap.size + 1]? = some (.cells #[.int .i64 0, .int .i64 0, .slice none 0 0, .slice none 0 0] 36 (0, 0)) := (h6.block _ (by omega) (by simp)).trans b2
    obtain ⟨W9, hW9, hg9, q0, q1, q2, q3⟩ := det_store hb3 (.int .i64 (l : Int)) (.int .i64 0) (.slice aR nR cR) (.slice aM nM cM)
    have h7 := h5.below hg9 (by omega)
    exact ⟨aR, nR, cR, aM, nM, cM, W9, rfl, hW9, fun k v hv => by rw [cell_of_row _ _ k _ _ (0, 0) hb3]; exact hv, fun k => frozen_of_row _ _ k _ _ hb3, q0, q1, q2, q3, k, _, _, rs, h1, h2, rfl, h4, ⟨fun it hm => ⟨ownsRow_base (h7.1 it hm).1 (by omega), (h7.1 it hm).2⟩, h7.2⟩, grown_new (grown_trans g2 h6) hg9 (by omega)⟩
  clear hN hM
  go_enter Try.func50, Try.ntmps50
  go_wp2_with fail
  refine (HK.out _).mono ?_
  rintro e w3 ⟨aR, nR, cR, aM, nM, cM, W9, rfl, hW9, hc, hf, q0, q1, q2, q3, hp⟩
  have c0 := hc 0 _ rfl
  have c1 := hc 1 _ rfl
  have c2 := hc 2 _ rfl
  have c3 := hc 3 _ rfl
  have f0 := hf 0
  have f1 := hf 1
  have f2 := hf 2
  have f3 := hf 3
  have HP : Hid _ := hp
  clear hc hf hp HK
  go_wp2_with fail
  rw [← hW9]
  exact bodyPost_ret (v := .agg #[.int .i64 (l : Int), .int .i64 0, .slice aR nR cR, .slice aM nM cM]) (by simp [results, Try.results50, go_sem, q0, q1, q2, q3]) rfl HP.out

end Go.Proofs.Ytcgkflddipflbaa

namespace Go.Proofs.Ytcgkflddipflbaa
open Go.RowKit
set_option linter.unusedVariables false

set_option maxHeartbeats 6400000 in
set_option maxRecDepth 100000 in
theorem mkofL_any (l x0 n : Nat) (δ : Nat → Nat → Nat) (m : Nat → Bool) (p1 p2 p3 pM : Value) (w : World) (hl1 : 1 ≤ l) (hl : l ≤ 4) (hn : n ≤ 3000) (hx0 : x0 < n) (hδ : ∀ s a, s < n → a < l → δ s a < n)
    (hN : ∀ W, w.grownBy W none → ∀ s a, s < n → a < l → Calls Try.prog 54 #[.int .i64 (s : Nat), .int .i64 (a : Nat), p1, p2, p3] W fun e w' => e = .returned (.int .i64 ((δ s a : Nat) : Int)) ∧ W.grownBy w' none)
    (hM : ∀ W, w.grownBy W none → ∀ s, s < n → Calls Try.prog 63 #[.int .i64 (s : Nat), pM] W fun e w' => e = .returned (.int .i64 (if m s = true then 1 else 0)) ∧ W.grownBy w' none) :
    Calls Try.prog 62 #[.int .i64 l, .int .i64 x0, .func (.func 54) #[] #[p1, p2, p3], .func (.func 63) #[] #[pM]] w (OfPost l x0 n δ m w) := by
  have HN : Hid (∀ W, w.grownBy W none → ∀ s a, s < n → a < l → Calls Try.prog 54 #[.int .i64 (s : Nat), .int .i64 (a : Nat), p1, p2, p3] W fun e w' => e = .returned (.int .i64 ((δ s a : Nat) : Int)) ∧ W.grownBy w' none) := hN
  have HM : Hid (∀ W, w.grownBy W none → ∀ s, s < n → Calls Try.prog 63 #[.int .i64 (s : Nat), pM] W fun e w' => e = .returned (.int .i64 (if m s = true then 1 else 0)) ∧ W.grownBy w' none) := hM
  have HD : Hid (∀ s a, s < n → a < l → δ s a < n) := hδ
  clear hN hM hδ
  obtain ⟨W4, hrun4, hA4, hg4⟩ := ofAt_start (w := w) l x0 (by omega)
  have A4 : Hid (OfAt w.heap.size l W4 (.slice (some ⟨w.heap.size + 1 + 1, 0, none⟩) 1 1) (.slice none 0 0) (.slice none 0 0) [x0] [] [] []) := hA4
  have G4 : Hid (w.grownBy W4 none) := hg4
  clear hA4 hg4
  have hmm := @run_makeMap Try.prog
  go_enter Try.func62, Try.ntmps62
  go_wp2_with fail
  clear hrun4
  go_loopw [10, 12] (fun v i wr => ∃ (k : Nat) (xs : List Nat) (aS : Option Addr) (cS : Nat) (aR : Option Addr) (cR : Nat) (aM : Option Addr) (cM : Nat) (rs : List (Value × List Int)), bfsL id δ l x0 k = xs ∧ v = .slice aS xs.length cS ∧ i = .int .i64 k ∧ k ≤ xs.length ∧ (∀ j, j < k → j < (bfsL id δ l x0 j).length) ∧ rs.map (·.2) = partR id δ l x0 k ∧ rs.length = k ∧
    OfAt w.heap.size l wr (.slice aS xs.length cS) (.slice aR k cR) (.slice aM k cM) xs rs (partM id δ m l x0 k) [] ∧ w.grownBy wr none) (fun _ i _ => n - (intOf i).toNat)
  case atStart => exact ⟨0, [x0], _, _, none, 0, none, 0, [], rfl, rfl, rfl, by simp, fun j hj => by omega, by simp [partR], rfl, by simpa [partM] using A4.out, G4.out⟩
  case round =>
    clear A4 G4
    obtain ⟨k, xs, aS, cS, aR, cR, aM, cM, rs, hxs, rfl, rfl, hk, hgo, hrs, hrl, hA, hg⟩ := hrel
    have hnd : xs.length ≤ n := by
      have h1 := bfsL_nodup id δ l x0 k
      rw [hxs] at h1
      exact nodup_le n xs (by simpa using h1) (fun y hy => bfsL_lt id HD.out hx0 k y (by rw [hxs]; exact hy))
    have HXS : Hid (bfsL id δ l x0 k = xs) := hxs
    have HGo : Hid (∀ j, j < k → j < (bfsL id δ l x0 j).length) := hgo
    have HRS : Hid (rs.map (·.2) = partR id δ l x0 k) := hrs
    have HRL : Hid (rs.length = k) := hrl
    have A : Hid (OfAt w.heap.size l wr (.slice aS xs.length cS) (.slice aR k cR) (.slice aM k cM) xs rs (partM id δ m l x0 k) []) := hA
    have G : Hid (w.grownBy wr none) := hg
    clear hxs hgo hrs hrl hA hg
    by_cases hlt : k < xs.length
    · obtain ⟨W5, hmk, hA5, hg5⟩ := A.out.row hl
      have A5 : Hid (OfAt w.heap.size l W5 (.slice aS xs.length cS) (.slice aR k cR) (.slice aM k cM) xs rs (partM id δ m l x0 k) [(3, .slice (some ⟨wr.heap.size, 0, none⟩) l l, vals (List.replicate l 0))]) := hA5
      have G5 : Hid (w.grownBy W5 none) := grown_trans G.out hg5
      have hki : (k : Int) < (xs.length : Int) := by omega
      have hxn : xs.getD k 0 < n := bfsL_lt id HD.out hx0 k _ (by rw [HXS.out]; exact getD_mem hlt)
      clear hA5 hg5 A G
      obtain ⟨x, hx⟩ : ∃ x, xs.getD k 0 = x := ⟨_, rfl⟩
      rw [hx] at hxn
      have HX : Hid (xs.getD k 0 = x) := hx
      clear hx
      go_wp2_with fail
      clear hmk
      generalize wr.heap.size = gr at *
      go_loopw [10, 35] (fun v i wq => ∃ (a : Nat) (ys : List Nat) (aS : Option Addr) (cS : Nat), rowL id δ x a xs = ys ∧ v = .slice aS ys.length cS ∧ i = .int .i64 a ∧ a ≤ l ∧
        OfAt w.heap.size l wq (.slice aS ys.length cS) (.slice aR k cR) (.slice aM k cM) ys rs (partM id δ m l x0 k) [(3, .slice (some ⟨gr, 0, none⟩) l l, vals ((List.range l).map fun b => if b < a then ((ix id ys (δ x b) : Nat) : Int) else 0))] ∧ w.grownBy wq none) (fun _ i _ => l - (intOf i).toNat)
      case atStart =>
        refine ⟨0, xs, aS, cS, rfl, rfl, rfl, by omega, ?_, G5.out⟩
        have e : ((List.range l).map fun b => if b < 0 then ((ix id xs (δ x b) : Nat) : Int) else 0) = List.replicate l 0 := by rw [List.eq_replicate_iff]; simp
        rw [e]
        exact A5.out
      case round =>
        clear A5 G5
        obtain ⟨a, ys, aS, cS, hys, rfl, rfl, ha, hA, hg⟩ := hrel
        obtain ⟨zs, hzs⟩ := rowL_more id δ x a xs
        have hyn : ∀ y, y ∈ ys → y < n := fun y hy => rowL_lt (κ := id) HD.out hxn (fun z hz => bfsL_lt id HD.out hx0 k z (by rw [HXS.out]; exact hz)) ha y (by rw [hys]; exact hy)
        have hynd : ys.length ≤ n := by
          have h1 := bfsL_nodup id δ l x0 k
          rw [HXS.out] at h1
          have h2 := rowL_nodup (κ := id) (δ := δ) (x := x) h1 a
          rw [hys] at h2
          exact nodup_le n ys (by simpa using h2) hyn
        have hky : k < ys.length := by rw [← hys, hzs]; simp; omega
        have hgx : ys.getD k 0 = x := by rw [← hys, hzs, getD_app _ hlt]; exact HX.out
        have HYS : Hid (rowL id δ x a xs = ys) := hys
        have A : Hid (OfAt w.heap.size l wr (.slice aS ys.length cS) (.slice aR k cR) (.slice aM k cM) ys rs (partM id δ m l x0 k) [(3, .slice (some ⟨gr, 0, none⟩) l l, vals ((List.range l).map fun b => if b < a then ((ix id ys (δ x b) : Nat) : Int) else 0))]) := hA
        have G : Hid (w.grownBy wr none) := hg
        obtain ⟨gS, cS', eS, hcS⟩ := A.out.state hky
        rw [hgx] at hcS
        simp only [Value.slice.injEq] at eS
        obtain ⟨rfl, _, rfl⟩ := eS
        clear hys hA hg hgx hzs
        by_cases hal : a < l
        · have hali : (a : Int) < (l : Int) := by omega
          have hkyi : (k : Int) < (ys.length : Int) := by omega
          have hyd : δ x a < n := HD.out x a hxn hal
          go_wp2_with fail
          refine (HN.out _ G.out x a hxn hal).mono ?_
          rintro e w6 ⟨rfl, hg6⟩
          have A6 : Hid (OfAt w.heap.size l w6 (.slice (some ⟨gS, 0, none⟩) ys.length cS) (.slice aR k cR) (.slice aM k cM) ys rs (partM id δ m l x0 k) [(3, .slice (some ⟨gr, 0, none⟩) l l, vals ((List.range l).map fun b => if b < a then ((ix id ys (δ x b) : Nat) : Int) else 0))]) := A.out.kept hg6
          have G6 : Hid (w.grownBy w6 none) := grown_trans G.out hg6
          clear hg6 A G hcS
          obtain ⟨hl1, hl2⟩ := A6.out.num.look (y := δ x a) (by omega) (fun z hz => by have := hyn z hz; omega)
          by_cases hm : δ x a ∈ ys
          · have hrun := hl1 hm
            have hK : hasK id ys (δ x a) := ⟨_, hm, rfl⟩
            have hI := ix_lt hK
            obtain ⟨⟨u, hu⟩, hfz, hA7, hgB⟩ := A6.out.write hal (((ix id ys (δ x a) : Nat) : Int))
            have A7 : Hid (OfAt w.heap.size l (w6.setCell ⟨gr, a, none⟩ (.int .i64 ((ix id ys (δ x a) : Nat) : Int))) (.slice (some ⟨gS, 0, none⟩) ys.length cS) (.slice aR k cR) (.slice aM k cM) ys rs (partM id δ m l x0 k) [(3, .slice (some ⟨gr, 0, none⟩) l l, vals ((List.range l).map fun b => if b < a + 1 then ((ix id ys (δ x b) : Nat) : Int) else 0))]) := by
              show OfAt _ _ _ _ _ _ _ _ _ _
              rw [row_write hal] at hA7
              exact hA7
            have G7 : Hid (w.grownBy (w6.setCell ⟨gr, a, none⟩ (.int .i64 ((ix id ys (δ x a) : Nat) : Int))) none) := grown_new G6.out (grown_set _ _ _) (by simp only; omega)
            have HY1 : Hid (rowL id δ x (a + 1) xs = ys) := by
              show _ = _
              simp only [rowL]
              rw [HYS.out]
              exact ins_old hK
            clear hl1 hl2 hA7 hK A6
            generalize ix id ys (δ x a) = iy at *
            generalize δ x a = y at *
            go_wp2_with fail
            go_roundw
            case rel => exact ⟨a + 1, ys, _, _, HY1.out, rfl, by go_num, by omega, A7.out, G7.out⟩
            case measure => simp [intOf]; omega
          · obtain ⟨c0, hrun⟩ := hl2 hm
            obtain ⟨W7, hup, hN7, hg7⟩ := A6.out.num.put (y := δ x a) (by omega) (fun z hz => by have := hyn z hz; omega) hm (by omega)
            obtain ⟨k1, k2, k3⟩ := A6.out.numbered hN7 hg7
            have K1 : Hid _ := k1
            have K2 : Hid _ := k2
            have K3 : Hid (Owns (w.heap.size + 2) W7 ((3, .slice (some ⟨gS, 0, none⟩) ys.length cS, vals (natInts ys)) :: (23, .slice aR k cR, rs.map (·.1)) :: (3, .slice aM k cM, vals (partM id δ m l x0 k)) :: ([(3, .slice (some ⟨gr, 0, none⟩) l l, vals ((List.range l).map fun b => if b < a then ((ix id ys (δ x b) : Nat) : Int) else 0))] ++ rowItems rs))) := k3
            have N7 : Hid (NumAt W7 (w.heap.size + 3) (ys ++ [δ x a])) := hN7
            have G7 : Hid (w.grownBy W7 none) := grown_new G6.out hg7 (by omega)
            have hO7 : Hid (∀ o, (W7.alloc o).ownsRow (w.heap.size + 2) 3 1 (.slice (some ⟨gS, 0, none⟩) ys.length cS) ys.length (vals (natInts ys))) := fun o => by
              have := (K3.out.kept (grown_alloc W7 o)).row
              simpa using this
            have HS7 : Hid (w.heap.size + 3 < W7.heap.size) := N7.out.block.1
            have HNK : Hid (¬ hasK id ys (δ x a)) := fun ⟨r, hr, e⟩ => hm (by have e2 : r = δ x a := e; rw [← e2]; exact hr)
            have HY1 : Hid (rowL id δ x (a + 1) xs = ys ++ [δ x a]) := by
              show _ = _
              simp only [rowL]
              rw [HYS.out]
              exact ins_new HNK.out
            have HSt : Hid (((List.range l).map fun b => if b < a then ((ix id ys (δ x b) : Nat) : Int) else 0).set a (ys.length : Int) = (List.range l).map fun b => if b < a + 1 then ((ix id (ys ++ [δ x a]) (δ x b) : Nat) : Int) else 0) := by
              show _ = _
              have h1 : ((List.range l).map fun b => if b < a then ((ix id ys (δ x b) : Nat) : Int) else 0) = (List.range l).map fun b => if b < a then ((ix id (ys ++ [δ x a]) (δ x b) : Nat) : Int) else 0 := by
                refine List.map_congr_left fun b _ => ?_
                by_cases hb : b < a
                · rw [if_pos hb, if_pos hb, ix_append (HYS.out ▸ rowL_has id δ x xs hb)]
                · rw [if_neg hb, if_neg hb]
              have h2 : ys.length = ix id (ys ++ [δ x a]) (δ x a) := (ix_last HNK.out).symm
              rw [h1, ← row_write hal, ← h2]
            clear k1 k2 k3 hN7 hg7 hl1 hl2 A6 hm
            generalize hyy : δ x a = y at *
            clear hyy
            obtain ⟨i0, hi, hz0, hz1, hz2⟩ := info_parts Try.info3i
            go_wp2_with (at_builtin; refine wpList_append_lies _ rfl (.tmp 58) (.tmp 60) 23 rfl (w.heap.size + 2) 3 i0 (.int .i64 0) 1 8 Try.underlying23 hi hz0 hz1 hz2 rfl (by decide) (.slice (some ⟨gS, 0, none⟩) ys.length cS) ys.length _ rfl (hO7.out _) ⟨W7.heap.size, 0, none⟩ 1 1 [.int .i64 (y : Int)] rfl rfl (cell_one_new _ _ _) (by intro u hu; simp at hu; subst hu; rfl) (by omega) (by unfold maxLen; omega) (by omega) (by have := HS7.out; simp; omega) (W7.heap.size + 1) (by simp) ?_; intro g cap w8 ho8 hg8 hat8 _; have A8 : Hid (OfAt w.heap.size l w8 (.slice (some ⟨g, 0, none⟩) (ys.length + 1) cap) (.slice aR k cR) (.slice aM k cM) (ys ++ [y]) rs (partM id δ m l x0 k) [(3, .slice (some ⟨gr, 0, none⟩) l l, vals ((List.range l).map fun b => if b < a then ((ix id ys (δ x b) : Nat) : Int) else 0))]) := (OfAt.pushed (((grown_alloc W7 _).block _ (Array.getElem?_eq_some_iff.1 K1.out).1 (by simp)).trans K1.out) (((grown_alloc W7 _).block _ (Array.getElem?_eq_some_iff.1 K2.out).1 (by simp)).trans K2.out) (N7.out.kept (grown_alloc W7 _) (by simp)) (K3.out.kept (grown_alloc W7 _)) ho8 rfl hg8 hat8 (by simp)); have G8 : Hid (w.grownBy w8 none) := (Owns.frame (K3.out.kept (grown_alloc W7 _)) (by omega) (grown_trans G7.out (grown_alloc W7 _)) hg8); clear ho8 hg8 hat8; obtain ⟨⟨u, hu⟩, hfz, hA9, hgB⟩ := A8.out.write hal ((ys.length : Nat) : Int))
            have A9 : Hid (OfAt w.heap.size l (w8.setCell ⟨gr, a, none⟩ (.int .i64 (ys.length : Int))) (.slice (some ⟨g, 0, none⟩) (ys.length + 1) cap) (.slice aR k cR) (.slice aM k cM) (ys ++ [y]) rs (partM id δ m l x0 k) [(3, .slice (some ⟨gr, 0, none⟩) l l, vals ((List.range l).map fun b => if b < a + 1 then ((ix id (ys ++ [y]) (δ x b) : Nat) : Int) else 0))]) := by
              show OfAt _ _ _ _ _ _ _ _ _ _
              rw [HSt.out] at hA9
              exact hA9
            have G9 : Hid (w.grownBy (w8.setCell ⟨gr, a, none⟩ (.int .i64 (ys.length : Int))) none) := grown_new G8.out (grown_set _ _ _) (by simp only; omega)
            clear hA9
            go_roundw
            case rel => exact ⟨a + 1, ys ++ [y], some ⟨g, 0, none⟩, cap, HY1.out, by simp, by go_num, by omega, by simpa using A9.out, G9.out⟩
            case measure => simp [intOf]; omega
        · have hal2 : a = l := by omega
          have HY1 : Hid (bfsL id δ l x0 (k + 1) = ys) := by
            show _ = _
            simp only [bfsL]
            rw [HXS.out, if_pos hlt, HX.out, ← hal2]
            exact HYS.out
          have HRow : Hid (((List.range l).map fun b => if b < a then ((ix id ys (δ x b) : Nat) : Int) else 0) = rowR id δ l ys x) := by
            show _ = _
            unfold rowR
            refine List.map_congr_left fun b hb => ?_
            rw [if_pos (by have := List.mem_range.1 hb; omega)]
          rw [HRow.out] at A
          have hO : Hid (∀ o, (wr.alloc o).ownsRow (w.heap.size + 2) 23 1 (.slice aR k cR) k (rs.map (·.1))) := fun o => by
            have h1 : Owns (w.heap.size + 2) (wr.alloc o) ((23, .slice aR k cR, rs.map (·.1)) :: _) := (A.out.kept (grown_alloc wr o)).own.perm (List.Perm.swap _ _ _)
            have h2 := h1.row
            simpa [HRL.out] using h2
          have hali : ¬ (a : Int) < (l : Int) := by omega
          obtain ⟨d0, d1, d2, d3, dz⟩ := A.out.cells
          have HSz : Hid (w.heap.size + 3 < wr.heap.size) := A.out.lt
          obtain ⟨i0, hi, hz0, hz1, hz2⟩ := info_parts Try.infoS
          have hbnd : k < 3000 := by omega
          clear hcS
          go_wp2_with (at_builtin; refine wpList_append_lies _ rfl (.tmp 68) (.tmp 70) 34 rfl (w.heap.size + 2) 23 i0 (.slice none 0 0) 1 24 Try.underlying34 hi hz0 hz1 hz2 rfl (by decide) (.slice aR k cR) k _ rfl (hO.out _) ⟨wr.heap.size, 0, none⟩ 1 1 [.slice (some ⟨gr, 0, none⟩) l l] rfl rfl (cell_one_new _ _ _) (by intro u hu; simp at hu; subst hu; rfl) (by omega) (by unfold maxLen; omega) (by omega) (by have := HSz.out; simp; omega) (wr.heap.size + 1) (by simp) ?_; intro g cap w8 ho8 hg8 hat8 _; obtain ⟨⟨hc8, hf8⟩, hA9⟩ := (A.out.kept (grown_alloc wr _)).pushR ho8 (by rw [HRL.out]) hg8 hat8 (by simp); have G8 : Hid (w.grownBy w8 none) := (Owns.frame ((A.out.kept (grown_alloc wr _)).own.perm (List.Perm.swap _ _ _)) (by omega) (grown_trans G.out (grown_alloc wr _)) hg8); clear ho8 hg8 hat8)
          obtain ⟨W11, hW11⟩ : ∃ W, W = w8.setCell ⟨w.heap.size + 1, 2, none⟩ (.slice (some ⟨g, 0, none⟩) (k + 1) cap) := ⟨_, rfl⟩
          rw [← hW11]
          rw [← hW11] at hA9
          have G11 : Hid (w.grownBy W11 none) := by rw [hW11]; exact grown_new G8.out (grown_set _ _ _) (by simp only; omega)
          have A11 : Hid (OfAt w.heap.size l W11 (.slice (some ⟨gS, 0, none⟩) ys.length cS) (.slice (some ⟨g, 0, none⟩) (k + 1) cap) (.slice aM k cM) ys (rs ++ [(.slice (some ⟨gr, 0, none⟩) l l, rowR id δ l ys x)]) (partM id δ m l x0 k) []) := hA9
          clear hW11 hA9 hc8 hf8 d0 d1 d2 d3 dz
          have hkyi : (k : Int) < (ys.length : Int) := by omega
          have hk0 : (0 : Int) ≤ (k : Int) := Int.natCast_nonneg _
          obtain ⟨_, _, _, c1, cz⟩ := A11.out.cells
          have cz3 := cz 3
          obtain ⟨gS', cS', eS', c2⟩ := A11.out.state hky
          have egS : gS' = gS := by simp only [Value.slice.injEq, Option.some.injEq, Addr.mk.injEq] at eS'; exact eS'.1.1.symm
          rw [egS] at c2
          have hgx2 : ys.getD k 0 = x := by
            obtain ⟨zs, hzs⟩ := rowL_more id δ x a xs
            rw [← HYS.out, hzs, getD_app _ hlt]; exact HX.out
          rw [hgx2] at c2
          obtain ⟨hap1, hap2⟩ := A11.out.apartSM
          obtain ⟨q, hq⟩ : ∃ q : Int, (if m x = true then (1 : Int) else 0) = q := ⟨_, rfl⟩
          have HQ : Hid ((if m x = true then (1 : Int) else 0) = q) := hq
          have HMx : Hid (∀ W, w.grownBy W none → Calls Try.prog 63 #[.int .i64 (x : Nat), pM] W fun e w' => e = .returned (.int .i64 q) ∧ W.grownBy w' none) := fun W hW => hq ▸ HM.out W hW x hxn
          have HGo2 : Hid (∀ j, j < k + 1 → j < (bfsL id δ l x0 j).length) := fun j hj => by
            by_cases e : j = k
            · subst e; rw [HXS.out]; exact hlt
            · exact HGo.out j (by omega)
          have HRS2 : Hid ((rs ++ [(Value.slice (some ⟨gr, 0, none⟩) l l, rowR id δ l ys x)]).map (·.2) = partR id δ l x0 (k + 1)) := by
            show _ = _
            rw [partR_step (fun j hj => HGo2.out j (by omega)), List.map_append, HRS.out, HY1.out, HXS.out, HX.out]
            rfl
          have HPM : Hid (partM id δ m l x0 (k + 1) = partM id δ m l x0 k ++ [q]) := by
            show _ = _
            rw [partM_step (HGo2.out k (by omega)), HXS.out, HX.out, hq]
          have HRL2 : Hid ((rs ++ [(Value.slice (some ⟨gr, 0, none⟩) l l, rowR id δ l ys x)]).length = k + 1) := by
            show _ = _
            simp [HRL.out]
          clear hq
          clear cz eS' egS hgx2
          obtain ⟨i1, hj, hy0, hy1, hy2⟩ := info_parts Try.info3i
          have HSz2 : Hid (w.heap.size + 3 < W11.heap.size) := A11.out.lt
          have HML : Hid ((partM id δ m l x0 k).length = k) := by
            show _ = _
            simp [partM, HXS.out]; omega
          go_region_law (first
              | (go_simp; go_at_call 63; refine (HMx.out _ (by first | exact G11.out | exact grown_drew G11.out | exact grown_drewN G11.out _)).mono ?_; rintro e w12 ⟨rfl, hg12⟩; have A12 : Hid (OfAt w.heap.size l w12 (.slice (some ⟨gS, 0, none⟩) ys.length cS) (.slice (some ⟨g, 0, none⟩) (k + 1) cap) (.slice aM k cM) ys (rs ++ [(.slice (some ⟨gr, 0, none⟩) l l, rowR id δ l ys x)]) (partM id δ m l x0 k) []) := (A11.out.kept (grown_trans (by first | exact grown_refl _ _ | exact grown_drew (grown_refl _ _) | exact grown_drewN (grown_refl _ _) _) hg12)); have G12 : Hid (w.grownBy w12 none) := (grown_trans G11.out (grown_trans (by first | exact grown_refl _ _ | exact grown_drew (grown_refl _ _) | exact grown_drewN (grown_refl _ _) _) hg12)); have hO12 : Hid (∀ o, (w12.alloc o).ownsRow (w.heap.size + 2) 3 1 (.slice aM k cM) k (vals (partM id δ m l x0 k))) := (fun o => by have h2 := (ofAt_marks (A12.out.kept (grown_alloc w12 o))).row; simpa [HML.out] using h2); have HS12 : Hid (w.heap.size + 3 < w12.heap.size) := A12.out.lt; have c12 : w12.cell? ⟨w.heap.size + 1, 3, none⟩ = some (.slice aM k cM) := (hg12.cell c1 (by simp)); have c12o : ∀ o, (w12.alloc o).cell? ⟨w.heap.size + 1, 3, none⟩ = some (.slice aM k cM) := (fun o => (grown_alloc w12 o).cell c12 (by simp)))
              | (refine step_append_lies _ (by rfl) _ _ _ (by rfl) (w.heap.size + 2) 3 i1 (.int .i64 0) 1 8 Try.underlying23 hj hy0 hy1 hy2 rfl (by decide) (.slice aM k cM) k (vals (partM id δ m l x0 k)) (by rfl) (hO12.out _) ⟨w12.heap.size, 0, none⟩ 1 1 [.int .i64 q] (by rfl) (by rfl) (cell_one_new _ _ _) (by intro u hu; simp at hu; subst hu; rfl) (by omega) (by unfold maxLen; omega) (by omega) (by have := HS12.out; simp; omega) (w12.heap.size + 1) (by simp) ?_; intro g2 cap2 w13 ho13 hg13 hat13 hlt13; obtain ⟨⟨hc13, hf13⟩, hA13⟩ := (A12.out.kept (grown_alloc w12 _)).pushM ho13 (by rw [HML.out]) hg13 hat13 (by simp); have G13 : Hid (w.grownBy w13 none) := (Owns.frame (ofAt_marks (A12.out.kept (grown_alloc w12 _))) (by omega) (grown_trans G12.out (grown_alloc w12 _)) hg13)))
          all_goals
            have A14 : Hid (OfAt w.heap.size l (w13.setCell ⟨w.heap.size + 1, 3, none⟩ (.slice (some ⟨g2, 0, none⟩) (k + 1) cap2)) (.slice (some ⟨gS, 0, none⟩) ys.length cS) (.slice (some ⟨g, 0, none⟩) (k + 1) cap) (.slice (some ⟨g2, 0, none⟩) (k + 1) cap2) ys (rs ++ [(.slice (some ⟨gr, 0, none⟩) l l, rowR id δ l ys x)]) (partM id δ m l x0 (k + 1)) []) := by
              show OfAt _ _ _ _ _ _ _ _ _ _
              rw [HPM.out]
              exact hA13
            have G14 : Hid (w.grownBy (w13.setCell ⟨w.heap.size + 1, 3, none⟩ (.slice (some ⟨g2, 0, none⟩) (k + 1) cap2)) none) := grown_new G13.out (grown_set _ _ _) (by simp only; omega)
            clear hA13 hc13 hf13 ho13 hg13 hat13 c12 c12o c1 c2 cz3 hlt13 hg12
            go_wp2_with fail
            go_roundw
            case rel => exact ⟨k + 1, ys, _, _, _, _, _, _, _, HY1.out, rfl, by go_num, by omega, HGo2.out, HRS2.out, HRL2.out, A14.out, G14.out⟩
            case measure => simp [intOf]; omega
    · have hke : k = xs.length := by omega
      have HEnd : Hid (IsEnd (bfsL id δ l x0) k) := ⟨by rw [HXS.out]; exact hke.symm, HGo.out⟩
      obtain ⟨d0, d1, d2, d3, dz⟩ := A.out.cells
      obtain ⟨r0, r1, r2, r3, rz⟩ := A.out.ress
      have rz0 := rz 0
      have rz1 := rz 1
      have rz2 := rz 2
      have rz3 := rz 3
      obtain ⟨W9, hW9, hg9, q0, q1, q2, q3⟩ := det_store A.out.res (.int .i64 (l : Int)) (.int .i64 0) (.slice aR k cR) (.slice aM k cM)
      have G9 : Hid (w.grownBy W9 none) := grown_new G.out hg9 (Nat.le_refl _)
      have O9 : Hid (Owns w.heap.size W9 ((23, .slice aR k cR, rs.map (·.1)) :: (3, .slice aM k cM, vals (resM m (bfsL id δ l x0 k))) :: rowItems rs)) := by
        have h1 := A.out.own.tail.below hg9 (by omega)
        rw [partM_end HEnd.out] at h1
        exact ⟨fun it hm => ⟨ownsRow_base (h1.1 it hm).1 (by omega), (h1.1 it hm).2⟩, h1.2⟩
      have HRS3 : Hid (rs.map (·.2) = resR id δ l (bfsL id δ l x0 k)) := by
        show _ = _
        rw [HRS.out, partR_end HEnd.out]
      have hki : ¬ (k : Int) < (xs.length : Int) := by omega
      clear hg9 dz rz hke
      go_wp2_with fail
      rw [← hW9]
      exact bodyPost_ret (v := .agg #[.int .i64 (l : Int), .int .i64 0, .slice aR k cR, .slice aM k cM]) (by simp [results, Try.results62, go_sem, q0, q1, q2, q3]) rfl ⟨k, _, _, rs, HEnd.out, by omega, rfl, HRS3.out, O9.out, G9.out⟩

set_option maxHeartbeats 1600000 in
theorem clofL_any (b : Nat) (x : Bool) (s : Nat) (p2 p3 : Value) (W : World) (hb : W.cell? ⟨b, 0, none⟩ = some (.func (.func 55) #[] #[p2, p3])) (hM : Calls Try.prog 55 #[.int .i64 (s : Nat), p2, p3] W fun e w' => e = .returned (.bool x) ∧ W.grownBy w' none) :
    Calls Try.prog 63 #[.int .i64 (s : Nat), .pointer (some ⟨b, 0, none⟩)] W fun e w' => e = .returned (.int .i64 (if x = true then 1 else 0)) ∧ W.grownBy w' none := by
  obtain ⟨q, hq⟩ : ∃ q : Int, (if x = true then (1 : Int) else 0) = q := ⟨_, rfl⟩
  have HB : Hid (∀ W, Calls Try.prog 64 #[.bool x] W fun e w' => e = .returned (.int .i64 q) ∧ w' = W) := fun W => hq ▸ bit_any x W
  have HM : Hid (Calls Try.prog 55 #[.int .i64 (s : Nat), p2, p3] W fun e w' => e = .returned (.bool x) ∧ W.grownBy w' none) := hM
  rw [hq]
  clear hM hq
  go_enter Try.func63, Try.ntmps63
  go_wp2_with fail
  refine HM.out.mono ?_
  rintro e w2 ⟨rfl, hg⟩
  have G : Hid (W.grownBy w2 none) := hg
  clear hg
  go_wp2_with fail
  refine (HB.out _).mono ?_
  rintro e w3 ⟨rfl, rfl⟩
  go_wp2_with fail
  go_ret
  exact ⟨rfl, G.out⟩

set_option maxHeartbeats 3200000 in
theorem ofL_any (l x0 n : Nat) (δ : Nat → Nat → Nat) (m : Nat → Bool) (p1 p2 p3 : Value) (w : World) (hl1 : 1 ≤ l) (hl : l ≤ 4) (hn : n ≤ 3000) (hx0 : x0 < n) (hδ : ∀ s a, s < n → a < l → δ s a < n)
    (hN : ∀ W, w.grownBy W none → ∀ s a, s < n → a < l → Calls Try.prog 54 #[.int .i64 (s : Nat), .int .i64 (a : Nat), p1, p2, p3] W fun e w' => e = .returned (.int .i64 ((δ s a : Nat) : Int)) ∧ W.grownBy w' none)
    (hM : ∀ W, w.grownBy W none → ∀ s, s < n → Calls Try.prog 55 #[.int .i64 (s : Nat), p2, p3] W fun e w' => e = .returned (.bool (m s)) ∧ W.grownBy w' none) :
    Calls Try.prog 50 #[.int .i64 l, .int .i64 x0, .func (.func 54) #[] #[p1, p2, p3], .func (.func 55) #[] #[p2, p3]] w (OfPost l x0 n δ m w) := by
  have HK : Hid (∀ T, Calls Try.prog 62 #[.int .i64 l, .int .i64 x0, .func (.func 54) #[] #[p1, p2, p3], .func (.func 63) #[] #[.pointer (some ⟨w.heap.size, 0, none⟩)]] ((w.alloc (.cells #[.func (.func 55) #[] #[p2, p3]] T)).alloc (.cells #[.int .i64 0, .int .i64 0, .slice none 0 0, .slice none 0 0] 36))
      fun e w3 => ∃ aR nR cR aM nM cM W9, e = .returned (.agg #[.int .i64 l, .int .i64 0, .slice aR nR cR, .slice aM nM cM]) ∧ W9 = (((w3.setCell ⟨w.heap.size + 1, 0, none⟩ (.int .i64 (l : Int))).setCell ⟨w.heap.size + 1, 1, none⟩ (.int .i64 0)).setCell ⟨w.heap.size + 1, 2, none⟩ (.slice aR nR cR)).setCell ⟨w.heap.size + 1, 3, none⟩ (.slice aM nM cM) ∧
      (∀ k v, #[Value.int .i64 0, .int .i64 0, .slice none 0 0, .slice none 0 0][k]? = some v → w3.cell? ⟨w.heap.size + 1, k, none⟩ = some v) ∧ (∀ k, w3.frozen? ⟨w.heap.size + 1, k, none⟩ = false) ∧ W9.cell? ⟨w.heap.size + 1, 0, none⟩ = some (.int .i64 (l : Int)) ∧ W9.cell? ⟨w.heap.size + 1, 1, none⟩ = some (.int .i64 0) ∧ W9.cell? ⟨w.heap.size + 1, 2, none⟩ = some (.slice aR nR cR) ∧ W9.cell? ⟨w.heap.size + 1, 3, none⟩ = some (.slice aM nM cM) ∧ OfPost l x0 n δ m w (.returned (.agg #[.int .i64 l, .int .i64 0, .slice aR nR cR, .slice aM nM cM])) W9) := by
    intro T
    obtain ⟨W2, hW2, g2, s2, b2, bx⟩ := of_boxes w T (.func (.func 55) #[] #[p2, p3])
    rw [← hW2]
    refine (mkofL_any l x0 n δ m p1 p2 p3 (.pointer (some ⟨w.heap.size, 0, none⟩)) W2 hl1 hl hn hx0 hδ (fun W hW => hN W (grown_trans g2 hW)) (fun W hW s hs => clofL_any w.heap.size (m s) s p2 p3 W (bx W hW) (hM W (grown_trans g2 hW) s hs))).mono ?_
    rintro e w3 ⟨k, vR, vM, rs, h1, h2, rfl, h4, h5, h6⟩
    obtain ⟨aR, nR, cR, eR⟩ := owns_slice h5 (List.mem_cons_self ..)
    obtain ⟨aM, nM, cM, eM⟩ := owns_slice h5 (List.mem_cons_of_mem _ (List.mem_cons_self ..))
    simp only at eR eM
    subst eR eM
    have hb3 : w3.heap[w.heap.size + 1]? = some (.cells #[.int .i64 0, .int .i64 0, .slice none 0 0, .slice none 0 0] 36 (0, 0)) := (h6.block _ (by omega) (by simp)).trans b2
    obtain ⟨W9, hW9, hg9, q0, q1, q2, q3⟩ := det_store hb3 (.int .i64 (l : Int)) (.int .i64 0) (.slice aR nR cR) (.slice aM nM cM)
    have h7 := h5.below hg9 (by omega)
    exact ⟨aR, nR, cR, aM, nM, cM, W9, rfl, hW9, fun k v hv => by rw [cell_of_row _ _ k _ _ (0, 0) hb3]; exact hv, fun k => frozen_of_row _ _ k _ _ hb3, q0, q1, q2, q3, k, _, _, rs, h1, h2, rfl, h4, ⟨fun it hm => ⟨ownsRow_base (h7.1 it hm).1 (by omega), (h7.1 it hm).2⟩, h7.2⟩, grown_new (grown_trans g2 h6) hg9 (by omega)⟩
  clear hN hM
  go_enter Try.func50, Try.ntmps50
  go_wp2_with fail
  refine (HK.out _).mono ?_
  rintro e w3 ⟨aR, nR, cR, aM, nM, cM, W9, rfl, hW9, hc, hf, q0, q1, q2, q3, hp⟩
  have c0 := hc 0 _ rfl
  have c1 := hc 1 _ rfl
  have c2 := hc 2 _ rfl
  have c3 := hc 3 _ rfl
  have f0 := hf 0
  have f1 := hf 1
  have f2 := hf 2
  have f3 := hf 3
  have HP : Hid _ := hp
  clear hc hf hp HK
  go_wp2_with fail
  rw [← hW9]
  exact bodyPost_ret (v := .agg #[.int .i64 (l : Int), .int .i64 0, .slice aR nR cR, .slice aM nM cM]) (by simp [results, Try.results50, go_sem, q0, q1, q2, q3]) rfl HP.out

end Go.Proofs.Ytcgkflddipflbaa
