/- The reference's Bars: the ways bar all. -/
import Derived.Test.YtnlkdihfoekjmaaGwBrsD
namespace Go.Proofs.Ytnlkdihfoekjmaa
open Go.RowKit
set_option linter.unusedVariables false
set_option linter.unusedSimpArgs false
attribute [local go_sem ↓] app_fold

theorem wayW_01 (x : Trs) (N : Nat) (V : Nat → Int) (i : Nat) : (wayW x N V i = 1 ∧ btW x N V i = rgW x i) ∨ (wayW x N V i = 0 ∧ btW x N V i = lfW x i) := by
  unfold wayW btW
  by_cases h : V (N + i) = (rgW x i : Int)
  · rw [if_pos h, if_pos h]; exact .inl ⟨rfl, rfl⟩
  · rw [if_neg h, if_neg h]; exact .inr ⟨rfl, rfl⟩
theorem box4_newB (w : World) (v0 v1 v2 v3 : Value) (t : TypeId) : ∃ W, W = w.alloc (.cells #[v0, v1, v2, v3] t) ∧ w.grownBy W none ∧ W.heap.size = w.heap.size + 1 ∧ ∀ W', W.grownBy W' none → W'.cell? ⟨w.heap.size, 0, none⟩ = some v0 ∧ W'.cell? ⟨w.heap.size, 1, none⟩ = some v1 ∧ W'.cell? ⟨w.heap.size, 2, none⟩ = some v2 ∧ W'.cell? ⟨w.heap.size, 3, none⟩ = some v3 := by
  refine ⟨_, rfl, grown_alloc _ _, by simp, fun W' h => ?_⟩
  have hb := heap_alloc_new w (.cells #[v0, v1, v2, v3] t)
  have hc : ∀ k v, #[v0, v1, v2, v3][k]? = some v → W'.cell? ⟨w.heap.size, k, none⟩ = some v := fun k v hv => h.cell (by rw [cell_of_row _ _ k _ _ (0, 0) hb]; exact hv) (by simp)
  exact ⟨hc 0 _ rfl, hc 1 _ rfl, hc 2 _ rfl, hc 3 _ rfl⟩

set_option maxHeartbeats 25600000 in
set_option maxRecDepth 100000 in
theorem barsR_any (x : Trs) (b e : Option Addr) (d f N g : Nat) (W M : Nat → Int) (w : World) (h : TrsAt w x b e) (hG : GoodW x) (hN : x.N = N) (hs : GwS x N W M) (hW1 : W x.S.toNat = 1) (hw : IRow w g x.R.length x.R.length (wayW x N (mvW x N W M))) :
    Calls Try.prog 10 #[trsV x.L x.N b x.R.length d x.S e x.M.length f, .slice (some ⟨g, 0, none⟩) x.R.length x.R.length] w (Says (.bool true) w) := by
  have h6 := hG.n6
  have hn1 := hG.n1
  have hr6 := hG.r6
  have hst := hG.st
  have hm := hG.m
  have HG : Hid (GoodW x) := hG
  have HNx : Hid (x.N = N) := hN
  have HS : Hid (GwS x N W M) := hs
  obtain ⟨BM, OM, rfl, kM⟩ := h.marks.at (k := 0) (by omega)
  have CM : Hid (∀ V, w.grownBy V none → ∀ p, p < x.M.length → V.cell? ⟨BM, OM + p, none⟩ = some (.int .i64 (x.M.getD p 0))) := fun V hV p hp => hV.cell (kM p hp) (by simp)
  have HR : Hid (∀ V, w.grownBy V none → RulesAt V b x.R) := fun V hV => (h.grown hV).rules
  have HWy : Hid (∀ V, w.grownBy V none → IRow V g x.R.length x.R.length (wayW x N (mvW x N W M))) := fun V hV => hw.kept hV
  rw [hN] at h6 hn1 hst hm ⊢
  have hnM : x.M.length = N := by omega
  have HnM : Hid (x.M.length = N) := hnM
  rw [hnM]
  obtain ⟨s0, hs0⟩ : ∃ s0 : Nat, x.S = s0 := ⟨x.S.toNat, by omega⟩
  have hsN : s0 < N := by omega
  have HW1 : Hid (W s0 = 1) := by have e : x.S.toNat = s0 := by omega
                                  show _ = _; rw [← e]; exact hW1
  rw [hs0]
  obtain ⟨nR, hnR⟩ : ∃ nR, x.R.length = nR := ⟨_, rfl⟩
  have HnR : Hid (x.R.length = nR) := hnR
  rw [hnR] at hr6 HWy ⊢
  obtain ⟨Wb, hWb, gb, sb, bx⟩ := box5_new w (.int .i64 x.L) (.int .i64 (N : Int)) (.slice b nR d) (.int .i64 (s0 : Int)) (.slice (some ⟨BM, OM, none⟩) N f) 25
  have BX : Hid (∀ V, Wb.grownBy V none → V.cell? ⟨w.heap.size, 0, none⟩ = some (.int .i64 x.L) ∧ V.cell? ⟨w.heap.size, 1, none⟩ = some (.int .i64 (N : Int)) ∧ V.cell? ⟨w.heap.size, 2, none⟩ = some (.slice b nR d) ∧ V.cell? ⟨w.heap.size, 3, none⟩ = some (.int .i64 (s0 : Int)) ∧ V.cell? ⟨w.heap.size, 4, none⟩ = some (.slice (some ⟨BM, OM, none⟩) N f)) := bx
  have GW : Hid (w.grownBy Wb none) := gb
  have HWb : Hid (Wb = _) := hWb
  have hmk := make_rows Wb N (by omega)
  have D0 := nx_start Wb N (by omega)
  obtain ⟨Wd, hWd⟩ : ∃ Wd, Wd = Wb.alloc (.cells (Array.replicate N (Value.slice none 0 0)) 23) := ⟨_, rfl⟩
  rw [← hWd] at hmk D0
  have NX0 : Hid (NxB Wb Wb.heap.size Wb.heap.size N (List.replicate N (nilV, [])) Wd) := D0
  have NR0 : Hid ((List.replicate N ((nilV, []) : Value × List Nat)).map (·.2) = lstW (bnK x N (mvW x N W M) 0) N) := by
    show _ = _
    apply List.ext_getElem (by simp [lstW])
    intro i h1 h2
    simp [lstW, bnK_zero]
  have dl : ((nR : Int) != (nR : Int)) = false := by simp
  obtain ⟨x0, x1, x2, x3, x4⟩ := BX.out Wb (grown_refl _ _)
  generalize hgn : Wb.heap.size = gn at *
  rw [hWb] at x0 x1 x2 x3 x4 hmk
  clear h hG hN hs hW1 hw kM hm hst hnM hs0 hnR hWb gb sb bx D0 hWd
  generalize hk0 : w.heap.size = k0 at *
  go_enter Try.func10, Try.ntmps10
  go_wp2_with fail
  clear x0 x1 x2 x3 x4 hmk dl
  go_loopw [6] (fun v wr => ∃ (k : Nat) (rs : List (Value × List Nat)), v = .int .i64 k ∧ k ≤ nR ∧ NxB Wb gn gn N rs wr ∧ rs.map (·.2) = lstW (bnK x N (mvW x N W M) k) N) (fun v _ => nR - (intOf v).toNat)
  case atStart => exact ⟨0, _, rfl, by omega, NX0.out, NR0.out⟩
  case round =>
    clear NX0 NR0
    obtain ⟨k, rs, rfl, hk, hnx, hrs⟩ := hrel
    have NX : Hid (NxB Wb gn gn N rs wr) := hnx
    have HRs : Hid (rs.map (·.2) = lstW (bnK x N (mvW x N W M) k) N) := hrs
    clear hnx hrs
    by_cases hkR : k < nR
    · have hki : (k : Int) < (nR : Int) := by omega
      have hkR' : k < x.R.length := by rw [HnR.out]; exact hkR
      have GWr : Hid (w.grownBy wr none) := grown_trans GW.out NX.out.gr
      obtain ⟨bb, off, rfl, hc⟩ := (HR.out wr GWr.out).at hkR'
      obtain ⟨r0, r1, r2, r3⟩ := hc k hkR'
      obtain ⟨f1, f2, f3, f4, f5, f6⟩ := HG.out.rule HNx.out hkR'
      rw [f4] at r3
      rw [f5] at r1
      rw [f6] at r2
      obtain ⟨Wr, hWr, gr, sr, bxr⟩ := box4_newB wr (.int .i64 (x.R.getD k ru0).1) (.int .i64 (lfW x k : Int)) (.int .i64 (rgW x k : Int)) (.int .i64 (toW x k : Int)) 47
      have BXr : Hid (∀ V, Wr.grownBy V none → V.cell? ⟨wr.heap.size, 0, none⟩ = some (.int .i64 (x.R.getD k ru0).1) ∧ V.cell? ⟨wr.heap.size, 1, none⟩ = some (.int .i64 (lfW x k : Int)) ∧ V.cell? ⟨wr.heap.size, 2, none⟩ = some (.int .i64 (rgW x k : Int)) ∧ V.cell? ⟨wr.heap.size, 3, none⟩ = some (.int .i64 (toW x k : Int))) := bxr
      have HWr : Hid (Wr = _) := hWr
      have GR : Hid (Wb.grownBy Wr none) := grown_trans NX.out.gr gr
      have NXr := NX.out.kept gr
      obtain ⟨q1, q2, q3⟩ := one_drew Wr (.int .i64 (btW x N (mvW x N W M) k : Int)) 3
      obtain ⟨av, cv, g5, c5, w5, cr, run5, y5, z5, kr5, rs5, NX5, HR5⟩ := NXr.push HRs.out rfl f1 (by omega) q1 NXr.lz q2 q3
      have hbr := heap_alloc_new wr (.cells #[.int .i64 (x.R.getD k ru0).1, .int .i64 (lfW x k : Int), .int .i64 (rgW x k : Int), .int .i64 (toW x k : Int)] 47)
      rw [← hWr] at hbr
      have t5 : w5.cell? ⟨wr.heap.size, 3, none⟩ = some (.int .i64 (toW x k : Int)) := by
        rw [cell_of_row _ _ 3 _ _ (0, 0) (kr5 _ _ (KpRu.of q1 _ _ hbr))]; rfl
      have NX6 : Hid _ := NX5
      have HR6 : Hid _ := HR5
      have ci : Wr.cell? ⟨g, k, none⟩ = some (.int .i64 (wayW x N (mvW x N W M) k)) := (HWy.out Wr (grown_trans GW.out GR.out)).cell (i := k) hkR
      rw [hWr] at ci
      obtain ⟨x0, x1, x2, x3, x4⟩ := BX.out wr NX.out.gr
      obtain ⟨t0, t1, t2, t3⟩ := bxr Wr (grown_refl _ _)
      have t3' := fun ob => (grown_alloc Wr ob).cell t3 (by simp)
      have cr' := fun ob => (grown_alloc Wr ob).cell cr (by simp)
      have htn : ((toW x k : Nat) : Int) < (N : Int) := by omega
      obtain ⟨ln, hln⟩ : ∃ ln, (bnK x N (mvW x N W M) k (toW x k)).length = ln := ⟨_, rfl⟩
      rw [hln] at cr cr' run5 y5 NX6
      have HW01 := wayW_01 x N (mvW x N W M) k
      generalize (x.R.getD k ru0).1 = lt at *
      generalize btW x N (mvW x N W M) k = to' at *
      generalize wayW x N (mvW x N W M) k = wy at *
      generalize lfW x k = lf at *
      generalize rgW x k = rg at *
      generalize toW x k = tq at *
      clear hc f1 f2 f3 f4 f5 f6 q1 q2 q3 NXr NX5 HR5 hWr gr sr bxr hln hbr kr5
      rcases HW01 with ⟨hw1, ht1⟩ | ⟨hw0, ht0⟩
      · have e1 : (wy != 0) = true := by rw [hw1]; rfl
        have e2 : (wy != 1) = false := by rw [hw1]; rfl
        have e3 : (wy == 1) = true := by rw [hw1]; rfl
        subst ht1
        clear hw1
        go_wp2_with fail
        rw [← HWr.out]
        clear r0 r1 r2 r3 x0 x1 x2 x3 x4
        go_region
        all_goals
          go_wp2_with fail
          go_roundw
          case rel => exact ⟨k + 1, rs5, by go_num, by omega, NX6.out, HR6.out⟩
          case measure => simp [intOf]; omega
      · have e1 : (wy != 0) = false := by rw [hw0]; rfl
        have e3 : (wy == 1) = false := by rw [hw0]; rfl
        subst ht0
        clear hw0
        go_wp2_with fail
        rw [← HWr.out]
        clear r0 r1 r2 r3 x0 x1 x2 x3 x4
        go_region
        all_goals
          go_wp2_with fail
          go_roundw
          case rel => exact ⟨k + 1, rs5, by go_num, by omega, NX6.out, HR6.out⟩
          case measure => simp [intOf]; omega
    · have hki : ¬ (k : Int) < (nR : Int) := by omega
      have hke : k = nR := by omega
      have hr2 := HRs.out
      rw [hke, ← HnR.out] at hr2
      obtain ⟨xa, xd, hxx⟩ := NX.out.rows hr2
      have NXR : Hid (∀ V, wr.grownBy V none → ∀ p, p < N → V.cell? ⟨gn, 0 + p, none⟩ = some (.slice (xa p) (bnW x N (mvW x N W M) p).length (xd p)) ∧ NatsAt V (xa p) (bnW x N (mvW x N W M) p)) := hxx
      have GWr : Hid (Wb.grownBy wr none) := NX.out.gr
      have HLn : Hid (∀ p, (bnW x N (mvW x N W M) p).length ≤ 100) := fun p => by have := bnK_len x N (mvW x N W M) x.R.length p; have e := HnR.out; show (bnK x N (mvW x N W M) x.R.length p).length ≤ 100; omega
      obtain ⟨x0, x1, x2, x3, x4⟩ := BX.out wr GWr.out
      obtain ⟨Wi, hmk, ri, gi, si⟩ := bools40 wr N (by omega)
      obtain ⟨y0, y1, y2, y3, y4⟩ := BX.out Wi (grown_trans GWr.out gi)
      have ci := ri.cell hsN
      have fi := ri.frozen s0
      obtain ⟨Wj, hWj⟩ : ∃ Wj, Wj = Wi.setCell ⟨wr.heap.size, s0, none⟩ (.bool true) := ⟨_, rfl⟩
      have gj : wr.grownBy Wj none := by rw [hWj]; exact grown_new gi (grown_set _ _ _) (Nat.le_refl _)
      have rj : BRow Wj wr.heap.size N N (fun q => if q = s0 then true else false) := by rw [hWj]; exact ri.put hsN (by simp) (fun j hj => by simp [hj])
      have sj : Wj.heap.size = wr.heap.size + 1 := by rw [hWj]; simpa [World.setCell] using si
      have o1 := (Owns.no Wj.heap.size Wj).made (arr := #[.int .i64 (s0 : Int)]) (n := 1) (Nat.le_refl _) 3 rfl (by unfold maxLen; omega)
      have sij : Wj.heap.size = Wi.heap.size := by omega
      rw [sij] at o1
      have OD : Hid (OdAt N Wi.heap.size wr.heap.size wr (Wj.alloc (.cells #[.int .i64 (s0 : Int)] 3)) (some ⟨Wi.heap.size, 0, none⟩) 1 1 [s0] (fun q => if q = s0 then true else false)) := ⟨by simpa [nvals] using o1, rj.alloc _, grown_trans gj (grown_alloc _ _), by omega, Nat.le_refl _, by rw [World.size_alloc]; omega⟩
      have BD : Hid (BdRow N W [s0] (fun q => if q = s0 then true else false)) := BdRow.start hsN HW1.out
      obtain ⟨v0, v1, v2, v3, v4⟩ := BX.out Wj (grown_trans GWr.out gj)
      have HWj : Hid (Wj = _) := hWj
      rw [hWj] at v0 v1 v2 v3 v4
      have hsi : (s0 : Int) < (N : Int) := by omega
      obtain ⟨B, hB⟩ : ∃ B, Wi.heap.size = B := ⟨_, rfl⟩
      clear hke hr2 hxx NX HRs hkR ri gi si gj rj sj o1 sij hWj hk
      go_wp2_with fail
      rw [← HWj.out]
      rw [hB] at OD
      clear x0 x1 x2 x3 x4 y0 y1 y2 y3 y4 v0 v1 v2 v3 v4 ci fi hmk
      generalize hgi : wr.heap.size = gi at *
      clear hB HWj
      go_loopw [10, 11] (fun u v wk => ∃ (i m : Nat) (a : Option Addr) (ca : Nat) (row : List Nat) (seen : Nat → Bool), u = .slice a m ca ∧ v = .int .i64 i ∧ i ≤ m ∧ m = row.length ∧ OdAt N B gi wr wk a m ca row seen ∧ BdRow N W row seen) (fun u v _ => N - (intOf v).toNat)
      case atStart => exact ⟨0, 1, _, 1, [s0], _, rfl, rfl, by omega, rfl, OD.out, BD.out⟩
      case round =>
        rename World => wk
        clear OD BD
        obtain ⟨i, m, a, ca, row, seen, rfl, rfl, him0, hm, hod, hbd⟩ := hrel
        have OD : Hid (OdAt N B gi wr wk a m ca row seen) := hod
        have BD : Hid (BdRow N W row seen) := hbd
        have HM : Hid (m = row.length) := hm
        have hmn : m ≤ N := by have := hbd.len; omega
        clear hod hbd hm
        by_cases him : i < m
        · have hii : (i : Int) < (m : Int) := by omega
          have hil : i < row.length := by rw [← HM.out]; exact him
          obtain ⟨br, rfl, hcr⟩ := OD.out.rowC hil
          have hxm : row.getD i 0 ∈ row := getD_memW hil
          obtain ⟨s, hs⟩ : ∃ s, row.getD i 0 = s := ⟨_, rfl⟩
          rw [hs] at hcr hxm
          obtain ⟨hsx, hsW⟩ := BD.out.lt s hxm
          have hxi : (s : Int) < (N : Int) := by omega
          obtain ⟨h7, _⟩ := NXR.out wk OD.out.gr s hsx
          rw [Nat.zero_add] at h7
          have HXN : Hid (∀ V, wr.grownBy V none → NatsAt V (xa s) (bnW x N (mvW x N W M) s)) := fun V hV => (NXR.out V hV s hsx).2
          have HXl : Hid (∀ q, q ∈ bnW x N (mvW x N W M) s → q < N ∧ W q = 1) := fun q hq => bd_step HG.out HNx.out HS.out hsx hsW hq
          have hl100 := HLn.out s
          generalize bnW x N (mvW x N W M) s = l at *
          obtain ⟨ln, hln⟩ : ∃ ln, l.length = ln := ⟨_, rfl⟩
          have HLl : Hid (l.length = ln) := hln
          rw [hln] at h7 hl100
          generalize xa s = xax at *
          clear hs hln hxm hsW
          go_wp2_with fail
          clear h7 hcr
          go_loopw [10, 13] (fun u v wk => ∃ (t m : Nat) (a : Option Addr) (ca : Nat) (row : List Nat) (seen : Nat → Bool), u = .slice a m ca ∧ v = .int .i64 t ∧ t ≤ ln ∧ m = row.length ∧ i < m ∧ OdAt N B gi wr wk a m ca row seen ∧ BdRow N W row seen) (fun _ v _ => ln - (intOf v).toNat)
          case atStart => exact ⟨0, m, _, ca, row, seen, rfl, rfl, by omega, HM.out, him, OD.out, BD.out⟩
          case round =>
            clear OD BD HM him hii hil hmn him0
            rename World => wk
            obtain ⟨t, m, a, ca, row, seen, rfl, rfl, ht, hm, him, hod, hbd⟩ := hrel
            have OD : Hid (OdAt N B gi wr wk a m ca row seen) := hod
            have BD : Hid (BdRow N W row seen) := hbd
            have HM : Hid (m = row.length) := hm
            have hmn : m ≤ N := by have := hbd.len; omega
            clear hod hbd hm
            by_cases htl : t < ln
            · have hti : (t : Int) < (ln : Int) := by omega
              have htl' : t < l.length := by rw [HLl.out]; exact htl
              obtain ⟨b5, o5, rfl, hc5⟩ := (HXN.out wk OD.out.gr).at htl'
              have h5 := hc5 t htl'
              have hqm := getD_memW htl'
              obtain ⟨q, hq⟩ : ∃ q, l.getD t 0 = q := ⟨_, rfl⟩
              rw [hq] at h5 hqm
              obtain ⟨hqn, hqW⟩ := HXl.out q hqm
              have hqi : (q : Int) < (N : Int) := by omega
              have c4 := OD.out.sn.cell hqn
              have f4 := OD.out.sn.frozen q
              have HQW : Hid (W q = 1) := hqW
              clear hc5 hq hqm hqW
              cases hsq : seen q with
              | true =>
                rw [hsq] at c4
                clear hsq
                go_wp2_with fail
                go_roundw
                case rel => exact ⟨t + 1, m, a, ca, row, seen, rfl, by go_num, by omega, HM.out, him, OD.out, BD.out⟩
                case measure => simp [intOf]; omega
              | false =>
                rw [hsq] at c4
                have BD2 : Hid (BdRow N W (row ++ [q]) (fun z => if z = q then true else seen z)) := BD.out.put hqn HQW.out hsq
                clear hsq
                have D3 : Hid (OdAt N B gi wr (wk.setCell ⟨gi, q, none⟩ (.bool true)) a m ca row (fun z => if z = q then true else seen z)) := OD.out.put hqn (by simp) (fun z hz => by simp [hz])
                have h5' := (((OD.out.put hqn (seen' := fun z => if z = q then true else seen z) (by simp) (fun z hz => by simp [hz])).gr))
                have h6' : (wk.setCell ⟨gi, q, none⟩ (.bool true)).cell? ⟨b5, o5 + t, none⟩ = some (.int .i64 (q : Int)) := by
                  obtain ⟨b6, o6, e6, hc6⟩ := (HXN.out _ h5').at htl'
                  cases e6
                  have h7 := hc6 t htl'
                  have h8 := (HXN.out wk OD.out.gr).at htl'
                  obtain ⟨b8, o8, e8, hc8⟩ := h8
                  cases e8
                  have h9 := hc8 t htl'
                  rw [h5] at h9
                  rw [h7, h9]
                have hs2 : (wk.setCell ⟨gi, q, none⟩ (.bool true)).heap.size = wk.heap.size := by simp [World.setCell]
                obtain ⟨q1, q2, q3⟩ := one_cell (wk.setCell ⟨gi, q, none⟩ (.bool true)) (.int .i64 (q : Int)) 3
                rw [hs2] at q2 q3
                have D4 := D3.out.kept q1
                have hr4 := D4.own.row
                rw [nvals_len, ← HM.out] at hr4
                rw [nvals_map] at hr4
                obtain ⟨g5, c5, w5, run5, ho5, hg5, hat5⟩ := run_push _ B wk.heap.size m (.slice a m ca) (row.map (fun (n : Nat) => (n : Int))) (q : Int) hr4 (by omega) (by rw [List.length_map, ← HM.out]) q2 (by have := OD.out.l3; exact this) q3
                rw [← nvals_map] at ho5
                have D5 : Hid (OdAt N B gi wr w5 (some ⟨g5, 0, none⟩) (m + 1) c5 (row ++ [q]) (fun z => if z = q then true else seen z)) := D4.push HM.out ho5 hg5 hat5 q2
                clear D3 D4 h5' hs2 q1 q2 q3 hr4 ho5 hg5 hat5 OD BD
                go_wp2_with fail
                go_roundw
                case rel => exact ⟨t + 1, m + 1, _, c5, row ++ [q], _, rfl, by go_num, by omega, by rw [List.length_append, ← HM.out]; rfl, by omega, D5.out, BD2.out⟩
                case measure => simp [intOf]; omega
            · have hti : ¬ (t : Int) < (ln : Int) := by omega
              go_wp2_with fail
              go_roundw
              case rel => exact ⟨i + 1, m, a, ca, row, seen, rfl, by go_num, by omega, HM.out, OD.out, BD.out⟩
              case measure => simp [intOf]; omega
        · have hii : ¬ (i : Int) < (m : Int) := by omega
          obtain ⟨y0, y1, y2, y3, y4⟩ := BX.out wk (grown_trans GWr.out OD.out.gr)
          have gwk : w.grownBy wk none := grown_trans GW.out (grown_trans GWr.out OD.out.gr)
          have CO : Hid (Calls Try.prog 20 #[.slice (some ⟨BM, OM, none⟩) N f, .slice (some ⟨gn, 0, none⟩) N N, .slice (some ⟨gi, 0, none⟩) N N, .int .i64 1] wk (Says (.bool false) wk)) := by
            refine odd_any N (fun p => x.M.getD p 0) (bnW x N (mvW x N W M)) (fun q => decide (q ∈ row)) BM OM f gn 0 N gi xa xd 1 wk ⟨fun p hp => CM.out wk gwk p (by rw [HnM.out]; exact hp), fun p hp => NXR.out wk OD.out.gr p hp, OD.out.sn.congr (fun q hq => by rw [BD.out.sn q hq])⟩ (by omega) (fun q hq => HG.out.mks q (by rw [HnM.out]; exact hq)) (fun q hq z hz => ?_) (fun q hq => HLn.out q) (fun p hp hin hpm => ?_)
            · obtain ⟨i, hi, rfl⟩ := List.mem_map.1 hz
              exact bar_lt HG.out HNx.out _ (mem_rlW.1 hi).1
            · exact bar_odd HG.out HNx.out HS.out (inn := fun q => decide (q ∈ row)) (fun s hs => BD.out.lt s (by simpa using hs)) hin hpm
          have GF : Hid (w.grownBy wk none) := gwk
          clear gwk OD BD HM
          go_wp2_with fail
          refine CO.out.mono ?_
          rintro E w8 ⟨rfl, hg8⟩
          have GF8 : Hid (w.grownBy w8 none) := grown_trans GF.out hg8
          clear hg8
          go_wp2_with fail
          go_ret
          exact ⟨rfl, GF8.out⟩

end Go.Proofs.Ytnlkdihfoekjmaa
