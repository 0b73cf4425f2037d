/- det.Marked and det.Of over pairs: what comes out is the automaton whose states are numbered as they are come to. -/
import Derived.Test.YtkkmdcnbifepjaaDoorBOfS
import Derived.BigRegion
import Derived.Deep.RegionWith
import Derived.Deep.RegionLaw
import Derived.Deep.RegionHeld3
import Derived.Deep.CutRange
import Derived.Deep.DeepCutAuto
namespace Go.Proofs.YtkkmdcnbifepjaaDoor
open Go.RowKit
set_option linter.unusedVariables false
attribute [local go_sem ↓] app_fold

set_option maxHeartbeats 6400000 in
set_option maxRecDepth 100000 in
theorem mkofB_any (l x0 n kb : Nat) (δ : Nat → Nat → Nat) (m : Nat → Bool) (p1 p2 pM : Value) (w : World) (hl1 : 1 ≤ l) (hl : l ≤ 4) (hn : n ≤ 3000) (hx0 : x0 < n) (hδ : ∀ s a, s < n → a < l → δ s a < n)
    (hN : ∀ W, w.grownBy W none → ∀ s a, s < n → a < l → Calls Tryd.prog 48 #[pvl kb s, .int .i64 (a : Nat), p1, p2] W fun e w' => e = .returned (pvl kb (δ s a)) ∧ W.grownBy w' none)
    (hM : ∀ W, w.grownBy W none → ∀ s, s < n → Calls Tryd.prog 66 #[pvl kb s, pM] W fun e w' => e = .returned (.int .i64 (if m s = true then 1 else 0)) ∧ W.grownBy w' none) :
    Calls Tryd.prog 65 #[.int .i64 l, pvl kb x0, .func (.func 48) #[] #[p1, p2], .func (.func 66) #[] #[pM]] w (OfPost l x0 n δ m w) := by
  have HN : Hid (∀ W, w.grownBy W none → ∀ s a, s < n → a < l → Calls Tryd.prog 48 #[pvl kb s, .int .i64 (a : Nat), p1, p2] W fun e w' => e = .returned (pvl kb (δ s a)) ∧ W.grownBy w' none) := hN
  have HM : Hid (∀ W, w.grownBy W none → ∀ s, s < n → Calls Tryd.prog 66 #[pvl kb s, pM] W fun e w' => e = .returned (.int .i64 (if m s = true then 1 else 0)) ∧ W.grownBy w' none) := hM
  have HD : Hid (∀ s a, s < n → a < l → δ s a < n) := hδ
  clear hN hM hδ
  have hmm := @run_makeMap Tryd.prog
  go_enter Tryd.func65, Tryd.ntmps65
  go_wp2_with fail
  obtain ⟨W0, hW0⟩ : ∃ W0, W0 = ((w.alloc (.cells #[.int .i64 ((pxx kb x0 : Nat) : Int), .int .i64 ((pyy kb x0 : Nat) : Int)] 103)).alloc (.cells #[.int .i64 0, .int .i64 0, .slice none 0 0, .slice none 0 0] 25)).alloc (.cells #[.int .i64 (l : Int), .int .i64 0, .slice none 0 0, .slice none 0 0] 25) := ⟨_, rfl⟩
  rw [← hW0]
  have hs0 : W0.heap.size = w.heap.size + 1 + 2 := by rw [hW0]; simp
  have g0 : w.grownBy W0 none := by rw [hW0]; exact grown_trans (grown_trans (grown_alloc _ _) (grown_alloc _ _)) (grown_alloc _ _)
  have gb1 : (w.alloc (.cells #[.int .i64 ((pxx kb x0 : Nat) : Int), .int .i64 ((pyy kb x0 : Nat) : Int)] 103)).grownBy W0 none := by rw [hW0]; exact grown_trans (grown_alloc _ _) (grown_alloc _ _)
  have hb0 := (gb1.block _ (by simp) (by simp)).trans (heap_alloc_new w (.cells #[.int .i64 ((pxx kb x0 : Nat) : Int), .int .i64 ((pyy kb x0 : Nat) : Int)] 103))
  have c0 : W0.cell? ⟨w.heap.size, 0, none⟩ = some (.int .i64 ((pxx kb x0 : Nat) : Int)) := by rw [cell_of_row _ _ _ _ _ (0, 0) hb0]; rfl
  have c1 : W0.cell? ⟨w.heap.size, 1, none⟩ = some (.int .i64 ((pyy kb x0 : Nat) : Int)) := by rw [cell_of_row _ _ _ _ _ (0, 0) hb0]; rfl
  have hres0 : W0.heap[w.heap.size + 1]? = some (.cells #[.int .i64 0, .int .i64 0, .slice none 0 0, .slice none 0 0] 25 (0, 0)) := by
    have h1 := heap_alloc_new (w.alloc (.cells #[.int .i64 ((pxx kb x0 : Nat) : Int), .int .i64 ((pyy kb x0 : Nat) : Int)] 103)) (.cells #[.int .i64 0, .int .i64 0, .slice none 0 0, .slice none 0 0] 25)
    rw [World.size_alloc] at h1
    rw [hW0]
    exact ((grown_alloc _ _).block _ (by simp) (by simp)).trans h1
  have hdet0 : W0.heap[w.heap.size + 1 + 1]? = some (.cells #[.int .i64 (l : Int), .int .i64 0, .slice none 0 0, .slice none 0 0] 25 (0, 0)) := by
    have h1 := heap_alloc_new ((w.alloc (.cells #[.int .i64 ((pxx kb x0 : Nat) : Int), .int .i64 ((pyy kb x0 : Nat) : Int)] 103)).alloc (.cells #[.int .i64 0, .int .i64 0, .slice none 0 0, .slice none 0 0] 25)) (.cells #[.int .i64 (l : Int), .int .i64 0, .slice none 0 0, .slice none 0 0] 25)
    rw [World.size_alloc, World.size_alloc, ← hW0] at h1
    exact h1
  obtain ⟨VA, eA0, oA, gA⟩ := start_A (W := W0.drew) (l := l) (x0 := x0) kb hs0 hres0 hdet0 (by omega)
  obtain ⟨VB, eB0, oB, gB⟩ := start_B (W := W0.drew) (l := l) (x0 := x0) kb hs0 hres0 hdet0 (by omega)
  obtain ⟨VC, eC0, gC0, oC, gC⟩ := start_C (W := W0.drew) (l := l) (x0 := x0) kb hs0 hres0 hdet0 (by omega)
  have eA : (Instr.mapUpdate 145 (.map (some (W0.heap.size + 1))) (.agg #[.int .i64 ((pxx kb x0 : Nat) : Int), .int .i64 ((pyy kb x0 : Nat) : Int)]) (.int .i64 0)).run Tryd.prog ((W0.alloc (.cells #[.int .i64 ((pxx kb x0 : Nat) : Int), .int .i64 ((pyy kb x0 : Nat) : Int)] 103)).alloc (.map #[] 0)).drew = .ok () VA := eA0
  have eB : (Instr.mapUpdate 145 (.map (some W0.heap.size)) (.agg #[.int .i64 ((pxx kb x0 : Nat) : Int), .int .i64 ((pyy kb x0 : Nat) : Int)]) (.int .i64 0)).run Tryd.prog ((W0.alloc (.map #[] 0)).alloc (.cells #[.int .i64 ((pxx kb x0 : Nat) : Int), .int .i64 ((pyy kb x0 : Nat) : Int)] 103)).drew = .ok () VB := eB0
  have eC : (Instr.mapUpdate 145 (.map (some W0.heap.size)) (.agg #[.int .i64 ((pxx kb x0 : Nat) : Int), .int .i64 ((pyy kb x0 : Nat) : Int)]) (.int .i64 0)).run Tryd.prog (W0.alloc (.map #[] 0)).drew = .ok () VC := eC0
  have c0' := fun ob => (grown_alloc W0 ob).cell c0 (by simp)
  have c1' := fun ob => (grown_alloc W0 ob).cell c1 (by simp)
  have c0'' := fun ob ob' => (grown_trans (grown_alloc W0 ob) (grown_alloc _ ob')).cell c0 (by simp)
  have c1'' := fun ob ob' => (grown_trans (grown_alloc W0 ob) (grown_alloc _ ob')).cell c1 (by simp)
  have v0 := (grown_trans (grown_drew (grown_refl _ _)) gC0).cell c0 (by simp)
  have v1 := (grown_trans (grown_drew (grown_refl _ _)) gC0).cell c1 (by simp)
  have OA : Hid (OfAt2 (w.heap.size + 1) (W0.heap.size + 1) l kb VA (some ⟨W0.heap.size, 0, none⟩) 1 (.slice none 0 0) (.slice none 0 0) [x0] [] [] []) := by show OfAt2 _ _ _ _ _ _ _ _ _ _ _ _ _; rw [show W0.drew.heap.size = W0.heap.size from rfl, show w.heap.size + 1 + 3 = W0.heap.size + 1 by omega] at oA; exact oA
  have OB : Hid (OfAt2 (w.heap.size + 1) W0.heap.size l kb VB (some ⟨W0.heap.size + 1, 0, none⟩) 1 (.slice none 0 0) (.slice none 0 0) [x0] [] [] []) := by show OfAt2 _ _ _ _ _ _ _ _ _ _ _ _ _; rw [show W0.drew.heap.size = W0.heap.size from rfl, show w.heap.size + 1 + 2 = W0.heap.size by omega] at oB; exact oB
  have OC : Hid (OfAt2 (w.heap.size + 1) W0.heap.size l kb (VC.alloc (.cells #[.int .i64 ((pxx kb x0 : Nat) : Int), .int .i64 ((pyy kb x0 : Nat) : Int)] 103)) (some ⟨VC.heap.size, 0, none⟩) 1 (.slice none 0 0) (.slice none 0 0) [x0] [] [] []) := by show OfAt2 _ _ _ _ _ _ _ _ _ _ _ _ _; rw [hs0]; exact oC
  have GA : Hid (w.grownBy VA none) := grown_trans (grown_drew g0) gA
  have GB : Hid (w.grownBy VB none) := grown_trans (grown_drew g0) gB
  have GC : Hid (w.grownBy (VC.alloc _) none) := grown_trans (grown_drew g0) gC
  clear gC0 eA0 eB0 eC0 oA oB oC gA gB gC hres0 hdet0 hb0 gb1 g0 hW0 hs0
  go_cut [10, 11] (fun v10 v11 wc => ∃ aS cS bm, v10 = .slice aS 1 cS ∧ v11 = .map (some bm) ∧ OfAt2 (w.heap.size + 1) bm l kb wc aS cS (.slice none 0 0) (.slice none 0 0) [x0] [] [] [] ∧ w.grownBy wc none)
  case first =>
    go_region
    all_goals
      go_wp2_with fail
      go_meet
      case rel => first | exact ⟨_, _, _, rfl, rfl, OA.out, GA.out⟩ | exact ⟨_, _, _, rfl, rfl, OB.out, GB.out⟩ | exact ⟨_, _, _, rfl, rfl, OC.out, GC.out⟩
  case rest =>
    clear eA eB eC c0 c1 c0' c1' c0'' c1'' v0 v1 OA OB OC GA GB GC
    obtain ⟨aS, cS, bm, rfl, rfl, hA, hg⟩ := hcut
    have A4 : Hid (OfAt2 (w.heap.size + 1) bm l kb wc aS cS (.slice none 0 0) (.slice none 0 0) [x0] [] [] []) := hA
    have G4 : Hid (w.grownBy wc none) := hg
    clear hA hg
    go_wp2_with fail
    go_loopw [10, 12] (fun v i wr => ∃ (k : Nat) (xs : List Nat) (aS : Option Addr) (cS : Nat) (aR : Option Addr) (cR : Nat) (aM : Option Addr) (cM : Nat) (rs : List (Value × List Int)), bfsL id δ l x0 k = xs ∧ v = .slice aS xs.length cS ∧ i = .int .i64 k ∧ k ≤ xs.length ∧ (∀ j, j < k → j < (bfsL id δ l x0 j).length) ∧ rs.map (·.2) = partR id δ l x0 k ∧ rs.length = k ∧
      OfAt2 (w.heap.size + 1) bm l kb wr aS cS (.slice aR k cR) (.slice aM k cM) xs rs (partM id δ m l x0 k) [] ∧ w.grownBy wr none) (fun _ i _ => n - (intOf i).toNat)
    case atStart => exact ⟨0, [x0], _, _, none, 0, none, 0, [], rfl, rfl, rfl, by simp, fun j hj => by omega, by simp [partR], rfl, by simpa [partM] using A4.out, G4.out⟩
    case round =>
      clear A4 G4
      obtain ⟨k, xs, aS, cS, aR, cR, aM, cM, rs, hxs, rfl, rfl, hk, hgo, hrs, hrl, hA, hg⟩ := hrel
      have hnd : xs.length ≤ n := by
        have h1 := bfsL_nodup id δ l x0 k
        rw [hxs] at h1
        exact nodup_le n xs (by simpa using h1) (fun y hy => bfsL_lt id HD.out hx0 k y (by rw [hxs]; exact hy))
      have HXS : Hid (bfsL id δ l x0 k = xs) := hxs
      have HGo : Hid (∀ j, j < k → j < (bfsL id δ l x0 j).length) := hgo
      have HRS : Hid (rs.map (·.2) = partR id δ l x0 k) := hrs
      have HRL : Hid (rs.length = k) := hrl
      have A : Hid (OfAt2 (w.heap.size + 1) bm l kb wr aS cS (.slice aR k cR) (.slice aM k cM) xs rs (partM id δ m l x0 k) []) := hA
      have G : Hid (w.grownBy wr none) := hg
      clear hxs hgo hrs hrl hA hg
      by_cases hlt : k < xs.length
      · obtain ⟨W5, hmk, hA5, hg5⟩ := A.out.row hl
        have A5 : Hid (OfAt2 (w.heap.size + 1) bm l kb W5 aS cS (.slice aR k cR) (.slice aM k cM) xs rs (partM id δ m l x0 k) [(3, .slice (some ⟨wr.heap.size, 0, none⟩) l l, vals (List.replicate l 0))]) := hA5
        have G5 : Hid (w.grownBy W5 none) := grown_trans G.out hg5
        have hki : (k : Int) < (xs.length : Int) := by omega
        have hxn : xs.getD k 0 < n := bfsL_lt id HD.out hx0 k _ (by rw [HXS.out]; exact getD_mem hlt)
        clear hA5 hg5 A G
        obtain ⟨x, hx⟩ : ∃ x, xs.getD k 0 = x := ⟨_, rfl⟩
        rw [hx] at hxn
        have HX : Hid (xs.getD k 0 = x) := hx
        clear hx
        go_wp2_with fail
        clear hmk
        generalize wr.heap.size = gr at *
        go_loopw [10, 35] (fun v i wq => ∃ (a : Nat) (ys : List Nat) (aS : Option Addr) (cS : Nat), rowL id δ x a xs = ys ∧ v = .slice aS ys.length cS ∧ i = .int .i64 a ∧ a ≤ l ∧
          OfAt2 (w.heap.size + 1) bm l kb wq aS cS (.slice aR k cR) (.slice aM k cM) ys rs (partM id δ m l x0 k) [(3, .slice (some ⟨gr, 0, none⟩) l l, vals ((List.range l).map fun b => if b < a then ((ix id ys (δ x b) : Nat) : Int) else 0))] ∧ w.grownBy wq none) (fun _ i _ => l - (intOf i).toNat)
        case atStart =>
          refine ⟨0, xs, aS, cS, rfl, rfl, rfl, by omega, ?_, G5.out⟩
          have e : ((List.range l).map fun b => if b < 0 then ((ix id xs (δ x b) : Nat) : Int) else 0) = List.replicate l 0 := by rw [List.eq_replicate_iff]; simp
          rw [e]
          exact A5.out
        case round =>
          clear A5 G5
          obtain ⟨a, ys, aS, cS, hys, rfl, rfl, ha, hA, hg⟩ := hrel
          obtain ⟨zs, hzs⟩ := rowL_more id δ x a xs
          have hyn : ∀ y, y ∈ ys → y < n := fun y hy => rowL_lt (κ := id) HD.out hxn (fun z hz => bfsL_lt id HD.out hx0 k z (by rw [HXS.out]; exact hz)) ha y (by rw [hys]; exact hy)
          have hynd : ys.length ≤ n := by
            have h1 := bfsL_nodup id δ l x0 k
            rw [HXS.out] at h1
            have h2 := rowL_nodup (κ := id) (δ := δ) (x := x) h1 a
            rw [hys] at h2
            exact nodup_le n ys (by simpa using h2) hyn
          have hky : k < ys.length := by rw [← hys, hzs]; simp; omega
          have hgx : ys.getD k 0 = x := by rw [← hys, hzs, getD_app _ hlt]; exact HX.out
          have HYS : Hid (rowL id δ x a xs = ys) := hys
          have A : Hid (OfAt2 (w.heap.size + 1) bm l kb wr aS cS (.slice aR k cR) (.slice aM k cM) ys rs (partM id δ m l x0 k) [(3, .slice (some ⟨gr, 0, none⟩) l l, vals ((List.range l).map fun b => if b < a then ((ix id ys (δ x b) : Nat) : Int) else 0))]) := hA
          have G : Hid (w.grownBy wr none) := hg
          obtain ⟨gS, eS, hcS, hcS2⟩ := A.out.state hky
          subst eS
          rw [hgx] at hcS hcS2
          clear hys hA hg hgx hzs
          by_cases hal : a < l
          · have hali : (a : Int) < (l : Int) := by omega
            have hkyi : (k : Int) < (ys.length : Int) := by omega
            have hyd : δ x a < n := HD.out x a hxn hal
            go_wp2_with fail
            refine (HN.out _ G.out x a hxn hal).mono ?_
            rintro e w6 ⟨rfl, hg6⟩
            obtain ⟨W6, hW6⟩ : ∃ W6, W6 = w6.alloc (.cells #[.int .i64 ((pxx kb (δ x a) : Nat) : Int), .int .i64 ((pyy kb (δ x a) : Nat) : Int)] 103) := ⟨_, rfl⟩
            have HW6 : Hid (W6 = _) := hW6
            have gW6 : wr.grownBy W6 none := by rw [hW6]; exact grown_trans hg6 (grown_alloc _ _)
            have A6 : Hid (OfAt2 (w.heap.size + 1) bm l kb W6 (some ⟨gS, 0, none⟩) cS (.slice aR k cR) (.slice aM k cM) ys rs (partM id δ m l x0 k) [(3, .slice (some ⟨gr, 0, none⟩) l l, vals ((List.range l).map fun b => if b < a then ((ix id ys (δ x b) : Nat) : Int) else 0))]) := A.out.kept gW6
            have G6 : Hid (w.grownBy W6 none) := grown_trans G.out gW6
            have Bx6 : Hid (∀ V r, W6.grownBy V r → r ≠ some w6.heap.size → V.cell? ⟨w6.heap.size, 0, none⟩ = some (.int .i64 ((pxx kb (δ x a) : Nat) : Int)) ∧ V.cell? ⟨w6.heap.size, 1, none⟩ = some (.int .i64 ((pyy kb (δ x a) : Nat) : Int))) := fun V r hV hr => by
              have hb := heap_alloc_new w6 (.cells #[.int .i64 ((pxx kb (δ x a) : Nat) : Int), .int .i64 ((pyy kb (δ x a) : Nat) : Int)] 103)
              rw [← hW6] at hb
              have hb2 := (hV.block _ (Array.getElem?_eq_some_iff.1 hb).1 (Ne.symm hr)).trans hb
              exact ⟨by rw [cell_of_row _ _ _ _ _ (0, 0) hb2]; rfl, by rw [cell_of_row _ _ _ _ _ (0, 0) hb2]; rfl⟩
            have hbw : bm < w6.heap.size := by have h1 := A.out.lt.2; have h2 := hg6.size; omega
            obtain ⟨s0, s1⟩ := Bx6.out W6 none (grown_refl _ _) (by simp)
            obtain ⟨hl1, hl2⟩ := A6.out.num.look (y := δ x a) (by omega)
            clear hg6 A G hcS hcS2 gW6 hW6
            by_cases hm : δ x a ∈ ys
            · have hrun := hl1 hm
              have hK : hasK id ys (δ x a) := ⟨_, hm, rfl⟩
              have hI := ix_lt hK
              obtain ⟨⟨u, hu⟩, hfz, hA7, hgB⟩ := A6.out.write hal (((ix id ys (δ x a) : Nat) : Int))
              have A7 : Hid (OfAt2 (w.heap.size + 1) bm l kb (W6.setCell ⟨gr, a, none⟩ (.int .i64 ((ix id ys (δ x a) : Nat) : Int))) (some ⟨gS, 0, none⟩) cS (.slice aR k cR) (.slice aM k cM) ys rs (partM id δ m l x0 k) [(3, .slice (some ⟨gr, 0, none⟩) l l, vals ((List.range l).map fun b => if b < a + 1 then ((ix id ys (δ x b) : Nat) : Int) else 0))]) := by
                show OfAt2 _ _ _ _ _ _ _ _ _ _ _ _ _
                rw [row_write hal] at hA7
                exact hA7
              have G7 : Hid (w.grownBy (W6.setCell ⟨gr, a, none⟩ (.int .i64 ((ix id ys (δ x a) : Nat) : Int))) none) := grown_new G6.out (grown_set _ _ _) (by simp only; omega)
              have HY1 : Hid (rowL id δ x (a + 1) xs = ys) := by
                show _ = _
                simp only [rowL]
                rw [HYS.out]
                exact ins_old hK
              rw [HW6.out] at hrun s0 s1 hu hfz
              clear hl1 hl2 hA7 hK A6 Bx6
              generalize ix id ys (δ x a) = iy at *
              generalize δ x a = y at *
              go_wp2_with fail
              rw [← HW6.out]
              go_roundw
              case rel => exact ⟨a + 1, ys, _, _, HY1.out, rfl, by go_num, by omega, A7.out, G7.out⟩
              case measure => simp [intOf]; omega
            · obtain ⟨cz0, hrun⟩ := hl2 hm
              obtain ⟨W7, hup, hN7, hg7⟩ := A6.out.num.put (y := δ x a) (by omega) (fun z hz => by have := hyn z hz; omega) hm (by omega)
              obtain ⟨k1, k2, k3⟩ := A6.out.numbered hN7 hg7
              have hbm2 := A6.out.hbm
              have g7 : w.grownBy W7 none := grown_new G6.out hg7 (by omega)
              obtain ⟨t0, t1⟩ := Bx6.out W7 (some bm) hg7 (by simp; omega)
              obtain ⟨g8, c8, w8, hrun8, hA8, hk8⟩ := push_pair hbm2 k1 k2 hN7 k3 rfl (by omega)
              have g8' : w.grownBy w8 none := hk8 w (by omega) g7
              obtain ⟨⟨u, hu⟩, hfz, hA9, hgB⟩ := hA8.write hal (ys.length : Int)
              have HNK : Hid (¬ hasK id ys (δ x a)) := fun ⟨r, hr, e⟩ => hm (by have e2 : r = δ x a := e; rw [← e2]; exact hr)
              have HY1 : Hid (rowL id δ x (a + 1) xs = ys ++ [δ x a]) := by
                show _ = _
                simp only [rowL]
                rw [HYS.out]
                exact ins_new HNK.out
              have HSt : Hid (((List.range l).map fun b => if b < a then ((ix id ys (δ x b) : Nat) : Int) else 0).set a (ys.length : Int) = (List.range l).map fun b => if b < a + 1 then ((ix id (ys ++ [δ x a]) (δ x b) : Nat) : Int) else 0) := by
                show _ = _
                have h1 : ((List.range l).map fun b => if b < a then ((ix id ys (δ x b) : Nat) : Int) else 0) = (List.range l).map fun b => if b < a then ((ix id (ys ++ [δ x a]) (δ x b) : Nat) : Int) else 0 := by
                  refine List.map_congr_left fun b _ => ?_
                  by_cases hb : b < a
                  · rw [if_pos hb, if_pos hb, ix_append (HYS.out ▸ rowL_has id δ x xs hb)]
                  · rw [if_neg hb, if_neg hb]
                have h2 : ys.length = ix id (ys ++ [δ x a]) (δ x a) := (ix_last HNK.out).symm
                rw [h1, ← row_write hal, ← h2]
              have A9 : Hid (OfAt2 (w.heap.size + 1) bm l kb (w8.setCell ⟨gr, a, none⟩ (.int .i64 (ys.length : Int))) (some ⟨g8, 0, none⟩) c8 (.slice aR k cR) (.slice aM k cM) (ys ++ [δ x a]) rs (partM id δ m l x0 k) [(3, .slice (some ⟨gr, 0, none⟩) l l, vals ((List.range l).map fun b => if b < a + 1 then ((ix id (ys ++ [δ x a]) (δ x b) : Nat) : Int) else 0))]) := by
                show OfAt2 _ _ _ _ _ _ _ _ _ _ _ _ _
                rw [HSt.out] at hA9
                exact hA9
              have G9 : Hid (w.grownBy (w8.setCell ⟨gr, a, none⟩ (.int .i64 (ys.length : Int))) none) := grown_new g8' (grown_set _ _ _) (by simp only; omega)
              rw [HW6.out] at hrun s0 s1 hup
              clear hl1 hl2 hA8 hA9 A6 Bx6 k1 k2 k3 hN7 hg7 hk8 g7 g8' HNK HSt hm
              generalize hyy : δ x a = y at *
              clear hyy
              go_wp2_with fail
              go_roundw
              case rel => exact ⟨a + 1, ys ++ [y], some ⟨g8, 0, none⟩, c8, HY1.out, by simp, by go_num, by omega, A9.out, G9.out⟩
              case measure => simp [intOf]; omega
          · have hal2 : a = l := by omega
            have HY1 : Hid (bfsL id δ l x0 (k + 1) = ys) := by
              show _ = _
              simp only [bfsL]
              rw [HXS.out, if_pos hlt, HX.out, ← hal2]
              exact HYS.out
            have HRow : Hid (((List.range l).map fun b => if b < a then ((ix id ys (δ x b) : Nat) : Int) else 0) = rowR id δ l ys x) := by
              show _ = _
              unfold rowR
              refine List.map_congr_left fun b hb => ?_
              rw [if_pos (by have := List.mem_range.1 hb; omega)]
            rw [HRow.out] at A
            have hali : ¬ (a : Int) < (l : Int) := by omega
            obtain ⟨d0, d1, d2, d3, dz⟩ := A.out.cells
            obtain ⟨g8, c8, w8, hrun8, hc8, hf8, hA9, hk9⟩ := A.out.putR rfl (by rw [HRL.out]; omega)
            have G11 : Hid (w.grownBy (w8.setCell ⟨w.heap.size + 1 + 1, 2, none⟩ (.slice (some ⟨g8, 0, none⟩) (k + 1) c8)) none) := hk9 w (by omega) G.out
            have A11 : Hid (OfAt2 (w.heap.size + 1) bm l kb (w8.setCell ⟨w.heap.size + 1 + 1, 2, none⟩ (.slice (some ⟨g8, 0, none⟩) (k + 1) c8)) (some ⟨gS, 0, none⟩) cS (.slice (some ⟨g8, 0, none⟩) (k + 1) c8) (.slice aM k cM) ys (rs ++ [(.slice (some ⟨gr, 0, none⟩) l l, rowR id δ l ys x)]) (partM id δ m l x0 k) []) := hA9
            clear hA9 hk9 hcS hcS2 A G
            go_wp2_with fail
            obtain ⟨W11, hW11⟩ : ∃ W, W = w8.setCell ⟨w.heap.size + 1 + 1, 2, none⟩ (.slice (some ⟨g8, 0, none⟩) (k + 1) c8) := ⟨_, rfl⟩
            rw [← hW11] at A11 G11 ⊢
            clear hW11 hc8 hf8 hrun8 d0 d1 d2 d3 dz
            have hkyi : (k : Int) < (ys.length : Int) := by omega
            have hk0 : (0 : Int) ≤ (k : Int) := Int.natCast_nonneg _
            obtain ⟨_, _, _, c1, cz⟩ := A11.out.cells
            have cz3 := cz 3
            obtain ⟨gS', eS', c2, c3⟩ := A11.out.state hky
            have egS : gS' = gS := by simp only [Option.some.injEq, Addr.mk.injEq, and_true] at eS'; exact eS'.symm
            have hgx2 : ys.getD k 0 = x := by
              obtain ⟨zs, hzs⟩ := rowL_more id δ x a xs
              rw [← HYS.out, hzs, getD_app _ hlt]; exact HX.out
            rw [egS, hgx2] at c2 c3
            obtain ⟨q, hq⟩ : ∃ q : Int, (if m x = true then (1 : Int) else 0) = q := ⟨_, rfl⟩
            have HMx : Hid (∀ W, w.grownBy W none → Calls Tryd.prog 66 #[pvl kb x, pM] W fun e w' => e = .returned (.int .i64 q) ∧ W.grownBy w' none) := fun W hW => hq ▸ HM.out W hW x hxn
            have HGo2 : Hid (∀ j, j < k + 1 → j < (bfsL id δ l x0 j).length) := fun j hj => by
              by_cases e : j = k
              · subst e; rw [HXS.out]; exact hlt
              · exact HGo.out j (by omega)
            have HRS2 : Hid ((rs ++ [(Value.slice (some ⟨gr, 0, none⟩) l l, rowR id δ l ys x)]).map (·.2) = partR id δ l x0 (k + 1)) := by
              show _ = _
              rw [partR_step (fun j hj => HGo2.out j (by omega)), List.map_append, HRS.out, HY1.out, HXS.out, HX.out]
              rfl
            have HPM : Hid (partM id δ m l x0 (k + 1) = partM id δ m l x0 k ++ [q]) := by
              show _ = _
              rw [partM_step (HGo2.out k (by omega)), HXS.out, HX.out, hq]
            have HRL2 : Hid ((rs ++ [(Value.slice (some ⟨gr, 0, none⟩) l l, rowR id δ l ys x)]).length = k + 1) := by
              show _ = _
              simp [HRL.out]
            clear hq
            clear cz eS' egS hgx2
            obtain ⟨i1, hj, hy0, hy1, hy2⟩ := info_parts Tryd.info3i
            have HSz2 : Hid (w.heap.size + 1 + 2 ≤ bm ∧ bm < W11.heap.size) := A11.out.lt
            have HML : Hid ((partM id δ m l x0 k).length = k) := by
              show _ = _
              simp [partM, HXS.out]; omega
            go_region_law (first
                | (go_simp; go_at_call 66; refine (HMx.out _ (by first | exact G11.out | exact grown_drew G11.out | exact grown_drewN G11.out _)).mono ?_; rintro e w12 ⟨rfl, hg12⟩; have A12 : Hid (OfAt2 (w.heap.size + 1) bm l kb w12 (some ⟨gS, 0, none⟩) cS (.slice (some ⟨g8, 0, none⟩) (k + 1) c8) (.slice aM k cM) ys (rs ++ [(.slice (some ⟨gr, 0, none⟩) l l, rowR id δ l ys x)]) (partM id δ m l x0 k) []) := (A11.out.kept (grown_trans (by first | exact grown_refl _ _ | exact grown_drew (grown_refl _ _) | exact grown_drewN (grown_refl _ _) _) hg12)); have G12 : Hid (w.grownBy w12 none) := (grown_trans G11.out (grown_trans (by first | exact grown_refl _ _ | exact grown_drew (grown_refl _ _) | exact grown_drewN (grown_refl _ _) _) hg12)); have hO12 : Hid (∀ o, (w12.alloc o).ownsRow (w.heap.size + 1 + 2) 3 1 (.slice aM k cM) k (vals (partM id δ m l x0 k))) := (fun o => by have h2 := (of2_marks (A12.out.kept (grown_alloc w12 o))).own.row; simpa [HML.out] using h2); have HS12 : Hid (w.heap.size + 1 + 2 ≤ bm ∧ bm < w12.heap.size) := A12.out.lt; have c12 : w12.cell? ⟨w.heap.size + 1 + 1, 3, none⟩ = some (.slice aM k cM) := (hg12.cell c1 (by simp)); have c12o : ∀ o, (w12.alloc o).cell? ⟨w.heap.size + 1 + 1, 3, none⟩ = some (.slice aM k cM) := (fun o => (grown_alloc w12 o).cell c12 (by simp)))
                | (refine step_append_lies _ (by rfl) _ _ _ (by rfl) (w.heap.size + 1 + 2) 3 i1 (.int .i64 0) 1 8 Tryd.underlying22 hj hy0 hy1 hy2 rfl (by decide) (.slice aM k cM) k (vals (partM id δ m l x0 k)) (by rfl) (hO12.out _) ⟨w12.heap.size, 0, none⟩ 1 1 [.int .i64 q] (by rfl) (by rfl) (cell_one_new _ _ _) (by intro u hu; simp at hu; subst hu; rfl) (by omega) (by unfold maxLen; omega) (by omega) (by have := HS12.out; simp; omega) (w12.heap.size + 1) (by simp) ?_; intro g2 cap2 w13 ho13 hg13 hat13 hlt13; obtain ⟨⟨hc13, hf13⟩, hA13⟩ := (A12.out.kept (grown_alloc w12 _)).pushM ho13 (by rw [HML.out]) hg13 hat13 (by simp); have G13 : Hid (w.grownBy w13 none) := (Owns.frame (of2_marks (A12.out.kept (grown_alloc w12 _))).own (by omega) (grown_trans G12.out (grown_alloc w12 _)) hg13)))
            all_goals
              have A14 : Hid (OfAt2 (w.heap.size + 1) bm l kb (w13.setCell ⟨w.heap.size + 1 + 1, 3, none⟩ (.slice (some ⟨g2, 0, none⟩) (k + 1) cap2)) (some ⟨gS, 0, none⟩) cS (.slice (some ⟨g8, 0, none⟩) (k + 1) c8) (.slice (some ⟨g2, 0, none⟩) (k + 1) cap2) ys (rs ++ [(.slice (some ⟨gr, 0, none⟩) l l, rowR id δ l ys x)]) (partM id δ m l x0 (k + 1)) []) := by
                show OfAt2 _ _ _ _ _ _ _ _ _ _ _ _ _
                rw [HPM.out]
                exact hA13
              have G14 : Hid (w.grownBy (w13.setCell ⟨w.heap.size + 1 + 1, 3, none⟩ (.slice (some ⟨g2, 0, none⟩) (k + 1) cap2)) none) := grown_new G13.out (grown_set _ _ _) (by simp only; omega)
              clear hA13 hc13 hf13 ho13 hg13 hat13 c12 c12o c1 c2 c3 cz3 hlt13 hg12
              go_wp2_with fail
              go_roundw
              case rel => exact ⟨k + 1, ys, _, _, _, _, _, _, _, HY1.out, rfl, by go_num, by omega, HGo2.out, HRS2.out, HRL2.out, A14.out, G14.out⟩
              case measure => simp [intOf]; omega
      · have hke : k = xs.length := by omega
        have HEnd : Hid (IsEnd (bfsL id δ l x0) k) := ⟨by rw [HXS.out]; exact hke.symm, HGo.out⟩
        obtain ⟨d0, d1, d2, d3, dz⟩ := A.out.cells
        obtain ⟨r0, r1, r2, r3, rz⟩ := A.out.ress
        have rz0 := rz 0
        have rz1 := rz 1
        have rz2 := rz 2
        have rz3 := rz 3
        obtain ⟨W9, hW9, hg9, q0, q1, q2, q3⟩ := det_store A.out.res (.int .i64 (l : Int)) (.int .i64 0) (.slice aR k cR) (.slice aM k cM)
        have G9 : Hid (w.grownBy W9 none) := grown_new G.out hg9 (by omega)
        have O9 : Hid (Owns w.heap.size W9 ((22, .slice aR k cR, rs.map (·.1)) :: (3, .slice aM k cM, vals (resM m (bfsL id δ l x0 k))) :: rowItems rs)) := by
          have h1 := A.out.own.own.below hg9 (by omega)
          rw [partM_end HEnd.out] at h1
          exact ⟨fun it hm => ⟨ownsRow_base (h1.1 it hm).1 (by omega), (h1.1 it hm).2⟩, h1.2⟩
        have HRS3 : Hid (rs.map (·.2) = resR id δ l (bfsL id δ l x0 k)) := by
          show _ = _
          rw [HRS.out, partR_end HEnd.out]
        have hki : ¬ (k : Int) < (xs.length : Int) := by omega
        clear hg9 dz rz hke
        go_wp2_with fail
        rw [← hW9]
        exact bodyPost_ret (v := .agg #[.int .i64 (l : Int), .int .i64 0, .slice aR k cR, .slice aM k cM]) (by simp [results, Tryd.results65, go_sem, q0, q1, q2, q3]) rfl ⟨k, _, _, rs, HEnd.out, by omega, rfl, HRS3.out, O9.out, G9.out⟩

theorem of_boxes2 (w : World) (T : TypeId) (u v f : Value) : ∃ W, W = ((w.alloc (.cells #[u, v] 103)).alloc (.cells #[f] T)).alloc (.cells #[.int .i64 0, .int .i64 0, .slice none 0 0, .slice none 0 0] 25) ∧ w.grownBy W none ∧ W.heap.size = w.heap.size + 3 ∧ W.heap[w.heap.size + 1 + 1]? = some (.cells #[.int .i64 0, .int .i64 0, .slice none 0 0, .slice none 0 0] 25 (0, 0)) ∧ ∀ W', W.grownBy W' none → W'.cell? ⟨w.heap.size + 1, 0, none⟩ = some f := by
  obtain ⟨W, h1, h2, h3, h4, h5⟩ := of_boxes (w.alloc (.cells #[u, v] 103)) T f
  rw [World.size_alloc] at h3 h4 h5
  exact ⟨W, h1, grown_trans (grown_alloc _ _) h2, by omega, h4, h5⟩

set_option maxHeartbeats 1600000 in
theorem clofB_any (b : Nat) (x : Bool) (kb s : Nat) (p3 p1 p2 : Value) (W : World) (hb : ∀ o, (W.alloc o).cell? ⟨b, 0, none⟩ = some (.func (.func 49) #[] #[p3, p1, p2])) (hM : ∀ o, Calls Tryd.prog 49 #[pvl kb s, p3, p1, p2] (W.alloc o) fun e w' => e = .returned (.bool x) ∧ W.grownBy w' none) :
    Calls Tryd.prog 66 #[pvl kb s, .pointer (some ⟨b, 0, none⟩)] W fun e w' => e = .returned (.int .i64 (if x = true then 1 else 0)) ∧ W.grownBy w' none := by
  obtain ⟨q, hq⟩ : ∃ q : Int, (if x = true then (1 : Int) else 0) = q := ⟨_, rfl⟩
  have HB : Hid (∀ W, Calls Tryd.prog 41 #[.bool x] W fun e w' => e = .returned (.int .i64 q) ∧ w' = W) := fun W => hq ▸ bit_any x W
  have HM : Hid (∀ o, Calls Tryd.prog 49 #[pvl kb s, p3, p1, p2] (W.alloc o) fun e w' => e = .returned (.bool x) ∧ W.grownBy w' none) := hM
  rw [hq]
  clear hM hq
  go_enter Tryd.func66, Tryd.ntmps66
  go_wp2_with fail
  refine (HM.out _).mono ?_
  rintro e w2 ⟨rfl, hg⟩
  have G : Hid (W.grownBy w2 none) := hg
  clear hg
  go_wp2_with fail
  refine (HB.out _).mono ?_
  rintro e w3 ⟨rfl, rfl⟩
  go_wp2_with fail
  go_ret
  exact ⟨rfl, G.out⟩

set_option maxHeartbeats 3200000 in
theorem ofB_any (l x0 n kb : Nat) (δ : Nat → Nat → Nat) (m : Nat → Bool) (p1 p2 p3 : Value) (w : World) (hl1 : 1 ≤ l) (hl : l ≤ 4) (hn : n ≤ 3000) (hx0 : x0 < n) (hδ : ∀ s a, s < n → a < l → δ s a < n)
    (hN : ∀ W, w.grownBy W none → ∀ s a, s < n → a < l → Calls Tryd.prog 48 #[pvl kb s, .int .i64 (a : Nat), p1, p2] W fun e w' => e = .returned (pvl kb (δ s a)) ∧ W.grownBy w' none)
    (hM : ∀ W, w.grownBy W none → ∀ s, s < n → Calls Tryd.prog 49 #[pvl kb s, p3, p1, p2] W fun e w' => e = .returned (.bool (m s)) ∧ W.grownBy w' none) :
    Calls Tryd.prog 50 #[.int .i64 l, pvl kb x0, .func (.func 48) #[] #[p1, p2], .func (.func 49) #[] #[p3, p1, p2]] w (OfPost l x0 n δ m w) := by
  have HK : Hid (∀ T, Calls Tryd.prog 65 #[.int .i64 l, pvl kb x0, .func (.func 48) #[] #[p1, p2], .func (.func 66) #[] #[.pointer (some ⟨w.heap.size + 1, 0, none⟩)]] (((w.alloc (.cells #[.int .i64 ((pxx kb x0 : Nat) : Int), .int .i64 ((pyy kb x0 : Nat) : Int)] 103)).alloc (.cells #[.func (.func 49) #[] #[p3, p1, p2]] T)).alloc (.cells #[.int .i64 0, .int .i64 0, .slice none 0 0, .slice none 0 0] 25))
      fun e w3 => ∃ aR nR cR aM nM cM W9, e = .returned (.agg #[.int .i64 l, .int .i64 0, .slice aR nR cR, .slice aM nM cM]) ∧ W9 = (((w3.setCell ⟨w.heap.size + 1 + 1, 0, none⟩ (.int .i64 (l : Int))).setCell ⟨w.heap.size + 1 + 1, 1, none⟩ (.int .i64 0)).setCell ⟨w.heap.size + 1 + 1, 2, none⟩ (.slice aR nR cR)).setCell ⟨w.heap.size + 1 + 1, 3, none⟩ (.slice aM nM cM) ∧
      (∀ k v, #[Value.int .i64 0, .int .i64 0, .slice none 0 0, .slice none 0 0][k]? = some v → w3.cell? ⟨w.heap.size + 1 + 1, k, none⟩ = some v) ∧ (∀ k, w3.frozen? ⟨w.heap.size + 1 + 1, k, none⟩ = false) ∧ W9.cell? ⟨w.heap.size + 1 + 1, 0, none⟩ = some (.int .i64 (l : Int)) ∧ W9.cell? ⟨w.heap.size + 1 + 1, 1, none⟩ = some (.int .i64 0) ∧ W9.cell? ⟨w.heap.size + 1 + 1, 2, none⟩ = some (.slice aR nR cR) ∧ W9.cell? ⟨w.heap.size + 1 + 1, 3, none⟩ = some (.slice aM nM cM) ∧ OfPost l x0 n δ m w (.returned (.agg #[.int .i64 l, .int .i64 0, .slice aR nR cR, .slice aM nM cM])) W9) := by
    intro T
    obtain ⟨W2, hW2, g2, s2, b2, bx⟩ := of_boxes2 w T (.int .i64 ((pxx kb x0 : Nat) : Int)) (.int .i64 ((pyy kb x0 : Nat) : Int)) (.func (.func 49) #[] #[p3, p1, p2])
    rw [← hW2]
    refine (mkofB_any l x0 n kb δ m p1 p2 (.pointer (some ⟨w.heap.size + 1, 0, none⟩)) W2 hl1 hl hn hx0 hδ (fun W hW => hN W (grown_trans g2 hW)) (fun W hW s hs => clofB_any (w.heap.size + 1) (m s) kb s p3 p1 p2 W (fun o => bx _ (grown_trans hW (grown_alloc _ _))) (fun o => (hM _ (grown_trans g2 (grown_trans hW (grown_alloc _ _))) s hs).mono fun e w' h => ⟨h.1, grown_trans (grown_alloc _ _) h.2⟩))).mono ?_
    rintro e w3 ⟨k, vR, vM, rs, h1, h2, rfl, h4, h5, h6⟩
    obtain ⟨aR, nR, cR, eR⟩ := owns_slice h5 (List.mem_cons_self ..)
    obtain ⟨aM, nM, cM, eM⟩ := owns_slice h5 (List.mem_cons_of_mem _ (List.mem_cons_self ..))
    simp only at eR eM
    subst eR eM
    have hb3 : w3.heap[w.heap.size + 1 + 1]? = some (.cells #[.int .i64 0, .int .i64 0, .slice none 0 0, .slice none 0 0] 25 (0, 0)) := (h6.block _ (by omega) (by simp)).trans b2
    obtain ⟨W9, hW9, hg9, q0, q1, q2, q3⟩ := det_store hb3 (.int .i64 (l : Int)) (.int .i64 0) (.slice aR nR cR) (.slice aM nM cM)
    have h7 := h5.below hg9 (by omega)
    exact ⟨aR, nR, cR, aM, nM, cM, W9, rfl, hW9, fun k v hv => by rw [cell_of_row _ _ k _ _ (0, 0) hb3]; exact hv, fun k => frozen_of_row _ _ k _ _ hb3, q0, q1, q2, q3, k, _, _, rs, h1, h2, rfl, h4, ⟨fun it hm => ⟨ownsRow_base (h7.1 it hm).1 (by omega), (h7.1 it hm).2⟩, h7.2⟩, grown_new (grown_trans g2 h6) hg9 (by omega)⟩
  clear hN hM
  go_enter Tryd.func50, Tryd.ntmps50
  go_wp2_with fail
  refine (HK.out _).mono ?_
  rintro e w3 ⟨aR, nR, cR, aM, nM, cM, W9, rfl, hW9, hc, hf, q0, q1, q2, q3, hp⟩
  have c0 := hc 0 _ rfl
  have c1 := hc 1 _ rfl
  have c2 := hc 2 _ rfl
  have c3 := hc 3 _ rfl
  have f0 := hf 0
  have f1 := hf 1
  have f2 := hf 2
  have f3 := hf 3
  have HP : Hid _ := hp
  clear hc hf hp HK
  go_wp2_with fail
  rw [← hW9]
  exact bodyPost_ret (v := .agg #[.int .i64 (l : Int), .int .i64 0, .slice aR nR cR, .slice aM nM cM]) (by simp [results, Tryd.results50, go_sem, q0, q1, q2, q3]) rfl HP.out

end Go.Proofs.YtkkmdcnbifepjaaDoor
