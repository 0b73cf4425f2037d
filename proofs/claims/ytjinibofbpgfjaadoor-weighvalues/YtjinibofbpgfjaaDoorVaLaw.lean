/- WeighValues: the law's walk. -/
import Derived.Test.YtjinibofbpgfjaaDoorVaVal
import Derived.Test.YtjinibofbpgfjaaDoorVaTxt
import Derived.Test.YtjinibofbpgfjaaDoorNuVal
import Derived.Test.YtjinibofbpgfjaaDoorWeRefC
import Derived.Test.YtjinibofbpgfjaaDoorMay
namespace Go.Proofs.YtjinibofbpgfjaaDoor
open Go.RowKit
open Go.Lib (itoa)
set_option linter.unusedVariables false
set_option linter.unusedSimpArgs false

set_option maxHeartbeats 6400000 in
set_option maxRecDepth 100000 in
theorem values_walk (x : WgI) (zs : List Int) (a1 a2 a3 az : Option Addr) (c1 c2 c3 cz : Nat) (w : World) (mx : WgAt w x a1 a2 a3) (hz : Ints w az zs) (hmz : zs.length ≤ maxLen) (hT : Pow10 w) :
    Calls Tryd.prog 3 #[wgV x.L a1 x.F.length c1 a2 x.S.length c2 a3 x.E.length c3, .slice az zs.length cz] w (Says (.bool true) w) := by
  obtain ⟨W1, hW1, g1, s1, bx⟩ := box4_new w x.L a1 x.F.length c1 a2 x.S.length c2 a3 x.E.length c3
  have HW1 : Hid (W1 = w.alloc (wgO x.L a1 x.F.length c1 a2 x.S.length c2 a3 x.E.length c3)) := hW1
  have G1 : Hid (w.grownBy W1 none) := g1
  have BX : Hid (∀ W, W1.grownBy W none → Box4 W w.heap.size x.L a1 x.F.length c1 a2 x.S.length c2 a3 x.E.length c3) := fun W hW => bx.grown hW
  obtain ⟨zx, hzx⟩ : ∃ z, checkW x = z := ⟨_, rfl⟩
  obtain ⟨my, hmy⟩ : ∃ z, mayF x.L zs = z := ⟨_, rfl⟩
  obtain ⟨z, hvz⟩ : ∃ z, valZ x zs = z := ⟨_, rfl⟩
  obtain ⟨l, hvl⟩ : ∃ l, valS x zs = l := ⟨_, rfl⟩
  have HC : Hid (∀ W, w.grownBy W none → Calls Tryd.prog 5 #[wgV x.L a1 x.F.length c1 a2 x.S.length c2 a3 x.E.length c3] W (ErrP zx W)) := fun W hW => hzx ▸ checkWg_any x a1 a2 a3 c1 c2 c3 W (mx.grown hW)
  have HCR : Hid (∀ W, w.grownBy W none → Calls Tryd.prog 6 #[wgV x.L a1 x.F.length c1 a2 x.S.length c2 a3 x.E.length c3] W (ErrP zx W)) := fun W hW => hzx ▸ checkR18_any x a1 a2 a3 c1 c2 c3 W (mx.grown hW)
  have HV : Hid (∀ W, w.grownBy W none → Calls Tryd.prog 7 #[wgV x.L a1 x.F.length c1 a2 x.S.length c2 a3 x.E.length c3, .slice az zs.length cz] W (StrE z l W)) := fun W hW => by
    have h := valueP_any x zs a1 a2 a3 az c1 c2 c3 cz W (mx.grown hW) (hz.grown hW) hmz (hT.grown hW)
    rw [hvz, hvl] at h
    exact h
  have HMy : Hid (∀ W, w.grownBy W none → Calls Tryd.prog 8 #[.int .i64 x.L, .slice az zs.length cz] W fun e w' => e = .returned (.int .i64 my) ∧ w' = W) := fun W hW => hmy ▸ mayR_any x.L az cz zs W (hz.grown hW) hmz
  have H1 : Hid (zx ≠ 0 → z = zx ∧ l = []) := fun h => by
    have e : valZ x zs = zx := by unfold valZ; rw [hzx, if_pos h]
    exact ⟨by rw [← hvz, e], by rw [← hvl]; unfold valS; rw [if_neg (by rw [e]; exact h)]⟩
  have H2 : Hid (zx = 0 → my ≠ 0 → z = my ∧ l = []) := fun h h2 => by
    have e : valZ x zs = my := by unfold valZ; rw [hzx, hmy, if_neg (by omega)]
    exact ⟨by rw [← hvz, e], by rw [← hvl]; unfold valS; rw [if_neg (by rw [e]; exact h2)]⟩
  have H3 : Hid (zx = 0 → my = 0 → z = 0 ∧ ∀ W, w.grownBy W none → ∃ v, itoa v = l ∧ (v.natAbs : Int) < bbN 13 ∧ Calls Tryd.prog 9 #[wgV x.L a1 x.F.length c1 a2 x.S.length c2 a3 x.E.length c3, .slice az zs.length cz] W (WhN v W)) := fun h h2 => by
    have e : valZ x zs = 0 := by unfold valZ; rw [hzx, hmy, if_neg (by omega)]; exact h2
    refine ⟨by rw [← hvz, e], fun W hW => ?_⟩
    have gx := check_good.1 (hzx.trans h)
    obtain ⟨_, _, h60, us, hu, hul⟩ := may_nat (hmy.trans h2)
    have ex := gx.shape.2.1
    have hux : ∀ l, l ∈ us → l < x.S.length := fun l hl => by have := hul l hl; omega
    have hlen : us.length = zs.length := by rw [hu, List.length_map]
    have hmu : zs.map Int.toNat = us := by
      rw [hu, List.map_map]
      conv => rhs; rw [← List.map_id us]
      exact List.map_congr_left fun l _ => by simp
    refine ⟨valW x us, ?_, val72 gx hux (by omega), ?_⟩
    · rw [← hvl]
      unfold valS
      rw [if_pos e, hmu]
    · exact value_any x gx us hux (by omega) a1 a2 a3 az c1 c2 c3 cz _ _ _ _ W (mx.grown hW) (by rw [← hu]; exact hz.grown hW) rfl rfl rfl hlen
  have x0 := bx.b0
  have x1 := bx.b1
  have x2 := bx.b2
  have x3 := bx.b3
  rw [hW1] at x0 x1 x2 x3
  clear hW1 g1 s1 bx mx hz hmz hT hzx hmy hvz hvl
  go_enter Tryd.func3, Tryd.ntmps3
  go_wp2_with fail
  rw [← HW1.out]
  clear x0 x1 x2 x3
  refine (HC.out W1 G1.out).mono ?_
  rintro E w2 ⟨rfl, hg⟩
  have G2 : Hid (W1.grownBy w2 none) := hg
  clear hg
  have x0 := (BX.out w2 G2.out).b0
  have x1 := (BX.out w2 G2.out).b1
  have x2 := (BX.out w2 G2.out).b2
  have x3 := (BX.out w2 G2.out).b3
  go_wp2_with fail
  clear x0 x1 x2 x3
  refine (HCR.out w2 (grown_trans G1.out G2.out)).mono ?_
  rintro E w3 ⟨rfl, hg⟩
  have G3 : Hid (W1.grownBy w3 none) := grown_trans G2.out hg
  clear hg
  have x0 := (BX.out w3 G3.out).b0
  have x1 := (BX.out w3 G3.out).b1
  have x2 := (BX.out w3 G3.out).b2
  have x3 := (BX.out w3 G3.out).b3
  go_wp2_with fail
  clear x0 x1 x2 x3
  refine (HV.out w3 (grown_trans G1.out G3.out)).mono ?_
  rintro E w4 ⟨rfl, hg⟩
  have G4 : Hid (W1.grownBy w4 none) := grown_trans G3.out hg
  have dd : (zx != zx) = false := by simp
  clear hg
  by_cases h0 : zx = 0
  · subst h0
    have d0 : ((0 : Int) == 0) = true := rfl
    have x0 := (BX.out w4 G4.out).b0
    go_wp2_with fail
    refine (HMy.out w4 (grown_trans G1.out G4.out)).mono ?_
    rintro E w5 ⟨rfl, rfl⟩
    by_cases hm : my = 0
    · subst hm
      have h3 := H3.out (by simp) (by simp)
      obtain ⟨v, hv, hb, hcv⟩ := h3.2 w5 (grown_trans G1.out G4.out)
      obtain rfl : z = 0 := h3.1
      have HCv : Hid (Calls Tryd.prog 9 #[wgV x.L a1 x.F.length c1 a2 x.S.length c2 a3 x.E.length c3, .slice az zs.length cz] w5 (WhN v w5)) := hcv
      have HVv : Hid (itoa v = l ∧ (v.natAbs : Int) < bbN 13) := ⟨hv, hb⟩
      clear h3 hcv hv hb H1 H2 H3 x0
      have x0 := (BX.out w5 G4.out).b0
      have x1 := (BX.out w5 G4.out).b1
      have x2 := (BX.out w5 G4.out).b2
      have x3 := (BX.out w5 G4.out).b3
      go_wp2_with fail
      clear x0 x1 x2 x3
      refine HCv.out.mono ?_
      rintro E w6 ⟨bb, aa, n, c, rfl, hwh, hn, hg, hnew⟩
      obtain ⟨W7, hW7⟩ : ∃ W, W = w6.alloc (whO bb aa n c) := ⟨_, rfl⟩
      have g7 : w6.grownBy W7 none := by rw [hW7]; exact grown_alloc _ _
      have hb7 := heap_alloc_new w6 (whO bb aa n c)
      rw [← hW7] at hb7
      have b0 : W7.cell? ⟨w6.heap.size, 0, none⟩ = some (.bool bb) := by rw [cell_of_row _ _ 0 _ _ (0, 0) hb7]; rfl
      have b1 : W7.cell? ⟨w6.heap.size, 1, none⟩ = some (.slice aa n c) := by rw [cell_of_row _ _ 1 _ _ (0, 0) hb7]; rfl
      have HW7 : Hid (W7 = w6.alloc (whO bb aa n c)) := hW7
      have G7 : Hid (W1.grownBy W7 none) := grown_trans G4.out (grown_trans hg g7)
      have HTx : Hid (Calls Tryd.prog 10 #[whV bb aa n c] W7 (StrP l W7)) := HVv.out.1 ▸ text_any bb aa n c v W7 (hwh.grown g7) hn
      rw [hW7] at b0 b1
      clear hwh hn hg hnew hW7 g7 hb7
      go_wp2_with fail
      rw [← HW7.out]
      clear b0 b1
      refine HTx.out.mono ?_
      rintro E w8 ⟨rfl, hg⟩
      have GF : Hid (w.grownBy w8 none) := grown_trans G1.out (grown_trans G7.out hg)
      clear hg
      go_wp2_with fail
      go_ret
      exact ⟨rfl, GF.out⟩
    · have h2 := H2.out (by simp) hm
      obtain ⟨rfl, rfl⟩ : my = z ∧ l = [] := ⟨h2.1.symm, h2.2⟩
      have d1 : (my != 0) = true := by simpa using hm
      have d2 : (my == my) = true := by simp
      have GF : Hid (w.grownBy w5 none) := grown_trans G1.out G4.out
      clear h2 hm
      go_wp2_with fail
      go_ret
      exact ⟨rfl, GF.out⟩
  · have h2 := H1.out h0
    obtain ⟨rfl, rfl⟩ : zx = z ∧ l = [] := ⟨h2.1.symm, h2.2⟩
    have d0 : (zx == 0) = false := by simpa using h0
    have d1 : (zx != 0) = true := by simpa using h0
    have d2 : (zx == zx) = true := by simp
    have GF : Hid (w.grownBy w4 none) := grown_trans G1.out G4.out
    clear h2 h0
    go_wp2_with fail
    go_ret
    exact ⟨rfl, GF.out⟩
end Go.Proofs.YtjinibofbpgfjaaDoor
