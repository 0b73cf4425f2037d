/- WeighJoins: the law's walk. -/
import Derived.Test.YtkmcbdjcolbknaaWeJoi
import Derived.Test.YtkmcbdjcolbknaaMay
namespace Go.Proofs.Ytkmcbdjcolbknaa
open Go.RowKit
set_option linter.unusedVariables false
set_option linter.unusedSimpArgs false

theorem may_nat {n : Int} {zs : List Int} (h : mayF n zs = 0) : 1 ≤ n ∧ n ≤ 4 ∧ zs.length ≤ 60 ∧ ∃ us : List Nat, zs = us.map (fun l : Nat => (l : Int)) ∧ ∀ l, l ∈ us → l < n.toNat := by
  unfold mayF at h
  by_cases h1 : n < 1 ∨ 4 < n
  · rw [if_pos h1] at h; cases h
  · rw [if_neg h1] at h
    by_cases h2 : 60 < zs.length
    · rw [if_pos h2] at h; cases h
    · rw [if_neg h2] at h
      by_cases h3 : (zs.all fun x => decide (0 ≤ x) && decide (x < n)) = true
      · have h4 := List.all_eq_true.1 h3
        refine ⟨by omega, by omega, by omega, zs.map Int.toNat, ?_, ?_⟩
        · rw [List.map_map]
          conv => lhs; rw [← List.map_id zs]
          refine List.map_congr_left fun z hz => ?_
          have := h4 z hz
          simp at this
          simp
          omega
        · intro l hl
          obtain ⟨z, hz, rfl⟩ := List.mem_map.1 hl
          have := h4 z hz
          simp at this
          omega
      · rw [if_neg h3] at h; cases h
theorem sum_is (x y : WgI) : (sumZ x y = 0 ∧ sumX x y = besA x y ∧ GoodWg (besA x y) ∧ GoodWg x ∧ GoodWg y ∧ x.S.length = y.S.length) ∨ (sumZ x y ≠ 0 ∧ sumX x y = zeroW) := by
  by_cases h : sumZ x y = 0
  · have hX : sumX x y = besA x y := by unfold sumX; rw [if_pos h]
    have h2 := h
    unfold sumZ at h2
    by_cases hc : checkB x y = 0
    · by_cases h8 : 8 < x.F.length + y.F.length
      · simp [hc, h8] at h2
      · have g := checkB_good hc
        have e1 := g.1.shape.2.1
        have e2 := g.2.1.shape.2.1
        have e3 : x.S.length = y.S.length := by have := g.2.2; omega
        exact .inl ⟨h, hX, good_bes g.1 g.2.1 e3 (by omega), g.1, g.2.1, e3⟩
    · simp [hc] at h2
  · exact .inr ⟨h, by unfold sumX; rw [if_neg h]⟩
theorem pro_is (x y : WgI) : (proZ x y = 0 ∧ proX x y = kroA x y ∧ GoodWg (kroA x y) ∧ GoodWg x ∧ GoodWg y ∧ x.S.length = y.S.length) ∨ (proZ x y ≠ 0 ∧ proX x y = zeroW) := by
  by_cases h : proZ x y = 0
  · have hX : proX x y = kroA x y := by unfold proX; rw [if_pos h]
    have h2 := h
    unfold proZ at h2
    by_cases hc : checkB x y = 0
    · by_cases h8 : 8 < x.F.length * y.F.length
      · simp [hc, h8] at h2
      · by_cases h3 : InA x 3 ∧ InA y 3
        · have g := checkB_good hc
          have e1 := g.1.shape.2.1
          have e2 := g.2.1.shape.2.1
          have e3 : x.S.length = y.S.length := by have := g.2.2; omega
          exact .inl ⟨h, hX, good_kro g.1 g.2.1 e3 (by omega) h3.1 h3.2, g.1, g.2.1, e3⟩
        · simp [hc, h8, h3] at h2
    · simp [hc] at h2
  · exact .inr ⟨h, by unfold proX; rw [if_neg h]⟩
/-- How many there are. -/
def LenW (X : WgI) : Prop := X.F.length ≤ 1000 ∧ X.S.length ≤ 1000 ∧ X.E.length ≤ 1000
theorem GoodWg.len {X : WgI} (h : GoodWg X) : LenW X := by
  have h1 := h.size.2
  have h2 := h.let_.2
  have h3 := h.shape.1
  have h4 := h.shape.2.1
  exact ⟨by omega, by omega, by omega⟩
theorem zero_len : LenW zeroW := ⟨Nat.zero_le _, Nat.zero_le _, Nat.zero_le _⟩
def NoneW (X : WgI) : Prop := X.L = 0 ∧ X.F.length + X.S.length + X.E.length = 0
theorem zero_none : NoneW zeroW := ⟨rfl, rfl⟩

set_option maxHeartbeats 12800000 in
set_option maxRecDepth 100000 in
theorem joins_walk (x y : WgI) (a1 a2 a3 b1 b2 b3 : Option Addr) (c1 c2 c3 d1 d2 d3 : Nat) (zs : List Int) (az : Option Addr) (cz : Nat) (w : World) (hx : WgAt w x a1 a2 a3) (hy : WgAt w y b1 b2 b3) (hz : Ints w az zs) (hmz : zs.length ≤ maxLen) :
    Calls Try.prog 3 #[wgV x.L a1 x.F.length c1 a2 x.S.length c2 a3 x.E.length c3, wgV y.L b1 y.F.length d1 b2 y.S.length d2 b3 y.E.length d3, .slice az zs.length cz] w (Says (.bool true) w) := by
  obtain ⟨W1, hW1, g1, s1w, bx, by'⟩ := two_boxes4 w x y a1 a2 a3 b1 b2 b3 c1 c2 c3 d1 d2 d3
  have HW1 : Hid (W1 = (w.alloc (wgO x.L a1 x.F.length c1 a2 x.S.length c2 a3 x.E.length c3)).alloc (wgO y.L b1 y.F.length d1 b2 y.S.length d2 b3 y.E.length d3)) := hW1
  obtain ⟨S, hS⟩ : ∃ S, sumX x y = S := ⟨_, rfl⟩
  obtain ⟨P, hP⟩ : ∃ P, proX x y = P := ⟨_, rfl⟩
  obtain ⟨z1, hz1⟩ : ∃ z, sumZ x y = z := ⟨_, rfl⟩
  obtain ⟨z2, hz2⟩ : ∃ z, proZ x y = z := ⟨_, rfl⟩
  obtain ⟨zx, hzx⟩ : ∃ z, checkW x = z := ⟨_, rfl⟩
  obtain ⟨zy, hzy⟩ : ∃ z, checkW y = z := ⟨_, rfl⟩
  obtain ⟨my, hmy⟩ : ∃ z, mayF x.L zs = z := ⟨_, rfl⟩
  have HSu : Hid (Calls Try.prog 4 #[wgV x.L a1 x.F.length c1 a2 x.S.length c2 a3 x.E.length c3, wgV y.L b1 y.F.length d1 b2 y.S.length d2 b3 y.E.length d3] W1 (JoiP z1 S W1)) := by have h := sum_any x y a1 a2 a3 b1 b2 b3 c1 c2 c3 d1 d2 d3 W1 (hx.grown g1) (hy.grown g1); rw [hS, hz1] at h; exact h
  have HPr0 : Hid (∀ W, w.grownBy W none → Calls Try.prog 5 #[wgV x.L a1 x.F.length c1 a2 x.S.length c2 a3 x.E.length c3, wgV y.L b1 y.F.length d1 b2 y.S.length d2 b3 y.E.length d3] W (JoiP z2 P W)) := fun W hW => by have h := product_any x y a1 a2 a3 b1 b2 b3 c1 c2 c3 d1 d2 d3 W (hx.grown hW) (hy.grown hW); rw [hP, hz2] at h; exact h
  have G1 : Hid (w.grownBy W1 none) := g1
  have Hz1 : Hid (sumZ x y = z1) := hz1
  have Hz2 : Hid (proZ x y = z2) := hz2
  have HX : Hid (checkW x = zx) := hzx
  have HY : Hid (checkW y = zy) := hzy
  have HLS : Hid (LenW S) := by rcases sum_is x y with h | h <;> rw [hS] at h; · rw [h.2.1]; exact h.2.2.1.len
                                · rw [h.2]; exact zero_len
  have HLP : Hid (LenW P) := by rcases pro_is x y with h | h <;> rw [hP] at h; · rw [h.2.1]; exact h.2.2.1.len
                                · rw [h.2]; exact zero_len
  have HS0 : Hid (z1 ≠ 0 → NoneW S) := fun hn => by
    rcases sum_is x y with h | h
    · exact absurd h.1 (by rw [hz1]; exact hn)
    · rw [← hS, h.2]; exact zero_none
  have HP0 : Hid (z2 ≠ 0 → NoneW P) := fun hn => by
    rcases pro_is x y with h | h
    · exact absurd h.1 (by rw [hz2]; exact hn)
    · rw [← hP, h.2]; exact zero_none
  have HSG : Hid (z1 = 0 → S = besA x y ∧ GoodWg S ∧ GoodWg x ∧ GoodWg y ∧ x.S.length = y.S.length) := fun hn => by
    rcases sum_is x y with h | h
    · rw [hS] at h; exact ⟨h.2.1, by rw [h.2.1]; exact h.2.2.1, h.2.2.2⟩
    · exact absurd (hz1.trans hn) h.1
  have HPG : Hid (z2 = 0 → P = kroA x y ∧ GoodWg P ∧ GoodWg x ∧ GoodWg y ∧ x.S.length = y.S.length) := fun hn => by
    rcases pro_is x y with h | h
    · rw [hP] at h; exact ⟨h.2.1, by rw [h.2.1]; exact h.2.2.1, h.2.2.2⟩
    · exact absurd (hz2.trans hn) h.1
  have HSL : Hid (z1 = 0 → (S.L != x.L) = false) := fun hn => by rw [(HSG.out hn).1]; show (x.L != x.L) = false; simp
  have HPL : Hid (z2 = 0 → (P.L != x.L) = false) := fun hn => by rw [(HPG.out hn).1]; show (x.L != x.L) = false; simp
  have BX1 : Hid (∀ W, W1.grownBy W none → Box4 W w.heap.size x.L a1 x.F.length c1 a2 x.S.length c2 a3 x.E.length c3) := fun W hW => bx.grown hW
  have BY1 : Hid (∀ W, W1.grownBy W none → Box4 W (w.heap.size + 1) y.L b1 y.F.length d1 b2 y.S.length d2 b3 y.E.length d3) := fun W hW => by'.grown hW
  have HXY : Hid (∀ W, w.grownBy W none → WgAt W x a1 a2 a3 ∧ WgAt W y b1 b2 b3 ∧ Ints W az zs) := fun W hW => ⟨hx.grown hW, hy.grown hW, hz.grown hW⟩
  have HMF : Hid (mayF x.L zs = my ∧ zs.length ≤ maxLen) := ⟨hmy, hmz⟩
  have x0 := bx.b0
  have x1 := bx.b1
  have x2 := bx.b2
  have x3 := bx.b3
  have y0 := by'.b0
  have y1 := by'.b1
  have y2 := by'.b2
  have y3 := by'.b3
  rw [hW1] at x0 x1 x2 x3 y0 y1 y2 y3
  have hm1 := hx.m1
  have hm2 := hy.m1
  unfold maxLen at hm1 hm2
  clear hW1 g1 s1w bx by' hS hP hz1 hz2 hzx hzy hmy hx hy hz hmz
  go_enter Try.func3, Try.ntmps3
  go_wp2_with fail
  rw [← HW1.out]
  clear x0 x1 x2 x3 y0 y1 y2 y3
  refine HSu.out.mono ?_
  rintro E w4 ⟨s1, s2, s3, k1, k2, k3, rfl, hws, hg4⟩
  have G4 : Hid (W1.grownBy w4 none) := hg4
  obtain ⟨W5, hW5, g5, s5, bs⟩ := box4_new w4 S.L s1 S.F.length k1 s2 S.S.length k2 s3 S.E.length k3
  have HW5 : Hid (W5 = w4.alloc (wgO S.L s1 S.F.length k1 s2 S.S.length k2 s3 S.E.length k3)) := hW5
  have G5 : Hid (W1.grownBy W5 none) := grown_trans hg4 g5
  have HSA : Hid (WgAt W5 S s1 s2 s3) := hws.grown g5
  have BS1 : Hid (∀ W, W5.grownBy W none → Box4 W w4.heap.size S.L s1 S.F.length k1 s2 S.S.length k2 s3 S.E.length k3) := fun W hW => bs.grown hW
  have x0 := (BX1.out W5 G5.out).b0
  have x1 := (BX1.out W5 G5.out).b1
  have x2 := (BX1.out W5 G5.out).b2
  have x3 := (BX1.out W5 G5.out).b3
  have y0 := (BY1.out W5 G5.out).b0
  have y1 := (BY1.out W5 G5.out).b1
  have y2 := (BY1.out W5 G5.out).b2
  have y3 := (BY1.out W5 G5.out).b3
  rw [hW5] at x0 x1 x2 x3 y0 y1 y2 y3
  clear hW5 g5 s5 bs hws hg4 HSu
  go_wp2_with fail
  rw [← HW5.out]
  clear x0 x1 x2 x3 y0 y1 y2 y3
  refine (HPr0.out W5 (grown_trans G1.out G5.out)).mono ?_
  rintro E w6 ⟨p1, p2, p3, l1, l2, l3, rfl, hwp, hg6⟩
  obtain ⟨W7, hW7, g7, s7, bp⟩ := box4_new w6 P.L p1 P.F.length l1 p2 P.S.length l2 p3 P.E.length l3
  have HW7 : Hid (W7 = w6.alloc (wgO P.L p1 P.F.length l1 p2 P.S.length l2 p3 P.E.length l3)) := hW7
  have g57 := grown_trans hg6 g7
  have g17 := grown_trans G5.out g57
  have GW : Hid (w.grownBy W7 none) := grown_trans G1.out g17
  have BX : Hid (∀ W, W7.grownBy W none → Box4 W w.heap.size x.L a1 x.F.length c1 a2 x.S.length c2 a3 x.E.length c3) := fun W hW => BX1.out W (grown_trans g17 hW)
  have BY : Hid (∀ W, W7.grownBy W none → Box4 W (w.heap.size + 1) y.L b1 y.F.length d1 b2 y.S.length d2 b3 y.E.length d3) := fun W hW => BY1.out W (grown_trans g17 hW)
  have BS : Hid (∀ W, W7.grownBy W none → Box4 W w4.heap.size S.L s1 S.F.length k1 s2 S.S.length k2 s3 S.E.length k3) := fun W hW => BS1.out W (grown_trans g57 hW)
  have BP : Hid (∀ W, W7.grownBy W none → Box4 W w6.heap.size P.L p1 P.F.length l1 p2 P.S.length l2 p3 P.E.length l3) := fun W hW => bp.grown hW
  have HAll : Hid (∀ W, W7.grownBy W none → WgAt W x a1 a2 a3 ∧ WgAt W y b1 b2 b3 ∧ Ints W az zs ∧ WgAt W S s1 s2 s3 ∧ WgAt W P p1 p2 p3) := fun W hW => ⟨(HXY.out W (grown_trans GW.out hW)).1, (HXY.out W (grown_trans GW.out hW)).2.1, (HXY.out W (grown_trans GW.out hW)).2.2, HSA.out.grown (grown_trans g57 hW), (hwp.grown g7).grown hW⟩
  have HCX : Hid (∀ W, W7.grownBy W none → Calls Try.prog 6 #[wgV x.L a1 x.F.length c1 a2 x.S.length c2 a3 x.E.length c3] W (ErrP zx W)) := fun W hW => HX.out ▸ checkR18_any x a1 a2 a3 c1 c2 c3 W (HAll.out W hW).1
  have HCY : Hid (∀ W, W7.grownBy W none → Calls Try.prog 6 #[wgV y.L b1 y.F.length d1 b2 y.S.length d2 b3 y.E.length d3] W (ErrP zy W)) := fun W hW => HY.out ▸ checkR18_any y b1 b2 b3 d1 d2 d3 W (HAll.out W hW).2.1
  have HCS : Hid (z1 = 0 → ∀ W, W7.grownBy W none → Calls Try.prog 6 #[wgV S.L s1 S.F.length k1 s2 S.S.length k2 s3 S.E.length k3] W (ErrP 0 W)) := fun hn W hW => by have h := checkR18_any S s1 s2 s3 k1 k2 k3 W (HAll.out W hW).2.2.2.1; rw [check_good.2 (HSG.out hn).2.1] at h; exact h
  have HCP : Hid (z2 = 0 → ∀ W, W7.grownBy W none → Calls Try.prog 6 #[wgV P.L p1 P.F.length l1 p2 P.S.length l2 p3 P.E.length l3] W (ErrP 0 W)) := fun hn W hW => by have h := checkR18_any P p1 p2 p3 l1 l2 l3 W (HAll.out W hW).2.2.2.2; rw [check_good.2 (HPG.out hn).2.1] at h; exact h
  have HAX : Hid (∀ W, W7.grownBy W none → Calls Try.prog 7 #[wgV x.L a1 x.F.length c1 a2 x.S.length c2 a3 x.E.length c3, .int .i64 3] W (TellsB (¬ InA x 3) W)) := fun W hW => aboveA_any x a1 a2 a3 c1 c2 c3 3 W (HAll.out W hW).1 (by omega)
  have HAY : Hid (∀ W, W7.grownBy W none → Calls Try.prog 7 #[wgV y.L b1 y.F.length d1 b2 y.S.length d2 b3 y.E.length d3, .int .i64 3] W (TellsB (¬ InA y 3) W)) := fun W hW => aboveA_any y b1 b2 b3 d1 d2 d3 3 W (HAll.out W hW).2.1 (by omega)
  have HNS : Hid (∀ W, W7.grownBy W none → Calls Try.prog 8 #[wgV S.L s1 S.F.length k1 s2 S.S.length k2 s3 S.E.length k3] W (TellsB (NoneW S) W)) := fun W hW => noWeigh_any S.L s1 s2 s3 _ k1 _ k2 _ k3 W HLS.out.1 HLS.out.2.1 HLS.out.2.2
  have HNP : Hid (∀ W, W7.grownBy W none → Calls Try.prog 8 #[wgV P.L p1 P.F.length l1 p2 P.S.length l2 p3 P.E.length l3] W (TellsB (NoneW P) W)) := fun W hW => noWeigh_any P.L p1 p2 p3 _ l1 _ l2 _ l3 W HLP.out.1 HLP.out.2.1 HLP.out.2.2
  have HMy : Hid (∀ W, W7.grownBy W none → Calls Try.prog 9 #[.int .i64 x.L, .slice az zs.length cz] W fun e w' => e = .returned (.int .i64 my) ∧ w' = W) := fun W hW => HMF.out.1 ▸ mayR_any x.L az cz zs W (HAll.out W hW).2.2.1 HMF.out.2
  have HWS : Hid (z1 = 0 → my = 0 → ∀ W, W7.grownBy W none → Calls Try.prog 10 #[wgV S.L s1 S.F.length k1 s2 S.S.length k2 s3 S.E.length k3, wgV x.L a1 x.F.length c1 a2 x.S.length c2 a3 x.E.length c3, wgV y.L b1 y.F.length d1 b2 y.S.length d2 b3 y.E.length d3, .slice az zs.length cz, .bool false] W (fun e w' => e = .returned (.bool true) ∧ W.grownBy w' none)) := fun hn hm W hW => by
    obtain ⟨m1, m2, m3, us, hus, hul⟩ := may_nat (HMF.out.1.trans hm)
    obtain ⟨eS, gS, gx, gy, eL⟩ := HSG.out hn
    have ex := gx.shape.2.1
    have hux : ∀ l, l ∈ us → l < x.S.length := fun l hl => by have := hul l hl; omega
    have hlu : us.length = zs.length := by rw [hus, List.length_map]
    have hsS : S.S.length = x.S.length := by rw [eS]; show ((List.range x.S.length).map _).length = _; simp
    have h := HAll.out W hW
    exact weighs_any us (by omega) az cz zs.length W (by rw [← hus]; exact h.2.2.1) hlu S gS (fun l hl => by rw [hsS]; exact hux l hl) s1 s2 s3 k1 k2 k3 _ _ _ h.2.2.2.1 rfl rfl rfl x gx hux a1 a2 a3 c1 c2 c3 _ _ _ h.1 rfl rfl rfl y gy (fun l hl => by rw [← eL]; exact hux l hl) b1 b2 b3 d1 d2 d3 _ _ _ h.2.1 rfl rfl rfl false (by rw [eS]; exact val_bes gx.shape gy.shape eL hux)
  have HWP : Hid (z2 = 0 → my = 0 → ∀ W, W7.grownBy W none → Calls Try.prog 10 #[wgV P.L p1 P.F.length l1 p2 P.S.length l2 p3 P.E.length l3, wgV x.L a1 x.F.length c1 a2 x.S.length c2 a3 x.E.length c3, wgV y.L b1 y.F.length d1 b2 y.S.length d2 b3 y.E.length d3, .slice az zs.length cz, .bool true] W (fun e w' => e = .returned (.bool true) ∧ W.grownBy w' none)) := fun hn hm W hW => by
    obtain ⟨m1, m2, m3, us, hus, hul⟩ := may_nat (HMF.out.1.trans hm)
    obtain ⟨eP, gP, gx, gy, eL⟩ := HPG.out hn
    have ex := gx.shape.2.1
    have hux : ∀ l, l ∈ us → l < x.S.length := fun l hl => by have := hul l hl; omega
    have hlu : us.length = zs.length := by rw [hus, List.length_map]
    have hsP : P.S.length = x.S.length := by rw [eP]; show ((List.range x.S.length).map _).length = _; simp
    have h := HAll.out W hW
    exact weighs_any us (by omega) az cz zs.length W (by rw [← hus]; exact h.2.2.1) hlu P gP (fun l hl => by rw [hsP]; exact hux l hl) p1 p2 p3 l1 l2 l3 _ _ _ h.2.2.2.2 rfl rfl rfl x gx hux a1 a2 a3 c1 c2 c3 _ _ _ h.1 rfl rfl rfl y gy (fun l hl => by rw [← eL]; exact hux l hl) b1 b2 b3 d1 d2 d3 _ _ _ h.2.1 rfl rfl rfl true (by rw [eP]; exact val_kro gx.shape gy.shape (by have := gy.size.1; omega) eL hux)
  have x0 := (BX.out W7 (grown_refl _ _)).b0
  have x1 := (BX.out W7 (grown_refl _ _)).b1
  have x2 := (BX.out W7 (grown_refl _ _)).b2
  have x3 := (BX.out W7 (grown_refl _ _)).b3
  rw [hW7] at x0 x1 x2 x3
  clear hW7 g7 s7 bp g57 g17 hwp hg6 HPr0 HXY BX1 BY1 BS1 HSA
  go_wp2_with fail
  rw [← HW7.out]
  clear x0 x1 x2 x3
  refine (HCX.out W7 (grown_refl _ _)).mono ?_
  rintro E w8 ⟨rfl, hg⟩
  have G8 : Hid (W7.grownBy w8 none) := grown_trans (grown_refl _ _) hg
  clear hg
  by_cases hx0 : zx = 0
  · subst hx0
    have dx : ((0 : Int) == 0) = true := rfl
    have y0 := (BY.out w8 G8.out).b0
    have y1 := (BY.out w8 G8.out).b1
    have y2 := (BY.out w8 G8.out).b2
    have y3 := (BY.out w8 G8.out).b3
    go_wp2_with fail
    clear y0 y1 y2 y3
    refine (HCY.out w8 G8.out).mono ?_
    rintro E w9 ⟨rfl, hg⟩
    have G9 : Hid (W7.grownBy w9 none) := grown_trans G8.out hg
    clear hg
    by_cases hy0 : zy = 0
    · subst hy0
      by_cases he : x.L = y.L
      · have GD : Hid (GoodWg x ∧ GoodWg y ∧ x.L = y.L) := checkB_good (by unfold checkB; rw [HX.out, HY.out, if_neg (by omega), if_neg (by omega), if_neg (by simpa using he)])
        have HB0 : Hid (checkB x y = 0) := by show _ = _; unfold checkB; rw [HX.out, HY.out, if_neg (by omega), if_neg (by omega), if_neg (by simpa using he)]
        have dl : (x.L != y.L) = false := by simpa using he
        clear he
        have hn8 := GD.out.1.size.2
        have hm8 := GD.out.2.1.size.2
        have hq : x.F.length * y.F.length ≤ 64 := Nat.mul_le_mul hn8 hm8
        have i2 : IntKind.i64.wrap ((x.F.length : Int) * (y.F.length : Int)) = (x.F.length : Int) * (y.F.length : Int) := by have e : ((x.F.length * y.F.length : Nat) : Int) = (x.F.length : Int) * (y.F.length : Int) := Int.natCast_mul _ _; rw [IntKind.wrap_i64]; omega
        by_cases h1 : 8 < x.F.length + y.F.length
        · have i1 : (8 : Int) < (x.F.length : Int) + (y.F.length : Int) := by omega
          obtain rfl : z1 = 1 := by rw [← Hz1.out]; unfold sumZ; rw [HB0.out, if_neg (by omega), if_pos h1]
          clear h1
          by_cases h2 : 8 < x.F.length * y.F.length
          · have i3 : (8 : Int) < (x.F.length : Int) * (y.F.length : Int) := by have e : ((x.F.length * y.F.length : Nat) : Int) = (x.F.length : Int) * (y.F.length : Int) := Int.natCast_mul _ _; omega
            have H2 : Hid ( 8 < x.F.length * y.F.length) := h2
            clear h2 hq
            obtain rfl : z2 = 1 := by rw [← Hz2.out]; unfold proZ; rw [HB0.out, if_neg (by omega), if_pos H2.out]
            have x0 := (BX.out w9 G9.out).b0
            have x1 := (BX.out w9 G9.out).b1
            have x2 := (BX.out w9 G9.out).b2
            have x3 := (BX.out w9 G9.out).b3
            have y0 := (BY.out w9 G9.out).b0
            have y1 := (BY.out w9 G9.out).b1
            have y2 := (BY.out w9 G9.out).b2
            have y3 := (BY.out w9 G9.out).b3
            go_wp2_with fail
            clear x0 x1 x2 x3 y0 y1 y2 y3
            refine (HAX.out w9 G9.out).mono ?_
            rintro E wA ⟨ba, rfl, hba, hg⟩
            have GA : Hid (W7.grownBy wA none) := grown_trans G9.out hg
            have Hba : Hid (ba = true ↔ ¬ InA x 3) := hba
            clear hba
            clear hg
            have y0 := (BY.out wA GA.out).b0
            have y1 := (BY.out wA GA.out).b1
            have y2 := (BY.out wA GA.out).b2
            have y3 := (BY.out wA GA.out).b3
            go_wp2_with fail
            clear y0 y1 y2 y3
            refine (HAY.out wA GA.out).mono ?_
            rintro E wB ⟨bb, rfl, hbb, hg⟩
            have GB : Hid (W7.grownBy wB none) := grown_trans GA.out hg
            have Hbb : Hid (bb = true ↔ ¬ InA y 3) := hbb
            clear hbb
            clear hg
            cases ba with
            | true =>
              have x1 := (BX.out wB GB.out).b1
              have y1 := (BY.out wB GB.out).b1
              have u0 := (BS.out wB GB.out).b0
              have u1 := (BS.out wB GB.out).b1
              have u2 := (BS.out wB GB.out).b2
              have u3 := (BS.out wB GB.out).b3
              go_wp2_with fail
              clear u0 u1 u2 u3
              refine (HNS.out wB GB.out).mono ?_
              rintro E t1 ⟨bs, rfl, hbs, hg⟩
              have T1 : Hid (W7.grownBy t1 none) := grown_trans GB.out hg
              have hbs1 : bs = true := hbs.2 (HS0.out (by omega))
              subst hbs1
              clear hbs
              clear hg
              have v0 := (BP.out t1 T1.out).b0
              have v1 := (BP.out t1 T1.out).b1
              have v2 := (BP.out t1 T1.out).b2
              have v3 := (BP.out t1 T1.out).b3
              go_wp2_with fail
              clear v0 v1 v2 v3
              refine (HNP.out t1 T1.out).mono ?_
              rintro E t2 ⟨bp, rfl, hbp, hg⟩
              have T2 : Hid (W7.grownBy t2 none) := grown_trans T1.out hg
              have hbp1 : bp = true := hbp.2 (HP0.out (by omega))
              subst hbp1
              clear hbp
              clear hg
              have x0 := (BX.out t2 T2.out).b0
              go_wp2_with fail
              refine (HMy.out t2 T2.out).mono ?_
              rintro E w0 ⟨rfl, rfl⟩
              have GF : Hid (w.grownBy _ none) := grown_trans GW.out T2.out
              go_wp2_with fail
              go_ret
              exact ⟨rfl, GF.out⟩
            | false =>
              cases bb with
              | true =>
                have x1 := (BX.out wB GB.out).b1
                have y1 := (BY.out wB GB.out).b1
                have u0 := (BS.out wB GB.out).b0
                have u1 := (BS.out wB GB.out).b1
                have u2 := (BS.out wB GB.out).b2
                have u3 := (BS.out wB GB.out).b3
                go_wp2_with fail
                clear u0 u1 u2 u3
                refine (HNS.out wB GB.out).mono ?_
                rintro E t3 ⟨bs, rfl, hbs, hg⟩
                have T3 : Hid (W7.grownBy t3 none) := grown_trans GB.out hg
                have hbs1 : bs = true := hbs.2 (HS0.out (by omega))
                subst hbs1
                clear hbs
                clear hg
                have v0 := (BP.out t3 T3.out).b0
                have v1 := (BP.out t3 T3.out).b1
                have v2 := (BP.out t3 T3.out).b2
                have v3 := (BP.out t3 T3.out).b3
                go_wp2_with fail
                clear v0 v1 v2 v3
                refine (HNP.out t3 T3.out).mono ?_
                rintro E t4 ⟨bp, rfl, hbp, hg⟩
                have T4 : Hid (W7.grownBy t4 none) := grown_trans T3.out hg
                have hbp1 : bp = true := hbp.2 (HP0.out (by omega))
                subst hbp1
                clear hbp
                clear hg
                have x0 := (BX.out t4 T4.out).b0
                go_wp2_with fail
                refine (HMy.out t4 T4.out).mono ?_
                rintro E w0 ⟨rfl, rfl⟩
                have GF : Hid (w.grownBy _ none) := grown_trans GW.out T4.out
                go_wp2_with fail
                go_ret
                exact ⟨rfl, GF.out⟩
              | false =>
                have x1 := (BX.out wB GB.out).b1
                have y1 := (BY.out wB GB.out).b1
                have u0 := (BS.out wB GB.out).b0
                have u1 := (BS.out wB GB.out).b1
                have u2 := (BS.out wB GB.out).b2
                have u3 := (BS.out wB GB.out).b3
                go_wp2_with fail
                clear u0 u1 u2 u3
                refine (HNS.out wB GB.out).mono ?_
                rintro E t5 ⟨bs, rfl, hbs, hg⟩
                have T5 : Hid (W7.grownBy t5 none) := grown_trans GB.out hg
                have hbs1 : bs = true := hbs.2 (HS0.out (by omega))
                subst hbs1
                clear hbs
                clear hg
                have v0 := (BP.out t5 T5.out).b0
                have v1 := (BP.out t5 T5.out).b1
                have v2 := (BP.out t5 T5.out).b2
                have v3 := (BP.out t5 T5.out).b3
                go_wp2_with fail
                clear v0 v1 v2 v3
                refine (HNP.out t5 T5.out).mono ?_
                rintro E t6 ⟨bp, rfl, hbp, hg⟩
                have T6 : Hid (W7.grownBy t6 none) := grown_trans T5.out hg
                have hbp1 : bp = true := hbp.2 (HP0.out (by omega))
                subst hbp1
                clear hbp
                clear hg
                have x0 := (BX.out t6 T6.out).b0
                go_wp2_with fail
                refine (HMy.out t6 T6.out).mono ?_
                rintro E w0 ⟨rfl, rfl⟩
                have GF : Hid (w.grownBy _ none) := grown_trans GW.out T6.out
                go_wp2_with fail
                go_ret
                exact ⟨rfl, GF.out⟩
          · have i3 : ¬ (8 : Int) < (x.F.length : Int) * (y.F.length : Int) := by have e : ((x.F.length * y.F.length : Nat) : Int) = (x.F.length : Int) * (y.F.length : Int) := Int.natCast_mul _ _; omega
            have H2 : Hid (¬ 8 < x.F.length * y.F.length) := h2
            clear h2 hq
            have x0 := (BX.out w9 G9.out).b0
            have x1 := (BX.out w9 G9.out).b1
            have x2 := (BX.out w9 G9.out).b2
            have x3 := (BX.out w9 G9.out).b3
            have y0 := (BY.out w9 G9.out).b0
            have y1 := (BY.out w9 G9.out).b1
            have y2 := (BY.out w9 G9.out).b2
            have y3 := (BY.out w9 G9.out).b3
            go_wp2_with fail
            clear x0 x1 x2 x3 y0 y1 y2 y3
            refine (HAX.out w9 G9.out).mono ?_
            rintro E wA ⟨ba, rfl, hba, hg⟩
            have GA : Hid (W7.grownBy wA none) := grown_trans G9.out hg
            have Hba : Hid (ba = true ↔ ¬ InA x 3) := hba
            clear hba
            clear hg
            have y0 := (BY.out wA GA.out).b0
            have y1 := (BY.out wA GA.out).b1
            have y2 := (BY.out wA GA.out).b2
            have y3 := (BY.out wA GA.out).b3
            go_wp2_with fail
            clear y0 y1 y2 y3
            refine (HAY.out wA GA.out).mono ?_
            rintro E wB ⟨bb, rfl, hbb, hg⟩
            have GB : Hid (W7.grownBy wB none) := grown_trans GA.out hg
            have Hbb : Hid (bb = true ↔ ¬ InA y 3) := hbb
            clear hbb
            clear hg
            cases ba with
            | true =>
              obtain rfl : z2 = 2 := by rw [← Hz2.out]; unfold proZ; rw [HB0.out, if_neg (by omega), if_neg H2.out, if_neg (fun h => Hba.out.1 (by simp) h.1)]
              have x1 := (BX.out wB GB.out).b1
              have y1 := (BY.out wB GB.out).b1
              have u0 := (BS.out wB GB.out).b0
              have u1 := (BS.out wB GB.out).b1
              have u2 := (BS.out wB GB.out).b2
              have u3 := (BS.out wB GB.out).b3
              go_wp2_with fail
              clear u0 u1 u2 u3
              refine (HNS.out wB GB.out).mono ?_
              rintro E t7 ⟨bs, rfl, hbs, hg⟩
              have T7 : Hid (W7.grownBy t7 none) := grown_trans GB.out hg
              have hbs1 : bs = true := hbs.2 (HS0.out (by omega))
              subst hbs1
              clear hbs
              clear hg
              have v0 := (BP.out t7 T7.out).b0
              have v1 := (BP.out t7 T7.out).b1
              have v2 := (BP.out t7 T7.out).b2
              have v3 := (BP.out t7 T7.out).b3
              go_wp2_with fail
              clear v0 v1 v2 v3
              refine (HNP.out t7 T7.out).mono ?_
              rintro E t8 ⟨bp, rfl, hbp, hg⟩
              have T8 : Hid (W7.grownBy t8 none) := grown_trans T7.out hg
              have hbp1 : bp = true := hbp.2 (HP0.out (by omega))
              subst hbp1
              clear hbp
              clear hg
              have x0 := (BX.out t8 T8.out).b0
              go_wp2_with fail
              refine (HMy.out t8 T8.out).mono ?_
              rintro E w0 ⟨rfl, rfl⟩
              have GF : Hid (w.grownBy _ none) := grown_trans GW.out T8.out
              go_wp2_with fail
              go_ret
              exact ⟨rfl, GF.out⟩
            | false =>
              cases bb with
              | true =>
                obtain rfl : z2 = 2 := by rw [← Hz2.out]; unfold proZ; rw [HB0.out, if_neg (by omega), if_neg H2.out, if_neg (fun h => Hbb.out.1 (by simp) h.2)]
                have x1 := (BX.out wB GB.out).b1
                have y1 := (BY.out wB GB.out).b1
                have u0 := (BS.out wB GB.out).b0
                have u1 := (BS.out wB GB.out).b1
                have u2 := (BS.out wB GB.out).b2
                have u3 := (BS.out wB GB.out).b3
                go_wp2_with fail
                clear u0 u1 u2 u3
                refine (HNS.out wB GB.out).mono ?_
                rintro E t9 ⟨bs, rfl, hbs, hg⟩
                have T9 : Hid (W7.grownBy t9 none) := grown_trans GB.out hg
                have hbs1 : bs = true := hbs.2 (HS0.out (by omega))
                subst hbs1
                clear hbs
                clear hg
                have v0 := (BP.out t9 T9.out).b0
                have v1 := (BP.out t9 T9.out).b1
                have v2 := (BP.out t9 T9.out).b2
                have v3 := (BP.out t9 T9.out).b3
                go_wp2_with fail
                clear v0 v1 v2 v3
                refine (HNP.out t9 T9.out).mono ?_
                rintro E t10 ⟨bp, rfl, hbp, hg⟩
                have T10 : Hid (W7.grownBy t10 none) := grown_trans T9.out hg
                have hbp1 : bp = true := hbp.2 (HP0.out (by omega))
                subst hbp1
                clear hbp
                clear hg
                have x0 := (BX.out t10 T10.out).b0
                go_wp2_with fail
                refine (HMy.out t10 T10.out).mono ?_
                rintro E w0 ⟨rfl, rfl⟩
                have GF : Hid (w.grownBy _ none) := grown_trans GW.out T10.out
                go_wp2_with fail
                go_ret
                exact ⟨rfl, GF.out⟩
              | false =>
                obtain rfl : z2 = 0 := by rw [← Hz2.out]; unfold proZ; rw [HB0.out, if_neg (by omega), if_neg H2.out, if_pos ⟨Classical.not_not.1 (fun h => by have := Hba.out.2 h; cases this), Classical.not_not.1 (fun h => by have := Hbb.out.2 h; cases this)⟩]
                have x1 := (BX.out wB GB.out).b1
                have y1 := (BY.out wB GB.out).b1
                have u0 := (BS.out wB GB.out).b0
                have u1 := (BS.out wB GB.out).b1
                have u2 := (BS.out wB GB.out).b2
                have u3 := (BS.out wB GB.out).b3
                go_wp2_with fail
                clear u0 u1 u2 u3
                refine (HNS.out wB GB.out).mono ?_
                rintro E t11 ⟨bs, rfl, hbs, hg⟩
                have T11 : Hid (W7.grownBy t11 none) := grown_trans GB.out hg
                have hbs1 : bs = true := hbs.2 (HS0.out (by omega))
                subst hbs1
                clear hbs
                clear hg
                have v0 := (BP.out t11 T11.out).b0
                have v1 := (BP.out t11 T11.out).b1
                have v2 := (BP.out t11 T11.out).b2
                have v3 := (BP.out t11 T11.out).b3
                go_wp2_with fail
                clear v0 v1 v2 v3
                refine (HNP.out t11 T11.out).mono ?_
                rintro E t12 ⟨bp, rfl, hbp, hg⟩
                have T12 : Hid (W7.grownBy t12 none) := grown_trans T11.out hg
                clear hbp
                clear hg
                have x0 := (BX.out t12 T12.out).b0
                go_wp2_with fail
                refine (HMy.out t12 T12.out).mono ?_
                rintro E w0 ⟨rfl, rfl⟩
                by_cases hm : my = 0
                · subst hm
                  have dm : ((0 : Int) == 0) = true := rfl
                  have HWP1 : Hid _ := HWP.out (by simp) (by simp)
                  have HCP1 : Hid _ := HCP.out (by simp)
                  have v0 := (BP.out w0 T12.out).b0
                  have v1 := (BP.out w0 T12.out).b1
                  have v2 := (BP.out w0 T12.out).b2
                  have v3 := (BP.out w0 T12.out).b3
                  go_wp2_with fail
                  clear v0 v1 v2 v3 x0
                  refine (HCP1.out w0 T12.out).mono ?_
                  rintro E t13 ⟨rfl, hg⟩
                  have T13 : Hid (W7.grownBy t13 none) := grown_trans T12.out hg
                  clear hg
                  have dp := HPL.out (by simp)
                  have v0 := (BP.out t13 T13.out).b0
                  have x0 := (BX.out t13 T13.out).b0
                  have v1 := (BP.out t13 T13.out).b1
                  have v2 := (BP.out t13 T13.out).b2
                  have v3 := (BP.out t13 T13.out).b3
                  have x1 := (BX.out t13 T13.out).b1
                  have x2 := (BX.out t13 T13.out).b2
                  have x3 := (BX.out t13 T13.out).b3
                  have y0 := (BY.out t13 T13.out).b0
                  have y1 := (BY.out t13 T13.out).b1
                  have y2 := (BY.out t13 T13.out).b2
                  have y3 := (BY.out t13 T13.out).b3
                  go_wp2_with fail
                  clear v0 v1 v2 v3 x0 x1 x2 x3 y0 y1 y2 y3
                  clear dp
                  refine (HWP1.out t13 T13.out).mono ?_
                  rintro E t14 ⟨rfl, hg⟩
                  have T14 : Hid (W7.grownBy t14 none) := grown_trans T13.out hg
                  clear hg
                  have GF : Hid (w.grownBy _ none) := grown_trans GW.out T14.out
                  go_wp2_with fail
                  go_ret
                  exact ⟨rfl, GF.out⟩
                · have dm : (my == 0) = false := by simpa using hm
                  clear hm
                  have HCP1 : Hid _ := HCP.out (by simp)
                  have v0 := (BP.out w0 T12.out).b0
                  have v1 := (BP.out w0 T12.out).b1
                  have v2 := (BP.out w0 T12.out).b2
                  have v3 := (BP.out w0 T12.out).b3
                  go_wp2_with fail
                  clear v0 v1 v2 v3 x0
                  refine (HCP1.out w0 T12.out).mono ?_
                  rintro E t15 ⟨rfl, hg⟩
                  have T15 : Hid (W7.grownBy t15 none) := grown_trans T12.out hg
                  clear hg
                  have dp := HPL.out (by simp)
                  have v0 := (BP.out t15 T15.out).b0
                  have x0 := (BX.out t15 T15.out).b0
                  have GF : Hid (w.grownBy _ none) := grown_trans GW.out T15.out
                  go_wp2_with fail
                  go_ret
                  exact ⟨rfl, GF.out⟩
        · have i1 : ¬ (8 : Int) < (x.F.length : Int) + (y.F.length : Int) := by omega
          obtain rfl : z1 = 0 := by rw [← Hz1.out]; unfold sumZ; rw [HB0.out, if_neg (by omega), if_neg h1]
          clear h1
          by_cases h2 : 8 < x.F.length * y.F.length
          · have i3 : (8 : Int) < (x.F.length : Int) * (y.F.length : Int) := by have e : ((x.F.length * y.F.length : Nat) : Int) = (x.F.length : Int) * (y.F.length : Int) := Int.natCast_mul _ _; omega
            have H2 : Hid ( 8 < x.F.length * y.F.length) := h2
            clear h2 hq
            obtain rfl : z2 = 1 := by rw [← Hz2.out]; unfold proZ; rw [HB0.out, if_neg (by omega), if_pos H2.out]
            have x0 := (BX.out w9 G9.out).b0
            have x1 := (BX.out w9 G9.out).b1
            have x2 := (BX.out w9 G9.out).b2
            have x3 := (BX.out w9 G9.out).b3
            have y0 := (BY.out w9 G9.out).b0
            have y1 := (BY.out w9 G9.out).b1
            have y2 := (BY.out w9 G9.out).b2
            have y3 := (BY.out w9 G9.out).b3
            go_wp2_with fail
            clear x0 x1 x2 x3 y0 y1 y2 y3
            refine (HAX.out w9 G9.out).mono ?_
            rintro E wA ⟨ba, rfl, hba, hg⟩
            have GA : Hid (W7.grownBy wA none) := grown_trans G9.out hg
            have Hba : Hid (ba = true ↔ ¬ InA x 3) := hba
            clear hba
            clear hg
            have y0 := (BY.out wA GA.out).b0
            have y1 := (BY.out wA GA.out).b1
            have y2 := (BY.out wA GA.out).b2
            have y3 := (BY.out wA GA.out).b3
            go_wp2_with fail
            clear y0 y1 y2 y3
            refine (HAY.out wA GA.out).mono ?_
            rintro E wB ⟨bb, rfl, hbb, hg⟩
            have GB : Hid (W7.grownBy wB none) := grown_trans GA.out hg
            have Hbb : Hid (bb = true ↔ ¬ InA y 3) := hbb
            clear hbb
            clear hg
            cases ba with
            | true =>
              have x1 := (BX.out wB GB.out).b1
              have y1 := (BY.out wB GB.out).b1
              have u0 := (BS.out wB GB.out).b0
              have u1 := (BS.out wB GB.out).b1
              have u2 := (BS.out wB GB.out).b2
              have u3 := (BS.out wB GB.out).b3
              go_wp2_with fail
              clear u0 u1 u2 u3
              refine (HNS.out wB GB.out).mono ?_
              rintro E t16 ⟨bs, rfl, hbs, hg⟩
              have T16 : Hid (W7.grownBy t16 none) := grown_trans GB.out hg
              clear hbs
              clear hg
              have v0 := (BP.out t16 T16.out).b0
              have v1 := (BP.out t16 T16.out).b1
              have v2 := (BP.out t16 T16.out).b2
              have v3 := (BP.out t16 T16.out).b3
              go_wp2_with fail
              clear v0 v1 v2 v3
              refine (HNP.out t16 T16.out).mono ?_
              rintro E t17 ⟨bp, rfl, hbp, hg⟩
              have T17 : Hid (W7.grownBy t17 none) := grown_trans T16.out hg
              have hbp1 : bp = true := hbp.2 (HP0.out (by omega))
              subst hbp1
              clear hbp
              clear hg
              have x0 := (BX.out t17 T17.out).b0
              go_wp2_with fail
              refine (HMy.out t17 T17.out).mono ?_
              rintro E w0 ⟨rfl, rfl⟩
              by_cases hm : my = 0
              · subst hm
                have dm : ((0 : Int) == 0) = true := rfl
                have HWS1 : Hid _ := HWS.out (by simp) (by simp)
                have HCS1 : Hid _ := HCS.out (by simp)
                have u0 := (BS.out w0 T17.out).b0
                have u1 := (BS.out w0 T17.out).b1
                have u2 := (BS.out w0 T17.out).b2
                have u3 := (BS.out w0 T17.out).b3
                go_wp2_with fail
                clear u0 u1 u2 u3 x0
                refine (HCS1.out w0 T17.out).mono ?_
                rintro E t18 ⟨rfl, hg⟩
                have T18 : Hid (W7.grownBy t18 none) := grown_trans T17.out hg
                clear hg
                have ds := HSL.out (by simp)
                have u0 := (BS.out t18 T18.out).b0
                have x0 := (BX.out t18 T18.out).b0
                have u1 := (BS.out t18 T18.out).b1
                have u2 := (BS.out t18 T18.out).b2
                have u3 := (BS.out t18 T18.out).b3
                have x1 := (BX.out t18 T18.out).b1
                have x2 := (BX.out t18 T18.out).b2
                have x3 := (BX.out t18 T18.out).b3
                have y0 := (BY.out t18 T18.out).b0
                have y1 := (BY.out t18 T18.out).b1
                have y2 := (BY.out t18 T18.out).b2
                have y3 := (BY.out t18 T18.out).b3
                go_wp2_with fail
                clear u0 u1 u2 u3 x0 x1 x2 x3 y0 y1 y2 y3
                clear ds
                refine (HWS1.out t18 T18.out).mono ?_
                rintro E t19 ⟨rfl, hg⟩
                have T19 : Hid (W7.grownBy t19 none) := grown_trans T18.out hg
                clear hg
                have x0 := (BX.out t19 T19.out).b0
                have GF : Hid (w.grownBy _ none) := grown_trans GW.out T19.out
                go_wp2_with fail
                go_ret
                exact ⟨rfl, GF.out⟩
              · have dm : (my == 0) = false := by simpa using hm
                clear hm
                have HCS1 : Hid _ := HCS.out (by simp)
                have u0 := (BS.out w0 T17.out).b0
                have u1 := (BS.out w0 T17.out).b1
                have u2 := (BS.out w0 T17.out).b2
                have u3 := (BS.out w0 T17.out).b3
                go_wp2_with fail
                clear u0 u1 u2 u3 x0
                refine (HCS1.out w0 T17.out).mono ?_
                rintro E t20 ⟨rfl, hg⟩
                have T20 : Hid (W7.grownBy t20 none) := grown_trans T17.out hg
                clear hg
                have ds := HSL.out (by simp)
                have u0 := (BS.out t20 T20.out).b0
                have x0 := (BX.out t20 T20.out).b0
                have GF : Hid (w.grownBy _ none) := grown_trans GW.out T20.out
                go_wp2_with fail
                go_ret
                exact ⟨rfl, GF.out⟩
            | false =>
              cases bb with
              | true =>
                have x1 := (BX.out wB GB.out).b1
                have y1 := (BY.out wB GB.out).b1
                have u0 := (BS.out wB GB.out).b0
                have u1 := (BS.out wB GB.out).b1
                have u2 := (BS.out wB GB.out).b2
                have u3 := (BS.out wB GB.out).b3
                go_wp2_with fail
                clear u0 u1 u2 u3
                refine (HNS.out wB GB.out).mono ?_
                rintro E t21 ⟨bs, rfl, hbs, hg⟩
                have T21 : Hid (W7.grownBy t21 none) := grown_trans GB.out hg
                clear hbs
                clear hg
                have v0 := (BP.out t21 T21.out).b0
                have v1 := (BP.out t21 T21.out).b1
                have v2 := (BP.out t21 T21.out).b2
                have v3 := (BP.out t21 T21.out).b3
                go_wp2_with fail
                clear v0 v1 v2 v3
                refine (HNP.out t21 T21.out).mono ?_
                rintro E t22 ⟨bp, rfl, hbp, hg⟩
                have T22 : Hid (W7.grownBy t22 none) := grown_trans T21.out hg
                have hbp1 : bp = true := hbp.2 (HP0.out (by omega))
                subst hbp1
                clear hbp
                clear hg
                have x0 := (BX.out t22 T22.out).b0
                go_wp2_with fail
                refine (HMy.out t22 T22.out).mono ?_
                rintro E w0 ⟨rfl, rfl⟩
                by_cases hm : my = 0
                · subst hm
                  have dm : ((0 : Int) == 0) = true := rfl
                  have HWS1 : Hid _ := HWS.out (by simp) (by simp)
                  have HCS1 : Hid _ := HCS.out (by simp)
                  have u0 := (BS.out w0 T22.out).b0
                  have u1 := (BS.out w0 T22.out).b1
                  have u2 := (BS.out w0 T22.out).b2
                  have u3 := (BS.out w0 T22.out).b3
                  go_wp2_with fail
                  clear u0 u1 u2 u3 x0
                  refine (HCS1.out w0 T22.out).mono ?_
                  rintro E t23 ⟨rfl, hg⟩
                  have T23 : Hid (W7.grownBy t23 none) := grown_trans T22.out hg
                  clear hg
                  have ds := HSL.out (by simp)
                  have u0 := (BS.out t23 T23.out).b0
                  have x0 := (BX.out t23 T23.out).b0
                  have u1 := (BS.out t23 T23.out).b1
                  have u2 := (BS.out t23 T23.out).b2
                  have u3 := (BS.out t23 T23.out).b3
                  have x1 := (BX.out t23 T23.out).b1
                  have x2 := (BX.out t23 T23.out).b2
                  have x3 := (BX.out t23 T23.out).b3
                  have y0 := (BY.out t23 T23.out).b0
                  have y1 := (BY.out t23 T23.out).b1
                  have y2 := (BY.out t23 T23.out).b2
                  have y3 := (BY.out t23 T23.out).b3
                  go_wp2_with fail
                  clear u0 u1 u2 u3 x0 x1 x2 x3 y0 y1 y2 y3
                  clear ds
                  refine (HWS1.out t23 T23.out).mono ?_
                  rintro E t24 ⟨rfl, hg⟩
                  have T24 : Hid (W7.grownBy t24 none) := grown_trans T23.out hg
                  clear hg
                  have x0 := (BX.out t24 T24.out).b0
                  have GF : Hid (w.grownBy _ none) := grown_trans GW.out T24.out
                  go_wp2_with fail
                  go_ret
                  exact ⟨rfl, GF.out⟩
                · have dm : (my == 0) = false := by simpa using hm
                  clear hm
                  have HCS1 : Hid _ := HCS.out (by simp)
                  have u0 := (BS.out w0 T22.out).b0
                  have u1 := (BS.out w0 T22.out).b1
                  have u2 := (BS.out w0 T22.out).b2
                  have u3 := (BS.out w0 T22.out).b3
                  go_wp2_with fail
                  clear u0 u1 u2 u3 x0
                  refine (HCS1.out w0 T22.out).mono ?_
                  rintro E t25 ⟨rfl, hg⟩
                  have T25 : Hid (W7.grownBy t25 none) := grown_trans T22.out hg
                  clear hg
                  have ds := HSL.out (by simp)
                  have u0 := (BS.out t25 T25.out).b0
                  have x0 := (BX.out t25 T25.out).b0
                  have GF : Hid (w.grownBy _ none) := grown_trans GW.out T25.out
                  go_wp2_with fail
                  go_ret
                  exact ⟨rfl, GF.out⟩
              | false =>
                have x1 := (BX.out wB GB.out).b1
                have y1 := (BY.out wB GB.out).b1
                have u0 := (BS.out wB GB.out).b0
                have u1 := (BS.out wB GB.out).b1
                have u2 := (BS.out wB GB.out).b2
                have u3 := (BS.out wB GB.out).b3
                go_wp2_with fail
                clear u0 u1 u2 u3
                refine (HNS.out wB GB.out).mono ?_
                rintro E t26 ⟨bs, rfl, hbs, hg⟩
                have T26 : Hid (W7.grownBy t26 none) := grown_trans GB.out hg
                clear hbs
                clear hg
                have v0 := (BP.out t26 T26.out).b0
                have v1 := (BP.out t26 T26.out).b1
                have v2 := (BP.out t26 T26.out).b2
                have v3 := (BP.out t26 T26.out).b3
                go_wp2_with fail
                clear v0 v1 v2 v3
                refine (HNP.out t26 T26.out).mono ?_
                rintro E t27 ⟨bp, rfl, hbp, hg⟩
                have T27 : Hid (W7.grownBy t27 none) := grown_trans T26.out hg
                have hbp1 : bp = true := hbp.2 (HP0.out (by omega))
                subst hbp1
                clear hbp
                clear hg
                have x0 := (BX.out t27 T27.out).b0
                go_wp2_with fail
                refine (HMy.out t27 T27.out).mono ?_
                rintro E w0 ⟨rfl, rfl⟩
                by_cases hm : my = 0
                · subst hm
                  have dm : ((0 : Int) == 0) = true := rfl
                  have HWS1 : Hid _ := HWS.out (by simp) (by simp)
                  have HCS1 : Hid _ := HCS.out (by simp)
                  have u0 := (BS.out w0 T27.out).b0
                  have u1 := (BS.out w0 T27.out).b1
                  have u2 := (BS.out w0 T27.out).b2
                  have u3 := (BS.out w0 T27.out).b3
                  go_wp2_with fail
                  clear u0 u1 u2 u3 x0
                  refine (HCS1.out w0 T27.out).mono ?_
                  rintro E t28 ⟨rfl, hg⟩
                  have T28 : Hid (W7.grownBy t28 none) := grown_trans T27.out hg
                  clear hg
                  have ds := HSL.out (by simp)
                  have u0 := (BS.out t28 T28.out).b0
                  have x0 := (BX.out t28 T28.out).b0
                  have u1 := (BS.out t28 T28.out).b1
                  have u2 := (BS.out t28 T28.out).b2
                  have u3 := (BS.out t28 T28.out).b3
                  have x1 := (BX.out t28 T28.out).b1
                  have x2 := (BX.out t28 T28.out).b2
                  have x3 := (BX.out t28 T28.out).b3
                  have y0 := (BY.out t28 T28.out).b0
                  have y1 := (BY.out t28 T28.out).b1
                  have y2 := (BY.out t28 T28.out).b2
                  have y3 := (BY.out t28 T28.out).b3
                  go_wp2_with fail
                  clear u0 u1 u2 u3 x0 x1 x2 x3 y0 y1 y2 y3
                  clear ds
                  refine (HWS1.out t28 T28.out).mono ?_
                  rintro E t29 ⟨rfl, hg⟩
                  have T29 : Hid (W7.grownBy t29 none) := grown_trans T28.out hg
                  clear hg
                  have x0 := (BX.out t29 T29.out).b0
                  have GF : Hid (w.grownBy _ none) := grown_trans GW.out T29.out
                  go_wp2_with fail
                  go_ret
                  exact ⟨rfl, GF.out⟩
                · have dm : (my == 0) = false := by simpa using hm
                  clear hm
                  have HCS1 : Hid _ := HCS.out (by simp)
                  have u0 := (BS.out w0 T27.out).b0
                  have u1 := (BS.out w0 T27.out).b1
                  have u2 := (BS.out w0 T27.out).b2
                  have u3 := (BS.out w0 T27.out).b3
                  go_wp2_with fail
                  clear u0 u1 u2 u3 x0
                  refine (HCS1.out w0 T27.out).mono ?_
                  rintro E t30 ⟨rfl, hg⟩
                  have T30 : Hid (W7.grownBy t30 none) := grown_trans T27.out hg
                  clear hg
                  have ds := HSL.out (by simp)
                  have u0 := (BS.out t30 T30.out).b0
                  have x0 := (BX.out t30 T30.out).b0
                  have GF : Hid (w.grownBy _ none) := grown_trans GW.out T30.out
                  go_wp2_with fail
                  go_ret
                  exact ⟨rfl, GF.out⟩
          · have i3 : ¬ (8 : Int) < (x.F.length : Int) * (y.F.length : Int) := by have e : ((x.F.length * y.F.length : Nat) : Int) = (x.F.length : Int) * (y.F.length : Int) := Int.natCast_mul _ _; omega
            have H2 : Hid (¬ 8 < x.F.length * y.F.length) := h2
            clear h2 hq
            have x0 := (BX.out w9 G9.out).b0
            have x1 := (BX.out w9 G9.out).b1
            have x2 := (BX.out w9 G9.out).b2
            have x3 := (BX.out w9 G9.out).b3
            have y0 := (BY.out w9 G9.out).b0
            have y1 := (BY.out w9 G9.out).b1
            have y2 := (BY.out w9 G9.out).b2
            have y3 := (BY.out w9 G9.out).b3
            go_wp2_with fail
            clear x0 x1 x2 x3 y0 y1 y2 y3
            refine (HAX.out w9 G9.out).mono ?_
            rintro E wA ⟨ba, rfl, hba, hg⟩
            have GA : Hid (W7.grownBy wA none) := grown_trans G9.out hg
            have Hba : Hid (ba = true ↔ ¬ InA x 3) := hba
            clear hba
            clear hg
            have y0 := (BY.out wA GA.out).b0
            have y1 := (BY.out wA GA.out).b1
            have y2 := (BY.out wA GA.out).b2
            have y3 := (BY.out wA GA.out).b3
            go_wp2_with fail
            clear y0 y1 y2 y3
            refine (HAY.out wA GA.out).mono ?_
            rintro E wB ⟨bb, rfl, hbb, hg⟩
            have GB : Hid (W7.grownBy wB none) := grown_trans GA.out hg
            have Hbb : Hid (bb = true ↔ ¬ InA y 3) := hbb
            clear hbb
            clear hg
            cases ba with
            | true =>
              obtain rfl : z2 = 2 := by rw [← Hz2.out]; unfold proZ; rw [HB0.out, if_neg (by omega), if_neg H2.out, if_neg (fun h => Hba.out.1 (by simp) h.1)]
              have x1 := (BX.out wB GB.out).b1
              have y1 := (BY.out wB GB.out).b1
              have u0 := (BS.out wB GB.out).b0
              have u1 := (BS.out wB GB.out).b1
              have u2 := (BS.out wB GB.out).b2
              have u3 := (BS.out wB GB.out).b3
              go_wp2_with fail
              clear u0 u1 u2 u3
              refine (HNS.out wB GB.out).mono ?_
              rintro E t31 ⟨bs, rfl, hbs, hg⟩
              have T31 : Hid (W7.grownBy t31 none) := grown_trans GB.out hg
              clear hbs
              clear hg
              have v0 := (BP.out t31 T31.out).b0
              have v1 := (BP.out t31 T31.out).b1
              have v2 := (BP.out t31 T31.out).b2
              have v3 := (BP.out t31 T31.out).b3
              go_wp2_with fail
              clear v0 v1 v2 v3
              refine (HNP.out t31 T31.out).mono ?_
              rintro E t32 ⟨bp, rfl, hbp, hg⟩
              have T32 : Hid (W7.grownBy t32 none) := grown_trans T31.out hg
              have hbp1 : bp = true := hbp.2 (HP0.out (by omega))
              subst hbp1
              clear hbp
              clear hg
              have x0 := (BX.out t32 T32.out).b0
              go_wp2_with fail
              refine (HMy.out t32 T32.out).mono ?_
              rintro E w0 ⟨rfl, rfl⟩
              by_cases hm : my = 0
              · subst hm
                have dm : ((0 : Int) == 0) = true := rfl
                have HWS1 : Hid _ := HWS.out (by simp) (by simp)
                have HCS1 : Hid _ := HCS.out (by simp)
                have u0 := (BS.out w0 T32.out).b0
                have u1 := (BS.out w0 T32.out).b1
                have u2 := (BS.out w0 T32.out).b2
                have u3 := (BS.out w0 T32.out).b3
                go_wp2_with fail
                clear u0 u1 u2 u3 x0
                refine (HCS1.out w0 T32.out).mono ?_
                rintro E t33 ⟨rfl, hg⟩
                have T33 : Hid (W7.grownBy t33 none) := grown_trans T32.out hg
                clear hg
                have ds := HSL.out (by simp)
                have u0 := (BS.out t33 T33.out).b0
                have x0 := (BX.out t33 T33.out).b0
                have u1 := (BS.out t33 T33.out).b1
                have u2 := (BS.out t33 T33.out).b2
                have u3 := (BS.out t33 T33.out).b3
                have x1 := (BX.out t33 T33.out).b1
                have x2 := (BX.out t33 T33.out).b2
                have x3 := (BX.out t33 T33.out).b3
                have y0 := (BY.out t33 T33.out).b0
                have y1 := (BY.out t33 T33.out).b1
                have y2 := (BY.out t33 T33.out).b2
                have y3 := (BY.out t33 T33.out).b3
                go_wp2_with fail
                clear u0 u1 u2 u3 x0 x1 x2 x3 y0 y1 y2 y3
                clear ds
                refine (HWS1.out t33 T33.out).mono ?_
                rintro E t34 ⟨rfl, hg⟩
                have T34 : Hid (W7.grownBy t34 none) := grown_trans T33.out hg
                clear hg
                have x0 := (BX.out t34 T34.out).b0
                have GF : Hid (w.grownBy _ none) := grown_trans GW.out T34.out
                go_wp2_with fail
                go_ret
                exact ⟨rfl, GF.out⟩
              · have dm : (my == 0) = false := by simpa using hm
                clear hm
                have HCS1 : Hid _ := HCS.out (by simp)
                have u0 := (BS.out w0 T32.out).b0
                have u1 := (BS.out w0 T32.out).b1
                have u2 := (BS.out w0 T32.out).b2
                have u3 := (BS.out w0 T32.out).b3
                go_wp2_with fail
                clear u0 u1 u2 u3 x0
                refine (HCS1.out w0 T32.out).mono ?_
                rintro E t35 ⟨rfl, hg⟩
                have T35 : Hid (W7.grownBy t35 none) := grown_trans T32.out hg
                clear hg
                have ds := HSL.out (by simp)
                have u0 := (BS.out t35 T35.out).b0
                have x0 := (BX.out t35 T35.out).b0
                have GF : Hid (w.grownBy _ none) := grown_trans GW.out T35.out
                go_wp2_with fail
                go_ret
                exact ⟨rfl, GF.out⟩
            | false =>
              cases bb with
              | true =>
                obtain rfl : z2 = 2 := by rw [← Hz2.out]; unfold proZ; rw [HB0.out, if_neg (by omega), if_neg H2.out, if_neg (fun h => Hbb.out.1 (by simp) h.2)]
                have x1 := (BX.out wB GB.out).b1
                have y1 := (BY.out wB GB.out).b1
                have u0 := (BS.out wB GB.out).b0
                have u1 := (BS.out wB GB.out).b1
                have u2 := (BS.out wB GB.out).b2
                have u3 := (BS.out wB GB.out).b3
                go_wp2_with fail
                clear u0 u1 u2 u3
                refine (HNS.out wB GB.out).mono ?_
                rintro E t36 ⟨bs, rfl, hbs, hg⟩
                have T36 : Hid (W7.grownBy t36 none) := grown_trans GB.out hg
                clear hbs
                clear hg
                have v0 := (BP.out t36 T36.out).b0
                have v1 := (BP.out t36 T36.out).b1
                have v2 := (BP.out t36 T36.out).b2
                have v3 := (BP.out t36 T36.out).b3
                go_wp2_with fail
                clear v0 v1 v2 v3
                refine (HNP.out t36 T36.out).mono ?_
                rintro E t37 ⟨bp, rfl, hbp, hg⟩
                have T37 : Hid (W7.grownBy t37 none) := grown_trans T36.out hg
                have hbp1 : bp = true := hbp.2 (HP0.out (by omega))
                subst hbp1
                clear hbp
                clear hg
                have x0 := (BX.out t37 T37.out).b0
                go_wp2_with fail
                refine (HMy.out t37 T37.out).mono ?_
                rintro E w0 ⟨rfl, rfl⟩
                by_cases hm : my = 0
                · subst hm
                  have dm : ((0 : Int) == 0) = true := rfl
                  have HWS1 : Hid _ := HWS.out (by simp) (by simp)
                  have HCS1 : Hid _ := HCS.out (by simp)
                  have u0 := (BS.out w0 T37.out).b0
                  have u1 := (BS.out w0 T37.out).b1
                  have u2 := (BS.out w0 T37.out).b2
                  have u3 := (BS.out w0 T37.out).b3
                  go_wp2_with fail
                  clear u0 u1 u2 u3 x0
                  refine (HCS1.out w0 T37.out).mono ?_
                  rintro E t38 ⟨rfl, hg⟩
                  have T38 : Hid (W7.grownBy t38 none) := grown_trans T37.out hg
                  clear hg
                  have ds := HSL.out (by simp)
                  have u0 := (BS.out t38 T38.out).b0
                  have x0 := (BX.out t38 T38.out).b0
                  have u1 := (BS.out t38 T38.out).b1
                  have u2 := (BS.out t38 T38.out).b2
                  have u3 := (BS.out t38 T38.out).b3
                  have x1 := (BX.out t38 T38.out).b1
                  have x2 := (BX.out t38 T38.out).b2
                  have x3 := (BX.out t38 T38.out).b3
                  have y0 := (BY.out t38 T38.out).b0
                  have y1 := (BY.out t38 T38.out).b1
                  have y2 := (BY.out t38 T38.out).b2
                  have y3 := (BY.out t38 T38.out).b3
                  go_wp2_with fail
                  clear u0 u1 u2 u3 x0 x1 x2 x3 y0 y1 y2 y3
                  clear ds
                  refine (HWS1.out t38 T38.out).mono ?_
                  rintro E t39 ⟨rfl, hg⟩
                  have T39 : Hid (W7.grownBy t39 none) := grown_trans T38.out hg
                  clear hg
                  have x0 := (BX.out t39 T39.out).b0
                  have GF : Hid (w.grownBy _ none) := grown_trans GW.out T39.out
                  go_wp2_with fail
                  go_ret
                  exact ⟨rfl, GF.out⟩
                · have dm : (my == 0) = false := by simpa using hm
                  clear hm
                  have HCS1 : Hid _ := HCS.out (by simp)
                  have u0 := (BS.out w0 T37.out).b0
                  have u1 := (BS.out w0 T37.out).b1
                  have u2 := (BS.out w0 T37.out).b2
                  have u3 := (BS.out w0 T37.out).b3
                  go_wp2_with fail
                  clear u0 u1 u2 u3 x0
                  refine (HCS1.out w0 T37.out).mono ?_
                  rintro E t40 ⟨rfl, hg⟩
                  have T40 : Hid (W7.grownBy t40 none) := grown_trans T37.out hg
                  clear hg
                  have ds := HSL.out (by simp)
                  have u0 := (BS.out t40 T40.out).b0
                  have x0 := (BX.out t40 T40.out).b0
                  have GF : Hid (w.grownBy _ none) := grown_trans GW.out T40.out
                  go_wp2_with fail
                  go_ret
                  exact ⟨rfl, GF.out⟩
              | false =>
                obtain rfl : z2 = 0 := by rw [← Hz2.out]; unfold proZ; rw [HB0.out, if_neg (by omega), if_neg H2.out, if_pos ⟨Classical.not_not.1 (fun h => by have := Hba.out.2 h; cases this), Classical.not_not.1 (fun h => by have := Hbb.out.2 h; cases this)⟩]
                have x1 := (BX.out wB GB.out).b1
                have y1 := (BY.out wB GB.out).b1
                have u0 := (BS.out wB GB.out).b0
                have u1 := (BS.out wB GB.out).b1
                have u2 := (BS.out wB GB.out).b2
                have u3 := (BS.out wB GB.out).b3
                go_wp2_with fail
                clear u0 u1 u2 u3
                refine (HNS.out wB GB.out).mono ?_
                rintro E t41 ⟨bs, rfl, hbs, hg⟩
                have T41 : Hid (W7.grownBy t41 none) := grown_trans GB.out hg
                clear hbs
                clear hg
                have v0 := (BP.out t41 T41.out).b0
                have v1 := (BP.out t41 T41.out).b1
                have v2 := (BP.out t41 T41.out).b2
                have v3 := (BP.out t41 T41.out).b3
                go_wp2_with fail
                clear v0 v1 v2 v3
                refine (HNP.out t41 T41.out).mono ?_
                rintro E t42 ⟨bp, rfl, hbp, hg⟩
                have T42 : Hid (W7.grownBy t42 none) := grown_trans T41.out hg
                clear hbp
                clear hg
                have x0 := (BX.out t42 T42.out).b0
                go_wp2_with fail
                refine (HMy.out t42 T42.out).mono ?_
                rintro E w0 ⟨rfl, rfl⟩
                by_cases hm : my = 0
                · subst hm
                  have dm : ((0 : Int) == 0) = true := rfl
                  have HWS1 : Hid _ := HWS.out (by simp) (by simp)
                  have HWP1 : Hid _ := HWP.out (by simp) (by simp)
                  have HCS1 : Hid _ := HCS.out (by simp)
                  have u0 := (BS.out w0 T42.out).b0
                  have u1 := (BS.out w0 T42.out).b1
                  have u2 := (BS.out w0 T42.out).b2
                  have u3 := (BS.out w0 T42.out).b3
                  go_wp2_with fail
                  clear u0 u1 u2 u3 x0
                  refine (HCS1.out w0 T42.out).mono ?_
                  rintro E t43 ⟨rfl, hg⟩
                  have T43 : Hid (W7.grownBy t43 none) := grown_trans T42.out hg
                  clear hg
                  have ds := HSL.out (by simp)
                  have u0 := (BS.out t43 T43.out).b0
                  have x0 := (BX.out t43 T43.out).b0
                  have u1 := (BS.out t43 T43.out).b1
                  have u2 := (BS.out t43 T43.out).b2
                  have u3 := (BS.out t43 T43.out).b3
                  have x1 := (BX.out t43 T43.out).b1
                  have x2 := (BX.out t43 T43.out).b2
                  have x3 := (BX.out t43 T43.out).b3
                  have y0 := (BY.out t43 T43.out).b0
                  have y1 := (BY.out t43 T43.out).b1
                  have y2 := (BY.out t43 T43.out).b2
                  have y3 := (BY.out t43 T43.out).b3
                  go_wp2_with fail
                  clear u0 u1 u2 u3 x0 x1 x2 x3 y0 y1 y2 y3
                  clear ds
                  refine (HWS1.out t43 T43.out).mono ?_
                  rintro E t44 ⟨rfl, hg⟩
                  have T44 : Hid (W7.grownBy t44 none) := grown_trans T43.out hg
                  clear hg
                  have x0 := (BX.out t44 T44.out).b0
                  have HCP1 : Hid _ := HCP.out (by simp)
                  have v0 := (BP.out t44 T44.out).b0
                  have v1 := (BP.out t44 T44.out).b1
                  have v2 := (BP.out t44 T44.out).b2
                  have v3 := (BP.out t44 T44.out).b3
                  go_wp2_with fail
                  clear v0 v1 v2 v3 x0
                  refine (HCP1.out t44 T44.out).mono ?_
                  rintro E t45 ⟨rfl, hg⟩
                  have T45 : Hid (W7.grownBy t45 none) := grown_trans T44.out hg
                  clear hg
                  have dp := HPL.out (by simp)
                  have v0 := (BP.out t45 T45.out).b0
                  have x0 := (BX.out t45 T45.out).b0
                  have v1 := (BP.out t45 T45.out).b1
                  have v2 := (BP.out t45 T45.out).b2
                  have v3 := (BP.out t45 T45.out).b3
                  have x1 := (BX.out t45 T45.out).b1
                  have x2 := (BX.out t45 T45.out).b2
                  have x3 := (BX.out t45 T45.out).b3
                  have y0 := (BY.out t45 T45.out).b0
                  have y1 := (BY.out t45 T45.out).b1
                  have y2 := (BY.out t45 T45.out).b2
                  have y3 := (BY.out t45 T45.out).b3
                  go_wp2_with fail
                  clear v0 v1 v2 v3 x0 x1 x2 x3 y0 y1 y2 y3
                  clear dp
                  refine (HWP1.out t45 T45.out).mono ?_
                  rintro E t46 ⟨rfl, hg⟩
                  have T46 : Hid (W7.grownBy t46 none) := grown_trans T45.out hg
                  clear hg
                  have GF : Hid (w.grownBy _ none) := grown_trans GW.out T46.out
                  go_wp2_with fail
                  go_ret
                  exact ⟨rfl, GF.out⟩
                · have dm : (my == 0) = false := by simpa using hm
                  clear hm
                  have HCS1 : Hid _ := HCS.out (by simp)
                  have u0 := (BS.out w0 T42.out).b0
                  have u1 := (BS.out w0 T42.out).b1
                  have u2 := (BS.out w0 T42.out).b2
                  have u3 := (BS.out w0 T42.out).b3
                  go_wp2_with fail
                  clear u0 u1 u2 u3 x0
                  refine (HCS1.out w0 T42.out).mono ?_
                  rintro E t47 ⟨rfl, hg⟩
                  have T47 : Hid (W7.grownBy t47 none) := grown_trans T42.out hg
                  clear hg
                  have ds := HSL.out (by simp)
                  have u0 := (BS.out t47 T47.out).b0
                  have x0 := (BX.out t47 T47.out).b0
                  have HCP1 : Hid _ := HCP.out (by simp)
                  have v0 := (BP.out t47 T47.out).b0
                  have v1 := (BP.out t47 T47.out).b1
                  have v2 := (BP.out t47 T47.out).b2
                  have v3 := (BP.out t47 T47.out).b3
                  go_wp2_with fail
                  clear v0 v1 v2 v3 x0 u0
                  refine (HCP1.out t47 T47.out).mono ?_
                  rintro E t48 ⟨rfl, hg⟩
                  have T48 : Hid (W7.grownBy t48 none) := grown_trans T47.out hg
                  clear hg
                  have dp := HPL.out (by simp)
                  have v0 := (BP.out t48 T48.out).b0
                  have x0 := (BX.out t48 T48.out).b0
                  have GF : Hid (w.grownBy _ none) := grown_trans GW.out T48.out
                  go_wp2_with fail
                  go_ret
                  exact ⟨rfl, GF.out⟩
      · have HB0 : Hid (checkB x y = 3) := by show _ = _; unfold checkB; rw [HX.out, HY.out, if_neg (by omega), if_neg (by omega), if_pos he]
        have dl : (x.L != y.L) = true := by simpa using he
        clear he
        obtain rfl : z1 = 3 := by rw [← Hz1.out]; unfold sumZ; rw [HB0.out, if_pos (by omega)]
        obtain rfl : z2 = 3 := by rw [← Hz2.out]; unfold proZ; rw [HB0.out, if_pos (by omega)]
        have x0 := (BX.out w9 G9.out).b0
        have y0 := (BY.out w9 G9.out).b0
        have u0 := (BS.out w9 G9.out).b0
        have u1 := (BS.out w9 G9.out).b1
        have u2 := (BS.out w9 G9.out).b2
        have u3 := (BS.out w9 G9.out).b3
        go_wp2_with fail
        clear u0 u1 u2 u3
        refine (HNS.out w9 G9.out).mono ?_
        rintro E t49 ⟨bs, rfl, hbs, hg⟩
        have T49 : Hid (W7.grownBy t49 none) := grown_trans G9.out hg
        have hbs1 : bs = true := hbs.2 (HS0.out (by omega))
        subst hbs1
        clear hbs
        clear hg
        have v0 := (BP.out t49 T49.out).b0
        have v1 := (BP.out t49 T49.out).b1
        have v2 := (BP.out t49 T49.out).b2
        have v3 := (BP.out t49 T49.out).b3
        go_wp2_with fail
        clear v0 v1 v2 v3
        refine (HNP.out t49 T49.out).mono ?_
        rintro E t50 ⟨bp, rfl, hbp, hg⟩
        have T50 : Hid (W7.grownBy t50 none) := grown_trans T49.out hg
        have hbp1 : bp = true := hbp.2 (HP0.out (by omega))
        subst hbp1
        clear hbp
        clear hg
        have GF : Hid (w.grownBy _ none) := grown_trans GW.out T50.out
        go_wp2_with fail
        go_ret
        exact ⟨rfl, GF.out⟩
    · have HB0 : Hid (checkB x y = zy) := by show _ = _; unfold checkB; rw [HX.out, HY.out, if_neg (by omega), if_pos hy0]
      obtain rfl : zy = z1 := by rw [← Hz1.out]; unfold sumZ; rw [HB0.out, if_pos hy0]
      obtain rfl : zy = z2 := by rw [← Hz2.out]; unfold proZ; rw [HB0.out, if_pos hy0]
      have dy : (zy == 0) = false := by simpa using hy0
      have dz : (zy != 0) = true := by simpa using hy0
      have dw : (zy != zy) = false := by simp
      have u0 := (BS.out w9 G9.out).b0
      have u1 := (BS.out w9 G9.out).b1
      have u2 := (BS.out w9 G9.out).b2
      have u3 := (BS.out w9 G9.out).b3
      go_wp2_with fail
      clear u0 u1 u2 u3
      refine (HNS.out w9 G9.out).mono ?_
      rintro E t51 ⟨bs, rfl, hbs, hg⟩
      have T51 : Hid (W7.grownBy t51 none) := grown_trans G9.out hg
      have hbs1 : bs = true := hbs.2 (HS0.out (by omega))
      subst hbs1
      clear hbs
      clear hg
      have v0 := (BP.out t51 T51.out).b0
      have v1 := (BP.out t51 T51.out).b1
      have v2 := (BP.out t51 T51.out).b2
      have v3 := (BP.out t51 T51.out).b3
      go_wp2_with fail
      clear v0 v1 v2 v3
      refine (HNP.out t51 T51.out).mono ?_
      rintro E t52 ⟨bp, rfl, hbp, hg⟩
      have T52 : Hid (W7.grownBy t52 none) := grown_trans T51.out hg
      have hbp1 : bp = true := hbp.2 (HP0.out (by omega))
      subst hbp1
      clear hbp
      clear hg
      have GF : Hid (w.grownBy _ none) := grown_trans GW.out T52.out
      go_wp2_with fail
      go_ret
      exact ⟨rfl, GF.out⟩
  · have HB0 : Hid (checkB x y = zx) := by show _ = _; unfold checkB; rw [HX.out, if_pos hx0]
    obtain rfl : zx = z1 := by rw [← Hz1.out]; unfold sumZ; rw [HB0.out, if_pos hx0]
    obtain rfl : zx = z2 := by rw [← Hz2.out]; unfold proZ; rw [HB0.out, if_pos hx0]
    have dy : (zx == 0) = false := by simpa using hx0
    have dz : (zx != 0) = true := by simpa using hx0
    have dw : (zx != zx) = false := by simp
    have u0 := (BS.out w8 G8.out).b0
    have u1 := (BS.out w8 G8.out).b1
    have u2 := (BS.out w8 G8.out).b2
    have u3 := (BS.out w8 G8.out).b3
    go_wp2_with fail
    clear u0 u1 u2 u3
    refine (HNS.out w8 G8.out).mono ?_
    rintro E t53 ⟨bs, rfl, hbs, hg⟩
    have T53 : Hid (W7.grownBy t53 none) := grown_trans G8.out hg
    have hbs1 : bs = true := hbs.2 (HS0.out (by omega))
    subst hbs1
    clear hbs
    clear hg
    have v0 := (BP.out t53 T53.out).b0
    have v1 := (BP.out t53 T53.out).b1
    have v2 := (BP.out t53 T53.out).b2
    have v3 := (BP.out t53 T53.out).b3
    go_wp2_with fail
    clear v0 v1 v2 v3
    refine (HNP.out t53 T53.out).mono ?_
    rintro E t54 ⟨bp, rfl, hbp, hg⟩
    have T54 : Hid (W7.grownBy t54 none) := grown_trans T53.out hg
    have hbp1 : bp = true := hbp.2 (HP0.out (by omega))
    subst hbp1
    clear hbp
    clear hg
    have GF : Hid (w.grownBy _ none) := grown_trans GW.out T54.out
    go_wp2_with fail
    go_ret
    exact ⟨rfl, GF.out⟩

end Go.Proofs.Ytkmcbdjcolbknaa
