/- One behind another: the program's behind. -/
import Derived.Test.YtodcmlcpicabaaaTpC
import Derived.Test.YtodcmlcpicabaaaTpOf
import Derived.Test.YtodcmlcpicabaaaTlPush
namespace Go.Proofs.Ytodcmlcpicabaaa
open Go.RowKit
set_option linter.unusedVariables false
set_option linter.unusedSimpArgs false

def BehP (x y : TrI) (I : Nat) (w : World) (e : Ending) (w' : World) : Prop := ∃ k a3 a4 a5 a6 c3 c4 c5 c6, IsEnd (bfsL id (bD x y) I (bX x y)) k ∧ k ≤ x.N.length * y.N.length ∧ e = .returned (tnV (I : Int) y.O 0 a3 (bF x y).length c3 a4 k c4 a5 k c5 a6 k c6) ∧ TnAt w' (behY x y I k) a3 a4 a5 a6 ∧ CapsAt w' a6 (behY x y I k).E ∧ w.grownBy w' none
def SBe (bu : Nat) (v1 v3 : Value) (W : World) : Prop := W.cell? ⟨bu, 1, none⟩ = some v1 ∧ W.cell? ⟨bu, 3, none⟩ = some v3
theorem SBe.kept {bu : Nat} {v1 v3 : Value} {W W' : World} (h : SBe bu v1 v3 W) (k : W.grownBy W' none) : SBe bu v1 v3 W' := ⟨k.cell h.1 (by simp), k.cell h.2 (by simp)⟩
theorem caps_trip {W : World} {a : Option Addr} {ps : List Trip} (h : TripAt W a ps) (hc : ∀ p, p ∈ ps → p.2.2.length ≤ p.2.1) : CapsAt W a (wordsT ps) := by
  rcases h with h | ⟨b, off, h1, h2⟩
  · left; rw [h]; rfl
  · refine .inr ⟨b, off, h1, fun i hi => ?_⟩
    rw [wordsT_len] at hi
    have h3 := h2 i hi
    rw [← words_at hi]
    exact ⟨_, _, h3, hc _ (OwnS.mem hi)⟩

set_option maxHeartbeats 3200000 in
set_option maxRecDepth 100000 in
theorem behind_any (x y : TrI) (I M : Nat) (hB : BehG x y I M) (a3 a4 a5 a6 : Option Addr) (c3 c4 c5 c6 : Nat) (e3 e4 e5 e6 : Option Addr) (d3 d4 d5 d6 : Nat) (w : World) (hx : TnAt w x a3 a4 a5 a6) (hy : TnAt w y e3 e4 e5 e6) (hxI : x.I = (I : Int)) (hI : I ≤ 4) (hM : M ≤ 4) (hNx : x.N.length ≤ 30) (hNy : y.N.length ≤ 30) :
    Calls Try.prog 21 #[tnV x.I x.O x.S a3 x.F.length c3 a4 x.N.length c4 a5 x.Y.length c5 a6 x.E.length c6, tnV y.I y.O y.S e3 y.F.length d3 e4 y.N.length d4 e5 y.Y.length d5 e6 y.E.length d6] w (BehP x y I w) := by
  have hNN : x.N.length * y.N.length ≤ 1000 := Nat.le_trans (Nat.mul_le_mul hNx hNy) (by omega)
  obtain ⟨Wa, hWa, ga, sa, bxa⟩ := box7_new w x.I x.O x.S a3 x.F.length c3 a4 x.N.length c4 a5 x.Y.length c5 a6 x.E.length c6
  obtain ⟨Wb, hWb, gb, sb, bxb⟩ := box7_new Wa y.I y.O y.S e3 y.F.length d3 e4 y.N.length d4 e5 y.Y.length d5 e6 y.E.length d6
  rw [sa] at bxb
  obtain ⟨W1, hW1⟩ : ∃ W, W = Wb.alloc tnZO := ⟨_, rfl⟩
  have gc : Wb.grownBy W1 none := by rw [hW1]; exact grown_alloc _ _
  have hrb : W1.heap[w.heap.size + 1 + 1]? = some (.cells #[.int .i64 0, .int .i64 0, .int .i64 0, .slice none 0 0, .slice none 0 0, .slice none 0 0, .slice none 0 0] 26 (0, 0)) := by
    have := heap_alloc_new Wb tnZO
    rw [← hW1, sb, sa] at this
    exact this
  have HSz : Hid (W1.heap.size = w.heap.size + 1 + 1 + 1) := by show _ = _; rw [hW1, World.size_alloc, sb, sa]
  have HW1 : Hid (W1 = ((w.alloc (tnO x.I x.O x.S a3 x.F.length c3 a4 x.N.length c4 a5 x.Y.length c5 a6 x.E.length c6)).alloc (tnO y.I y.O y.S e3 y.F.length d3 e4 y.N.length d4 e5 y.Y.length d5 e6 y.E.length d6)).alloc tnZO) := by show _ = _; rw [hW1, hWb, hWa]
  have G1 : Hid (w.grownBy W1 none) := grown_trans ga (grown_trans gb gc)
  have HX : Hid (∀ W, W1.grownBy W none → Box7 W w.heap.size x.I x.O x.S a3 x.F.length c3 a4 x.N.length c4 a5 x.Y.length c5 a6 x.E.length c6) := fun W hW => bxa.grown (grown_trans (grown_trans gb gc) hW)
  have HY : Hid (∀ W, W1.grownBy W none → Box7 W (w.heap.size + 1) y.I y.O y.S e3 y.F.length d3 e4 y.N.length d4 e5 y.Y.length d5 e6 y.E.length d6) := fun W hW => bxb.grown (grown_trans gc hW)
  have HRB : Hid (∀ W, W1.grownBy W none → W.heap[w.heap.size + 1 + 1]? = some (.cells #[.int .i64 0, .int .i64 0, .int .i64 0, .slice none 0 0, .slice none 0 0, .slice none 0 0, .slice none 0 0] 26 (0, 0))) := fun W hW => (hW.block _ (by have := HSz.out; omega) (by simp)).trans hrb
  have HTx : Hid (∀ W, W1.grownBy W none → TnAt W x a3 a4 a5 a6) := fun W hW => hx.grown (grown_trans G1.out hW)
  have HTy : Hid (∀ W, W1.grownBy W none → TnAt W y e3 e4 e5 e6) := fun W hW => hy.grown (grown_trans G1.out hW)
  have HB : Hid (BehG x y I M) := hB
  obtain ⟨us, hus⟩ : ∃ us, tnsT x.F = us := ⟨_, rfl⟩
  have hul : us.length = x.F.length := by rw [← hus, tnsT_len]
  have hul2 : ∀ j, j ∈ us → j < M := by rw [← hus]; exact tns_lt hB.f
  have hns : nsT us = x.F := by rw [← hus]; exact nsT_tns (fun j hj => (hB.f j hj).1)
  obtain ⟨s1, hs1⟩ : ∃ s1 : Nat, y.S = (s1 : Int) := ⟨y.S.toNat, by have := hB.ry.st; unfold StT at this; omega⟩
  obtain ⟨s0, hs0⟩ : ∃ s0 : Nat, x.S = (s0 : Int) := ⟨x.S.toNat, by have := hB.rx.st; unfold StT at this; omega⟩
  have e1 : y.S.toNat = s1 := by rw [hs1]; rfl
  have e0 : x.S.toNat = s0 := by rw [hs0]; rfl
  have hsn : s1 < y.N.length := by rw [← e1]; exact hB.st.1
  have hgn : goT y s1 us < y.N.length := hB.ry.go us hul2 hsn
  have hF8 := hB.rx.f8
  have hFy := hB.ry.f8
  have hlr := hB.ry.len us hul2 hsn
  have hbX : bX x y = s0 * y.N.length + goT y s1 us := by unfold bX; rw [e0, e1, hus]
  have hbF : bF x y = y.F ++ ruT y s1 us := by unfold bF; rw [e1, hus]
  have hpv : pvl y.N.length (bX x y) = .agg #[.int .i64 (s0 : Int), .int .i64 ((goT y s1 us : Nat) : Int)] := by
    show Value.agg #[.int .i64 ((bX x y / y.N.length : Nat) : Int), .int .i64 ((bX x y % y.N.length : Nat) : Int)] = _
    rw [hbX, (pair_div hgn).1, (pair_div hgn).2]
  have HA : Hid (Calls Try.prog 36 #[tnV y.I y.O (s1 : Int) e3 y.F.length d3 e4 y.N.length d4 e5 y.Y.length d5 e6 y.E.length d6, .int .i64 (s1 : Int), .slice a3 x.F.length c3] W1 (AlongP y s1 us W1)) := by
    have h1 := along_any y M e3 e4 e5 e6 d3 d4 d5 d6 W1 (HTy.out _ (grown_refl _ _)) hB.ry hM (by omega) s1 hsn us hul2 (by omega) a3 c3 (by rw [hns]; exact (HTx.out _ (grown_refl _ _)).first)
    rw [hul, hs1] at h1
    exact h1
  obtain ⟨X, hX⟩ : ∃ X, y.F ++ ruT y s1 us = X := ⟨_, rfl⟩
  have hXl : X.length ≤ 300 := by rw [← hX, List.length_append]; omega
  obtain ⟨Po, hPo⟩ : ∃ P, P = BehP x y I w := ⟨_, rfl⟩
  have HP : Hid (∀ W k b3 b4 b5 b6 k3 k4 k5 k6, IsEnd (bfsL id (bD x y) I (bX x y)) k → k ≤ x.N.length * y.N.length → TnAt W (ofK id y.O X I (bD x y) (bS x y) (bE x y) (bfsL id (bD x y) I (bX x y) k)) b3 b4 b5 b6 → CapsAt W b6 ((bfsL id (bD x y) I (bX x y) k).map (bE x y)) → w.grownBy W none → Po (.returned (tnV (I : Int) y.O 0 b3 X.length k3 b4 k k4 b5 k k5 b6 k k6)) W) := fun W k b3 b4 b5 b6 k3 k4 k5 k6 h1 h2 h3 h4 h5 => by
    rw [hPo]
    rw [← hX, ← hbF] at h3 ⊢
    exact ⟨k, b3, b4, b5, b6, k3, k4, k5, k6, h1, h2, rfl, h3, h4, h5⟩
  rw [← hPo]
  have HO : Hid (∀ W, W1.grownBy W none → Calls Try.prog 40 #[.int .i64 (I : Int), .agg #[.int .i64 (s0 : Int), .int .i64 ((goT y s1 us : Nat) : Int)], .func (.func 37) #[] #[.pointer (some ⟨w.heap.size + 1, 0, none⟩), .pointer (some ⟨w.heap.size, 0, none⟩)], .func (.func 38) #[] #[.pointer (some ⟨w.heap.size + 1, 0, none⟩), .pointer (some ⟨w.heap.size, 0, none⟩)]] W (OfTP w.heap.size I (bX x y) (x.N.length * y.N.length) (bD x y) (bS x y) (bE x y) W)) := fun W2 hW2 => by
    rw [← hpv]
    refine ofQ_any w.heap.size I (bX x y) (x.N.length * y.N.length) y.N.length (bD x y) (bS x y) (bE x y) _ _ W2 hI hNN hB.x0 (fun s a hs ha => hB.d hs ha) (fun s a hs ha => Nat.le_trans (hB.s64 hs ha) (by omega)) (fun s hs => Nat.le_trans (hB.e72 hs) (by omega)) (fun W hW s a hs ha => ?_) (fun W hW s hs => ?_)
    · exact behind1_any x y I M hB a3 a4 a5 a6 c3 c4 c5 c6 e3 e4 e5 e6 d3 d4 d5 d6 _ _ s a W (HTx.out _ (grown_trans hW2 hW)) (HTy.out _ (grown_trans hW2 hW)) hI hM hNx hNy (HX.out _ (grown_trans hW2 hW)) (HY.out _ (grown_trans hW2 hW)) hs ha
    · exact behind2_any _ x y I M hB a3 a4 a5 a6 c3 c4 c5 c6 e3 e4 e5 e6 d3 d4 d5 d6 _ _ s W (HTx.out _ (grown_trans hW2 hW)) (HTy.out _ (grown_trans hW2 hW)) hM hNx hNy (HX.out _ (grown_trans hW2 hW)) (HY.out _ (grown_trans hW2 hW)) hs
  have HYF : Hid (∀ W, W1.grownBy W none → Ints W e3 y.F) := fun W hW => (HTy.out W hW).first
  have HXX : Hid (y.F ++ ruT y s1 us = X) := hX
  have HLF : Hid (y.F.length ≤ 300 ∧ (ruT y s1 us).length ≤ 300) := ⟨by omega, by omega⟩
  have Yx := HX.out W1 (grown_refl _ _)
  have Yy := HY.out W1 (grown_refl _ _)
  have x0 := Yx.b0
  have x2 := Yx.b2
  have x3 := Yx.b3
  have z0 := Yy.b0
  have z1 := Yy.b1
  have z2 := Yy.b2
  have z3 := Yy.b3
  have z4 := Yy.b4
  have z5 := Yy.b5
  have z6 := Yy.b6
  rw [hs1] at z2 HW1
  rw [hxI] at x0
  rw [hs0] at x2
  have Z2 : Hid (∀ W, W1.grownBy W none → W.cell? ⟨w.heap.size, 0, none⟩ = some (.int .i64 (I : Int)) ∧ W.cell? ⟨w.heap.size, 2, none⟩ = some (.int .i64 (s0 : Int)) ∧ W.cell? ⟨w.heap.size + 1, 1, none⟩ = some (.int .i64 y.O) ∧ W.cell? ⟨w.heap.size + 1, 3, none⟩ = some (.slice e3 y.F.length d3)) := fun W hW => ⟨hW.cell x0 (by simp), hW.cell x2 (by simp), hW.cell z1 (by simp), hW.cell z3 (by simp)⟩
  rw [HW1.out] at x3 z0 z1 z2 z3 z4 z5 z6
  clear hx hy hxI hNx hNy hM hWa ga sa bxa hWb gb sb bxb hW1 gc hrb hus hul hul2 hns hs0 e1 e0 hsn hgn hF8 hFy hlr hbX hbF hpv hX hPo x0 x2 Yx Yy HX HY HTx HTy HB hB hNN
  go_enter Try.func21, Try.ntmps21
  go_wp2_with fail
  rw [← HW1.out]
  clear x3 z0 z1 z2 z3 z4 z5 z6
  refine HA.out.mono ?_
  rintro E w2 ⟨ar, cr, rfl, hir, hgr, hnr⟩
  have G2 : Hid (W1.grownBy w2 none) := hgr
  have HIR : Hid (Ints w2 ar (ruT y s1 us)) := hir
  clear hir hgr hnr HA
  obtain ⟨x0, x2, x4, x5⟩ := Z2.out w2 G2.out
  obtain ⟨gq, hgq⟩ : ∃ n, goT y s1 us = n := ⟨_, rfl⟩
  rw [hgq] at HO ⊢
  have HO2 : Hid (Calls _ _ _ w2 _) := HO.out w2 G2.out
  clear HO
  go_wp2_with fail
  refine HO2.out.mono ?_
  rintro E w4 ⟨k, a4', a5', a6', c4', c5', c6', ps', hend, hkn, rfl, htn, hg4, htr, hwt, hcap, P, hP, hPT, hPb, hPn⟩
  have HEnd : Hid (IsEnd (bfsL id (bD x y) I (bX x y)) k) := hend
  have G4 : Hid (w2.grownBy w4 none) := hg4
  have HSV : Hid (∀ W W' b, w.heap.size ≤ b → b < w2.heap.size → w4.grownBy W none → W.grownBy W' (some b) → TnAt W' (ofX I (bD x y) (bS x y) (bE x y) (bfsL id (bD x y) I (bX x y) k)) none a4' a5' a6' ∧ CapsAt W' a6' ((bfsL id (bD x y) I (bX x y) k).map (bE x y))) := fun W W' b h1 h2 h3 h4 => by
    obtain ⟨h5, h6⟩ := hPT W' (hPb W W' b (hPn _ _ hP h3) h1 h2 h4)
    exact ⟨h5, by rw [← hwt]; exact caps_trip h6 hcap⟩
  clear hend htn hg4 htr hwt hcap HO2 hP hPT hPb hPn
  obtain ⟨W5, hW5⟩ : ∃ W, W = w4.alloc (tnO (I : Int) 0 0 none 0 0 a4' k c4' a5' k c5' a6' k c6') := ⟨_, rfl⟩
  have HW5 : Hid (W5 = _) := hW5
  clear x0 x2 x4 x5
  go_wp2_with fail
  rw [← HW5.out]
  have g45 : w4.grownBy W5 none := by rw [hW5]; exact grown_alloc _ _
  have G45 : Hid (w4.grownBy W5 none) := g45
  have HS5 : Hid (W5.heap.size = w4.heap.size + 1) := by show _ = _; rw [hW5, World.size_alloc]
  have HB5 : Hid (W5.heap[w4.heap.size]? = some (.cells #[.int .i64 (I : Int), .int .i64 0, .int .i64 0, .slice none 0 0, .slice a4' k c4', .slice a5' k c5', .slice a6' k c6'] 26 (0, 0))) := by show _ = _; rw [hW5]; exact heap_alloc_new _ _
  have hg25 : w2.grownBy W5 none := grown_trans G4.out g45
  have CTA0 : ∀ (W : World) (g2 : Nat), w4.grownBy W none → C2 W g2 (.slice e3 y.F.length d3) (.slice ar (ruT y s1 us).length cr) → Calls Try.prog 39 #[.slice (some ⟨g2, 0, none⟩) 2 2] W (CatX X W) := fun W g2 hW c2 => by
    rw [← HXX.out]
    exact catX_any _ _ _ _ _ _ g2 W (HYF.out W (grown_trans G2.out (grown_trans G4.out hW))) (HIR.out.grown (grown_trans G4.out hW)) HLF.out.1 HLF.out.2 c2.1 c2.2
  have SB20 : SBe (w.heap.size + 1) (.int .i64 y.O) (.slice e3 y.F.length d3) w2 := ⟨(Z2.out w2 G2.out).2.2.1, (Z2.out w2 G2.out).2.2.2⟩
  obtain ⟨nF, hnF⟩ : ∃ n, y.F.length = n := ⟨_, rfl⟩
  obtain ⟨nr, hnr⟩ : ∃ n, (ruT y s1 us).length = n := ⟨_, rfl⟩
  rw [hnF] at SB20
  rw [hnF, hnr] at CTA0
  try rw [hnr]
  have CTA : Hid (∀ (W : World) (g2 : Nat), w4.grownBy W none → C2 W g2 (.slice e3 nF d3) (.slice ar nr cr) → Calls Try.prog 39 #[.slice (some ⟨g2, 0, none⟩) 2 2] W (CatX X W)) := CTA0
  have SB2 : Hid (SBe (w.heap.size + 1) (.int .i64 y.O) (.slice e3 nF d3) w2) := SB20
  have S0 : Hid (SBe (w.heap.size + 1) (.int .i64 y.O) (.slice e3 nF d3) W5.drew) := SBe.kept SB20 (grown_drew hg25)
  clear hW5 g45 hg25 CTA0 SB20 hnF hnr hgq HIR HLF HYF HXX Z2
  refine wp_region_held_drew (S := SBe (w.heap.size + 1) (.int .i64 y.O) (.slice e3 nF d3)) (by kernel_rfl) (S0.out) (fun hHeld => ?_)
  refine wpAnyH_take (i := 0) (v := ?_) rfl (by kernel_rfl) (by kernel_rfl) (by kernel_rfl) (fun _ _ _ h => h) (Or.inl ⟨by rfl, ?_⟩) (by assumption) ?_
  rotate_left
  · intro W hSw
    obtain ⟨q0, q1⟩ := hSw
    go_simp
    with_reducible rfl
  try simp only [Act.put, List.getElem_toArray, List.getElem_cons_succ, List.getElem_cons_zero, List.setIfInBounds_toArray, List.set_cons_zero, List.set_cons_succ]
  refine wpAnyH_take (i := 1) (v := ?_) rfl (by kernel_rfl) (by kernel_rfl) (by kernel_rfl) (fun _ _ _ h => h) (Or.inl ⟨by rfl, ?_⟩) (by assumption) ?_
  rotate_left
  · intro W hSw
    obtain ⟨q0, q1⟩ := hSw
    go_simp
    with_reducible rfl
  try simp only [Act.put, List.getElem_toArray, List.getElem_cons_succ, List.getElem_cons_zero, List.setIfInBounds_toArray, List.set_cons_zero, List.set_cons_succ]
  refine wpAnyH_take (i := 2) (v := ?_) rfl (by kernel_rfl) (by kernel_rfl) (by kernel_rfl) (fun _ _ _ h => h) (Or.inl ⟨by rfl, ?_⟩) (by assumption) ?_
  rotate_left
  · intro W hSw
    obtain ⟨q0, q1⟩ := hSw
    go_simp
    with_reducible rfl
  try simp only [Act.put, List.getElem_toArray, List.getElem_cons_succ, List.getElem_cons_zero, List.setIfInBounds_toArray, List.set_cons_zero, List.set_cons_succ]
  refine wpAnyH_take (i := 3) (v := ?_) rfl (by kernel_rfl) (by kernel_rfl) (by kernel_rfl) (fun _ _ _ h => h) (Or.inl ⟨by rfl, ?_⟩) (by assumption) ?_
  rotate_left
  · intro W hSw
    obtain ⟨q0, q1⟩ := hSw
    go_simp
    with_reducible rfl
  try simp only [Act.put, List.getElem_toArray, List.getElem_cons_succ, List.getElem_cons_zero, List.setIfInBounds_toArray, List.set_cons_zero, List.set_cons_succ]
  refine wpAnyH_take (i := 4) (v := ?_) rfl (by kernel_rfl) (by kernel_rfl) (by kernel_rfl) (fun _ _ _ h => h) (Or.inl ⟨by rfl, ?_⟩) (by assumption) ?_
  rotate_left
  · intro W hSw
    obtain ⟨q0, q1⟩ := hSw
    go_simp
    with_reducible rfl
  try simp only [Act.put, List.getElem_toArray, List.getElem_cons_succ, List.getElem_cons_zero, List.setIfInBounds_toArray, List.set_cons_zero, List.set_cons_succ]
  refine wpAnyH_take (i := 7) (v := ?_) rfl (by kernel_rfl) (by kernel_rfl) (by kernel_rfl) (fun _ _ _ h => h) (Or.inl ⟨by rfl, ?_⟩) (by assumption) ?_
  rotate_left
  · intro W hSw
    obtain ⟨q0, q1⟩ := hSw
    go_simp
    with_reducible rfl
  try simp only [Act.put, List.getElem_toArray, List.getElem_cons_succ, List.getElem_cons_zero, List.setIfInBounds_toArray, List.set_cons_zero, List.set_cons_succ]
  refine wpAnyH_ready (rs := [5]) (by kernel_rfl) (by simp) ?_
  refine AllReadyH.cons (o := _) rfl (fun K' hK => ?_) ?_
  · go_simp
    refine hK.out _ _ (hHeld.kept (grown_alloc _ _)) (fun hHeld => ?_)
    clear hK K'
    try simp only [Act.put, List.getElem_toArray, List.getElem_cons_succ, List.getElem_cons_zero, List.setIfInBounds_toArray, List.set_cons_zero, List.set_cons_succ]
    refine wpAnyH_ready (rs := [6]) (by kernel_rfl) (by simp) ?_
    refine AllReadyH.cons (o := _) rfl (fun K' hK => ?_) ?_
    · go_simp
      refine (CTA.out _ _ (grown_trans G45.out (gr_1 _ _)) (c2_a _ (.slice e3 nF d3) (.slice ar nr cr) _)).mono ?_
      rintro E w6 ⟨ax, kx, rfl, hix, hgx, hnx, hcx⟩
      have G6 : Hid (W5.grownBy w6 none) := grown_trans (gr_1 W5 _) hgx
      have hnx5 : ∀ y, ax = some y → w4.heap.size + 1 ≤ y.block := fun y hy => by have h1 := (gr_1 W5 (.cells #[.slice e3 nF d3, .slice ar nr cr] 22)).size; have h2 := (hnx y hy).1; have h3 := HS5.out; exact Nat.le_trans (h3 ▸ h1) h2
      have H6 : Hid (SBe (w.heap.size + 1) (.int .i64 y.O) (.slice e3 nF d3) w6) := SBe.kept SB2.out (grown_trans G4.out (grown_trans G45.out G6.out))
      have hb6 : w6.heap[w4.heap.size]? = some (.cells #[.int .i64 (I : Int), .int .i64 0, .int .i64 0, .slice none 0 0, .slice a4' k c4', .slice a5' k c5', .slice a6' k c6'] 26 (0, 0)) := (G6.out.block _ (by rw [HS5.out]; omega) (by simp)).trans HB5.out
      have x9 := (box7_of hb6).1.b1
      have f9 := (box7_of hb6).2 1
      obtain ⟨W6, hW6⟩ : ∃ W, W = w6.setCell ⟨w4.heap.size, 1, none⟩ (.int .i64 y.O) := ⟨_, rfl⟩
      have HW6 : Hid (W6 = _) := hW6
      have hb6b := heap_setCell_same w6 w4.heap.size 1 _ _ (.int .i64 y.O) hb6
      rw [← hW6] at hb6b
      have g66 : w6.grownBy W6 (some w4.heap.size) := by rw [hW6]; exact grown_set _ _ _
      have hg46 : w4.grownBy W6 none := grown_new (grown_trans G45.out G6.out) g66 (Nat.le_refl _)
      have i6 : Ints W6 ax X := ints_far hix (fun _ y hy => by have := hnx5 y hy; omega) g66
      have x10 := (box7_of hb6b).1.b3
      have f10 := (box7_of hb6b).2 3
      obtain ⟨W7, hW7⟩ : ∃ W, W = W6.setCell ⟨w4.heap.size, 3, none⟩ (.slice ax X.length kx) := ⟨_, rfl⟩
      have HW7 : Hid (W7 = _) := hW7
      have hb7 := heap_setCell_same W6 w4.heap.size 3 _ _ (.slice ax X.length kx) hb6b
      rw [← hW7] at hb7
      have g67 : W6.grownBy W7 (some w4.heap.size) := by rw [hW7]; exact grown_set _ _ _
      have hg47 : w4.grownBy W7 none := grown_new hg46 g67 (Nat.le_refl _)
      have bx7 := (box7_of hb7).1
      have y0 := bx7.b0
      have y1 := bx7.b1
      have y2 := bx7.b2
      have y3 := bx7.b3
      have y4 := bx7.b4
      have y5 := bx7.b5
      have y6 := bx7.b6
      have G27 : W1.grownBy W7 none := grown_trans G2.out (grown_trans G4.out hg47)
      obtain ⟨⟨p0, p1, p2, p3, p4, p5, p6⟩, fz, W9, hW9, g9, q0, q1, q2, q3, q4, q5, q6⟩ := seven_store (HRB.out W7 G27) (.int .i64 (I : Int)) (.int .i64 y.O) (.int .i64 0) (.slice ax X.length kx) (.slice a4' k c4') (.slice a5' k c5') (.slice a6' k c6')
      have HW9 : Hid (W9 = _) := hW9
      have S6 : Hid (SBe (w.heap.size + 1) (.int .i64 y.O) (.slice e3 nF d3) W6) := SBe.kept SB2.out (grown_trans G4.out hg46)
      have S7 : Hid (SBe (w.heap.size + 1) (.int .i64 y.O) (.slice e3 nF d3) W7) := SBe.kept SB2.out (grown_trans G4.out hg47)
      have F : Hid (Po (.returned (tnV (I : Int) y.O 0 ax X.length kx a4' k c4' a5' k c5' a6' k c6')) W9) := by
        have s1 := HSz.out
        have s2 := G2.out.size
        have s4 := G4.out.size
        have s5 := HS5.out
        have i7 : Ints W7 ax X := ints_far i6 (fun _ y hy => by have := hnx5 y hy; omega) g67
        have i9 : Ints W9 ax X := ints_far i7 (fun _ y hy => by have := hnx5 y hy; omega) g9
        obtain ⟨h4, h4c⟩ := HSV.out W7 W9 (w.heap.size + 1 + 1) (by omega) (by omega) hg47 g9
        exact HP.out W9 k ax a4' a5' a6' kx c4' c5' c6' HEnd.out hkn ⟨i9, h4.next, h4.says, h4.last, by show X.length ≤ maxLen; unfold maxLen; omega, h4.m4, h4.m5, h4.m6⟩ h4c (grown_new (grown_trans G1.out G27) g9 (by omega))
      have f0 := fz 0
      have f1 := fz 1
      have f2 := fz 2
      have f3 := fz 3
      have f4 := fz 4
      have f5 := fz 5
      have f6 := fz 6
      clear hW7 g9 fz hW9 g67 hg46 hg47 bx7 hb7 hb6b hix hgx hnx hcx G27 i6 hnx5
      clear hW6 g66 hb6
      go_wp2_with fail
      refine hK.out _ _ (H6.out) (fun hHeld => ?_)
      clear hK K'
      try simp only [Act.put, List.getElem_toArray, List.getElem_cons_succ, List.getElem_cons_zero, List.setIfInBounds_toArray, List.set_cons_zero, List.set_cons_succ]
      refine wpAnyH_ready (rs := [8]) (by kernel_rfl) (by simp) ?_
      refine AllReadyH.cons (o := _) rfl (fun K' hK => ?_) ?_
      · go_simp
        rw [← HW6.out]
        refine hK.out _ _ (S6.out) (fun hHeld => ?_)
        clear hK K'
        try simp only [Act.put, List.getElem_toArray, List.getElem_cons_succ, List.getElem_cons_zero, List.setIfInBounds_toArray, List.set_cons_zero, List.set_cons_succ]
        refine wpAnyH_take (i := 9) (v := ?_) rfl (by kernel_rfl) (by kernel_rfl) (by kernel_rfl) (fun _ _ _ h => h) (Or.inl ⟨by rfl, ?_⟩) (by assumption) ?_
        rotate_left
        · intro W hSw
          obtain ⟨q0, q1⟩ := hSw
          go_simp
          with_reducible rfl
        try simp only [Act.put, List.getElem_toArray, List.getElem_cons_succ, List.getElem_cons_zero, List.setIfInBounds_toArray, List.set_cons_zero, List.set_cons_succ]
        refine wpAnyH_ready (rs := [10]) (by kernel_rfl) (by simp) ?_
        refine AllReadyH.cons (o := _) rfl (fun K' hK => ?_) ?_
        · go_simp
          rw [← HW7.out]
          refine hK.out _ _ (S7.out) (fun hHeld => ?_)
          clear hK K'
          try simp only [Act.put, List.getElem_toArray, List.getElem_cons_succ, List.getElem_cons_zero, List.setIfInBounds_toArray, List.set_cons_zero, List.set_cons_succ]
          refine wpAnyH_done (by kernel_rfl) ?_ _
          go_wp2_with fail
          rw [← HW9.out]
          exact bodyPost_ret (v := tnV (I : Int) y.O 0 ax X.length kx a4' k c4' a5' k c5' a6' k c6') (by simp [results, Try.results21, go_sem, q0, q1, q2, q3, q4, q5, q6]) rfl F.out
        exact AllReadyH.nil
      exact AllReadyH.nil
    exact AllReadyH.nil
  exact AllReadyH.nil

end Go.Proofs.Ytodcmlcpicabaaa
