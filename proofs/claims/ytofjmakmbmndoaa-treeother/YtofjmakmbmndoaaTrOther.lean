/- What accepts just the other trees: the program's Other. -/
import Derived.Test.YtofjmakmbmndoaaTrOth
import Derived.Test.YtofjmakmbmndoaaTrCheck2
namespace Go.Proofs.Ytofjmakmbmndoaa
open Go.RowKit Go.Maps
set_option linter.unusedVariables false

abbrev noTrs : Value := trsV 0 0 none 0 0 0 none 0 0
/-- Two boxes: what came in, and the result's. -/
theorem two_boxO (w : World) (v0 v1 v2 v3 v4 : Value) : ∃ W, W = (w.alloc (.cells #[v0, v1, v2, v3, v4] 25)).alloc (.cells #[.int .i64 0, .int .i64 0, .slice none 0 0, .int .i64 0, .slice none 0 0] 25) ∧ w.grownBy W none ∧ W.heap.size = w.heap.size + 1 + 1 ∧ (∀ W', W.grownBy W' none → W'.heap[w.heap.size + 1]? = some (.cells #[.int .i64 0, .int .i64 0, .slice none 0 0, .int .i64 0, .slice none 0 0] 25 (0, 0))) ∧ ∀ W', W.grownBy W' none → W'.cell? ⟨w.heap.size, 0, none⟩ = some v0 ∧ W'.cell? ⟨w.heap.size, 1, none⟩ = some v1 ∧ W'.cell? ⟨w.heap.size, 2, none⟩ = some v2 ∧ W'.cell? ⟨w.heap.size, 3, none⟩ = some v3 ∧ W'.cell? ⟨w.heap.size, 4, none⟩ = some v4 := by
  obtain ⟨W0, hW0, g0, s0, bx0⟩ := box5_new w v0 v1 v2 v3 v4 25
  obtain ⟨W1, hW1, g1, s1, _⟩ := box5_new W0 (.int .i64 0) (.int .i64 0) (.slice none 0 0) (.int .i64 0) (.slice none 0 0) 25
  have hrb := heap_alloc_new W0 (.cells #[.int .i64 0, .int .i64 0, .slice none 0 0, .int .i64 0, .slice none 0 0] 25)
  rw [← hW1, s0] at hrb
  exact ⟨W1, by rw [hW1, hW0], grown_trans g0 g1, by rw [s1, s0], fun W' hW' => (hW'.block _ (by rw [s1, s0]; omega) (by simp)).trans hrb, fun W' hW' => bx0 W' (grown_trans g1 hW')⟩

set_option maxHeartbeats 3200000 in
set_option maxRecDepth 100000 in
theorem other_bad (x : Trs) (b e : Option Addr) (d f : Nat) (w : World) (h : TrsAt w x b e) (hx : checkT x ≠ 0) :
    Calls Try.prog 15 #[trsV x.L x.N b x.R.length d x.S e x.M.length f] w (Says (.tuple #[noTrs, .int .i64 (checkT x)]) w) := by
  have HC : Hid (∀ W, w.grownBy W none → Calls Try.prog 6 #[trsV x.L x.N b x.R.length d x.S e x.M.length f] W (Says (.int .i64 (checkT x)) W)) := fun W hW => checkT_any x b e d f W (h.grown hW)
  generalize checkT x = ce at *
  obtain ⟨L, N, R, S0, M⟩ := x
  simp only at *
  generalize R.length = nR at *
  generalize M.length = nM at *
  obtain ⟨W1, hW1, g1, s1, hrb, bx⟩ := two_boxO w (.int .i64 L) (.int .i64 N) (.slice b nR d) (.int .i64 S0) (.slice e nM f)
  have HW1 : Hid (W1 = _) := hW1
  have G1 : Hid (w.grownBy W1 none) := g1
  have HRB : Hid _ := hrb
  obtain ⟨x0, x1, x2, x3, x4⟩ := bx W1 (grown_refl _ _)
  rw [hW1] at x0 x1 x2 x3 x4
  have d1 : (ce != 0) = true := by simpa using hx
  clear h hW1 g1 s1 hrb bx hx
  go_enter Try.func15, Try.ntmps15
  go_wp2_with fail
  rw [← HW1.out]
  clear x0 x1 x2 x3 x4
  refine (HC.out _ G1.out).mono ?_
  rintro E w2 ⟨rfl, hg2⟩
  have hr2 := HRB.out w2 hg2
  obtain ⟨r0, r1, r2, r3, r4, rf⟩ := block_cells5T hr2
  obtain ⟨W7, hW7, hg7, R7⟩ := five_storeT hr2 (.int .i64 0) (.int .i64 0) (.slice none 0 0) (.int .i64 0) (.slice none 0 0)
  obtain ⟨y0, y1, y2, y3, y4, _⟩ := block_cells5T R7
  have rf0 := rf 0
  have rf1 := rf 1
  have rf2 := rf 2
  have rf3 := rf 3
  have rf4 := rf 4
  have GF : Hid (w.grownBy W7 none) := grown_new (grown_trans G1.out hg2) hg7 (by omega)
  clear hg2 hr2 rf hg7 R7
  go_wp2_with fail
  rw [← hW7]
  exact bodyPost_ret (v := .tuple #[noTrs, .int .i64 ce]) (by simp [results, Try.results15, go_sem, y0, y1, y2, y3, y4]) rfl ⟨rfl, GF.out⟩

set_option maxHeartbeats 3200000 in
set_option maxRecDepth 100000 in
theorem other_size (x : Trs) (b e : Option Addr) (d f : Nat) (w : World) (h : TrsAt w x b e) (hx : checkT x = 0) (hs : 6 < x.N ∨ 2 < x.L) :
    Calls Try.prog 15 #[trsV x.L x.N b x.R.length d x.S e x.M.length f] w (Says (.tuple #[noTrs, .int .i64 1]) w) := by
  have HC : Hid (∀ W, w.grownBy W none → Calls Try.prog 6 #[trsV x.L x.N b x.R.length d x.S e x.M.length f] W (Says (.int .i64 0) W)) := fun W hW => by
    have := checkT_any x b e d f W (h.grown hW)
    rwa [hx] at this
  obtain ⟨L, N, R, S0, M⟩ := x
  simp only at *
  generalize R.length = nR at *
  generalize M.length = nM at *
  obtain ⟨W1, hW1, g1, s1, hrb, bx⟩ := two_boxO w (.int .i64 L) (.int .i64 N) (.slice b nR d) (.int .i64 S0) (.slice e nM f)
  have HW1 : Hid (W1 = _) := hW1
  have G1 : Hid (w.grownBy W1 none) := g1
  have HRB : Hid _ := hrb
  have BX : Hid _ := bx
  obtain ⟨x0, x1, x2, x3, x4⟩ := bx W1 (grown_refl _ _)
  rw [hW1] at x0 x1 x2 x3 x4
  obtain ⟨bN, hbN⟩ : ∃ bN, decide (6 < N) = bN := ⟨_, rfl⟩
  have hbL : bN = false → decide (2 < L) = true := fun e => by
    rw [e, decide_eq_false_iff_not] at hbN
    exact decide_eq_true (by omega)
  clear h hW1 g1 s1 hrb bx hx hs
  go_enter Try.func15, Try.ntmps15
  go_wp2_with fail
  rw [← HW1.out]
  clear x0 x1 x2 x3 x4
  refine (HC.out _ G1.out).mono ?_
  rintro E w2 ⟨rfl, hg2⟩
  have hr2 := HRB.out w2 hg2
  obtain ⟨x0, x1, x2, x3, x4⟩ := BX.out w2 hg2
  obtain ⟨r0, r1, r2, r3, r4, rf⟩ := block_cells5T hr2
  obtain ⟨W7, hW7, hg7, R7⟩ := five_storeT hr2 (.int .i64 0) (.int .i64 0) (.slice none 0 0) (.int .i64 0) (.slice none 0 0)
  obtain ⟨y0, y1, y2, y3, y4, _⟩ := block_cells5T R7
  have rf0 := rf 0
  have rf1 := rf 1
  have rf2 := rf 2
  have rf3 := rf 3
  have rf4 := rf 4
  have GF : Hid (w.grownBy W7 none) := grown_new (grown_trans G1.out hg2) hg7 (by omega)
  clear hg2 hr2 rf hg7 R7
  cases bN
  all_goals
    try have hbL' := hbL rfl
    clear hbL
    go_wp2_with fail
    rw [← hW7]
    exact bodyPost_ret (v := .tuple #[noTrs, .int .i64 1]) (by simp [results, Try.results15, go_sem, y0, y1, y2, y3, y4]) rfl ⟨rfl, GF.out⟩

def OtherPost (x : Trs) (L N : Nat) (w : World) (E : Ending) (w' : World) : Prop :=
  ∃ X ar cr am cm, Closed x.R L X ∧ AreS N X ∧ E = .returned (.tuple #[trsV x.L (List.length X) ar (othT x X L).R.length cr 0 am (othT x X L).M.length cm, .int .i64 0]) ∧ TrsAt w' (othT x X L) ar am ∧ w.grownBy w' none

set_option maxHeartbeats 3200000 in
set_option maxRecDepth 100000 in
theorem other_good (x : Trs) (b e : Option Addr) (d f : Nat) (w : World) (h : TrsAt w x b e) (hx : checkT x = 0) (L N : Nat) (hL : x.L = L) (hN : x.N = N) (hN6 : N ≤ 6) (hL2 : L ≤ 2) :
    Calls Try.prog 15 #[trsV x.L x.N b x.R.length d x.S e x.M.length f] w (OtherPost x L N w) := by
  have HC : Hid (∀ W, w.grownBy W none → Calls Try.prog 6 #[trsV x.L x.N b x.R.length d x.S e x.M.length f] W (Says (.int .i64 0) W)) := fun W hW => by
    have := checkT_any x b e d f W (h.grown hW)
    rwa [hx] at this
  have HO : Hid (∀ W, w.grownBy W none → Calls Try.prog 26 #[trsV x.L x.N b x.R.length d x.S e x.M.length f] W (OthPost x L N W)) := fun W hW => others_any x b e d f W (h.grown hW) (goodT_of_check hx) L N hL hN hN6 hL2
  have HPost : Hid (∀ X ar cr am cm nR nM (W' : World), Closed x.R L X → AreS N X → (othT x X L).R.length = nR → (othT x X L).M.length = nM → TrsAt W' (othT x X L) ar am → w.grownBy W' none → OtherPost x L N w (.returned (.tuple #[trsV x.L (List.length X) ar nR cr 0 am nM cm, .int .i64 0])) W') := fun X ar cr am cm nR nM W' h1 h2 h3 h4 h5 h6 => ⟨X, ar, cr, am, cm, h1, h2, by rw [h3, h4], h5, h6⟩
  have HOp : Hid (∀ (W : World) (E : Ending) (W' : World), OthPost x L N W E W' → ∃ X ar cr am cm nR nM nX, Closed x.R L X ∧ AreS N X ∧ E = .returned (trsV x.L ((nX : Nat) : Int) ar nR cr 0 am nM cm) ∧ (othT x X L).R.length = nR ∧ (othT x X L).M.length = nM ∧ X.length = nX ∧ TrsAt W' (othT x X L) ar am ∧ W.grownBy W' none ∧ (∀ y V, y < W.heap.size → W'.grownBy V (some y) → TrsAt V (othT x X L) ar am)) := fun W E W' hp => by
    obtain ⟨X, ar, cr, am, cm, h1, h2, h3, h4, h5, h6, h7⟩ := hp
    refine ⟨X, ar, cr, am, cm, _, _, _, h1, h2, h3, rfl, rfl, rfl, h4, h5, fun y V hy hg => ⟨?_, ?_, h4.mr, h4.mm⟩⟩
    · rcases h4.rules with hh | ⟨bb, off, ha, hc⟩
      · exact .inl hh
      · have hb := h6 _ ha
        refine .inr ⟨bb, off, ha, fun i hi => ?_⟩
        have k1 : ∀ o v, W'.cell? ⟨bb, o, none⟩ = some v → V.cell? ⟨bb, o, none⟩ = some v := fun o v hv => hg.cell hv (by simp at hb ⊢; omega)
        obtain ⟨c0, c1, c2, c3⟩ := hc i hi
        exact ⟨k1 _ _ c0, k1 _ _ c1, k1 _ _ c2, k1 _ _ c3⟩
    · rcases h4.marks with hh | ⟨bb, off, ha, hc⟩
      · exact .inl hh
      · have hb := h7 _ ha
        exact .inr ⟨bb, off, ha, fun i hi => hg.cell (hc i hi) (by simp at hb ⊢; omega)⟩
  obtain ⟨P, hP⟩ : ∃ P, P = OtherPost x L N w := ⟨_, rfl⟩
  rw [← hP] at HPost ⊢
  obtain ⟨Lz, Nz, R, S0, M⟩ := x
  simp only at *
  subst hL hN
  generalize hXX : (⟨(L : Int), (N : Int), R, S0, M⟩ : Trs) = xx at *
  generalize R.length = nR at *
  generalize M.length = nM at *
  obtain ⟨W1, hW1, g1, s1, hrb, bx⟩ := two_boxO w (.int .i64 (L : Int)) (.int .i64 (N : Int)) (.slice b nR d) (.int .i64 S0) (.slice e nM f)
  have HW1 : Hid (W1 = _) := hW1
  have G1 : Hid (w.grownBy W1 none) := g1
  have HRB : Hid _ := hrb
  have HS1 : Hid (W1.heap.size = w.heap.size + 1 + 1) := s1
  have BX : Hid _ := bx
  obtain ⟨x0, x1, x2, x3, x4⟩ := bx W1 (grown_refl _ _)
  rw [hW1] at x0 x1 x2 x3 x4
  have dN : decide ((6 : Int) < (N : Int)) = false := by simp; omega
  have dL : decide ((2 : Int) < (L : Int)) = false := by simp; omega
  clear h hW1 g1 s1 hrb bx hx hXX hP
  go_enter Try.func15, Try.ntmps15
  go_wp2_with fail
  rw [← HW1.out]
  clear x0 x1 x2 x3 x4
  refine (HC.out _ G1.out).mono ?_
  rintro E w2 ⟨rfl, hg2⟩
  have G2 : Hid (W1.grownBy w2 none) := hg2
  obtain ⟨x0, x1, x2, x3, x4⟩ := BX.out w2 hg2
  clear hg2
  go_wp2_with fail
  clear x0 x1 x2 x3 x4
  refine (HO.out _ (grown_trans G1.out G2.out)).mono ?_
  rintro E w3 hp
  obtain ⟨X, ar, cr, am, cm, nR', nM', nX, hCl, hAr, rfl, hlR, hlM, hlX, hTA, hg3, hFar⟩ := HOp.out _ _ _ hp
  have hr3 := HRB.out w3 (grown_trans G2.out hg3)
  obtain ⟨r0, r1, r2, r3, r4, rf⟩ := block_cells5T hr3
  obtain ⟨W7, hW7, hg7, R7⟩ := five_storeT hr3 (.int .i64 (L : Int)) (.int .i64 (nX : Int)) (.slice ar nR' cr) (.int .i64 0) (.slice am nM' cm)
  obtain ⟨y0, y1, y2, y3, y4, _⟩ := block_cells5T R7
  have rf0 := rf 0
  have rf1 := rf 1
  have rf2 := rf 2
  have rf3 := rf 3
  have rf4 := rf 4
  have Fin : Hid (P (.returned (.tuple #[trsV (L : Int) (nX : Int) ar nR' cr 0 am nM' cm, .int .i64 0])) W7) := by
    have := HPost.out X ar cr am cm nR' nM' W7 hCl hAr hlR hlM (hFar _ W7 (by have := HS1.out; have := G2.out.size; omega) hg7) (grown_new (grown_trans G1.out (grown_trans G2.out hg3)) hg7 (by omega))
    rw [hlX] at this
    exact this
  clear hp HOp HPost hCl hAr hlR hlM hlX hTA hg3 hFar hr3 rf hg7 R7
  go_wp2_with fail
  rw [← hW7]
  exact bodyPost_ret (v := .tuple #[trsV (L : Int) (nX : Int) ar nR' cr 0 am nM' cm, .int .i64 0]) (by simp [results, Try.results15, go_sem, y0, y1, y2, y3, y4]) rfl Fin.out

end Go.Proofs.Ytofjmakmbmndoaa
