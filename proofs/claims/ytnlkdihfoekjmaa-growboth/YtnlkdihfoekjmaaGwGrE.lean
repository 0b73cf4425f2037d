/- The program's Grow. -/
import Derived.Test.YtnlkdihfoekjmaaGwGrn
import Derived.Test.YtnlkdihfoekjmaaGwChk
namespace Go.Proofs.Ytnlkdihfoekjmaa
open Go.RowKit
set_option linter.unusedVariables false

abbrev grnV (a0 a1 a2 a3 : Option Addr) (n0 n1 n2 n3 c0 c1 c2 c3 : Nat) : Value := .agg #[.slice a0 n0 c0, .slice a1 n1 c1, .slice a2 n2 c2, .slice a3 n3 c3]
abbrev grnN : Value := .agg #[.slice none 0 0, .slice none 0 0, .slice none 0 0, .slice none 0 0]
theorem grn_store {W : World} {B : Nat} (h : W.heap[B]? = some (.cells #[.slice none 0 0, .slice none 0 0, .slice none 0 0, .slice none 0 0] 28 (0, 0))) (v0 v1 v2 v3 : Value) :
    (W.cell? ⟨B, 0, none⟩ = some (.slice none 0 0) ∧ W.cell? ⟨B, 1, none⟩ = some (.slice none 0 0) ∧ W.cell? ⟨B, 2, none⟩ = some (.slice none 0 0) ∧ W.cell? ⟨B, 3, none⟩ = some (.slice none 0 0)) ∧ (∀ j, W.frozen? ⟨B, j, none⟩ = false) ∧ ∃ W', W' = (((W.setCell ⟨B, 0, none⟩ v0).setCell ⟨B, 1, none⟩ v1).setCell ⟨B, 2, none⟩ v2).setCell ⟨B, 3, none⟩ v3 ∧ W.grownBy W' (some B) ∧ W'.cell? ⟨B, 0, none⟩ = some v0 ∧ W'.cell? ⟨B, 1, none⟩ = some v1 ∧ W'.cell? ⟨B, 2, none⟩ = some v2 ∧ W'.cell? ⟨B, 3, none⟩ = some v3 := by
  have h1 := heap_setCell_same W B 0 _ _ v0 h
  have h2 := heap_setCell_same _ B 1 _ _ v1 h1
  have h3 := heap_setCell_same _ B 2 _ _ v2 h2
  have h4 := heap_setCell_same _ B 3 _ _ v3 h3
  refine ⟨⟨?_, ?_, ?_, ?_⟩, fun j => frozen_of_row _ _ _ _ _ h, _, rfl, grown_trans (grown_set _ _ _) (grown_trans (grown_set _ _ _) (grown_trans (grown_set _ _ _) (grown_set _ _ _))), ?_, ?_, ?_, ?_⟩
  · rw [cell_of_row _ _ 0 _ _ (0, 0) h]; rfl
  · rw [cell_of_row _ _ 1 _ _ (0, 0) h]; rfl
  · rw [cell_of_row _ _ 2 _ _ (0, 0) h]; rfl
  · rw [cell_of_row _ _ 3 _ _ (0, 0) h]; rfl
  · rw [cell_of_row _ _ 0 _ _ (0, 0) h4]; simp
  · rw [cell_of_row _ _ 1 _ _ (0, 0) h4]; simp
  · rw [cell_of_row _ _ 2 _ _ (0, 0) h4]; simp
  · rw [cell_of_row _ _ 3 _ _ (0, 0) h4]; simp
/-- Numbers lie elsewhere than a box of slices. -/
theorem Ints.farBox {W W' : World} {B : Nat} {a : Option Addr} {zs : List Int} (hN : Ints W a zs) (h : W.heap[B]? = some (.cells #[.slice none 0 0, .slice none 0 0, .slice none 0 0, .slice none 0 0] 28 (0, 0))) (g : W.grownBy W' (some B)) : Ints W' a zs := by
  rcases hN with h1 | ⟨bb, off, ha, hc⟩
  · exact .inl h1
  · refine .inr ⟨bb, off, ha, fun i hi => ?_⟩
    have hbb : bb ≠ B := fun e => by
      subst e
      have := hc i hi
      rw [cell_of_row _ _ _ _ _ (0, 0) h] at this
      have hm := Array.mem_of_getElem? this
      simp at hm
    exact g.cell (hc i hi) (by simpa using hbb)
theorem two_boxG (w : World) (v0 v1 v2 v3 v4 : Value) : ∃ W, W = (w.alloc (.cells #[v0, v1, v2, v3, v4] 25)).alloc (.cells #[.slice none 0 0, .slice none 0 0, .slice none 0 0, .slice none 0 0] 28) ∧ w.grownBy W none ∧ W.heap.size = w.heap.size + 1 + 1 ∧ W.heap[w.heap.size + 1]? = some (.cells #[.slice none 0 0, .slice none 0 0, .slice none 0 0, .slice none 0 0] 28 (0, 0)) ∧ ∀ W', W.grownBy W' none → W'.cell? ⟨w.heap.size, 0, none⟩ = some v0 ∧ W'.cell? ⟨w.heap.size, 1, none⟩ = some v1 ∧ W'.cell? ⟨w.heap.size, 2, none⟩ = some v2 ∧ W'.cell? ⟨w.heap.size, 3, none⟩ = some v3 ∧ W'.cell? ⟨w.heap.size, 4, none⟩ = some v4 := by
  obtain ⟨W0, hW0, g0, s0, bx0⟩ := box5_new w v0 v1 v2 v3 v4 25
  have hrb := heap_alloc_new W0 (.cells #[.slice none 0 0, .slice none 0 0, .slice none 0 0, .slice none 0 0] 28)
  rw [s0] at hrb
  exact ⟨_, by rw [hW0], grown_trans g0 (grown_alloc _ _), by rw [World.size_alloc, s0], hrb, fun W' hW' => bx0 W' (grown_trans (grown_alloc _ _) hW')⟩

set_option maxHeartbeats 1600000 in
theorem growE_bad (x : Trs) (b e : Option Addr) (d f : Nat) (w : World) (h : TrsAt w x b e) (hc : checkW x ≠ 0) :
    Calls Try.prog 5 #[trsV x.L x.N b x.R.length d x.S e x.M.length f] w (Says (.tuple #[grnN, .bool false, .int .i64 (checkW x)]) w) := by
  have HC : Hid (∀ W, w.grownBy W none → Calls Try.prog 7 #[trsV x.L x.N b x.R.length d x.S e x.M.length f] W (Says (.int .i64 (checkW x)) W)) := fun W hW => checkW_any x b e d f W (h.grown hW)
  obtain ⟨W0, hW0, g0, s0, hr0, bx0⟩ := two_boxG w (.int .i64 x.L) (.int .i64 x.N) (.slice b x.R.length d) (.int .i64 x.S) (.slice e x.M.length f)
  obtain ⟨x0, x1, x2, x3, x4⟩ := bx0 W0 (grown_refl _ _)
  have HW0 : Hid (W0 = _) := hW0
  have G0 : Hid (w.grownBy W0 none) := g0
  have HR : Hid (W0.heap[w.heap.size + 1]? = some (.cells #[.slice none 0 0, .slice none 0 0, .slice none 0 0, .slice none 0 0] 28 (0, 0)) ∧ W0.heap.size = w.heap.size + 1 + 1) := ⟨hr0, s0⟩
  rw [hW0] at x0 x1 x2 x3 x4
  generalize checkW x = ce at *
  have d1 : (ce != 0) = true := by simpa using hc
  clear h hc hW0 g0 s0 bx0 hr0
  go_enter Try.func5, Try.ntmps5
  go_wp2_with fail
  rw [← HW0.out]
  refine (HC.out _ G0.out).mono ?_
  rintro E w2 ⟨rfl, hg2⟩
  have hr2 : w2.heap[w.heap.size + 1]? = some (.cells #[.slice none 0 0, .slice none 0 0, .slice none 0 0, .slice none 0 0] 28 (0, 0)) := (hg2.block _ (by have := HR.out.2; omega) (by simp)).trans HR.out.1
  obtain ⟨⟨z0, z1, z2, z3⟩, zf, W5, hW5, g5, q0, q1, q2, q3⟩ := grn_store hr2 (.slice none 0 0) (.slice none 0 0) (.slice none 0 0) (.slice none 0 0)
  have HW5 : Hid (W5 = _) := hW5
  have GF : Hid (w.grownBy W5 none) := grown_new (grown_trans G0.out hg2) g5 (by omega)
  clear hg2 HC hr2 hW5 g5 x0 x1 x2 x3 x4
  go_wp2_with fail
  rw [← HW5.out]
  exact bodyPost_ret (v := .tuple #[grnN, .bool false, .int .i64 ce]) (by simp [results, Try.results5, go_sem, q0, q1, q2, q3]) rfl ⟨rfl, GF.out⟩

def GrowEPost (x : Trs) (N : Nat) (w : World) (E : Ending) (w' : World) : Prop :=
  ∃ W M, GwS x N W M ∧ w.grownBy w' none ∧ ((W x.S.toNat = 0 ∧ ∃ (X : List Nat) (Lt : List Int) (Lf Rg : List Nat) (a0 a1 a2 a3 : Option Addr) (c0 c1 c2 c3 : Nat), E = .returned (.tuple #[grnV a0 a1 a2 a3 X.length X.length X.length X.length c0 c1 c2 c3, .bool true, .int .i64 0]) ∧ GrwI x N W M X Lt Lf Rg X.length ∧ Ints w' a0 Lt ∧ Ints w' a1 (castN X) ∧ Ints w' a2 (castN Lf) ∧ Ints w' a3 (castN Rg)) ∨ (W x.S.toNat = 1 ∧ E = .returned (.tuple #[grnN, .bool false, .int .i64 0])))

set_option maxHeartbeats 3200000 in
set_option maxRecDepth 100000 in
theorem growE_good (x : Trs) (b e : Option Addr) (d f N : Nat) (w : World) (h : TrsAt w x b e) (hc : checkW x = 0) (hN : x.N = N) :
    Calls Try.prog 5 #[trsV x.L x.N b x.R.length d x.S e x.M.length f] w (GrowEPost x N w) := by
  have hG := goodW_of hc
  have HC : Hid (∀ W, w.grownBy W none → Calls Try.prog 7 #[trsV x.L x.N b x.R.length d x.S e x.M.length f] W (Says (.int .i64 0) W)) := fun W hW => hc ▸ checkW_any x b e d f W (h.grown hW)
  have HD : Hid (∀ W, w.grownBy W none → Calls Try.prog 12 #[trsV x.L x.N b x.R.length d x.S e x.M.length f] W (DescPost x N W)) := fun W hW => descent_any x b e d f N W (h.grown hW) hG hN
  have HB : Hid (∀ (bw bm : Nat) (Wf Mf : Nat → Int) W, w.grownBy W none → GwS x N Wf Mf → IRow W bm (N + x.R.length) (N + x.R.length) (mvW x N Wf Mf) → Wf x.S.toNat = 0 → Calls Try.prog 13 #[trsV x.L x.N b x.R.length d x.S e x.M.length f, .agg #[.slice (some ⟨bw, 0, none⟩) (N + x.R.length) (N + x.R.length), .slice (some ⟨bm, 0, none⟩) (N + x.R.length) (N + x.R.length)]] W (GrownPost x N Wf Mf W)) := fun bw bm Wf Mf W hW hS hV h0 => grown_any x b e d f N bw bm Wf Mf W (h.grown hW) hG hN hS hV h0
  have hst := hG.st
  obtain ⟨s, hs⟩ : ∃ s : Nat, x.S = s := ⟨x.S.toNat, by omega⟩
  have hsT : x.S.toNat = s := by omega
  have hsN : s < N := by omega
  have HP : Hid (∀ (W' M' : Nat → Int) (E : Ending) (V : World), GwS x N W' M' → w.grownBy V none → ((W' s = 0 ∧ ∃ (X : List Nat) (Lt : List Int) (Lf Rg : List Nat) (a0 a1 a2 a3 : Option Addr) (c0 c1 c2 c3 : Nat), E = .returned (.tuple #[grnV a0 a1 a2 a3 X.length X.length X.length X.length c0 c1 c2 c3, .bool true, .int .i64 0]) ∧ GrwI x N W' M' X Lt Lf Rg X.length ∧ Ints V a0 Lt ∧ Ints V a1 (castN X) ∧ Ints V a2 (castN Lf) ∧ Ints V a3 (castN Rg)) ∨ (W' s = 1 ∧ E = .returned (.tuple #[grnN, .bool false, .int .i64 0]))) → GrowEPost x N w E V) := fun W' M' E V h1 h2 h3 => ⟨W', M', h1, h2, by rw [hsT]; exact h3⟩
  have hsz := hG.r6
  have hn6 := hG.n6
  obtain ⟨Po, hPo⟩ : ∃ Po, Po = GrowEPost x N w := ⟨_, rfl⟩
  rw [← hPo] at HP ⊢
  rw [hsT] at HB
  rw [hs, hN] at HC HD HB ⊢
  obtain ⟨W0, hW0, g0, s0, hr0, bx0⟩ := two_boxG w (.int .i64 x.L) (.int .i64 (N : Int)) (.slice b x.R.length d) (.int .i64 (s : Int)) (.slice e x.M.length f)
  have BX : Hid (∀ W', W0.grownBy W' none → W'.cell? ⟨w.heap.size, 0, none⟩ = some (.int .i64 x.L) ∧ W'.cell? ⟨w.heap.size, 1, none⟩ = some (.int .i64 (N : Int)) ∧ W'.cell? ⟨w.heap.size, 2, none⟩ = some (.slice b x.R.length d) ∧ W'.cell? ⟨w.heap.size, 3, none⟩ = some (.int .i64 (s : Int)) ∧ W'.cell? ⟨w.heap.size, 4, none⟩ = some (.slice e x.M.length f)) := bx0
  have HR : Hid (∀ W', W0.grownBy W' none → W'.heap[w.heap.size + 1]? = some (.cells #[.slice none 0 0, .slice none 0 0, .slice none 0 0, .slice none 0 0] 28 (0, 0))) := fun W' hW' => (hW'.block _ (by omega) (by simp)).trans hr0
  obtain ⟨x0, x1, x2, x3, x4⟩ := BX.out W0 (grown_refl _ _)
  have HW0 : Hid (W0 = _) := hW0
  have G0 : Hid (w.grownBy W0 none) := g0
  rw [hW0] at x0 x1 x2 x3 x4
  clear h hc hG hW0 g0 s0 bx0 hPo hst hs hN hr0 hsT
  go_enter Try.func5, Try.ntmps5
  go_wp2_with fail
  rw [← HW0.out]
  clear x0 x1 x2 x3 x4
  refine (HC.out _ G0.out).mono ?_
  rintro E w2 ⟨rfl, hg2⟩
  have G2 : Hid (W0.grownBy w2 none) := hg2
  obtain ⟨x0, x1, x2, x3, x4⟩ := BX.out w2 hg2
  clear hg2 HC
  go_wp2_with fail
  clear x0 x1 x2 x3 x4
  refine (HD.out _ (grown_trans G0.out G2.out)).mono ?_
  rintro E w3 ⟨bw, bm, Wf, Mf, rfl, hiw, him, hsol, hg3⟩
  obtain ⟨n, hn⟩ : ∃ n, N + x.R.length = n := ⟨_, rfl⟩
  rw [hn] at hiw him HB ⊢
  obtain ⟨W4, hW4⟩ : ∃ W4, W4 = w3.alloc (.cells #[.slice (some ⟨bw, 0, none⟩) n n, .slice (some ⟨bm, 0, none⟩) n n] 40) := ⟨_, rfl⟩
  have g4 : w3.grownBy W4 none := by rw [hW4]; exact grown_alloc _ _
  have hb4 := heap_alloc_new w3 (.cells #[.slice (some ⟨bw, 0, none⟩) n n, .slice (some ⟨bm, 0, none⟩) n n] 40)
  rw [← hW4] at hb4
  have y0 : W4.cell? ⟨w3.heap.size, 0, none⟩ = some (.slice (some ⟨bw, 0, none⟩) n n) := by rw [cell_of_row _ _ 0 _ _ (0, 0) hb4]; rfl
  have y1 : W4.cell? ⟨w3.heap.size, 1, none⟩ = some (.slice (some ⟨bm, 0, none⟩) n n) := by rw [cell_of_row _ _ 1 _ _ (0, 0) hb4]; rfl
  have G4 : Hid (W0.grownBy W4 none) := grown_trans G2.out (grown_trans hg3 g4)
  obtain ⟨x0, x1, x2, x3, x4⟩ := BX.out W4 G4.out
  have cs := (hiw.kept g4).cell (i := s) (by omega)
  have hwho : Wf s = 0 ∨ Wf s = 1 := hsol.who s (gw_at (by omega))
  have HV : Hid (IRow W4 bm n n (mvW x N Wf Mf)) := him.kept g4
  have HS : Hid (GwS x N Wf Mf) := hsol
  have hsn : (s : Int) < (n : Int) := by omega
  have HW4 : Hid (W4 = _) := hW4
  obtain ⟨v, hv⟩ : ∃ v, Wf s = v := ⟨_, rfl⟩
  have HWv : Hid (Wf s = v) := hv
  rw [hv] at cs hwho
  rcases hwho with h0 | h1
  · have d1 : (v != 0) = false := by rw [h0]; rfl
    have H1 : Hid (Wf s = 0) := HWv.out.trans h0
    rw [hW4] at y0 y1 x0 x1 x2 x3 x4 cs
    clear h0 hiw him hsol hg3 g4 hb4 hW4 hn HD hv
    go_wp2_with fail
    rw [← HW4.out]
    refine (HB.out bw bm Wf Mf W4 (grown_trans G0.out G4.out) HS.out HV.out H1.out).mono ?_
    rintro E w5 ⟨X, Lt, Lf, Rg, a0, a1, a2, a3, c0, c1, c2, c3, rfl, hgi, i0, i1, i2, i3, hg5⟩
    have hr5 := HR.out w5 (grown_trans G4.out hg5)
    obtain ⟨⟨z0, z1, z2, z3⟩, zf, W6, hW6, g6, q0, q1, q2, q3⟩ := grn_store hr5 (.slice a0 X.length c0) (.slice a1 X.length c1) (.slice a2 X.length c2) (.slice a3 X.length c3)
    have HW6 : Hid (W6 = _) := hW6
    have Fin : Hid (Po (.returned (.tuple #[grnV a0 a1 a2 a3 X.length X.length X.length X.length c0 c1 c2 c3, .bool true, .int .i64 0])) W6) := HP.out Wf Mf _ W6 HS.out (grown_new (grown_trans G0.out (grown_trans G4.out hg5)) g6 (by omega)) (.inl ⟨H1.out, X, Lt, Lf, Rg, a0, a1, a2, a3, c0, c1, c2, c3, rfl, hgi, i0.farBox hr5 g6, i1.farBox hr5 g6, i2.farBox hr5 g6, i3.farBox hr5 g6⟩)
    generalize X.length = nX at *
    clear hgi i0 i1 i2 i3 hg5 hr5 hW6 g6 x0 x1 x2 x3 x4 y0 y1 cs
    go_wp2_with fail
    rw [← HW6.out]
    exact bodyPost_ret (v := .tuple #[grnV a0 a1 a2 a3 nX nX nX nX c0 c1 c2 c3, .bool true, .int .i64 0]) (by simp [results, Try.results5, go_sem, q0, q1, q2, q3]) rfl Fin.out
  · have d1 : (v != 0) = true := by rw [h1]; rfl
    have hr5 := HR.out W4 G4.out
    obtain ⟨⟨z0, z1, z2, z3⟩, zf, W6, hW6, g6, q0, q1, q2, q3⟩ := grn_store hr5 (.slice none 0 0) (.slice none 0 0) (.slice none 0 0) (.slice none 0 0)
    have HW6 : Hid (W6 = _) := hW6
    have Fin : Hid (Po (.returned (.tuple #[grnN, .bool false, .int .i64 0])) W6) := HP.out Wf Mf _ W6 HS.out (grown_new (grown_trans G0.out G4.out) g6 (by omega)) (.inr ⟨HWv.out.trans h1, rfl⟩)
    rw [hW4] at y0 y1 x0 x1 x2 x3 x4 cs z0 z1 z2 z3 zf HW6
    clear h1 hiw him hsol hg3 g4 hb4 hW4 hn HD hv hr5 hW6 g6
    go_wp2_with fail
    rw [← HW6.out]
    exact bodyPost_ret (v := .tuple #[grnN, .bool false, .int .i64 0]) (by simp [results, Try.results5, go_sem, q0, q1, q2, q3]) rfl Fin.out

end Go.Proofs.Ytnlkdihfoekjmaa
