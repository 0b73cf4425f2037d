/- What is said behind what is said: the closures of the program's behind. -/
import Derived.Test.YtodcmlcpicabaaaTpOfR
import Derived.Test.YtodcmlcpicabaaaTlM
import Derived.Test.YtodcmlcpicabaaaTnAlong
import Derived.Test.YtodcmlcpicabaaaCts
import Derived.BigRegion
import Derived.Deep.RegionWith
import Derived.Deep.RegionHeld3
import Derived.Deep.RegionLaw
import Derived.Deep.DeepCutAuto
namespace Go.Proofs.Ytodcmlcpicabaaa
open Go.RowKit
set_option linter.unusedVariables false
set_option linter.unusedSimpArgs false

theorem grown_drew0 {w w' : World} (h : w.drew.grownBy w' none) : w.grownBy w' none := grown_trans (grown_drew (grown_refl w none)) h
def SBq (bu bt f bp p q : Nat) (uI uO uS u3 u4 u5 u6 vf : Value) (br ro : Nat) (vr : Value) (bw wo : Nat) (vw : Value) (W : World) : Prop :=
  W.cell? ⟨bu, 0, none⟩ = some uI ∧ W.cell? ⟨bu, 1, none⟩ = some uO ∧ W.cell? ⟨bu, 2, none⟩ = some uS ∧ W.cell? ⟨bu, 3, none⟩ = some u3 ∧ W.cell? ⟨bu, 4, none⟩ = some u4 ∧ W.cell? ⟨bu, 5, none⟩ = some u5 ∧ W.cell? ⟨bu, 6, none⟩ = some u6 ∧ W.cell? ⟨bt, f, none⟩ = some vf ∧ W.cell? ⟨bp, 0, none⟩ = some (.int .i64 (p : Int)) ∧ W.cell? ⟨bp, 1, none⟩ = some (.int .i64 (q : Int)) ∧ W.cell? ⟨br, ro, none⟩ = some vr ∧ W.cell? ⟨bw, wo, none⟩ = some vw
theorem SBq.kept {bu bt f bp p q : Nat} {uI uO uS u3 u4 u5 u6 vf : Value} {br ro : Nat} {vr : Value} {bw wo : Nat} {vw : Value} {W W' : World} (h : SBq bu bt f bp p q uI uO uS u3 u4 u5 u6 vf br ro vr bw wo vw W) (k : W.grownBy W' none) : SBq bu bt f bp p q uI uO uS u3 u4 u5 u6 vf br ro vr bw wo vw W' := by
  obtain ⟨h0, h1, h2, h3, h4, h5, h6, h7, h8, h9, h10, h11⟩ := h
  exact ⟨k.cell h0 (by simp), k.cell h1 (by simp), k.cell h2 (by simp), k.cell h3 (by simp), k.cell h4 (by simp), k.cell h5 (by simp), k.cell h6 (by simp), k.cell h7 (by simp), k.cell h8 (by simp), k.cell h9 (by simp), k.cell h10 (by simp), k.cell h11 (by simp)⟩
def SBn (bt bp p : Nat) (v4 : Value) (br ro : Nat) (vr : Value) (bw wo : Nat) (vw : Value) (W : World) : Prop :=
  W.cell? ⟨bt, 4, none⟩ = some v4 ∧ W.cell? ⟨bp, 0, none⟩ = some (.int .i64 (p : Int)) ∧ W.cell? ⟨br, ro, none⟩ = some vr ∧ W.cell? ⟨bw, wo, none⟩ = some vw
theorem pair_store {W : World} {b : Nat} {u v u' v' : Value} {T : TypeId} (h : W.heap[b]? = some (.cells #[u, v] T (0, 0))) :
    (W.cell? ⟨b, 0, none⟩ = some u ∧ W.cell? ⟨b, 1, none⟩ = some v) ∧ W.frozen? ⟨b, 0, none⟩ = false ∧ W.frozen? ⟨b, 1, none⟩ = false ∧ ∃ W9, W9 = (W.setCell ⟨b, 0, none⟩ u').setCell ⟨b, 1, none⟩ v' ∧ W.grownBy W9 (some b) ∧ W9.cell? ⟨b, 0, none⟩ = some u' ∧ W9.cell? ⟨b, 1, none⟩ = some v' := by
  have h1 : (W.setCell ⟨b, 0, none⟩ u').heap[b]? = some (.cells #[u', v] T (0, 0)) := by rw [heap_setCell_same _ _ 0 _ _ _ h]; rfl
  have h2 : ((W.setCell ⟨b, 0, none⟩ u').setCell ⟨b, 1, none⟩ v').heap[b]? = some (.cells #[u', v'] T (0, 0)) := by rw [heap_setCell_same _ _ 1 _ _ _ h1]; rfl
  refine ⟨⟨by rw [cell_of_row _ _ _ _ _ (0, 0) h]; rfl, by rw [cell_of_row _ _ _ _ _ (0, 0) h]; rfl⟩, frozen_of_row _ _ _ _ _ h, frozen_of_row _ _ _ _ _ h, _, rfl, ?_, by rw [cell_of_row _ _ _ _ _ (0, 0) h2]; rfl, by rw [cell_of_row _ _ _ _ _ (0, 0) h2]; rfl⟩
  have g1 := grown_set W ⟨b, 0, none⟩ u'
  have g2 := grown_set (W.setCell ⟨b, 0, none⟩ u') ⟨b, 1, none⟩ v'
  exact ⟨g2.os.trans g1.os, g2.tape.trans g1.tape, g2.output.trans g1.output, Nat.le_trans g1.size g2.size, fun k hk hne => (g2.block k (Nat.lt_of_lt_of_le hk g1.size) hne).trans (g1.block k hk hne)⟩

set_option maxHeartbeats 3200000 in
set_option maxRecDepth 100000 in
theorem behind1_any (x y : TrI) (I M : Nat) (hB : BehG x y I M) (a3 a4 a5 a6 : Option Addr) (c3 c4 c5 c6 : Nat) (e3 e4 e5 e6 : Option Addr) (d3 d4 d5 d6 : Nat) (bt bu s l : Nat) (w : World) (hx : TnAt w x a3 a4 a5 a6) (hy : TnAt w y e3 e4 e5 e6) (hI : I ≤ 4) (hM : M ≤ 4) (hNx : x.N.length ≤ 30) (hNy : y.N.length ≤ 30) (bx : Box7 w bt x.I x.O x.S a3 x.F.length c3 a4 x.N.length c4 a5 x.Y.length c5 a6 x.E.length c6) (bz : Box7 w bu y.I y.O y.S e3 y.F.length d3 e4 y.N.length d4 e5 y.Y.length d5 e6 y.E.length d6) (hs : s < x.N.length * y.N.length) (hl : l < I) :
    Calls Try.prog 37 #[pvl y.N.length s, .int .i64 (l : Nat), .pointer (some ⟨bu, 0, none⟩), .pointer (some ⟨bt, 0, none⟩)] w (StpQ y.N.length (bS x y s l) (bD x y s l) w) := by
  obtain ⟨p, hp⟩ : ∃ p, s / y.N.length = p := ⟨_, rfl⟩
  obtain ⟨q, hq⟩ : ∃ q, s % y.N.length = q := ⟨_, rfl⟩
  have hpn : p < x.N.length := hp ▸ div_lt' hs
  have hqn : q < y.N.length := hq ▸ Nat.mod_lt _ hB.kk
  obtain ⟨b5, o5, k5, b6, o6, k6, r6, rfl, h8, hs5⟩ := read_say hx hB.rx hpn hl
  obtain ⟨b4, o4, k4, bb4, oo4, rfl, hs4⟩ := read_next hx hB.rx hpn hl
  obtain ⟨us, hus⟩ : ∃ us, tnsT (syT x p l) = us := ⟨_, rfl⟩
  have hul : us.length = (syT x p l).length := by rw [← hus, tnsT_len]
  have hul2 : ∀ j, j ∈ us → j < M := by rw [← hus]; exact tns_lt (hB.s p hpn l hl)
  have hns : nsT us = syT x p l := by rw [← hus]; exact nsT_tns (fun j hj => (hB.s p hpn l hl j hj).1)
  have hbS : bS x y s l = ruT y q us := by unfold bS; rw [hp, hq, hus]
  have hgn : goT y q us < y.N.length := hB.ry.go us hul2 hqn
  have hbD1 : pxx y.N.length (bD x y s l) = nxT x p l := by unfold pxx bD; rw [hp, hq, hus]; exact (pair_div hgn).1
  have hbD2 : pyy y.N.length (bD x y s l) = goT y q us := by unfold pyy bD; rw [hp, hq, hus]; exact (pair_div hgn).2
  obtain ⟨Po, hPo⟩ : ∃ P, P = StpQ y.N.length (bS x y s l) (bD x y s l) w := ⟨_, rfl⟩
  have HP : Hid (∀ a k W, Ints W a (ruT y q us) → w.grownBy W none → (∀ z, a = some z → w.heap.size ≤ z.block) → Po (.returned (.tuple #[.slice a (ruT y q us).length k, .agg #[.int .i64 ((nxT x p l : Nat) : Int), .int .i64 ((goT y q us : Nat) : Int)]])) W) := fun a k W h1 h2 h3 => by
    rw [hPo, hbS]
    exact ⟨a, k, by rw [← hbD1, ← hbD2], h1, h2, h3⟩
  rw [← hPo]
  have e0 : pvl y.N.length s = .agg #[.int .i64 (p : Int), .int .i64 (q : Int)] := by show Value.agg #[.int .i64 ((s / y.N.length : Nat) : Int), .int .i64 ((s % y.N.length : Nat) : Int)] = _; rw [hp, hq]
  rw [e0]
  obtain ⟨W1, hW1⟩ : ∃ W, W = (w.alloc (.cells #[.int .i64 (p : Int), .int .i64 (q : Int)] 56)).alloc (.cells #[.int .i64 0, .int .i64 0] 56) := ⟨_, rfl⟩
  have HW1 : Hid (W1 = _) := hW1
  have HS1 : Hid (W1.heap.size = w.heap.size + 2) := by show _ = _; rw [hW1]; simp
  have g0 : (w.alloc (.cells #[.int .i64 (p : Int), .int .i64 (q : Int)] 56)).grownBy W1 none := by rw [hW1]; exact grown_alloc _ _
  have g1 : w.grownBy W1 none := grown_trans (grown_alloc _ _) g0
  have GW : Hid (w.grownBy W1 none) := g1
  have hpb := heap_alloc_new w (.cells #[.int .i64 (p : Int), .int .i64 (q : Int)] 56)
  have HPB : Hid (∀ W, W1.grownBy W none → W.heap[w.heap.size]? = some (.cells #[.int .i64 (p : Int), .int .i64 (q : Int)] 56 (0, 0))) := fun W hW => ((grown_trans g0 hW).block _ (by simp) (by simp)).trans hpb
  have hrb := heap_alloc_new (w.alloc (.cells #[.int .i64 (p : Int), .int .i64 (q : Int)] 56)) (.cells #[.int .i64 0, .int .i64 0] 56)
  rw [← hW1, World.size_alloc] at hrb
  have HRB : Hid (∀ W, W1.grownBy W none → W.heap[w.heap.size + 1]? = some (.cells #[.int .i64 0, .int .i64 0] 56 (0, 0))) := fun W hW => (hW.block _ (Array.getElem?_eq_some_iff.1 hrb).1 (by simp)).trans hrb
  have HA0 : ∀ W, W1.grownBy W none → Calls Try.prog 36 #[tnV y.I y.O y.S e3 y.F.length d3 e4 y.N.length d4 e5 y.Y.length d5 e6 y.E.length d6, .int .i64 (q : Int), .slice r6 (syT x p l).length k6] W (AlongP y q us W) := fun W hW => by
    have h1 := along_any y M e3 e4 e5 e6 d3 d4 d5 d6 W (hy.grown (grown_trans g1 hW)) hB.ry hM (by omega) q hqn us hul2 (by omega) r6 k6 (by rw [hns]; exact (hs5 W (grown_trans g1 hW)).2.2)
    rw [hul] at h1
    exact h1
  have HX4 : Hid (∀ W, w.grownBy W none → W.cell? ⟨bt, 4, none⟩ = some (.slice (some ⟨b4, o4, none⟩) x.N.length c4) ∧ W.cell? ⟨b4, o4 + p, none⟩ = some (.slice (some ⟨bb4, oo4, none⟩) I k4) ∧ W.cell? ⟨bb4, oo4 + l, none⟩ = some (.int .i64 ((nxT x p l : Nat) : Int))) := fun W hW => ⟨hW.cell bx.b4 (by simp), (hs4 W hW).1, (hs4 W hW).2⟩
  obtain ⟨wq, hwq⟩ : ∃ W, W = W1 := ⟨_, rfl⟩
  have GQ : Hid (W1.grownBy wq.drew none) := by rw [hwq]; exact grown_drew (grown_refl _ _)
  have S00 : SBq bu bt 5 w.heap.size p q (.int .i64 y.I) (.int .i64 y.O) (.int .i64 y.S) (.slice e3 y.F.length d3) (.slice e4 y.N.length d4) (.slice e5 y.Y.length d5) (.slice e6 y.E.length d6) (.slice (some ⟨b5, o5, none⟩) x.Y.length c5) b5 (o5 + p) (.slice (some ⟨b6, o6, none⟩) I k5) b6 (o6 + l) (.slice r6 (syT x p l).length k6) wq.drew := by
    have gg := grown_trans g1 GQ.out
    have z := bz.grown gg
    have hb := HPB.out _ GQ.out
    exact ⟨z.b0, z.b1, z.b2, z.b3, z.b4, z.b5, z.b6, gg.cell bx.b5 (by simp), by rw [cell_of_row _ _ _ _ _ (0, 0) hb]; rfl, by rw [cell_of_row _ _ _ _ _ (0, 0) hb]; rfl, (hs5 _ gg).1, (hs5 _ gg).2.1⟩
  have ip : (p : Int) < (x.N.length : Int) := by omega
  have ipY : (p : Int) < (x.Y.length : Int) := by rw [hB.rx.hy]; omega
  have il : (l : Int) < (I : Int) := by omega
  obtain ⟨nW, hnW⟩ : ∃ n, (syT x p l).length = n := ⟨_, rfl⟩
  rw [hnW] at HA0 S00
  obtain ⟨nY, hnY⟩ : ∃ n, x.Y.length = n := ⟨_, rfl⟩
  rw [hnY] at S00 ipY
  obtain ⟨uI, huI⟩ : ∃ v, Value.int .i64 y.I = v := ⟨_, rfl⟩
  obtain ⟨uO, huO⟩ : ∃ v, Value.int .i64 y.O = v := ⟨_, rfl⟩
  obtain ⟨uS, huS⟩ : ∃ v, Value.int .i64 y.S = v := ⟨_, rfl⟩
  obtain ⟨u3, hu3⟩ : ∃ v, Value.slice e3 y.F.length d3 = v := ⟨_, rfl⟩
  obtain ⟨u4, hu4⟩ : ∃ v, Value.slice e4 y.N.length d4 = v := ⟨_, rfl⟩
  obtain ⟨u5, hu5⟩ : ∃ v, Value.slice e5 y.Y.length d5 = v := ⟨_, rfl⟩
  obtain ⟨u6, hu6⟩ : ∃ v, Value.slice e6 y.E.length d6 = v := ⟨_, rfl⟩
  have HA1 : ∀ W, W1.grownBy W none → Calls Try.prog 36 #[.agg #[uI, uO, uS, u3, u4, u5, u6], .int .i64 (q : Int), .slice r6 nW k6] W (AlongP y q us W) := by
    rw [← huI, ← huO, ← huS, ← hu3, ← hu4, ← hu5, ← hu6]; exact HA0
  rw [huI, huO, huS, hu3, hu4, hu5, hu6] at S00
  have HA : Hid (∀ W, W1.grownBy W none → Calls Try.prog 36 #[.agg #[uI, uO, uS, u3, u4, u5, u6], .int .i64 (q : Int), .slice r6 nW k6] W (AlongP y q us W)) := HA1
  have S0 : Hid (SBq bu bt 5 w.heap.size p q uI uO uS u3 u4 u5 u6 (.slice (some ⟨b5, o5, none⟩) nY c5) b5 (o5 + p) (.slice (some ⟨b6, o6, none⟩) I k5) b6 (o6 + l) (.slice r6 nW k6) wq.drew) := S00
  have HWQ : Hid (wq = W1) := hwq
  clear hx hy bx bz hs hp hq hqn hs5 hs4 h8 hus hul hul2 hns hbS hgn hbD1 hbD2 hPo e0 hW1 g0 g1 hpb hrb HA0 HA1 S00 hnW hnY huI huO huS hu3 hu4 hu5 hu6 hwq hB
  go_enter Try.func37, Try.ntmps37
  go_wp2_with fail
  rw [← HW1.out, ← HWQ.out]
  refine wp_region_held_drew (S := SBq bu bt 5 w.heap.size p q uI uO uS u3 u4 u5 u6 (.slice (some ⟨b5, o5, none⟩) nY c5) b5 (o5 + p) (.slice (some ⟨b6, o6, none⟩) I k5) b6 (o6 + l) (.slice r6 nW k6)) (by kernel_rfl) (S0.out) (fun hHeld => ?_)
  refine wpAnyH_take (i := 0) (v := ?_) rfl (by kernel_rfl) (by kernel_rfl) (by kernel_rfl) (fun _ _ _ h => h) (Or.inl ⟨by rfl, ?_⟩) (by assumption) ?_
  rotate_left
  · intro W hSw
    obtain ⟨q0, q1, q2, q3, q4, q5, q6, q7, q8, q9, q10, q11⟩ := hSw
    go_simp
    with_reducible rfl
  try simp only [Act.put, List.getElem_toArray, List.getElem_cons_succ, List.getElem_cons_zero, List.setIfInBounds_toArray, List.set_cons_zero, List.set_cons_succ]
  refine wpAnyH_take (i := 1) (v := ?_) rfl (by kernel_rfl) (by kernel_rfl) (by kernel_rfl) (fun _ _ _ h => h) (Or.inl ⟨by rfl, ?_⟩) (by assumption) ?_
  rotate_left
  · intro W hSw
    obtain ⟨q0, q1, q2, q3, q4, q5, q6, q7, q8, q9, q10, q11⟩ := hSw
    go_simp
    with_reducible rfl
  try simp only [Act.put, List.getElem_toArray, List.getElem_cons_succ, List.getElem_cons_zero, List.setIfInBounds_toArray, List.set_cons_zero, List.set_cons_succ]
  refine wpAnyH_take (i := 2) (v := ?_) rfl (by kernel_rfl) (by kernel_rfl) (by kernel_rfl) (fun _ _ _ h => h) (Or.inl ⟨by rfl, ?_⟩) (by assumption) ?_
  rotate_left
  · intro W hSw
    obtain ⟨q0, q1, q2, q3, q4, q5, q6, q7, q8, q9, q10, q11⟩ := hSw
    go_simp
    with_reducible rfl
  try simp only [Act.put, List.getElem_toArray, List.getElem_cons_succ, List.getElem_cons_zero, List.setIfInBounds_toArray, List.set_cons_zero, List.set_cons_succ]
  refine wpAnyH_take (i := 3) (v := ?_) rfl (by kernel_rfl) (by kernel_rfl) (by kernel_rfl) (fun _ _ _ h => h) (Or.inl ⟨by rfl, ?_⟩) (by assumption) ?_
  rotate_left
  · intro W hSw
    obtain ⟨q0, q1, q2, q3, q4, q5, q6, q7, q8, q9, q10, q11⟩ := hSw
    go_simp
    with_reducible rfl
  try simp only [Act.put, List.getElem_toArray, List.getElem_cons_succ, List.getElem_cons_zero, List.setIfInBounds_toArray, List.set_cons_zero, List.set_cons_succ]
  refine wpAnyH_take (i := 4) (v := ?_) rfl (by kernel_rfl) (by kernel_rfl) (by kernel_rfl) (fun _ _ _ h => h) (Or.inl ⟨by rfl, ?_⟩) (by assumption) ?_
  rotate_left
  · intro W hSw
    obtain ⟨q0, q1, q2, q3, q4, q5, q6, q7, q8, q9, q10, q11⟩ := hSw
    go_simp
    with_reducible rfl
  try simp only [Act.put, List.getElem_toArray, List.getElem_cons_succ, List.getElem_cons_zero, List.setIfInBounds_toArray, List.set_cons_zero, List.set_cons_succ]
  refine wpAnyH_take (i := 5) (v := ?_) rfl (by kernel_rfl) (by kernel_rfl) (by kernel_rfl) (fun _ _ _ h => h) (Or.inl ⟨by rfl, ?_⟩) (by assumption) ?_
  rotate_left
  · intro W hSw
    obtain ⟨q0, q1, q2, q3, q4, q5, q6, q7, q8, q9, q10, q11⟩ := hSw
    go_simp
    with_reducible rfl
  try simp only [Act.put, List.getElem_toArray, List.getElem_cons_succ, List.getElem_cons_zero, List.setIfInBounds_toArray, List.set_cons_zero, List.set_cons_succ]
  refine wpAnyH_take (i := 6) (v := ?_) rfl (by kernel_rfl) (by kernel_rfl) (by kernel_rfl) (fun _ _ _ h => h) (Or.inl ⟨by rfl, ?_⟩) (by assumption) ?_
  rotate_left
  · intro W hSw
    obtain ⟨q0, q1, q2, q3, q4, q5, q6, q7, q8, q9, q10, q11⟩ := hSw
    go_simp
    with_reducible rfl
  try simp only [Act.put, List.getElem_toArray, List.getElem_cons_succ, List.getElem_cons_zero, List.setIfInBounds_toArray, List.set_cons_zero, List.set_cons_succ]
  refine wpAnyH_take (i := 7) (v := ?_) rfl (by kernel_rfl) (by kernel_rfl) (by kernel_rfl) (fun _ _ _ h => h) (Or.inl ⟨by rfl, ?_⟩) (by assumption) ?_
  rotate_left
  · intro W hSw
    obtain ⟨q0, q1, q2, q3, q4, q5, q6, q7, q8, q9, q10, q11⟩ := hSw
    go_simp
    with_reducible rfl
  try simp only [Act.put, List.getElem_toArray, List.getElem_cons_succ, List.getElem_cons_zero, List.setIfInBounds_toArray, List.set_cons_zero, List.set_cons_succ]
  refine wpAnyH_take (i := 8) (v := ?_) rfl (by kernel_rfl) (by kernel_rfl) (by kernel_rfl) (fun _ _ _ h => h) (Or.inl ⟨by rfl, ?_⟩) (by assumption) ?_
  rotate_left
  · intro W hSw
    obtain ⟨q0, q1, q2, q3, q4, q5, q6, q7, q8, q9, q10, q11⟩ := hSw
    go_simp
    with_reducible rfl
  try simp only [Act.put, List.getElem_toArray, List.getElem_cons_succ, List.getElem_cons_zero, List.setIfInBounds_toArray, List.set_cons_zero, List.set_cons_succ]
  refine wpAnyH_take (i := 9) (v := ?_) rfl (by kernel_rfl) (by kernel_rfl) (by kernel_rfl) (fun _ _ _ h => h) (Or.inl ⟨by rfl, ?_⟩) (by assumption) ?_
  rotate_left
  · intro W hSw
    obtain ⟨q0, q1, q2, q3, q4, q5, q6, q7, q8, q9, q10, q11⟩ := hSw
    go_simp
    with_reducible rfl
  try simp only [Act.put, List.getElem_toArray, List.getElem_cons_succ, List.getElem_cons_zero, List.setIfInBounds_toArray, List.set_cons_zero, List.set_cons_succ]
  refine wpAnyH_take (i := 10) (v := ?_) rfl (by kernel_rfl) (by kernel_rfl) (by kernel_rfl) (fun _ _ _ h => h) (Or.inl ⟨by rfl, ?_⟩) (by assumption) ?_
  rotate_left
  · intro W hSw
    obtain ⟨q0, q1, q2, q3, q4, q5, q6, q7, q8, q9, q10, q11⟩ := hSw
    go_simp
    with_reducible rfl
  try simp only [Act.put, List.getElem_toArray, List.getElem_cons_succ, List.getElem_cons_zero, List.setIfInBounds_toArray, List.set_cons_zero, List.set_cons_succ]
  refine wpAnyH_take (i := 11) (v := ?_) rfl (by kernel_rfl) (by kernel_rfl) (by kernel_rfl) (fun _ _ _ h => h) (Or.inl ⟨by rfl, ?_⟩) (by assumption) ?_
  rotate_left
  · intro W hSw
    obtain ⟨q0, q1, q2, q3, q4, q5, q6, q7, q8, q9, q10, q11⟩ := hSw
    go_simp
    with_reducible rfl
  try simp only [Act.put, List.getElem_toArray, List.getElem_cons_succ, List.getElem_cons_zero, List.setIfInBounds_toArray, List.set_cons_zero, List.set_cons_succ]
  refine wpAnyH_ready (rs := [12]) (by kernel_rfl) (by simp) ?_
  refine AllReadyH.cons (o := _) rfl (fun K' hK => ?_) ?_
  · go_simp
    refine (HA.out _ GQ.out).mono ?_
    rintro E w6 ⟨ar, cr, rfl, hir, hgr, hnr⟩
    have GR : Hid (wq.grownBy w6 none) := grown_drew0 hgr
    have GX : Hid (W1.grownBy w6 none) := grown_trans GQ.out hgr
    have HIR : Hid (Ints w6 ar (ruT y q us) ∧ ∀ z, ar = some z → w.heap.size + 2 ≤ z.block) := ⟨hir, fun z hz => by have h1 := hnr z hz; have h2 := GQ.out.size; have h3 := HS1.out; omega⟩
    clear hir hnr
    go_wp2_with fail
    refine hK.out _ _ (hHeld.kept hgr) (fun hHeld => ?_)
    clear hK K'
    try simp only [Act.put, List.getElem_toArray, List.getElem_cons_succ, List.getElem_cons_zero, List.setIfInBounds_toArray, List.set_cons_zero, List.set_cons_succ]
    refine wpAnyH_take (i := 13) (v := ?_) rfl (by kernel_rfl) (by kernel_rfl) (by kernel_rfl) (fun _ _ _ h => h) (Or.inl ⟨by rfl, ?_⟩) (by assumption) ?_
    rotate_left
    · intro W hSw
      obtain ⟨q0, q1, q2, q3, q4, q5, q6, q7, q8, q9, q10, q11⟩ := hSw
      go_simp
      with_reducible rfl
    try simp only [Act.put, List.getElem_toArray, List.getElem_cons_succ, List.getElem_cons_zero, List.setIfInBounds_toArray, List.set_cons_zero, List.set_cons_succ]
    refine wpAnyH_take (i := 14) (v := ?_) rfl (by kernel_rfl) (by kernel_rfl) (by kernel_rfl) (fun _ _ _ h => h) (Or.inl ⟨by rfl, ?_⟩) (by assumption) ?_
    rotate_left
    · intro W hSw
      obtain ⟨q0, q1, q2, q3, q4, q5, q6, q7, q8, q9, q10, q11⟩ := hSw
      go_simp
      with_reducible rfl
    try simp only [Act.put, List.getElem_toArray, List.getElem_cons_succ, List.getElem_cons_zero, List.setIfInBounds_toArray, List.set_cons_zero, List.set_cons_succ]
    refine wpAnyH_take (i := 15) (v := ?_) rfl (by kernel_rfl) (by kernel_rfl) (by kernel_rfl) (fun _ _ _ h => h) (Or.inl ⟨by rfl, ?_⟩) (by assumption) ?_
    rotate_left
    · intro W hSw
      obtain ⟨q0, q1, q2, q3, q4, q5, q6, q7, q8, q9, q10, q11⟩ := hSw
      go_simp
      with_reducible rfl
    try simp only [Act.put, List.getElem_toArray, List.getElem_cons_succ, List.getElem_cons_zero, List.setIfInBounds_toArray, List.set_cons_zero, List.set_cons_succ]
    refine wpAnyH_take (i := 16) (v := ?_) rfl (by kernel_rfl) (by kernel_rfl) (by kernel_rfl) (fun _ _ _ h => h) (Or.inl ⟨by rfl, ?_⟩) (by assumption) ?_
    rotate_left
    · intro W hSw
      obtain ⟨q0, q1, q2, q3, q4, q5, q6, q7, q8, q9, q10, q11⟩ := hSw
      go_simp
      with_reducible rfl
    try simp only [Act.put, List.getElem_toArray, List.getElem_cons_succ, List.getElem_cons_zero, List.setIfInBounds_toArray, List.set_cons_zero, List.set_cons_succ]
    refine wpAnyH_take (i := 17) (v := ?_) rfl (by kernel_rfl) (by kernel_rfl) (by kernel_rfl) (fun _ _ _ h => h) (Or.inl ⟨by rfl, ?_⟩) (by assumption) ?_
    rotate_left
    · intro W hSw
      obtain ⟨q0, q1, q2, q3, q4, q5, q6, q7, q8, q9, q10, q11⟩ := hSw
      go_simp
      with_reducible rfl
    try simp only [Act.put, List.getElem_toArray, List.getElem_cons_succ, List.getElem_cons_zero, List.setIfInBounds_toArray, List.set_cons_zero, List.set_cons_succ]
    refine wpAnyH_done (by kernel_rfl) ?_ _
    go_wp2_with fail
    obtain ⟨nx, hnx⟩ : ∃ n, nxT x p l = n := ⟨_, rfl⟩
    obtain ⟨gq, hgq⟩ : ∃ n, goT y q us = n := ⟨_, rfl⟩
    obtain ⟨nr, hnr⟩ : ∃ n, (ruT y q us).length = n := ⟨_, rfl⟩
    have hb6 := HRB.out w6 GX.out
    obtain ⟨⟨z0, z1⟩, zf0, zf1, W9, hW9, g9, y0', y1'⟩ := pair_store (u' := .int .i64 (nx : Int)) (v' := .int .i64 (gq : Int)) hb6
    have g9d : W9.grownBy W9.drew none := grown_drew (grown_refl _ _)
    have y0 := g9d.cell y0' (by simp)
    have y1 := g9d.cell y1' (by simp)
    have G9 : Hid (w.grownBy W9.drew none) := grown_trans (grown_new (grown_trans GW.out GX.out) g9 (Nat.le_succ _)) g9d
    have F : Hid (Po (.returned (.tuple #[.slice ar nr cr, .agg #[.int .i64 (nx : Int), .int .i64 (gq : Int)]])) W9.drew) := by
      have h1 := HP.out ar cr W9.drew ((HIR.out.1.far (fun z hz e => by have := HIR.out.2 z hz; omega) g9).grown g9d) G9.out (fun z hz => by have := HIR.out.2 z hz; omega)
      rw [hnx, hgq, hnr] at h1
      exact h1
    obtain ⟨n4, hn4⟩ : ∃ n, x.N.length = n := ⟨_, rfl⟩
    have SBx : ∀ W, w.grownBy W none → W.cell? ⟨w.heap.size, 0, none⟩ = some (.int .i64 (p : Int)) → SBn bt w.heap.size p (.slice (some ⟨b4, o4, none⟩) n4 c4) b4 (o4 + p) (.slice (some ⟨bb4, oo4, none⟩) I k4) bb4 (oo4 + l) (.int .i64 (nx : Int)) W := fun W hW h0 => by
      have h1 := HX4.out W hW
      rw [hn4, hnx] at h1
      exact ⟨h1.1, h0, h1.2.1, h1.2.2⟩
    have hp6 := HPB.out w6 GX.out
    have SB0 : Hid (SBn bt w.heap.size p (.slice (some ⟨b4, o4, none⟩) n4 c4) b4 (o4 + p) (.slice (some ⟨bb4, oo4, none⟩) I k4) bb4 (oo4 + l) (.int .i64 (nx : Int)) w6.drew) := SBx _ (grown_trans GW.out (grown_drew GX.out)) ((grown_drew (grown_refl w6 none)).cell (by rw [cell_of_row _ _ _ _ _ (0, 0) hp6]; rfl) (by simp))
    have S9' : Hid (SBn bt w.heap.size p (.slice (some ⟨b4, o4, none⟩) n4 c4) b4 (o4 + p) (.slice (some ⟨bb4, oo4, none⟩) I k4) bb4 (oo4 + l) (.int .i64 (nx : Int)) W9.drew) := SBx _ G9.out (by
      have hp9 := (g9.block _ (Array.getElem?_eq_some_iff.1 hp6).1 (by simp)).trans hp6
      exact g9d.cell (by rw [cell_of_row _ _ _ _ _ (0, 0) hp9]; rfl) (by simp))
    have HW9 : Hid (W9 = _) := hW9
    have S9 : Hid (SBn bt w.heap.size p (.slice (some ⟨b4, o4, none⟩) n4 c4) b4 (o4 + p) (.slice (some ⟨bb4, oo4, none⟩) I k4) bb4 (oo4 + l) (.int .i64 (nx : Int)) ((w6.setCell ⟨w.heap.size + 1, 0, none⟩ (.int .i64 (nx : Int))).setCell ⟨w.heap.size + 1, 1, none⟩ (.int .i64 (gq : Int))).drew) := hW9 ▸ S9'
    rw [hn4] at ip
    rw [hgq]
    rw [hnr]
    clear hb6 hW9 g9 g9d y0' y1' HP HIR SBx hp6 S9' HX4 HPB HRB hHeld S0 HA HWQ hnx hgq hnr hn4 hpn
    refine wp_region_held_drew (S := SBn bt w.heap.size p (.slice (some ⟨b4, o4, none⟩) n4 c4) b4 (o4 + p) (.slice (some ⟨bb4, oo4, none⟩) I k4) bb4 (oo4 + l) (.int .i64 (nx : Int))) (by kernel_rfl) (SB0.out) (fun hHeld => ?_)
    refine wpAnyH_take (i := 0) (v := ?_) rfl (by kernel_rfl) (by kernel_rfl) (by kernel_rfl) (fun _ _ _ h => h) (Or.inl ⟨by rfl, ?_⟩) (by assumption) ?_
    rotate_left
    · intro W hSw
      obtain ⟨q0, q1, q2, q3⟩ := hSw
      go_simp
      with_reducible rfl
    try simp only [Act.put, List.getElem_toArray, List.getElem_cons_succ, List.getElem_cons_zero, List.setIfInBounds_toArray, List.set_cons_zero, List.set_cons_succ]
    refine wpAnyH_take (i := 1) (v := ?_) rfl (by kernel_rfl) (by kernel_rfl) (by kernel_rfl) (fun _ _ _ h => h) (Or.inl ⟨by rfl, ?_⟩) (by assumption) ?_
    rotate_left
    · intro W hSw
      obtain ⟨q0, q1, q2, q3⟩ := hSw
      go_simp
      with_reducible rfl
    try simp only [Act.put, List.getElem_toArray, List.getElem_cons_succ, List.getElem_cons_zero, List.setIfInBounds_toArray, List.set_cons_zero, List.set_cons_succ]
    refine wpAnyH_take (i := 2) (v := ?_) rfl (by kernel_rfl) (by kernel_rfl) (by kernel_rfl) (fun _ _ _ h => h) (Or.inl ⟨by rfl, ?_⟩) (by assumption) ?_
    rotate_left
    · intro W hSw
      obtain ⟨q0, q1, q2, q3⟩ := hSw
      go_simp
      with_reducible rfl
    try simp only [Act.put, List.getElem_toArray, List.getElem_cons_succ, List.getElem_cons_zero, List.setIfInBounds_toArray, List.set_cons_zero, List.set_cons_succ]
    refine wpAnyH_take (i := 3) (v := ?_) rfl (by kernel_rfl) (by kernel_rfl) (by kernel_rfl) (fun _ _ _ h => h) (Or.inl ⟨by rfl, ?_⟩) (by assumption) ?_
    rotate_left
    · intro W hSw
      obtain ⟨q0, q1, q2, q3⟩ := hSw
      go_simp
      with_reducible rfl
    try simp only [Act.put, List.getElem_toArray, List.getElem_cons_succ, List.getElem_cons_zero, List.setIfInBounds_toArray, List.set_cons_zero, List.set_cons_succ]
    refine wpAnyH_take (i := 4) (v := ?_) rfl (by kernel_rfl) (by kernel_rfl) (by kernel_rfl) (fun _ _ _ h => h) (Or.inl ⟨by rfl, ?_⟩) (by assumption) ?_
    rotate_left
    · intro W hSw
      obtain ⟨q0, q1, q2, q3⟩ := hSw
      go_simp
      with_reducible rfl
    try simp only [Act.put, List.getElem_toArray, List.getElem_cons_succ, List.getElem_cons_zero, List.setIfInBounds_toArray, List.set_cons_zero, List.set_cons_succ]
    refine wpAnyH_take (i := 5) (v := ?_) rfl (by kernel_rfl) (by kernel_rfl) (by kernel_rfl) (fun _ _ _ h => h) (Or.inl ⟨by rfl, ?_⟩) (by assumption) ?_
    rotate_left
    · intro W hSw
      obtain ⟨q0, q1, q2, q3⟩ := hSw
      go_simp
      with_reducible rfl
    try simp only [Act.put, List.getElem_toArray, List.getElem_cons_succ, List.getElem_cons_zero, List.setIfInBounds_toArray, List.set_cons_zero, List.set_cons_succ]
    refine wpAnyH_take (i := 6) (v := ?_) rfl (by kernel_rfl) (by kernel_rfl) (by kernel_rfl) (fun _ _ _ h => h) (Or.inl ⟨by rfl, ?_⟩) (by assumption) ?_
    rotate_left
    · intro W hSw
      obtain ⟨q0, q1, q2, q3⟩ := hSw
      go_simp
      with_reducible rfl
    try simp only [Act.put, List.getElem_toArray, List.getElem_cons_succ, List.getElem_cons_zero, List.setIfInBounds_toArray, List.set_cons_zero, List.set_cons_succ]
    refine wpAnyH_take (i := 7) (v := ?_) rfl (by kernel_rfl) (by kernel_rfl) (by kernel_rfl) (fun _ _ _ h => h) (Or.inl ⟨by rfl, ?_⟩) (by assumption) ?_
    rotate_left
    · intro W hSw
      obtain ⟨q0, q1, q2, q3⟩ := hSw
      go_simp
      with_reducible rfl
    try simp only [Act.put, List.getElem_toArray, List.getElem_cons_succ, List.getElem_cons_zero, List.setIfInBounds_toArray, List.set_cons_zero, List.set_cons_succ]
    refine wpAnyH_take (i := 8) (v := ?_) rfl (by kernel_rfl) (by kernel_rfl) (by kernel_rfl) (fun _ _ _ h => h) (Or.inl ⟨by rfl, ?_⟩) (by assumption) ?_
    rotate_left
    · intro W hSw
      obtain ⟨q0, q1, q2, q3⟩ := hSw
      go_simp
      with_reducible rfl
    try simp only [Act.put, List.getElem_toArray, List.getElem_cons_succ, List.getElem_cons_zero, List.setIfInBounds_toArray, List.set_cons_zero, List.set_cons_succ]
    refine wpAnyH_take (i := 9) (v := ?_) rfl (by kernel_rfl) (by kernel_rfl) (by kernel_rfl) (fun _ _ _ h => h) (Or.inl ⟨by rfl, ?_⟩) (by assumption) ?_
    rotate_left
    · intro W hSw
      obtain ⟨q0, q1, q2, q3⟩ := hSw
      go_simp
      with_reducible rfl
    try simp only [Act.put, List.getElem_toArray, List.getElem_cons_succ, List.getElem_cons_zero, List.setIfInBounds_toArray, List.set_cons_zero, List.set_cons_succ]
    refine wpAnyH_take (i := 10) (v := ?_) rfl (by kernel_rfl) (by kernel_rfl) (by kernel_rfl) (fun _ _ _ h => h) (Or.inl ⟨by rfl, ?_⟩) (by assumption) ?_
    rotate_left
    · intro W hSw
      obtain ⟨q0, q1, q2, q3⟩ := hSw
      go_simp
      with_reducible rfl
    try simp only [Act.put, List.getElem_toArray, List.getElem_cons_succ, List.getElem_cons_zero, List.setIfInBounds_toArray, List.set_cons_zero, List.set_cons_succ]
    refine wpAnyH_take (i := 11) (v := ?_) rfl (by kernel_rfl) (by kernel_rfl) (by kernel_rfl) (fun _ _ _ h => h) (Or.inl ⟨by rfl, ?_⟩) (by assumption) ?_
    rotate_left
    · intro W hSw
      obtain ⟨q0, q1, q2, q3⟩ := hSw
      go_simp
      with_reducible rfl
    try simp only [Act.put, List.getElem_toArray, List.getElem_cons_succ, List.getElem_cons_zero, List.setIfInBounds_toArray, List.set_cons_zero, List.set_cons_succ]
    refine wpAnyH_take (i := 12) (v := ?_) rfl (by kernel_rfl) (by kernel_rfl) (by kernel_rfl) (fun _ _ _ h => h) (Or.inl ⟨by rfl, ?_⟩) (by assumption) ?_
    rotate_left
    · intro W hSw
      obtain ⟨q0, q1, q2, q3⟩ := hSw
      go_simp
      with_reducible rfl
    try simp only [Act.put, List.getElem_toArray, List.getElem_cons_succ, List.getElem_cons_zero, List.setIfInBounds_toArray, List.set_cons_zero, List.set_cons_succ]
    refine wpAnyH_ready (rs := [13]) (by kernel_rfl) (by simp) ?_
    refine AllReadyH.cons (o := _) rfl (fun K' hK => ?_) ?_
    · go_wp2_with fail
      refine hK.out _ _ (S9.out) (fun hHeld => ?_)
      clear hK K'
      try simp only [Act.put, List.getElem_toArray, List.getElem_cons_succ, List.getElem_cons_zero, List.setIfInBounds_toArray, List.set_cons_zero, List.set_cons_succ]
      refine wpAnyH_done (by kernel_rfl) ?_ _
      go_wp2_with fail
      rw [← HW9.out]
      exact bodyPost_ret (v := .tuple #[.slice ar nr cr, .agg #[.int .i64 (nx : Int), .int .i64 (gq : Int)]]) (by simp [results, Try.results37, go_sem, y0, y1]) rfl F.out
    exact AllReadyH.nil
  exact AllReadyH.nil


set_option maxHeartbeats 3200000 in
set_option maxRecDepth 100000 in
theorem behind2_any (B : Nat) (x y : TrI) (I M : Nat) (hB : BehG x y I M) (a3 a4 a5 a6 : Option Addr) (c3 c4 c5 c6 : Nat) (e3 e4 e5 e6 : Option Addr) (d3 d4 d5 d6 : Nat) (bt bu s : Nat) (w : World) (hx : TnAt w x a3 a4 a5 a6) (hy : TnAt w y e3 e4 e5 e6) (hM : M ≤ 4) (hNx : x.N.length ≤ 30) (hNy : y.N.length ≤ 30) (bx : Box7 w bt x.I x.O x.S a3 x.F.length c3 a4 x.N.length c4 a5 x.Y.length c5 a6 x.E.length c6) (bz : Box7 w bu y.I y.O y.S e3 y.F.length d3 e4 y.N.length d4 e5 y.Y.length d5 e6 y.E.length d6) (hs : s < x.N.length * y.N.length) :
    Calls Try.prog 38 #[pvl y.N.length s, .pointer (some ⟨bu, 0, none⟩), .pointer (some ⟨bt, 0, none⟩)] w (LstP B (bE x y s) w) := by
  obtain ⟨p, hp⟩ : ∃ p, s / y.N.length = p := ⟨_, rfl⟩
  obtain ⟨q, hq⟩ : ∃ q, s % y.N.length = q := ⟨_, rfl⟩
  have hpn : p < x.N.length := hp ▸ div_lt' hs
  have hqn : q < y.N.length := hq ▸ Nat.mod_lt _ hB.kk
  obtain ⟨b6, o6, k6, r6, rfl, h8, hs6⟩ := read_last hx hB.rx hpn
  obtain ⟨us, hus⟩ : ∃ us, tnsT (x.E.getD p []) = us := ⟨_, rfl⟩
  have hul : us.length = (x.E.getD p []).length := by rw [← hus, tnsT_len]
  have hul2 : ∀ j, j ∈ us → j < M := by rw [← hus]; exact tns_lt (hB.e p hpn)
  have hns : nsT us = x.E.getD p [] := by rw [← hus]; exact nsT_tns (fun j hj => (hB.e p hpn j hj).1)
  have hgn : goT y q us < y.N.length := hB.ry.go us hul2 hqn
  obtain ⟨b7, o7, k7, r7, rfl, h87, hs7⟩ := read_last hy hB.ry hgn
  have hbE : bE x y s = ruT y q us ++ y.E.getD (goT y q us) [] := by unfold bE; rw [hp, hq, hus]
  have hlr := hB.ry.len us hul2 hqn
  obtain ⟨gq, hgq⟩ : ∃ n, goT y q us = n := ⟨_, rfl⟩
  rw [hgq] at hgn h87 hs7 hbE
  obtain ⟨X, hX⟩ : ∃ X, ruT y q us ++ y.E.getD gq [] = X := ⟨_, rfl⟩
  have HXX : Hid (ruT y q us ++ y.E.getD gq [] = X) := hX
  rw [hX] at hbE
  obtain ⟨Po, hPo⟩ : ∃ P, P = LstP B (bE x y s) w := ⟨_, rfl⟩
  have HP : Hid (∀ a k W, Ints W a X → w.grownBy W none → (∀ z, a = some z → w.heap.size ≤ z.block) → X.length ≤ k → Po (.returned (.slice a X.length k)) W) := fun a k W h1 h2 h3 h4 => by
    rw [hPo, hbE]
    exact ⟨a, k, rfl, h1, h2, fun _ z hz => .inr (h3 z hz), h4⟩
  rw [← hPo]
  have e0 : pvl y.N.length s = .agg #[.int .i64 (p : Int), .int .i64 (q : Int)] := by show Value.agg #[.int .i64 ((s / y.N.length : Nat) : Int), .int .i64 ((s % y.N.length : Nat) : Int)] = _; rw [hp, hq]
  rw [e0]
  obtain ⟨W1, hW1⟩ : ∃ W, W = w.alloc (.cells #[.int .i64 (p : Int), .int .i64 (q : Int)] 56) := ⟨_, rfl⟩
  have HW1 : Hid (W1 = _) := hW1
  have g1 : w.grownBy W1 none := by rw [hW1]; exact grown_alloc _ _
  have GW : Hid (w.grownBy W1 none) := g1
  have hpb := heap_alloc_new w (.cells #[.int .i64 (p : Int), .int .i64 (q : Int)] 56)
  rw [← hW1] at hpb
  have HPB : Hid (∀ W, W1.grownBy W none → W.heap[w.heap.size]? = some (.cells #[.int .i64 (p : Int), .int .i64 (q : Int)] 56 (0, 0))) := fun W hW => (hW.block _ (Array.getElem?_eq_some_iff.1 hpb).1 (by simp)).trans hpb
  have HA0 : ∀ W, W1.grownBy W none → Calls Try.prog 36 #[tnV y.I y.O y.S e3 y.F.length d3 e4 y.N.length d4 e5 y.Y.length d5 (some ⟨b7, o7, none⟩) y.E.length d6, .int .i64 (q : Int), .slice r6 (x.E.getD p []).length k6] W (AlongP y q us W) := fun W hW => by
    have h1 := along_any y M e3 e4 e5 (some ⟨b7, o7, none⟩) d3 d4 d5 d6 W (hy.grown (grown_trans g1 hW)) hB.ry hM (by omega) q hqn us hul2 (by omega) r6 k6 (by rw [hns]; exact (hs6 W (grown_trans g1 hW)).2)
    rw [hul] at h1
    exact h1
  obtain ⟨wq, hwq⟩ : ∃ W, W = W1 := ⟨_, rfl⟩
  have GQ : Hid (W1.grownBy wq.drew none) := by rw [hwq]; exact grown_drew (grown_refl _ _)
  have S00 : SBq bu bt 6 w.heap.size p q (.int .i64 y.I) (.int .i64 y.O) (.int .i64 y.S) (.slice e3 y.F.length d3) (.slice e4 y.N.length d4) (.slice e5 y.Y.length d5) (.slice (some ⟨b7, o7, none⟩) y.E.length d6) (.slice (some ⟨b6, o6, none⟩) x.E.length c6) b6 (o6 + p) (.slice r6 (x.E.getD p []).length k6) b6 (o6 + p) (.slice r6 (x.E.getD p []).length k6) wq.drew := by
    have gg := grown_trans g1 GQ.out
    have z := bz.grown gg
    have hb := HPB.out _ GQ.out
    exact ⟨z.b0, z.b1, z.b2, z.b3, z.b4, z.b5, z.b6, gg.cell bx.b6 (by simp), by rw [cell_of_row _ _ _ _ _ (0, 0) hb]; rfl, by rw [cell_of_row _ _ _ _ _ (0, 0) hb]; rfl, (hs6 _ gg).1, (hs6 _ gg).1⟩
  have HE : Hid (∀ W, w.grownBy W none → W.cell? ⟨bu, 6, none⟩ = some (.slice (some ⟨b7, o7, none⟩) y.E.length d6) ∧ W.cell? ⟨b7, o7 + gq, none⟩ = some (.slice r7 (y.E.getD gq []).length k7) ∧ Ints W r7 (y.E.getD gq [])) := fun W hW => ⟨hW.cell bz.b6 (by simp), (hs7 W hW).1, (hs7 W hW).2⟩
  have HLR : Hid ((ruT y q us).length ≤ 300) := by show _ ≤ _; omega
  have HLE : Hid ((y.E.getD gq []).length ≤ 300) := by show _ ≤ _; omega
  have HQ0 : (gq : Int) < (y.E.length : Int) := by rw [hB.ry.he]; omega
  have ipE : (p : Int) < (x.E.length : Int) := by rw [hB.rx.he]; omega
  obtain ⟨nW, hnW⟩ : ∃ n, (x.E.getD p []).length = n := ⟨_, rfl⟩
  rw [hnW] at HA0 S00
  obtain ⟨nE, hnE⟩ : ∃ n, x.E.length = n := ⟨_, rfl⟩
  rw [hnE] at S00 ipE
  obtain ⟨nE2, hnE2⟩ : ∃ n, y.E.length = n := ⟨_, rfl⟩
  rw [hnE2] at S00 HQ0 HA0 HE
  have HQ : Hid ((gq : Int) < (nE2 : Int)) := HQ0
  obtain ⟨n7, hn7⟩ : ∃ n, (y.E.getD gq []).length = n := ⟨_, rfl⟩
  obtain ⟨uI, huI⟩ : ∃ v, Value.int .i64 y.I = v := ⟨_, rfl⟩
  obtain ⟨uO, huO⟩ : ∃ v, Value.int .i64 y.O = v := ⟨_, rfl⟩
  obtain ⟨uS, huS⟩ : ∃ v, Value.int .i64 y.S = v := ⟨_, rfl⟩
  obtain ⟨u3, hu3⟩ : ∃ v, Value.slice e3 y.F.length d3 = v := ⟨_, rfl⟩
  obtain ⟨u4, hu4⟩ : ∃ v, Value.slice e4 y.N.length d4 = v := ⟨_, rfl⟩
  obtain ⟨u5, hu5⟩ : ∃ v, Value.slice e5 y.Y.length d5 = v := ⟨_, rfl⟩
  have HA1 : ∀ W, W1.grownBy W none → Calls Try.prog 36 #[.agg #[uI, uO, uS, u3, u4, u5, .slice (some ⟨b7, o7, none⟩) nE2 d6], .int .i64 (q : Int), .slice r6 nW k6] W (AlongP y q us W) := by
    rw [← huI, ← huO, ← huS, ← hu3, ← hu4, ← hu5]; exact HA0
  rw [huI, huO, huS, hu3, hu4, hu5] at S00
  have HA : Hid (∀ W, W1.grownBy W none → Calls Try.prog 36 #[.agg #[uI, uO, uS, u3, u4, u5, .slice (some ⟨b7, o7, none⟩) nE2 d6], .int .i64 (q : Int), .slice r6 nW k6] W (AlongP y q us W)) := HA1
  have S0 : Hid (SBq bu bt 6 w.heap.size p q uI uO uS u3 u4 u5 (.slice (some ⟨b7, o7, none⟩) nE2 d6) (.slice (some ⟨b6, o6, none⟩) nE c6) b6 (o6 + p) (.slice r6 nW k6) b6 (o6 + p) (.slice r6 nW k6) wq.drew) := S00
  have HWQ : Hid (wq = W1) := hwq
  clear hX hx hy bx bz hs hp hq hqn hs6 hs7 h8 h87 hus hul hul2 hns hbE hgn hlr hPo e0 hW1 g1 hpb HA0 HA1 S00 hnW hnE hnE2 huI huO huS hu3 hu4 hu5 hwq hB HQ0 hpn
  go_enter Try.func38, Try.ntmps38
  go_wp2_with fail
  rw [← HW1.out, ← HWQ.out]
  refine wp_region_held_drew (S := SBq bu bt 6 w.heap.size p q uI uO uS u3 u4 u5 (.slice (some ⟨b7, o7, none⟩) nE2 d6) (.slice (some ⟨b6, o6, none⟩) nE c6) b6 (o6 + p) (.slice r6 nW k6) b6 (o6 + p) (.slice r6 nW k6)) (by kernel_rfl) (S0.out) (fun hHeld => ?_)
  refine wpAnyH_take (i := 0) (v := ?_) rfl (by kernel_rfl) (by kernel_rfl) (by kernel_rfl) (fun _ _ _ h => h) (Or.inl ⟨by rfl, ?_⟩) (by assumption) ?_
  rotate_left
  · intro W hSw
    obtain ⟨q0, q1, q2, q3, q4, q5, q6, q7, q8, q9, q10, q11⟩ := hSw
    go_simp
    with_reducible rfl
  try simp only [Act.put, List.getElem_toArray, List.getElem_cons_succ, List.getElem_cons_zero, List.setIfInBounds_toArray, List.set_cons_zero, List.set_cons_succ]
  refine wpAnyH_take (i := 1) (v := ?_) rfl (by kernel_rfl) (by kernel_rfl) (by kernel_rfl) (fun _ _ _ h => h) (Or.inl ⟨by rfl, ?_⟩) (by assumption) ?_
  rotate_left
  · intro W hSw
    obtain ⟨q0, q1, q2, q3, q4, q5, q6, q7, q8, q9, q10, q11⟩ := hSw
    go_simp
    with_reducible rfl
  try simp only [Act.put, List.getElem_toArray, List.getElem_cons_succ, List.getElem_cons_zero, List.setIfInBounds_toArray, List.set_cons_zero, List.set_cons_succ]
  refine wpAnyH_take (i := 2) (v := ?_) rfl (by kernel_rfl) (by kernel_rfl) (by kernel_rfl) (fun _ _ _ h => h) (Or.inl ⟨by rfl, ?_⟩) (by assumption) ?_
  rotate_left
  · intro W hSw
    obtain ⟨q0, q1, q2, q3, q4, q5, q6, q7, q8, q9, q10, q11⟩ := hSw
    go_simp
    with_reducible rfl
  try simp only [Act.put, List.getElem_toArray, List.getElem_cons_succ, List.getElem_cons_zero, List.setIfInBounds_toArray, List.set_cons_zero, List.set_cons_succ]
  refine wpAnyH_take (i := 3) (v := ?_) rfl (by kernel_rfl) (by kernel_rfl) (by kernel_rfl) (fun _ _ _ h => h) (Or.inl ⟨by rfl, ?_⟩) (by assumption) ?_
  rotate_left
  · intro W hSw
    obtain ⟨q0, q1, q2, q3, q4, q5, q6, q7, q8, q9, q10, q11⟩ := hSw
    go_simp
    with_reducible rfl
  try simp only [Act.put, List.getElem_toArray, List.getElem_cons_succ, List.getElem_cons_zero, List.setIfInBounds_toArray, List.set_cons_zero, List.set_cons_succ]
  refine wpAnyH_take (i := 4) (v := ?_) rfl (by kernel_rfl) (by kernel_rfl) (by kernel_rfl) (fun _ _ _ h => h) (Or.inl ⟨by rfl, ?_⟩) (by assumption) ?_
  rotate_left
  · intro W hSw
    obtain ⟨q0, q1, q2, q3, q4, q5, q6, q7, q8, q9, q10, q11⟩ := hSw
    go_simp
    with_reducible rfl
  try simp only [Act.put, List.getElem_toArray, List.getElem_cons_succ, List.getElem_cons_zero, List.setIfInBounds_toArray, List.set_cons_zero, List.set_cons_succ]
  refine wpAnyH_take (i := 5) (v := ?_) rfl (by kernel_rfl) (by kernel_rfl) (by kernel_rfl) (fun _ _ _ h => h) (Or.inl ⟨by rfl, ?_⟩) (by assumption) ?_
  rotate_left
  · intro W hSw
    obtain ⟨q0, q1, q2, q3, q4, q5, q6, q7, q8, q9, q10, q11⟩ := hSw
    go_simp
    with_reducible rfl
  try simp only [Act.put, List.getElem_toArray, List.getElem_cons_succ, List.getElem_cons_zero, List.setIfInBounds_toArray, List.set_cons_zero, List.set_cons_succ]
  refine wpAnyH_take (i := 6) (v := ?_) rfl (by kernel_rfl) (by kernel_rfl) (by kernel_rfl) (fun _ _ _ h => h) (Or.inl ⟨by rfl, ?_⟩) (by assumption) ?_
  rotate_left
  · intro W hSw
    obtain ⟨q0, q1, q2, q3, q4, q5, q6, q7, q8, q9, q10, q11⟩ := hSw
    go_simp
    with_reducible rfl
  try simp only [Act.put, List.getElem_toArray, List.getElem_cons_succ, List.getElem_cons_zero, List.setIfInBounds_toArray, List.set_cons_zero, List.set_cons_succ]
  refine wpAnyH_take (i := 7) (v := ?_) rfl (by kernel_rfl) (by kernel_rfl) (by kernel_rfl) (fun _ _ _ h => h) (Or.inl ⟨by rfl, ?_⟩) (by assumption) ?_
  rotate_left
  · intro W hSw
    obtain ⟨q0, q1, q2, q3, q4, q5, q6, q7, q8, q9, q10, q11⟩ := hSw
    go_simp
    with_reducible rfl
  try simp only [Act.put, List.getElem_toArray, List.getElem_cons_succ, List.getElem_cons_zero, List.setIfInBounds_toArray, List.set_cons_zero, List.set_cons_succ]
  refine wpAnyH_take (i := 8) (v := ?_) rfl (by kernel_rfl) (by kernel_rfl) (by kernel_rfl) (fun _ _ _ h => h) (Or.inl ⟨by rfl, ?_⟩) (by assumption) ?_
  rotate_left
  · intro W hSw
    obtain ⟨q0, q1, q2, q3, q4, q5, q6, q7, q8, q9, q10, q11⟩ := hSw
    go_simp
    with_reducible rfl
  try simp only [Act.put, List.getElem_toArray, List.getElem_cons_succ, List.getElem_cons_zero, List.setIfInBounds_toArray, List.set_cons_zero, List.set_cons_succ]
  refine wpAnyH_ready (rs := [9]) (by kernel_rfl) (by simp) ?_
  refine AllReadyH.cons (o := _) rfl (fun K' hK => ?_) ?_
  · go_simp
    refine (HA.out _ GQ.out).mono ?_
    rintro E w6 ⟨ar, cr, rfl, hir, hgr, hnr⟩
    have GR : Hid (wq.grownBy w6 none) := grown_drew0 hgr
    have GX : Hid (W1.grownBy w6 none) := grown_trans GQ.out hgr
    have HIR : Hid (Ints w6 ar (ruT y q us)) := hir
    clear hir hnr
    go_wp2_with fail
    refine hK.out _ _ (hHeld.kept hgr) (fun hHeld => ?_)
    clear hK K'
    try simp only [Act.put, List.getElem_toArray, List.getElem_cons_succ, List.getElem_cons_zero, List.setIfInBounds_toArray, List.set_cons_zero, List.set_cons_succ]
    refine wpAnyH_take (i := 10) (v := ?_) rfl (by kernel_rfl) (by kernel_rfl) (by kernel_rfl) (fun _ _ _ h => h) (Or.inl ⟨by rfl, ?_⟩) (by assumption) ?_
    rotate_left
    · intro W hSw
      obtain ⟨q0, q1, q2, q3, q4, q5, q6, q7, q8, q9, q10, q11⟩ := hSw
      go_simp
      with_reducible rfl
    try simp only [Act.put, List.getElem_toArray, List.getElem_cons_succ, List.getElem_cons_zero, List.setIfInBounds_toArray, List.set_cons_zero, List.set_cons_succ]
    refine wpAnyH_take (i := 11) (v := ?_) rfl (by kernel_rfl) (by kernel_rfl) (by kernel_rfl) (fun _ _ _ h => h) (Or.inl ⟨by rfl, ?_⟩) (by assumption) ?_
    rotate_left
    · intro W hSw
      obtain ⟨q0, q1, q2, q3, q4, q5, q6, q7, q8, q9, q10, q11⟩ := hSw
      go_simp
      with_reducible rfl
    try simp only [Act.put, List.getElem_toArray, List.getElem_cons_succ, List.getElem_cons_zero, List.setIfInBounds_toArray, List.set_cons_zero, List.set_cons_succ]
    refine wpAnyH_take (i := 12) (v := ?_) rfl (by kernel_rfl) (by kernel_rfl) (by kernel_rfl) (fun _ _ _ h => h) (Or.inl ⟨by rfl, ?_⟩) (by assumption) ?_
    rotate_left
    · intro W hSw
      obtain ⟨q0, q1, q2, q3, q4, q5, q6, q7, q8, q9, q10, q11⟩ := hSw
      go_simp
      with_reducible rfl
    try simp only [Act.put, List.getElem_toArray, List.getElem_cons_succ, List.getElem_cons_zero, List.setIfInBounds_toArray, List.set_cons_zero, List.set_cons_succ]
    refine wpAnyH_take (i := 13) (v := ?_) rfl (by kernel_rfl) (by kernel_rfl) (by kernel_rfl) (fun _ _ _ h => h) (Or.inl ⟨by rfl, ?_⟩) (by assumption) ?_
    rotate_left
    · intro W hSw
      obtain ⟨q0, q1, q2, q3, q4, q5, q6, q7, q8, q9, q10, q11⟩ := hSw
      go_simp
      with_reducible rfl
    try simp only [Act.put, List.getElem_toArray, List.getElem_cons_succ, List.getElem_cons_zero, List.setIfInBounds_toArray, List.set_cons_zero, List.set_cons_succ]
    refine wpAnyH_take (i := 14) (v := ?_) rfl (by kernel_rfl) (by kernel_rfl) (by kernel_rfl) (fun _ _ _ h => h) (Or.inl ⟨by rfl, ?_⟩) (by assumption) ?_
    rotate_left
    · intro W hSw
      obtain ⟨q0, q1, q2, q3, q4, q5, q6, q7, q8, q9, q10, q11⟩ := hSw
      go_simp
      with_reducible rfl
    try simp only [Act.put, List.getElem_toArray, List.getElem_cons_succ, List.getElem_cons_zero, List.setIfInBounds_toArray, List.set_cons_zero, List.set_cons_succ]
    refine wpAnyH_done (by kernel_rfl) ?_ _
    obtain ⟨nr, hnr⟩ : ∃ n, (ruT y q us).length = n := ⟨_, rfl⟩
    have CTA0 := fun (t : TypeId) => catX_any (ruT y q us) (y.E.getD gq []) ar r7 cr k7 w6.heap.size (w6.alloc (.cells #[.slice ar (ruT y q us).length cr, .slice r7 (y.E.getD gq []).length k7] t)) (HIR.out.grown (grown_alloc _ _)) ((HE.out w6 (grown_trans GW.out GX.out)).2.2.grown (grown_alloc _ _)) HLR.out HLE.out (c2_new _ _ _ t).1 (c2_new _ _ _ t).2
    have z6 := (HE.out w6 (grown_trans GW.out GX.out)).1
    have z7 := (HE.out w6 (grown_trans GW.out GX.out)).2.1
    rw [hn7] at z7
    rw [hn7, hnr, HXX.out] at CTA0
    have CTA : Hid (∀ t, Calls Try.prog 39 #[.slice (some ⟨w6.heap.size, 0, none⟩) 2 2] (w6.alloc (.cells #[.slice ar nr cr, .slice r7 n7 k7] t)) (CatX X (w6.alloc (.cells #[.slice ar nr cr, .slice r7 n7 k7] t)))) := CTA0
    have is7 : (gq : Int) < (nE2 : Int) := HQ.out
    have G6 : Hid (w.grownBy w6 none) := grown_trans GW.out GX.out
    try rw [hgq]
    try rw [hnr]
    clear CTA0 HIR HLR HLE HE HA S0 HWQ HPB hHeld GR hnr hn7 hgq HQ HXX
    go_wp2_with fail
    refine (CTA.out _).mono ?_
    rintro E w7 ⟨ax, kx, rfl, hix, hgx, hnx, hcx⟩
    have F : Hid (Po (.returned (.slice ax X.length kx)) w7) := HP.out ax kx w7 hix (grown_trans G6.out (grown_trans (grown_alloc _ _) hgx)) (fun z hz => by have h1 := (hnx z hz).1; have h2 := G6.out.size; rw [World.size_alloc] at h1; omega) hcx
    clear hix hnx hcx
    go_wp2_with fail
    first | exact F.out | (go_ret; exact F.out)
  exact AllReadyH.nil


end Go.Proofs.Ytodcmlcpicabaaa
