/- The program's least: pushed, then by kinds. -/
import Derived.Test.YtodcmlcpicabaaaTlPush
import Derived.Test.YtodcmlcpicabaaaTlLeastC
import Derived.Test.YtodcmlcpicabaaaTlKinds
import Derived.Test.YtodcmlcpicabaaaTlOfL
namespace Go.Proofs.Ytodcmlcpicabaaa
open Go.RowKit
set_option linter.unusedVariables false
set_option linter.unusedSimpArgs false

theorem psh_shp {x : TrI} {I : Nat} {B : List (List Int)} {k mb : Nat} (hr : ReadT x I mb) (hs : SureIs x I B) (he : IsEnd (bfsL id (nxT x) I x.S.toNat) k) : ShpT (pshY x I B k) I (2 * mb) ∧ (pshY x I B k).N.length = k ∧ (pshY x I B k).F.length ≤ 2 * mb ∧ 1 ≤ k := by
  have hst := hr.st
  unfold StT at hst
  have hS : x.S.toNat < x.N.length := by omega
  have hsu := hs.sure hr.he
  have hlt := fun q hq => bfsL_lt id (fun s a hs ha => (hr.lt hs ha).1) hS k q hq
  have hk : 1 ≤ k := by
    rcases Nat.eq_zero_or_pos k with h | h
    · subst h; have := he.len; simp [bfsL] at this
    · exact h
  have l8 : ∀ s, s < x.N.length → (B.getD s []).length ≤ mb := fun s hs' => by
    obtain ⟨r, hr2⟩ := hsu.last s hs'
    have := hr.e8 s hs'
    rw [hr2, List.length_append] at this
    omega
  have hsy : ∀ s, s < x.N.length → ∀ a, a < I → (syT (pushT x I B) s a).length ≤ 2 * mb := fun s hs' a ha => by
    rw [pushT_sy hs' ha, List.length_drop, List.length_append]
    have h1 := hr.y8 s hs' a ha
    have h2 := l8 (nxT x s a) (hr.lt hs' ha).1
    omega
  have hel : ∀ s, s < x.N.length → ((pushT x I B).E.getD s []).length ≤ 2 * mb := fun s hs' => by
    rw [pushT_last hs', List.length_drop]
    have := hr.e8 s hs'
    omega
  obtain ⟨h1, h2, h3, h4⟩ := ofK_shp (κ := id) (O := 0) (F := (pushT x I B).F) (σ := syT (pushT x I B)) (ε := fun s => (pushT x I B).E.getD s []) (m := 2 * mb) he hk (fun q hq a ha => hsy q (hlt q hq) a ha) (fun q hq => hel q (hlt q hq))
  have hlen := ofK_len (κ := id) (O := 0) (F := (pushT x I B).F) (l := I) (δ := nxT x) (σ := syT (pushT x I B)) (ε := fun s => (pushT x I B).E.getD s []) (xs := bfsL id (nxT x) I x.S.toNat k)
  rw [he.len] at hlen
  obtain ⟨e1, e2, e3⟩ := hlen
  refine ⟨⟨h1, e2.trans e1.symm, e3.trans e1.symm, fun s hs' => (ofK_row (by rw [he.len]; rw [e1] at hs'; exact hs')).1, fun s hs' => (ofK_row (by rw [he.len]; rw [e1] at hs'; exact hs')).2, ?_, ?_, ?_⟩, e1, ?_, hk⟩
  · intro s hs' a ha; rw [e1]; rw [e1] at hs'; exact h2 s hs' a ha
  · intro s hs' a ha; rw [e1] at hs'; exact h3 s hs' a ha
  · intro s hs'; rw [e1] at hs'; exact h4 s hs'
  · show (x.F ++ B.getD x.S.toNat []).length ≤ 2 * mb
    rw [List.length_append]
    have := hr.f8
    have := l8 _ hS
    omega

abbrev lstL (x : TrI) (I : Nat) (B : List (List Int)) (k : Nat) (kd : Nat → Nat) (k2 : Nat) : TrI := ofK id x.O (pushT x I B).F I (fun s l => kd (nxT (pshY x I B k) s l)) (syT (pshY x I B k)) (fun q => (pshY x I B k).E.getD q []) (bfsL id (fun s l => kd (nxT (pshY x I B k) s l)) I (kd 0) k2)
def LeastTP (x : TrI) (I : Nat) (w : World) (e : Ending) (w' : World) : Prop := ∃ B k kd k2 a3 a4 a5 a6 c3 c4 c5 c6, SureIs x I B ∧ IsEnd (bfsL id (nxT x) I x.S.toNat) k ∧ k ≤ x.N.length ∧ KindIs (pshY x I B k) I k kd ∧ IsEnd (bfsL id (fun s l => kd (nxT (pshY x I B k) s l)) I (kd 0)) k2 ∧ k2 ≤ k ∧ (pushT x I B).F.length ≤ c3 ∧ e = .returned (tnV (I : Int) x.O 0 a3 (pushT x I B).F.length c3 a4 k2 c4 a5 k2 c5 a6 k2 c6) ∧ w.grownBy w' none ∧
    ∃ P : World → Prop, P w' ∧ (∀ W, P W → TnAt W (lstL x I B k kd k2) a3 a4 a5 a6) ∧ (∀ W W' b, P W → b < w.heap.size + 1 + 1 → W.grownBy W' (some b) → P W') ∧ ∀ W W', P W → W.grownBy W' none → P W'

theorem seven_heap {W W' : World} {B : Nat} {t : TypeId} {u0 u1 u2 u3 u4 u5 u6 v0 v1 v2 v3 v4 v5 v6 : Value} (h : W.heap[B]? = some (.cells #[u0, u1, u2, u3, u4, u5, u6] t (0, 0))) (e : W' = ((((((W.setCell ⟨B, 0, none⟩ v0).setCell ⟨B, 1, none⟩ v1).setCell ⟨B, 2, none⟩ v2).setCell ⟨B, 3, none⟩ v3).setCell ⟨B, 4, none⟩ v4).setCell ⟨B, 5, none⟩ v5).setCell ⟨B, 6, none⟩ v6) : W'.heap[B]? = some (.cells #[v0, v1, v2, v3, v4, v5, v6] t (0, 0)) := by
  subst e
  have h1 := heap_setCell_same W B 0 _ _ v0 h
  have h2 := heap_setCell_same _ B 1 _ _ v1 h1
  have h3 := heap_setCell_same _ B 2 _ _ v2 h2
  have h4 := heap_setCell_same _ B 3 _ _ v3 h3
  have h5 := heap_setCell_same _ B 4 _ _ v4 h4
  have h6 := heap_setCell_same _ B 5 _ _ v5 h5
  have h7 := heap_setCell_same _ B 6 _ _ v6 h6
  simpa using h7

/-- What there is behind the call of 'of', whatever comes first. -/
def LMid (w W5 : World) (I z0 k : Nat) (δ : Nat → Nat → Nat) (σ : Nat → Nat → List Int) (ε : Nat → List Int) (v : Value) (wc : World) : Prop :=
  ∃ b7 k2 a4 a5 a6 c4 c5 c6, v = .pointer (some ⟨b7, 0, none⟩) ∧ W5.heap.size ≤ b7 ∧ b7 < wc.heap.size ∧ wc.heap[b7]? = some (.cells #[.int .i64 (I : Int), .int .i64 0, .int .i64 0, .slice none 0 0, .slice a4 k2 c4, .slice a5 k2 c5, .slice a6 k2 c6] 26 (0, 0)) ∧ IsEnd (bfsL id δ I z0) k2 ∧ k2 ≤ k ∧ W5.grownBy wc none ∧
    ∃ P : World → Prop, (∀ W7, wc.grownBy W7 (some b7) → P W7) ∧ (∀ W, P W → TnAt W (ofX I δ σ ε (bfsL id δ I z0 k2)) none a4 a5 a6) ∧ (∀ W W' b, P W → b < W5.heap.size → W.grownBy W' (some b) → P W') ∧ ∀ W W', P W → W.grownBy W' none → P W'
theorem LMid.a {w W5 w6 : World} {I z0 k : Nat} {δ : Nat → Nat → Nat} {σ : Nat → Nat → List Int} {ε : Nat → List Int} {k2 : Nat} {a4 a5 a6 : Option Addr} {c4 c5 c6 : Nat} {P : World → Prop} (hs : w.heap.size + 1 < W5.heap.size) (g : W5.drew.grownBy w6 none) (he : IsEnd (bfsL id δ I z0) k2) (hk : k2 ≤ k) (hP : P w6) {ps : List Trip} (hPT : ∀ W, P W → TnAt W (ofX I δ σ ε (bfsL id δ I z0 k2)) none a4 a5 a6 ∧ TripAt W a6 ps) (hPb : ∀ W W' b, P W → 0 ≤ b → b < W5.drew.heap.size → W.grownBy W' (some b) → P W') (hPn : ∀ W W', P W → W.grownBy W' none → P W') :
    LMid w W5 I z0 k δ σ ε (.pointer (some ⟨w6.heap.size, 0, none⟩)) (w6.alloc (.cells #[.int .i64 (I : Int), .int .i64 0, .int .i64 0, .slice none 0 0, .slice a4 k2 c4, .slice a5 k2 c5, .slice a6 k2 c6] 26)) := by
  have hs6 := g.size
  have hs5 : W5.drew.heap.size = W5.heap.size := rfl
  refine ⟨_, k2, a4, a5, a6, c4, c5, c6, rfl, by omega, by simp, heap_alloc_new _ _, he, hk, grown_trans (grown_trans (grown_drew (grown_refl _ _)) g) (grown_alloc _ _), P, fun W7 h1 => hPn _ _ hP (grown_new (grown_alloc _ _) h1 (Nat.le_refl _)), fun W h => (hPT W h).1, fun W W' b h1 h2 h3 => hPb W W' b h1 (by omega) (by omega) h3, hPn⟩
theorem LMid.b {w W5 w6 W9' : World} {I z0 k : Nat} {δ : Nat → Nat → Nat} {σ : Nat → Nat → List Int} {ε : Nat → List Int} {k2 : Nat} {a4 a5 a6 : Option Addr} {c4 c5 c6 : Nat} {P : World → Prop} (hs : w.heap.size + 1 < W5.heap.size) (g : (W5.alloc tnZO).drew.grownBy w6 none) (he : IsEnd (bfsL id δ I z0) k2) (hk : k2 ≤ k) (hP : P w6) {ps : List Trip} (hPT : ∀ W, P W → TnAt W (ofX I δ σ ε (bfsL id δ I z0 k2)) none a4 a5 a6 ∧ TripAt W a6 ps) (hPb : ∀ W W' b, P W → 0 ≤ b → b < (W5.alloc tnZO).drew.heap.size → W.grownBy W' (some b) → P W') (hPn : ∀ W W', P W → W.grownBy W' none → P W')
    (h9 : W9'.heap[W5.heap.size]? = some (.cells #[.int .i64 (I : Int), .int .i64 0, .int .i64 0, .slice none 0 0, .slice a4 k2 c4, .slice a5 k2 c5, .slice a6 k2 c6] 26 (0, 0))) (g9 : w6.grownBy W9' (some W5.heap.size)) : LMid w W5 I z0 k δ σ ε (.pointer (some ⟨W5.heap.size, 0, none⟩)) W9' := by
  have hsz : (W5.alloc tnZO).drew.heap.size = W5.heap.size + 1 := by show (W5.alloc tnZO).heap.size = _; simp
  have hs6 := g.size
  have hs9 := g9.size
  refine ⟨_, k2, a4, a5, a6, c4, c5, c6, rfl, Nat.le_refl _, by omega, h9, he, hk, grown_new (grown_trans (grown_drew (grown_alloc _ _)) g) g9 (Nat.le_refl _), P, fun W7 h1 => hPb _ W7 _ (hPb _ _ _ hP (by omega) (by omega) g9) (by omega) (by omega) h1, fun W h => (hPT W h).1, fun W W' b h1 h2 h3 => hPb W W' b h1 (by omega) (by omega) h3, hPn⟩

def SL5 (bt bk bp g : Nat) (I : Int) (vk : Value) (z : Int) (W : World) : Prop := W.cell? ⟨bt, 0, none⟩ = some (.int .i64 I) ∧ W.cell? ⟨bk, 0, none⟩ = some vk ∧ W.cell? ⟨bp, 2, none⟩ = some (.int .i64 0) ∧ W.cell? ⟨g, 0, none⟩ = some (.int .i64 z)
theorem SL5.kept {bt bk bp g : Nat} {I : Int} {vk : Value} {z : Int} {W W' : World} (h : SL5 bt bk bp g I vk z W) (k : W.grownBy W' none) : SL5 bt bk bp g I vk z W' := ⟨k.cell h.1 (by simp), k.cell h.2.1 (by simp), k.cell h.2.2.1 (by simp), k.cell h.2.2.2 (by simp)⟩
def SL6 (bt bp : Nat) (O : Int) (v3 : Value) (W : World) : Prop := W.cell? ⟨bt, 1, none⟩ = some (.int .i64 O) ∧ W.cell? ⟨bp, 3, none⟩ = some v3
theorem SL6.kept {bt bp : Nat} {O : Int} {v3 : Value} {W W' : World} (h : SL6 bt bp O v3 W) (k : W.grownBy W' none) : SL6 bt bp O v3 W' := ⟨k.cell h.1 (by simp), k.cell h.2 (by simp)⟩

set_option maxHeartbeats 1600000 in
set_option maxRecDepth 100000 in
theorem leastT_any (x : TrI) (I : Nat) (a3 a4 a5 a6 : Option Addr) (c3 c4 c5 c6 : Nat) (w : World) (h : TnAt w x a3 a4 a5 a6) (hk : CapsAt w a6 x.E) {mb : Nat} (hr : ReadT x I mb) (hmb : mb ≤ 100) (hxI : x.I = (I : Int)) (hI : I ≤ 4) (hN : x.N.length ≤ 1000) :
    Calls Try.prog 20 #[tnV x.I x.O x.S a3 x.F.length c3 a4 x.N.length c4 a5 x.Y.length c5 a6 x.E.length c6] w (LeastTP x I w) := by
  obtain ⟨W0, hW0, g0, s0, bx⟩ := box7_new w x.I x.O x.S a3 x.F.length c3 a4 x.N.length c4 a5 x.Y.length c5 a6 x.E.length c6
  obtain ⟨W1, hW1⟩ : ∃ W, W = W0.alloc tnZO := ⟨_, rfl⟩
  have g1 : W0.grownBy W1 none := by rw [hW1]; exact grown_alloc _ _
  have hrb : W1.heap[w.heap.size + 1]? = some (.cells #[.int .i64 0, .int .i64 0, .int .i64 0, .slice none 0 0, .slice none 0 0, .slice none 0 0, .slice none 0 0] 26 (0, 0)) := by
    have := heap_alloc_new W0 tnZO
    rw [← hW1, s0] at this
    exact this
  have sW : W1.heap.size = w.heap.size + 1 + 1 := by rw [hW1, World.size_alloc, s0]
  have HW1 : Hid (W1 = (w.alloc (tnO x.I x.O x.S a3 x.F.length c3 a4 x.N.length c4 a5 x.Y.length c5 a6 x.E.length c6)).alloc tnZO) := by show _ = _; rw [hW1, hW0]
  have G1 : Hid (w.grownBy W1 none) := grown_trans g0 g1
  have HPu : Hid (Calls Try.prog 30 #[tnV x.I x.O x.S a3 x.F.length c3 a4 x.N.length c4 a5 x.Y.length c5 a6 x.E.length c6] W1 (PushP x I W1)) := pushed_any x I a3 a4 a5 a6 c3 c4 c5 c6 W1 (h.grown G1.out) (hk.grown G1.out) hr hmb hxI hI hN
  have HX : Hid (∀ W, W1.grownBy W none → Box7 W w.heap.size x.I x.O x.S a3 x.F.length c3 a4 x.N.length c4 a5 x.Y.length c5 a6 x.E.length c6) := fun W hW => (bx.grown g1).grown hW
  have HRB : Hid (∀ W, W1.grownBy W none → W.heap[w.heap.size + 1]? = some (.cells #[.int .i64 0, .int .i64 0, .int .i64 0, .slice none 0 0, .slice none 0 0, .slice none 0 0, .slice none 0 0] 26 (0, 0))) := fun W hW => (hW.block _ (by omega) (by simp)).trans hrb
  have HR : Hid (ReadT x I mb) := hr
  have HSz : Hid (W1.heap.size = w.heap.size + 1 + 1) := sW
  have HxI : Hid (x.I = (I : Int)) := hxI
  have x0 := (bx.grown g1).b0
  have x1 := (bx.grown g1).b1
  have x2 := (bx.grown g1).b2
  have x3 := (bx.grown g1).b3
  have x4 := (bx.grown g1).b4
  have x5 := (bx.grown g1).b5
  have x6 := (bx.grown g1).b6
  obtain ⟨Po, hPo⟩ : ∃ P, P = LeastTP x I w := ⟨_, rfl⟩
  have HPo : Hid (Po = LeastTP x I w) := hPo
  rw [← hPo]
  rw [HW1.out] at x0 x1 x2 x3 x4 x5 x6
  clear hW0 hW1 g0 g1 s0 bx h hk hr hxI hrb sW hPo
  go_enter Try.func20, Try.ntmps20
  go_wp2_with fail
  rw [← HW1.out]
  clear x0 x1 x2 x3 x4 x5 x6
  refine HPu.out.mono ?_
  rintro E w2 ⟨B, k, a3', a4', a5', a6', c3', c4', c5', c6', hsi, hend, hkn, rfl, htn, hg2, hnew, hcapF⟩
  have HCp : Hid ((pushT x I B).F.length ≤ c3') := hcapF
  clear hcapF
  obtain ⟨hshp, hyN, hyF, hk1⟩ := psh_shp HR.out hsi hend
  have HSI : Hid (SureIs x I B) := hsi
  have HEnd : Hid (IsEnd (bfsL id (nxT x) I x.S.toNat) k) := hend
  obtain ⟨nF, hnF⟩ : ∃ n, (pushT x I B).F.length = n := ⟨_, rfl⟩
  have HnF : Hid ((pushT x I B).F.length = nF) := hnF
  have hF16 : nF ≤ 2 * mb := by rw [← hnF]; exact hyF
  obtain ⟨y, hy⟩ : ∃ y, pshY x I B k = y := ⟨_, rfl⟩
  have HY : Hid (pshY x I B k = y) := hy
  rw [hy] at htn hshp hyN
  have hyV : y.I = (I : Int) ∧ y.O = 0 ∧ y.S = 0 ∧ y.F.length = nF := by rw [← hy, ← hnF]; exact ⟨rfl, rfl, rfl, rfl⟩
  have HSh : Hid (ShpT y I (2 * mb)) := hshp
  have HYN : Hid (y.N.length = k ∧ y.Y.length = k ∧ y.E.length = k) := ⟨hyN, hshp.hy.trans hyN, hshp.he.trans hyN⟩
  have HYV : Hid (y.I = (I : Int) ∧ y.O = 0 ∧ y.S = 0 ∧ y.F.length = nF) := hyV
  rw [hnF]
  have G2 : Hid (W1.grownBy w2 none) := hg2
  obtain ⟨W3, hW3⟩ : ∃ W, W = w2.alloc (tnO (I : Int) 0 0 a3' nF c3' a4' k c4' a5' k c5' a6' k c6') := ⟨_, rfl⟩
  have HW3 : Hid (W3 = _) := hW3
  have g3 : w2.grownBy W3 none := by rw [hW3]; exact grown_alloc _ _
  have bp : Box7 W3 w2.heap.size (I : Int) 0 0 a3' nF c3' a4' k c4' a5' k c5' a6' k c6' := (box7_of (T := 26) (by rw [hW3]; exact heap_alloc_new _ _)).1
  have HBP : Hid (∀ W, W3.grownBy W none → Box7 W w2.heap.size (I : Int) 0 0 a3' nF c3' a4' k c4' a5' k c5' a6' k c6') := fun W hW => bp.grown hW
  have HT3 : Hid (∀ W, W3.grownBy W none → TnAt W y a3' a4' a5' a6') := fun W hW => htn.grown (grown_trans g3 hW)
  have G3 : Hid (W1.grownBy W3 none) := grown_trans hg2 g3
  have HNew : Hid (∀ z, a3' = some z → W1.heap.size ≤ z.block) := hnew
  have HK : Hid (Calls Try.prog 31 #[tnV (I : Int) 0 0 a3' nF c3' a4' k c4' a5' k c5' a6' k c6'] W3 (KindsP y I W3)) := by
    have h1 := kinds_any y I (2 * mb) a3' a4' a5' a6' c3' c4' c5' c6' W3 (HT3.out W3 (grown_refl _ _)) HSh.out HYV.out.1 (by omega) hI (by rw [HYN.out.1]; omega)
    rw [HYV.out.1, HYV.out.2.1, HYV.out.2.2.1, HYV.out.2.2.2, HYN.out.1, HYN.out.2.1, HYN.out.2.2] at h1
    exact h1
  have x0 := bp.b0
  have x1 := bp.b1
  have x2 := bp.b2
  have x3 := bp.b3
  have x4 := bp.b4
  have x5 := bp.b5
  have x6 := bp.b6
  rw [hW3] at x0 x1 x2 x3 x4 x5 x6
  clear hsi hend htn hg2 hshp hyN hyF hyV hy hnF hnew g3 bp hW3 HPu
  go_wp2_with fail
  rw [← HW3.out]
  clear x0 x1 x2 x3 x4 x5 x6
  refine HK.out.mono ?_
  rintro E w4 ⟨g, kd, rfl, hkd, hir, hg4, hgg⟩
  rw [HYN.out.1] at hkd hir ⊢
  have HKD : Hid (KindIs y I k kd) := hkd
  have hk0 : kd 0 < k := by have := (hkd.can 0 (by omega)).1; omega
  obtain ⟨W5, hW5⟩ : ∃ W, W = w4.alloc (.cells #[.slice (some ⟨g, 0, none⟩) k k] 22) := ⟨_, rfl⟩
  have HW5 : Hid (W5 = _) := hW5
  have g5 : w4.grownBy W5 none := by rw [hW5]; exact grown_alloc _ _
  have G35 : Hid (W3.grownBy W5 none) := grown_trans hg4 g5
  have hbk : W5.cell? ⟨w4.heap.size, 0, none⟩ = some (.slice (some ⟨g, 0, none⟩) k k) := by rw [hW5, cell_of_row _ _ _ _ _ (0, 0) (heap_alloc_new _ _)]; rfl
  have HIR : Hid (∀ W, W5.grownBy W none → IRow W g k kd) := fun W hW => hir.kept (grown_trans g5 hW)
  have HO0 : ∀ W, W5.grownBy W none → Calls Try.prog 35 #[.int .i64 (I : Int), .int .i64 ((kd 0 : Nat) : Int), .func (.func 32) #[] #[.pointer (some ⟨w2.heap.size, 0, none⟩), .pointer (some ⟨w4.heap.size, 0, none⟩)], .func (.func 34) #[] #[.pointer (some ⟨w2.heap.size, 0, none⟩)]] W (OfTP 0 I (kd 0) k (fun s l => kd (nxT y s l)) (syT y) (fun q => y.E.getD q []) W) := fun W hW => by
    refine ofL_any 0 I (kd 0) k (fun s l => kd (nxT y s l)) (syT y) (fun q => y.E.getD q []) _ _ W hI (by omega) hk0 (fun s a hs ha => ?_) (fun s a hs ha => ?_) (fun s hs => ?_) (fun V hV s a hs ha => ?_) (fun V hV s hs => ?_)
    · have h1 := (HSh.out.lt (by rw [HYN.out.1]; exact hs) ha).1
      rw [HYN.out.1] at h1
      have := (HKD.out.can _ h1).1
      omega
    · have := HSh.out.ym s (by rw [HYN.out.1]; exact hs) a ha; omega
    · have := HSh.out.em s (by rw [HYN.out.1]; exact hs); show ((y.E.getD s []).length) ≤ 1000; omega
    · have gV : W3.grownBy V none := grown_trans G35.out (grown_trans hW hV)
      have h0 := HBP.out V gV
      have h1 := least1_any y I (2 * mb) a3' a4' a5' a6' c3' c4' c5' c6' w2.heap.size w4.heap.size k (some ⟨g, 0, none⟩) (nsT ((List.range k).map kd)) s a V (HT3.out V gV) HSh.out (by omega) hI (by rw [HYN.out.1]; omega) (by rw [HYV.out.1, HYV.out.2.1, HYV.out.2.2.1, HYV.out.2.2.2, HYN.out.1, HYN.out.2.1, HYN.out.2.2]; exact h0) (by rw [HYN.out.1]; exact (grown_trans hW hV).cell hbk (by simp)) (HIR.out V (grown_trans hW hV)).ints (by rw [HYN.out.1]; simp [nsT]) (by rw [HYN.out.1]; exact hs) ha
      refine h1.mono fun e w' ⟨b, c, e1, e2, e3, e4, e5⟩ => ⟨b, c, ?_, e2, e3, e4⟩
      have h2 := (HSh.out.lt (by rw [HYN.out.1]; exact hs) ha).1
      rw [HYN.out.1] at h2
      rw [e1]
      have : (nsT ((List.range k).map kd)).getD (nxT y s a) 0 = ((kd (nxT y s a) : Nat) : Int) := by simp [nsT, List.getD, h2]
      rw [this]
    · have gV : W3.grownBy V none := grown_trans G35.out (grown_trans hW hV)
      have h0 := HBP.out V gV
      have h1 := least2_any y I (2 * mb) a3' a4' a5' a6' c3' c4' c5' c6' w2.heap.size s V (HT3.out V gV) HSh.out (by omega) (by rw [HYN.out.1]; omega) (by rw [HYV.out.1, HYV.out.2.1, HYV.out.2.2.1, HYV.out.2.2.2, HYN.out.1, HYN.out.2.1, HYN.out.2.2]; exact h0) (by rw [HYN.out.1]; exact hs)
      exact h1.mono fun e w' ⟨b, c, e1, e2, e3, e4, e5⟩ => ⟨b, c, e1, e2, e3, fun _ z hz => .inr (e4 z hz), e5⟩
  have cg := (HIR.out W5 (grown_refl _ _)).cell (i := 0) (by omega)
  obtain ⟨z0, hz0⟩ : ∃ z, kd 0 = z := ⟨_, rfl⟩
  have HZ0 : Hid (kd 0 = z0) := hz0
  rw [hz0] at HO0 cg hk0
  have HO : Hid (∀ W, W5.grownBy W none → Calls Try.prog 35 #[.int .i64 (I : Int), .int .i64 (z0 : Int), .func (.func 32) #[] #[.pointer (some ⟨w2.heap.size, 0, none⟩), .pointer (some ⟨w4.heap.size, 0, none⟩)], .func (.func 34) #[] #[.pointer (some ⟨w2.heap.size, 0, none⟩)]] W (OfTP 0 I z0 k (fun s l => kd (nxT y s l)) (syT y) (fun q => y.E.getD q []) W)) := HO0
  have b5 := HBP.out W5 G35.out
  have t5 := HX.out W5 (grown_trans G3.out G35.out)
  have t0 := t5.b0
  rw [HxI.out] at t0
  have S5 : Hid (SL5 w.heap.size w4.heap.size w2.heap.size g (I : Int) (.slice (some ⟨g, 0, none⟩) k k) (z0 : Int) W5) := ⟨t0, hbk, b5.b2, cg⟩
  have S6 : Hid (SL6 w.heap.size w2.heap.size x.O (.slice a3' nF c3') W5) := ⟨t5.b1, b5.b3⟩
  have HS5 : Hid (w.heap.size + 1 < W5.heap.size) := by have h1 := HSz.out; have h2 := G3.out.size; have h3 := G35.out.size; show _ < _; omega
  have HT5 : Hid (TnAt W5 y a3' a4' a5' a6') := HT3.out W5 G35.out
  have ik : 0 < k := hk1
  clear hkd hir hg4 hgg hk0 hW5 g5 hbk HO0 cg hz0 b5 t5 t0 HK
  go_wp2_with fail
  rw [← HW5.out]
  go_cut [7] (fun v wc => LMid w W5 I z0 k (fun s l => kd (nxT y s l)) (syT y) (fun q => y.E.getD q []) v wc)
  case first =>
    refine wp_region_held_drew (S := SL5 w.heap.size w4.heap.size w2.heap.size g (I : Int) (.slice (some ⟨g, 0, none⟩) k k) (z0 : Int)) (by kernel_rfl) (S5.out.kept (grown_drew (grown_refl _ _))) (fun hHeld => ?_)
    refine wpAnyH_take (i := 0) (v := ?_) rfl (by kernel_rfl) (by kernel_rfl) (by kernel_rfl) (fun _ _ _ h => h) (Or.inl ⟨by rfl, ?_⟩) (by assumption) ?_
    rotate_left
    · intro W hSw
      obtain ⟨q0, q1, q2, q3⟩ := hSw
      go_simp
      with_reducible rfl
    try simp only [Act.put, List.getElem_toArray, List.getElem_cons_succ, List.getElem_cons_zero, List.setIfInBounds_toArray, List.set_cons_zero, List.set_cons_succ]
    refine wpAnyH_take (i := 1) (v := ?_) rfl (by kernel_rfl) (by kernel_rfl) (by kernel_rfl) (fun _ _ _ h => h) (Or.inl ⟨by rfl, ?_⟩) (by assumption) ?_
    rotate_left
    · intro W hSw
      obtain ⟨q0, q1, q2, q3⟩ := hSw
      go_simp
      with_reducible rfl
    try simp only [Act.put, List.getElem_toArray, List.getElem_cons_succ, List.getElem_cons_zero, List.setIfInBounds_toArray, List.set_cons_zero, List.set_cons_succ]
    refine wpAnyH_take (i := 2) (v := ?_) rfl (by kernel_rfl) (by kernel_rfl) (by kernel_rfl) (fun _ _ _ h => h) (Or.inl ⟨by rfl, ?_⟩) (by assumption) ?_
    rotate_left
    · intro W hSw
      obtain ⟨q0, q1, q2, q3⟩ := hSw
      go_simp
      with_reducible rfl
    try simp only [Act.put, List.getElem_toArray, List.getElem_cons_succ, List.getElem_cons_zero, List.setIfInBounds_toArray, List.set_cons_zero, List.set_cons_succ]
    refine wpAnyH_take (i := 3) (v := ?_) rfl (by kernel_rfl) (by kernel_rfl) (by kernel_rfl) (fun _ _ _ h => h) (Or.inl ⟨by rfl, ?_⟩) (by assumption) ?_
    rotate_left
    · intro W hSw
      obtain ⟨q0, q1, q2, q3⟩ := hSw
      go_simp
      with_reducible rfl
    try simp only [Act.put, List.getElem_toArray, List.getElem_cons_succ, List.getElem_cons_zero, List.setIfInBounds_toArray, List.set_cons_zero, List.set_cons_succ]
    refine wpAnyH_take (i := 4) (v := ?_) rfl (by kernel_rfl) (by kernel_rfl) (by kernel_rfl) (fun _ _ _ h => h) (Or.inl ⟨by rfl, ?_⟩) (by assumption) ?_
    rotate_left
    · intro W hSw
      obtain ⟨q0, q1, q2, q3⟩ := hSw
      go_simp
      with_reducible rfl
    try simp only [Act.put, List.getElem_toArray, List.getElem_cons_succ, List.getElem_cons_zero, List.setIfInBounds_toArray, List.set_cons_zero, List.set_cons_succ]
    refine wpAnyH_take (i := 5) (v := ?_) rfl (by kernel_rfl) (by kernel_rfl) (by kernel_rfl) (fun _ _ _ h => h) (Or.inl ⟨by rfl, ?_⟩) (by assumption) ?_
    rotate_left
    · intro W hSw
      obtain ⟨q0, q1, q2, q3⟩ := hSw
      go_simp
      with_reducible rfl
    try simp only [Act.put, List.getElem_toArray, List.getElem_cons_succ, List.getElem_cons_zero, List.setIfInBounds_toArray, List.set_cons_zero, List.set_cons_succ]
    refine wpAnyH_take (i := 6) (v := ?_) rfl (by kernel_rfl) (by kernel_rfl) (by kernel_rfl) (fun _ _ _ h => h) (Or.inl ⟨by rfl, ?_⟩) (by assumption) ?_
    rotate_left
    · intro W hSw
      obtain ⟨q0, q1, q2, q3⟩ := hSw
      go_simp
      with_reducible rfl
    try simp only [Act.put, List.getElem_toArray, List.getElem_cons_succ, List.getElem_cons_zero, List.setIfInBounds_toArray, List.set_cons_zero, List.set_cons_succ]
    refine wpAnyH_take (i := 7) (v := ?_) rfl (by kernel_rfl) (by kernel_rfl) (by kernel_rfl) (fun _ _ _ h => h) (Or.inl ⟨by rfl, ?_⟩) (by assumption) ?_
    rotate_left
    · intro W hSw
      obtain ⟨q0, q1, q2, q3⟩ := hSw
      go_simp
      with_reducible rfl
    try simp only [Act.put, List.getElem_toArray, List.getElem_cons_succ, List.getElem_cons_zero, List.setIfInBounds_toArray, List.set_cons_zero, List.set_cons_succ]
    refine wpAnyH_take (i := 8) (v := ?_) rfl (by kernel_rfl) (by kernel_rfl) (by kernel_rfl) (fun _ _ _ h => h) (Or.inl ⟨by rfl, ?_⟩) (by assumption) ?_
    rotate_left
    · intro W hSw
      obtain ⟨q0, q1, q2, q3⟩ := hSw
      go_simp
      with_reducible rfl
    try simp only [Act.put, List.getElem_toArray, List.getElem_cons_succ, List.getElem_cons_zero, List.setIfInBounds_toArray, List.set_cons_zero, List.set_cons_succ]
    refine wpAnyH_ready (rs := [9, 10]) (by kernel_rfl) (by simp) ?_
    refine AllReadyH.cons (o := _) rfl (fun K' hK => ?_) ?_
    · go_simp
      refine (HO.out _ (grown_drew (grown_refl _ _))).mono ?_
      rintro E w6 ⟨k2, b4, b5, b6, d4, d5, d6, ps', he2, hk2, rfl, _, hg6, _, _, _, P, hP, hPT, hPb, hPn⟩
      have G6 : Hid (W5.grownBy w6 none) := grown_trans (grown_drew (grown_refl _ _)) hg6
      have MA : Hid (LMid w W5 I z0 k (fun s l => kd (nxT y s l)) (syT y) (fun q => y.E.getD q []) (.pointer (some ⟨w6.heap.size, 0, none⟩)) (w6.alloc (.cells #[.int .i64 (I : Int), .int .i64 0, .int .i64 0, .slice none 0 0, .slice b4 k2 d4, .slice b5 k2 d5, .slice b6 k2 d6] 26))) := LMid.a HS5.out hg6 he2 hk2 hP hPT hPb hPn
      clear he2 hk2 hg6 hP hPT hPb hPn
      go_wp2_with fail
      refine hK.out _ _ (S5.out.kept G6.out) (fun hHeld => ?_)
      clear hK K'
      try simp only [Act.put, List.getElem_toArray, List.getElem_cons_succ, List.getElem_cons_zero, List.setIfInBounds_toArray, List.set_cons_zero, List.set_cons_succ]
      refine wpAnyH_ready (rs := [10]) (by kernel_rfl) (by simp) ?_
      refine AllReadyH.cons (o := _) rfl (fun K' hK => ?_) ?_
      · go_simp
        refine hK.out _ _ (S5.out.kept (grown_trans G6.out (grown_alloc _ _))) (fun hHeld => ?_)
        clear hK K'
        try simp only [Act.put, List.getElem_toArray, List.getElem_cons_succ, List.getElem_cons_zero, List.setIfInBounds_toArray, List.set_cons_zero, List.set_cons_succ]
        refine wpAnyH_ready (rs := [11]) (by kernel_rfl) (by simp) ?_
        refine AllReadyH.cons (o := _) rfl (fun K' hK => ?_) ?_
        · go_simp
          refine hK.out _ _ (S5.out.kept (grown_trans G6.out (grown_alloc _ _))) (fun hHeld => ?_)
          clear hK K'
          try simp only [Act.put, List.getElem_toArray, List.getElem_cons_succ, List.getElem_cons_zero, List.setIfInBounds_toArray, List.set_cons_zero, List.set_cons_succ]
          refine wpAnyH_done (by kernel_rfl) ?_ _
          go_wp2_with fail
          go_meet
          case rel => exact MA.out
        exact AllReadyH.nil
      exact AllReadyH.nil
    refine AllReadyH.cons (o := _) rfl (fun K' hK => ?_) ?_
    · go_simp
      refine hK.out _ _ (hHeld.kept (grown_alloc _ _)) (fun hHeld => ?_)
      clear hK K'
      try simp only [Act.put, List.getElem_toArray, List.getElem_cons_succ, List.getElem_cons_zero, List.setIfInBounds_toArray, List.set_cons_zero, List.set_cons_succ]
      refine wpAnyH_ready (rs := [9]) (by kernel_rfl) (by simp) ?_
      refine AllReadyH.cons (o := _) rfl (fun K' hK => ?_) ?_
      · go_simp
        refine (HO.out _ (grown_drew (grown_alloc _ _))).mono ?_
        rintro E w6 ⟨k2, b4, b5, b6, d4, d5, d6, ps', he2, hk2, rfl, _, hg6, _, _, _, P, hP, hPT, hPb, hPn⟩
        have G6 : Hid (W5.grownBy w6 none) := grown_trans (grown_drew (grown_alloc _ _)) hg6
        have hb6 : w6.heap[W5.heap.size]? = some (.cells #[.int .i64 0, .int .i64 0, .int .i64 0, .slice none 0 0, .slice none 0 0, .slice none 0 0, .slice none 0 0] 26 (0, 0)) := by
          have h1 := heap_alloc_new W5 tnZO
          exact (hg6.block W5.heap.size (by show _ < (W5.alloc tnZO).heap.size; simp) (by simp)).trans h1
        obtain ⟨⟨p0, p1, p2, p3, p4, p5, p6⟩, fz, W9, hW9, g9, _⟩ := seven_store hb6 (.int .i64 (I : Int)) (.int .i64 0) (.int .i64 0) (.slice none 0 0) (.slice b4 k2 d4) (.slice b5 k2 d5) (.slice b6 k2 d6)
        have hb9 := seven_heap hb6 hW9
        have HW9 : Hid (W9 = _) := hW9
        have MB : Hid (LMid w W5 I z0 k (fun s l => kd (nxT y s l)) (syT y) (fun q => y.E.getD q []) (.pointer (some ⟨W5.heap.size, 0, none⟩)) W9) := LMid.b HS5.out hg6 he2 hk2 hP hPT hPb hPn hb9 g9
        have G9 : Hid (W5.grownBy W9 none) := grown_new G6.out g9 (Nat.le_refl _)
        have f0 := fz 0
        have f1 := fz 1
        have f2 := fz 2
        have f3 := fz 3
        have f4 := fz 4
        have f5 := fz 5
        have f6 := fz 6
        clear he2 hk2 hg6 hP hPT hPb hPn hb6 fz hW9 g9 hb9
        go_wp2_with fail
        refine hK.out _ _ (S5.out.kept G6.out) (fun hHeld => ?_)
        clear hK K'
        try simp only [Act.put, List.getElem_toArray, List.getElem_cons_succ, List.getElem_cons_zero, List.setIfInBounds_toArray, List.set_cons_zero, List.set_cons_succ]
        refine wpAnyH_ready (rs := [11]) (by kernel_rfl) (by simp) ?_
        refine AllReadyH.cons (o := _) rfl (fun K' hK => ?_) ?_
        · go_simp
          rw [← HW9.out]
          refine hK.out _ _ (S5.out.kept G9.out) (fun hHeld => ?_)
          clear hK K'
          try simp only [Act.put, List.getElem_toArray, List.getElem_cons_succ, List.getElem_cons_zero, List.setIfInBounds_toArray, List.set_cons_zero, List.set_cons_succ]
          refine wpAnyH_done (by kernel_rfl) ?_ _
          go_wp2_with fail
          go_meet
          case rel => exact MB.out
        exact AllReadyH.nil
      exact AllReadyH.nil
    exact AllReadyH.nil
  case rest =>
    clear HO S5 HIR HBP HT3 ik
    rename World => wc
    obtain ⟨b7, k2, b4, b5, b6, d4, d5, d6, rfl, hb5, hbc, hbx, he2, hk2, hg5, P, hP7, hPT, hPb, hPn⟩ := hcut
    have bxc := box7_of hbx
    have x1 := bxc.1.b1
    have f1 := bxc.2 1
    obtain ⟨W6, hW6⟩ : ∃ W, W = (wc.setCell ⟨b7, 1, none⟩ (.int .i64 x.O)).drew := ⟨_, rfl⟩
    have HW6 : Hid (W6 = _) := hW6
    have hb6 : W6.heap[b7]? = some (.cells #[.int .i64 (I : Int), .int .i64 x.O, .int .i64 0, .slice none 0 0, .slice b4 k2 d4, .slice b5 k2 d5, .slice b6 k2 d6] 26 (0, 0)) := by
      have : (wc.setCell ⟨b7, 1, none⟩ (.int .i64 x.O)).drew.heap[b7]? = _ := heap_setCell_same wc b7 1 _ _ (.int .i64 x.O) hbx
      rw [← hW6] at this; exact this
    have g6 : wc.grownBy W6 (some b7) := by rw [hW6]; exact grown_drew (grown_set _ _ _)
    have bx6 := box7_of hb6
    have x3 := bx6.1.b3
    have f3 := bx6.2 3
    obtain ⟨W7, hW7⟩ : ∃ W, W = W6.setCell ⟨b7, 3, none⟩ (.slice a3' nF c3') := ⟨_, rfl⟩
    have HW7 : Hid (W7 = _) := hW7
    have hb7 : W7.heap[b7]? = some (.cells #[.int .i64 (I : Int), .int .i64 x.O, .int .i64 0, .slice a3' nF c3', .slice b4 k2 d4, .slice b5 k2 d5, .slice b6 k2 d6] 26 (0, 0)) := by
      have := heap_setCell_same W6 b7 3 _ _ (.slice a3' nF c3') hb6
      rw [← hW7] at this; exact this
    have g7 : wc.grownBy W7 (some b7) := by rw [hW7]; exact grown_trans g6 (grown_set _ _ _)
    have bx7 := (box7_of hb7).1
    have y0 := bx7.b0
    have y1 := bx7.b1
    have y2 := bx7.b2
    have y3 := bx7.b3
    have y4 := bx7.b4
    have y5 := bx7.b5
    have y6 := bx7.b6
    have g56 : W5.grownBy W6 none := grown_new hg5 g6 hb5
    have g57 : W5.grownBy W7 none := grown_new hg5 g7 hb5
    have S6a : Hid (SL6 w.heap.size w2.heap.size x.O (.slice a3' nF c3') wc.drew) := S6.out.kept (grown_drew hg5)
    have S6b : Hid (SL6 w.heap.size w2.heap.size x.O (.slice a3' nF c3') W6) := S6.out.kept g56
    have S6c : Hid (SL6 w.heap.size w2.heap.size x.O (.slice a3' nF c3') W7) := S6.out.kept g57
    have G17 : W1.grownBy W7 none := grown_trans G3.out (grown_trans G35.out g57)
    obtain ⟨⟨p0, p1, p2, p3, p4, p5, p6⟩, fz, W9, hW9, g9, q0, q1, q2, q3, q4, q5, q6⟩ := seven_store (HRB.out W7 G17) (.int .i64 (I : Int)) (.int .i64 x.O) (.int .i64 0) (.slice a3' nF c3') (.slice b4 k2 d4) (.slice b5 k2 d5) (.slice b6 k2 d6)
    have HW9 : Hid (W9 = _) := hW9
    have F : Hid (Po (.returned (tnV (I : Int) x.O 0 a3' nF c3' b4 k2 d4 b5 k2 d5 b6 k2 d6)) W9) := by
      have hY := HY.out
      have hP9 : P W9 := hPb W7 W9 (w.heap.size + 1) (hP7 W7 g7) HS5.out g9
      have i7 : Ints W7 a3' (pushT x I B).F := by
        have h1 := (HT5.out).first
        rw [← hY] at h1
        exact h1.grown g57
      have i9 : Ints W9 a3' (pushT x I B).F := ints_far i7 (fun _ z hz => by have h1 := HNew.out z hz; have h2 := HSz.out; omega) g9
      show Po _ _
      rw [HPo.out]
      have hkd := HKD.out
      rw [← hY] at hkd hPT he2
      rw [← HnF.out]
      rw [← HZ0.out] at hPT he2
      refine ⟨B, k, kd, k2, a3', b4, b5, b6, c3', d4, d5, d6, HSI.out, HEnd.out, hkn, hkd, he2, hk2, HCp.out, rfl, grown_new (grown_trans G1.out G17) g9 (by omega), fun W => P W ∧ Ints W a3' (pushT x I B).F, ⟨hP9, i9⟩, fun W h => ?_, fun W W' b h1 h2 h3 => ⟨hPb W W' b h1.1 (by have := HS5.out; omega) h3, ints_far h1.2 (fun _ z hz => by have h4 := HNew.out z hz; have h5 := HSz.out; omega) h3⟩, fun W W' h1 h2 => ⟨hPn W W' h1.1 h2, h1.2.grown h2⟩⟩
      have h4 := hPT W h.1
      refine ⟨h.2, h4.next, h4.says, h4.last, ?_, h4.m4, h4.m5, h4.m6⟩
      show (pushT x I B).F.length ≤ _
      rw [HnF.out]; unfold maxLen; omega
    have f10 := fz 0
    have f11 := fz 1
    have f12 := fz 2
    have f13 := fz 3
    have f14 := fz 4
    have f15 := fz 5
    have f16 := fz 6
    clear hb5 hbc hbx he2 hk2 hg5 hP7 hPT hPb hPn bxc hW6 hb6 g6 bx6 hW7 hb7 g7 bx7 g56 g57 G17 fz hW9 g9
    go_wp2_with fail
    refine wp_region_held_drew (S := SL6 w.heap.size w2.heap.size x.O (.slice a3' nF c3')) (by kernel_rfl) (S6a.out) (fun hHeld => ?_)
    refine wpAnyH_take (i := 0) (v := ?_) rfl (by kernel_rfl) (by kernel_rfl) (by kernel_rfl) (fun _ _ _ h => h) (Or.inl ⟨by rfl, ?_⟩) (by assumption) ?_
    rotate_left
    · intro W hSw
      obtain ⟨q0, q1⟩ := hSw
      go_simp
      with_reducible rfl
    try simp only [Act.put, List.getElem_toArray, List.getElem_cons_succ, List.getElem_cons_zero, List.setIfInBounds_toArray, List.set_cons_zero, List.set_cons_succ]
    refine wpAnyH_take (i := 1) (v := ?_) rfl (by kernel_rfl) (by kernel_rfl) (by kernel_rfl) (fun _ _ _ h => h) (Or.inl ⟨by rfl, ?_⟩) (by assumption) ?_
    rotate_left
    · intro W hSw
      obtain ⟨q0, q1⟩ := hSw
      go_simp
      with_reducible rfl
    try simp only [Act.put, List.getElem_toArray, List.getElem_cons_succ, List.getElem_cons_zero, List.setIfInBounds_toArray, List.set_cons_zero, List.set_cons_succ]
    refine wpAnyH_take (i := 2) (v := ?_) rfl (by kernel_rfl) (by kernel_rfl) (by kernel_rfl) (fun _ _ _ h => h) (Or.inl ⟨by rfl, ?_⟩) (by assumption) ?_
    rotate_left
    · intro W hSw
      obtain ⟨q0, q1⟩ := hSw
      go_simp
      with_reducible rfl
    try simp only [Act.put, List.getElem_toArray, List.getElem_cons_succ, List.getElem_cons_zero, List.setIfInBounds_toArray, List.set_cons_zero, List.set_cons_succ]
    refine wpAnyH_take (i := 3) (v := ?_) rfl (by kernel_rfl) (by kernel_rfl) (by kernel_rfl) (fun _ _ _ h => h) (Or.inl ⟨by rfl, ?_⟩) (by assumption) ?_
    rotate_left
    · intro W hSw
      obtain ⟨q0, q1⟩ := hSw
      go_simp
      with_reducible rfl
    try simp only [Act.put, List.getElem_toArray, List.getElem_cons_succ, List.getElem_cons_zero, List.setIfInBounds_toArray, List.set_cons_zero, List.set_cons_succ]
    refine wpAnyH_take (i := 4) (v := ?_) rfl (by kernel_rfl) (by kernel_rfl) (by kernel_rfl) (fun _ _ _ h => h) (Or.inl ⟨by rfl, ?_⟩) (by assumption) ?_
    rotate_left
    · intro W hSw
      obtain ⟨q0, q1⟩ := hSw
      go_simp
      with_reducible rfl
    try simp only [Act.put, List.getElem_toArray, List.getElem_cons_succ, List.getElem_cons_zero, List.setIfInBounds_toArray, List.set_cons_zero, List.set_cons_succ]
    refine wpAnyH_ready (rs := [5]) (by kernel_rfl) (by simp) ?_
    refine AllReadyH.cons (o := _) rfl (fun K' hK => ?_) ?_
    · go_simp
      rw [← HW6.out]
      refine hK.out _ _ (S6b.out) (fun hHeld => ?_)
      clear hK K'
      try simp only [Act.put, List.getElem_toArray, List.getElem_cons_succ, List.getElem_cons_zero, List.setIfInBounds_toArray, List.set_cons_zero, List.set_cons_succ]
      refine wpAnyH_take (i := 6) (v := ?_) rfl (by kernel_rfl) (by kernel_rfl) (by kernel_rfl) (fun _ _ _ h => h) (Or.inl ⟨by rfl, ?_⟩) (by assumption) ?_
      rotate_left
      · intro W hSw
        obtain ⟨q0, q1⟩ := hSw
        go_simp
        with_reducible rfl
      try simp only [Act.put, List.getElem_toArray, List.getElem_cons_succ, List.getElem_cons_zero, List.setIfInBounds_toArray, List.set_cons_zero, List.set_cons_succ]
      refine wpAnyH_ready (rs := [7]) (by kernel_rfl) (by simp) ?_
      refine AllReadyH.cons (o := _) rfl (fun K' hK => ?_) ?_
      · go_simp
        rw [← HW7.out]
        refine hK.out _ _ (S6c.out) (fun hHeld => ?_)
        clear hK K'
        try simp only [Act.put, List.getElem_toArray, List.getElem_cons_succ, List.getElem_cons_zero, List.setIfInBounds_toArray, List.set_cons_zero, List.set_cons_succ]
        refine wpAnyH_done (by kernel_rfl) ?_ _
        go_wp2_with fail
        rw [← HW9.out]
        exact bodyPost_ret (v := tnV (I : Int) x.O 0 a3' nF c3' b4 k2 d4 b5 k2 d5 b6 k2 d6) (by simp [results, Try.results20, go_sem, q0, q1, q2, q3, q4, q5, q6]) rfl F.out
      exact AllReadyH.nil
    exact AllReadyH.nil

end Go.Proofs.Ytodcmlcpicabaaa
