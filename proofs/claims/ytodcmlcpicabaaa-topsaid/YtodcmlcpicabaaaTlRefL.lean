/- The reference's Least: pushed, then by classes. -/
import Derived.Test.YtodcmlcpicabaaaTlRefL0
import Derived.Test.YtodcmlcpicabaaaTlLeast
namespace Go.Proofs.Ytodcmlcpicabaaa
open Go.RowKit
set_option linter.unusedVariables false
set_option linter.unusedSimpArgs false

abbrev refL (x : TrI) (I : Nat) (B : List (List Int)) (cls : Nat → Nat) (k : Nat) : TrI := ofK cls x.O (pushT x I B).F I (nxT x) (syT (pushT x I B)) (fun q => (pushT x I B).E.getD q []) (bfsL cls (nxT x) I x.S.toNat k)
def RLeastP (x : TrI) (I : Nat) (D : Nat → Prop) (w : World) (e : Ending) (w' : World) : Prop := ∃ B cls k3 a3 a4 a5 a6 c3 c4 c5 c6, SureIs x I B ∧ (∀ a b, a < x.N.length → b < x.N.length → (cls a = cls b ↔ BisT (pushT x I B) I a b)) ∧ IsEnd (bfsL cls (nxT x) I x.S.toNat) k3 ∧ k3 ≤ x.N.length ∧ e = .returned (tnV (I : Int) x.O 0 a3 (pushT x I B).F.length c3 a4 k3 c4 a5 k3 c5 a6 k3 c6) ∧ TnAt w' (refL x I B cls k3) a3 a4 a5 a6 ∧ w.grownBy w' none ∧ ∀ W b, D b → w'.grownBy W (some b) → TnAt W (refL x I B cls k3) a3 a4 a5 a6
theorem push_shp {x : TrI} {I : Nat} {B : List (List Int)} {mb : Nat} (hr : ReadT x I mb) (hs : SureIs x I B) : ShpT (pushT x I B) I (2 * mb) := by
  have hsu := hs.sure hr.he
  obtain ⟨h1, h2, h3⟩ := push_lens x I B
  have l8 : ∀ s, s < x.N.length → (B.getD s []).length ≤ mb := fun s hs' => by
    obtain ⟨r, hr2⟩ := hsu.last s hs'
    have := hr.e8 s hs'
    rw [hr2, List.length_append] at this
    omega
  refine ⟨hr.n1, h1, h2, hr.rn, h3, hr.nx, fun s hs' a ha => ?_, fun s hs' => ?_⟩
  · have hs2 : s < x.N.length := hs'
    rw [pushT_sy (x := x) (I := I) (B := B) hs2 ha, List.length_drop, List.length_append]
    have h1 := hr.y8 s hs2 a ha
    have h2 := l8 (nxT x s a) (hr.lt hs2 ha).1
    omega
  · have hs2 : s < x.N.length := hs'
    rw [pushT_last (x := x) (I := I) (B := B) hs2, List.length_drop]
    have := hr.e8 s hs2
    omega

/-- While classes are parted: the next ones, the first of each, those before. -/
structure ClsT (B : Nat) (w : World) (n gn g3 c3 : Nat) (a7 : Option Addr) (c7 : Nat) (e : Nat → Nat → Bool) (f : Nat → Nat) (fs : List Nat) (q : Nat) : Prop where
  own : OwnsP B 0 0 w [(3, .slice (some ⟨gn, 0, none⟩) n n, fvals n fun s => if s < q then clE e n s else 0), (3, .slice a7 fs.length c7, vals (natInts fs)), (3, .slice (some ⟨g3, 0, none⟩) n c3, fvals n f)] []
section
variable {B : Nat} {w w' : World} {n gn g3 c3 : Nat} {a7 : Option Addr} {c7 : Nat} {e : Nat → Nat → Bool} {f : Nat → Nat} {fs : List Nat} {q : Nat}
theorem ClsT.kept (h : ClsT B w n gn g3 c3 a7 c7 e f fs q) (g : w.grownBy w' none) : ClsT B w' n gn g3 c3 a7 c7 e f fs q := ⟨h.own.kept g⟩
theorem ClsT.cls3 (h : ClsT B w n gn g3 c3 a7 c7 e f fs q) (g : w.grownBy w' none) {s : Nat} (hs : s < n) : w'.cell? ⟨g3, s, none⟩ = some (.int .i64 ((f s : Nat) : Int)) :=
  (((h.own.kept g).perm (List.perm_middle (l₁ := [_, _]))).cell (fvals_get hs)).1
theorem ClsT.first (h : ClsT B w n gn g3 c3 a7 c7 e f fs q) {k : Nat} (hk : k < fs.length) : ∃ g7, a7 = some ⟨g7, 0, none⟩ ∧ w.cell? ⟨g7, k, none⟩ = some (.int .i64 ((fs.getD k 0 : Nat) : Int)) := by
  have h2 := h.own.perm (List.perm_middle (l₁ := [_]))
  obtain ⟨g, cap, e, _⟩ := h2.own.form (by simp; omega)
  simp only [Value.slice.injEq] at e
  obtain ⟨rfl, _, _⟩ := e
  exact ⟨g, rfl, h2.own.cell (natInts_get hk)⟩
theorem ClsT.put (h : ClsT B w n gn g3 c3 a7 c7 e f fs q) (hq : q < n) {k : Nat} (hk : k = clE e n q) : w.cell? ⟨gn, q, none⟩ = some (.int .i64 0) ∧ w.frozen? ⟨gn, q, none⟩ = false ∧ ClsT B (w.setCell ⟨gn, q, none⟩ (.int .i64 (k : Int))) n gn g3 c3 a7 c7 e f fs (q + 1) ∧ B ≤ gn := by
  obtain ⟨c1, f1⟩ := h.own.cell (fvals_get (f := fun s => if s < q then clE e n s else 0) hq)
  simp only [Nat.lt_irrefl, if_false] at c1
  have h1 := h.own.set hq (.int .i64 (k : Int))
  rw [fvals_set hq hk] at h1
  exact ⟨c1, f1, ⟨h1⟩, (h.own.own.row.lt gn rfl).1⟩
theorem ClsT.push (h : ClsT B w n gn g3 c3 a7 c7 e f fs q) (hB : B ≤ w.heap.size) (hl : fs.length ≤ 1000) (y : Nat) : ∃ g cap w2, (AppY #[22, 22] 22 #[.slice a7 fs.length c7, .slice (some ⟨w.heap.size, 0, none⟩) 1 1]).run Try.prog (w.alloc (.cells #[.int .i64 (y : Int)] 3)) = .ok (.slice (some ⟨g, 0, none⟩) (fs.length + 1) cap) w2 ∧ ClsT B w2 n gn g3 c3 (some ⟨g, 0, none⟩) cap e f (fs ++ [y]) q ∧ (∀ w0 : World, w0.heap.size ≤ B → w0.grownBy w none → w0.grownBy w2 none) := by
  have h2 := h.own.perm (List.perm_middle (l₁ := [_]))
  obtain ⟨g, cap, w2, hr, h3, h4, h5⟩ := h2.pushI (n := fs.length) (by simp [vals]) hB rfl (by omega) (.int .i64 (y : Int)) rfl
  refine ⟨g, cap, w2, hr, ⟨?_⟩, h4⟩
  have h6 := h3.perm (List.perm_middle (l₁ := [_])).symm
  have e : vals (natInts fs) ++ [Value.int .i64 (y : Int)] = vals (natInts (fs ++ [y])) := by simp [vals, natInts]
  rw [e] at h6
  simpa using h6
end
def SK12 (bt : Nat) (I O S : Int) (a3 : Option Addr) (n3 c3 : Nat) (a4 : Option Addr) (n4 c4 : Nat) (a5 : Option Addr) (n5 c5 : Nat) (a6 : Option Addr) (n6 c6 : Nat) (g7 k p : Nat) (W : World) : Prop := Box7 W bt I O S a3 n3 c3 a4 n4 c4 a5 n5 c5 a6 n6 c6 ∧ W.cell? ⟨g7, k, none⟩ = some (.int .i64 (p : Int))
theorem SK12.kept {bt : Nat} {I O S : Int} {a3 : Option Addr} {n3 c3 : Nat} {a4 : Option Addr} {n4 c4 : Nat} {a5 : Option Addr} {n5 c5 : Nat} {a6 : Option Addr} {n6 c6 : Nat} {g7 k p : Nat} {W W' : World} (h : SK12 bt I O S a3 n3 c3 a4 n4 c4 a5 n5 c5 a6 n6 c6 g7 k p W) (g : W.grownBy W' none) : SK12 bt I O S a3 n3 c3 a4 n4 c4 a5 n5 c5 a6 n6 c6 g7 k p W' := ⟨h.1.grown g, g.cell h.2 (by simp)⟩

attribute [local go_sem ↓] appY_fold in
set_option maxHeartbeats 3200000 in
set_option maxRecDepth 100000 in
theorem leastR16_any (x : TrI) (I : Nat) (a3 a4 a5 a6 : Option Addr) (c3 c4 c5 c6 : Nat) (w : World) (h : TnAt w x a3 a4 a5 a6) (hk : CapsAt w a6 x.E) {mb : Nat} (hr : ReadT x I mb) (hmb : mb ≤ 100) (hxI : x.I = (I : Int)) (hI : I ≤ 4) (hN : x.N.length ≤ 100) (D : Nat → Prop) (hDf : FarA w a6 x.E D) (hDl : ∀ b, D b → b < w.heap.size) :
    Calls Try.prog 25 #[tnV x.I x.O x.S a3 x.F.length c3 a4 x.N.length c4 a5 x.Y.length c5 a6 x.E.length c6] w (RLeastP x I D w) := by
  obtain ⟨W0, hW0, gg0, s0, bx⟩ := box7_new w x.I x.O x.S a3 x.F.length c3 a4 x.N.length c4 a5 x.Y.length c5 a6 x.E.length c6
  obtain ⟨W1, hW1⟩ : ∃ W, W = W0.alloc tnZO := ⟨_, rfl⟩
  have g1 : W0.grownBy W1 none := by rw [hW1]; exact grown_alloc _ _
  have hrb : W1.heap[w.heap.size + 1]? = some (.cells #[.int .i64 0, .int .i64 0, .int .i64 0, .slice none 0 0, .slice none 0 0, .slice none 0 0, .slice none 0 0] 26 (0, 0)) := by
    have := heap_alloc_new W0 tnZO
    rw [← hW1, s0] at this
    exact this
  have hbt : W1.heap[w.heap.size]? = some (.cells #[.int .i64 x.I, .int .i64 x.O, .int .i64 x.S, .slice a3 x.F.length c3, .slice a4 x.N.length c4, .slice a5 x.Y.length c5, .slice a6 x.E.length c6] 26 (0, 0)) := by
    have h1 : W0.heap[w.heap.size]? = some (.cells #[.int .i64 x.I, .int .i64 x.O, .int .i64 x.S, .slice a3 x.F.length c3, .slice a4 x.N.length c4, .slice a5 x.Y.length c5, .slice a6 x.E.length c6] 26 (0, 0)) := by rw [hW0]; exact heap_alloc_new w (tnO x.I x.O x.S a3 x.F.length c3 a4 x.N.length c4 a5 x.Y.length c5 a6 x.E.length c6)
    exact (g1.block _ (by rw [s0]; omega) (by simp)).trans h1
  have sW : W1.heap.size = w.heap.size + 1 + 1 := by rw [hW1, World.size_alloc, s0]
  have HW1 : Hid (W1 = (w.alloc (tnO x.I x.O x.S a3 x.F.length c3 a4 x.N.length c4 a5 x.Y.length c5 a6 x.E.length c6)).alloc tnZO) := by show _ = _; rw [hW1, hW0]
  have G1 : Hid (w.grownBy W1 none) := grown_trans gg0 g1
  have HPu : Hid (Calls Try.prog 41 #[tnV x.I x.O x.S a3 x.F.length c3 a4 x.N.length c4 a5 x.Y.length c5 a6 x.E.length c6] W1 (RPushP x I a4 c4 D w W1)) := pushedR_any x I a3 a4 a5 a6 c3 c4 c5 c6 w W1 G1.out h hk hr hmb hxI hI hN D hDf hDl
  have HDl : Hid (∀ b, D b → b < w.heap.size) := hDl
  clear hDf hDl
  have HR : Hid (ReadT x I mb) := hr
  have HSz : Hid (W1.heap.size = w.heap.size + 1 + 1) := sW
  have HBT : Hid (W1.heap[w.heap.size]? = some (.cells #[.int .i64 x.I, .int .i64 x.O, .int .i64 x.S, .slice a3 x.F.length c3, .slice a4 x.N.length c4, .slice a5 x.Y.length c5, .slice a6 x.E.length c6] 26 (0, 0))) := hbt
  have HRB : Hid (∀ W, W1.grownBy W none → W.heap[w.heap.size + 1]? = some (.cells #[.int .i64 0, .int .i64 0, .int .i64 0, .slice none 0 0, .slice none 0 0, .slice none 0 0, .slice none 0 0] 26 (0, 0))) := fun W hW => (hW.block _ (by omega) (by simp)).trans hrb
  have n1 := hr.n1
  have hst := hr.st
  unfold StT at hst
  obtain ⟨st, hs0⟩ : ∃ st : Nat, x.S = (st : Int) := ⟨x.S.toNat, by omega⟩
  have HS0 : Hid (x.S = (st : Int)) := hs0
  have hstn : st < x.N.length := by omega
  have x0 := (bx.grown g1).b0
  have x1 := (bx.grown g1).b1
  have x2 := (bx.grown g1).b2
  have x3 := (bx.grown g1).b3
  have x4 := (bx.grown g1).b4
  have x5 := (bx.grown g1).b5
  have x6 := (bx.grown g1).b6
  obtain ⟨Po, hPo⟩ : ∃ P, P = RLeastP x I D w := ⟨_, rfl⟩
  have HPo : Hid (Po = RLeastP x I D w) := hPo
  have HxI : Hid (x.I = (I : Int)) := hxI
  rw [← hPo]
  rw [HW1.out] at x0 x1 x2 x3 x4 x5 x6
  clear hW0 hW1 gg0 g1 s0 bx h hk hr hrb hbt sW hPo hst hs0 hxI
  go_enter Try.func25, Try.ntmps25
  go_wp2_with fail
  rw [← HW1.out]
  clear x0 x1 x2 x3 x4 x5 x6
  refine HPu.out.mono ?_
  rintro E w2 ⟨B, aH, b5, b6, cH, d5, d6, yx, yc, ex, ec, hsi, rfl, hg2, P, hP, hPT, hPb, hPn, Q, hPQ, hQT, hQb, hQn⟩
  have HSI : Hid (SureIs x I B) := hsi
  have G2 : Hid (W1.grownBy w2 none) := hg2
  have hbt2 : w2.heap[w.heap.size]? = some (.cells #[.int .i64 x.I, .int .i64 x.O, .int .i64 x.S, .slice a3 x.F.length c3, .slice a4 x.N.length c4, .slice a5 x.Y.length c5, .slice a6 x.E.length c6] 26 (0, 0)) := (hg2.block _ (by have := HSz.out; omega) (by simp)).trans HBT.out
  obtain ⟨nF, hnF⟩ : ∃ n, (pushT x I B).F.length = n := ⟨_, rfl⟩
  have HnF : Hid ((pushT x I B).F.length = nF) := hnF
  rw [hnF]
  obtain ⟨⟨p0, p1, p2, p3, p4, p5, p6⟩, fz, W3, hW3, g3, _⟩ := seven_store hbt2 (.int .i64 (I : Int)) (.int .i64 x.O) (.int .i64 x.S) (.slice aH nF cH) (.slice a4 x.N.length c4) (.slice b5 x.N.length d5) (.slice b6 x.N.length d6)
  have hb3 := seven_heap hbt2 hW3
  have HW3 : Hid (W3 = _) := hW3
  have hP3 : P W3 := hPb w2 W3 _ hP (Nat.le_refl _) (by have := HSz.out; omega) g3
  have HPW : Hid (P W3) := hP3
  have HPn : Hid (∀ W W', P W → W.grownBy W' none → P W') := hPn
  have HPQ : Hid (∀ W, P W → Q W) := hPQ
  have HQb : Hid (∀ W W' b, Q W → D b → W.grownBy W' (some b) → Q W') := hQb
  have HPb : Hid (∀ W W' b, P W → w.heap.size ≤ b → b < W1.heap.size + 1 + 1 → W.grownBy W' (some b) → P W') := hPb
  obtain ⟨y, hy⟩ : ∃ y, pushT x I B = y := ⟨_, rfl⟩
  have HY : Hid (pushT x I B = y) := hy
  have hpl := push_lens x I B
  rw [hy] at hPT hpl hQT
  have HPT : Hid (∀ W, P W → TnAt W y aH a4 b5 b6 ∧ FixAt y b5 b6 yx yc ex ec W) := hPT
  have HQI : Hid (∀ W, Q W → Ints W aH y.F) := fun W hW => (hQT W hW).1
  have HFm : Hid (y.F.length ≤ maxLen) := (hPT W3 hP3).1.m3
  have hyV : y.I = (I : Int) ∧ y.O = x.O ∧ y.S = x.S ∧ y.F.length = nF ∧ y.N.length = x.N.length ∧ y.Y.length = x.N.length ∧ y.E.length = x.N.length := by
    refine ⟨by rw [← hy]; exact HxI.out, by rw [← hy]; rfl, by rw [← hy]; rfl, by rw [← hy]; exact hnF, by rw [← hy]; rfl, hpl.1, hpl.2.1⟩
  have HYV : Hid (y.I = (I : Int) ∧ y.O = x.O ∧ y.S = x.S ∧ y.F.length = nF ∧ y.N.length = x.N.length ∧ y.Y.length = x.N.length ∧ y.E.length = x.N.length) := hyV
  have HSh : Hid (ShpT y I (2 * mb)) := by show ShpT y I (2 * mb); rw [← hy]; exact push_shp HR.out hsi
  have HNx : Hid (nxT y = nxT x) := by show nxT y = nxT x; rw [← hy]; rfl
  have hw3 : w.grownBy W3 none := grown_new (grown_trans G1.out hg2) g3 (Nat.le_refl _)
  have HG3 : Hid (w.grownBy W3 none) := hw3
  have HS3 : Hid (w.heap.size + 1 < W3.heap.size) := by have h1 := HSz.out; have h2 := hg2.size; have h3 := g3.size; show _ < _; omega
  have HB7 : Hid (∀ W, W3.grownBy W none → Box7 W w.heap.size (I : Int) x.O x.S aH nF cH a4 x.N.length c4 b5 x.N.length d5 b6 x.N.length d6) := fun W hW => (box7_of hb3).1.grown hW
  have HRB3 : Hid (∀ W, W3.grownBy W none → W.heap[w.heap.size + 1]? = some (.cells #[.int .i64 0, .int .i64 0, .int .i64 0, .slice none 0 0, .slice none 0 0, .slice none 0 0, .slice none 0 0] 26 (0, 0))) := fun W hW => by
    have h1 := HRB.out w2 hg2
    have h2 := (g3.block (w.heap.size + 1) (by have := HSz.out; have := hg2.size; omega) (by simp)).trans h1
    exact (hW.block _ (by have := HS3.out; omega) (by simp)).trans h2
  have HTY : Hid (∀ W, W3.grownBy W none → TnAt W y aH a4 b5 b6) := fun W hW => ((hPT W3 hP3).1).grown hW
  have HAk : Hid (∀ (W : World) (e : Nat → Nat → Bool) (f : Nat → Nat) (g cc : Nat), W3.grownBy W none → e = alkB y I f → (∀ s, s < x.N.length → W.cell? ⟨g, s, none⟩ = some (.int .i64 ((f s : Nat) : Int))) → ∀ p q, p < x.N.length → q < x.N.length → Calls Try.prog 42 #[tnV (I : Int) x.O x.S aH nF cH a4 x.N.length c4 b5 x.N.length d5 b6 x.N.length d6, .slice (some ⟨g, 0, none⟩) x.N.length cc, .int .i64 (p : Int), .int .i64 (q : Int)] W (TellsB (e p q = true) W)) := fun W e f g cc hW he hcl p q hp hq => by
    have h1 := alikeR_any y I (2 * mb) aH a4 b5 b6 cH c4 d5 d6 g cc f p q W (HTY.out W hW) HSh.out HYV.out.1 (by omega) hI (by rw [HYV.out.2.2.2.2.1]; omega) (by rw [HYV.out.2.2.2.2.1]; exact hcl) (by rw [HYV.out.2.2.2.2.1]; exact hp) (by rw [HYV.out.2.2.2.2.1]; exact hq)
    rw [HYV.out.1, HYV.out.2.1, HYV.out.2.2.1, HYV.out.2.2.2.1, HYV.out.2.2.2.2.1, HYV.out.2.2.2.2.2.1, HYV.out.2.2.2.2.2.2] at h1
    refine h1.mono fun e' w' ⟨b, h2, h3, h4⟩ => ⟨b, h2, ?_, h4⟩
    rw [h3, he, alkB_iff]
    exact Iff.rfl
  have HFC : Hid (∃ bb5 oo5 bb6 oo6, b5 = some ⟨bb5, oo5, none⟩ ∧ b6 = some ⟨bb6, oo6, none⟩ ∧ ∀ W, Q W → ∀ q, q < x.N.length → (W.cell? ⟨bb5, oo5 + q, none⟩ = some (.slice (yx q) I (yc q)) ∧ RowsAt W (yx q) (y.Y.getD q [])) ∧ (W.cell? ⟨bb6, oo6 + q, none⟩ = some (.slice (ex q) (y.E.getD q []).length (ec q)) ∧ Ints W (ex q) (y.E.getD q []))) := by
    obtain ⟨bb5, oo5, bb6, oo6, e5, e6, _⟩ := (hQT W3 (hPQ W3 hP3)).2
    refine ⟨bb5, oo5, bb6, oo6, e5, e6, fun W hW q hq => ?_⟩
    obtain ⟨cc5, pp5, cc6, pp6, e5', e6', hf⟩ := (hQT W hW).2
    rw [e5] at e5'
    rw [e6] at e6'
    simp only [Option.some.injEq, Addr.mk.injEq, and_true] at e5' e6'
    obtain ⟨rfl, rfl⟩ := e5'
    obtain ⟨rfl, rfl⟩ := e6'
    have h1 := hf q (by rw [hyV.2.2.2.2.1]; exact hq)
    rw [hpl.2.2 q hq] at h1
    exact h1
  have HNl : Hid (∀ s, s < x.N.length → ∀ l, l < I → nxT y s l < x.N.length) := fun s hs l hl => by rw [HNx.out]; exact (HR.out.lt hs hl).1
  have f0 := fz 0
  have f1 := fz 1
  have f2 := fz 2
  have f3 := fz 3
  have f4 := fz 4
  have f5 := fz 5
  have f6 := fz 6
  have y4 := (HB7.out W3 (grown_refl _ _)).b4
  have hm0 := make_intsT W3 x.N.length (by omega)
  have hs23 : W3.heap.size = w2.heap.size := by rw [hW3]; simp [World.setCell]
  have O0 : Hid (OwnsP W3.heap.size 0 0 (W3.alloc (.cells (Array.replicate x.N.length (Value.int .i64 0)) 3)) [(3, .slice (some ⟨w2.heap.size, 0, none⟩) x.N.length x.N.length, fvals x.N.length fun _ => 0)] []) := by
    have h1 := (OwnsP.no (B := W3.heap.size) (lo := 0) (hi := 0) (w := W3)).made (arr := Array.replicate x.N.length (Value.int .i64 0)) (n := x.N.length) (Nat.le_refl _) 3 (by simp) (by unfold maxLen; omega)
    have e : (Array.replicate x.N.length (Value.int .i64 0)).toList = fvals x.N.length fun _ => 0 := by
      apply List.ext_getElem (by simp [fvals])
      intro i h1 h2
      simp [fvals]
    rw [e] at h1
    rw [show (⟨w2.heap.size, 0, none⟩ : Addr) = ⟨W3.heap.size, 0, none⟩ by rw [hs23]]
    exact h1
  rw [hW3] at hm0 y4
  clear hsi hg2 hbt2 hnF fz hW3 g3 hb3 hP3 hP hPT hPb hPn hPQ hQT hQb hQn hy hpl hyV hw3 HPu HRB HBT
  go_wp2_with fail
  rw [← HW3.out]
  clear p0 p1 p2 p3 p4 p5 p6 f0 f1 f2 f3 f4 f5 f6 hm0 y4
  go_loopw [4, 5] (fun v4 v5 W => ∃ (cnt : Nat) (f : Nat → Nat) (g3 c3' : Nat), v4 = .slice (some ⟨g3, 0, none⟩) x.N.length c3' ∧ v5 = .int .i64 (cnt : Int) ∧ cnt ≤ x.N.length ∧ MoT y I x.N.length f cnt ∧ OwnsP W3.heap.size 0 0 W [(3, .slice (some ⟨g3, 0, none⟩) x.N.length c3', fvals x.N.length f)] [] ∧ W3.grownBy W none) (fun _ v _ => x.N.length - (intOf v).toNat)
  case atStart => exact ⟨0, _, _, _, rfl, rfl, Nat.zero_le _, MoT.start y I x.N.length, O0.out, grown_alloc _ _⟩
  case round =>
    obtain ⟨wo, hwo⟩ : ∃ W, W = wr := ⟨_, rfl⟩
    subst hwo
    obtain ⟨cnt, f, g3, c3', rfl, rfl, hcnt, hM, ho, hg⟩ := hrel
    have MO : Hid (MoT y I x.N.length f cnt) := hM
    have G : Hid (W3.grownBy wo none) := hg
    have hm1 := make_intsT wo x.N.length (by omega)
    obtain ⟨gn, hgn⟩ : ∃ gn, wo.heap.size = gn := ⟨_, rfl⟩
    obtain ⟨W5, hW5⟩ : ∃ W, W = wo.alloc (.cells (Array.replicate x.N.length (Value.int .i64 0)) 3) := ⟨_, rfl⟩
    have G5 : Hid (W3.grownBy W5 none) := by rw [hW5]; exact grown_trans hg (grown_alloc _ _)
    have O5 : Hid (ClsT W3.heap.size W5 x.N.length gn g3 c3' none 0 (alkB y I f) f (fsE (alkB y I f) 0) 0) := by
      have h1 := ((ho.empty 3).made (arr := Array.replicate x.N.length (Value.int .i64 0)) (n := x.N.length) hg.size 3 (by simp) (by unfold maxLen; omega))
      have e : (Array.replicate x.N.length (Value.int .i64 0)).toList = fvals x.N.length fun s => if s < 0 then clE (alkB y I f) x.N.length s else 0 := by
        apply List.ext_getElem (by simp [fvals])
        intro i h1 h2
        simp [fvals]
      rw [e, hgn, ← hW5] at h1
      exact ⟨h1⟩
    rw [← hW5, hgn] at hm1
    clear ho hg hM hW5 hgn O0
    go_wp2_with fail
    clear hm1
    go_loopw [7, 8] (fun v7 v8 W => ∃ (q : Nat) (a7 : Option Addr) (c7 : Nat), v7 = .slice a7 (fsE (alkB y I f) q).length c7 ∧ v8 = .int .i64 (q : Int) ∧ q ≤ x.N.length ∧ ClsT W3.heap.size W x.N.length gn g3 c3' a7 c7 (alkB y I f) f (fsE (alkB y I f) q) q ∧ W3.grownBy W none) (fun _ v _ => x.N.length - (intOf v).toNat)
    case atStart => exact ⟨0, none, 0, rfl, rfl, Nat.zero_le _, O5.out, G5.out⟩
    case round =>
      clear O5 G5
      obtain ⟨wq, hwq⟩ : ∃ W, W = wr := ⟨_, rfl⟩
      subst hwq
      obtain ⟨q, a7, c7, rfl, rfl, hq, ho, hg⟩ := hrel
      have hfl := fsE_len (alkB y I f) q
      have hflt := fsE_lt (alkB y I f) q
      obtain ⟨fs, hfs⟩ : ∃ fs, fsE (alkB y I f) q = fs := ⟨_, rfl⟩
      have HFS : Hid (fsE (alkB y I f) q = fs) := hfs
      rw [hfs] at ho hfl hflt
      rw [hfs]
      have HFlt : Hid (∀ r, r ∈ fs → r < q) := hflt
      have O : Hid (ClsT W3.heap.size wq x.N.length gn g3 c3' a7 c7 (alkB y I f) f fs q) := ho
      have GQ : Hid (W3.grownBy wq none) := hg
      clear ho hg hfs hflt
      by_cases hqn : q < x.N.length
      · have iq : (q : Int) < (x.N.length : Int) := by omega
        go_wp2_with fail
        go_loopw [9] (fun v W => ∃ (k : Nat), v = .int .i64 (k : Int) ∧ k ≤ fs.length ∧ (∀ j, j < k → alkB y I f (fs.getD j 0) q = false) ∧ ClsT W3.heap.size W x.N.length gn g3 c3' a7 c7 (alkB y I f) f fs q ∧ W3.grownBy W none) (fun v _ => fs.length - (intOf v).toNat)
        case atStart => exact ⟨0, rfl, Nat.zero_le _, fun j hj => by omega, O.out, GQ.out⟩
        case round =>
          clear O GQ
          obtain ⟨wi, hwi⟩ : ∃ W, W = wr := ⟨_, rfl⟩
          subst hwi
          obtain ⟨k, rfl, hk, hne, ho, hg⟩ := hrel
          have OI0 : Hid (ClsT W3.heap.size wi x.N.length gn g3 c3' a7 c7 (alkB y I f) f fs q) := ho
          have GI : Hid (W3.grownBy wi none) := hg
          have HNe : Hid (∀ j, j < k → alkB y I f (fs.getD j 0) q = false) := hne
          clear ho hg hne
          by_cases hkl : k < fs.length
          · have ik : (k : Int) < (fs.length : Int) := by omega
            have hp : fs.getD k 0 < q := HFlt.out _ (getD_mem hkl)
            obtain ⟨g7, rfl, cF⟩ := OI0.out.first hkl
            have OI : Hid (ClsT W3.heap.size wi x.N.length gn g3 c3' (some ⟨g7, 0, none⟩) c7 (alkB y I f) f fs q) := OI0.out
            obtain ⟨p, hpp⟩ : ∃ p, fs.getD k 0 = p := ⟨_, rfl⟩
            have HP : Hid (fs.getD k 0 = p) := hpp
            rw [hpp] at hp cF
            have hpn : p < x.N.length := by omega
            have S0 : Hid (SK12 w.heap.size (I : Int) x.O x.S aH nF cH a4 x.N.length c4 b5 x.N.length d5 b6 x.N.length d6 g7 k p wi) := ⟨HB7.out wi GI.out, cF⟩
            clear hpp cF OI0
            go_wp2_with fail
            refine wp_region_held_drew (S := SK12 w.heap.size (I : Int) x.O x.S aH nF cH a4 x.N.length c4 b5 x.N.length d5 b6 x.N.length d6 g7 k p) (by kernel_rfl) (S0.out.kept (grown_drew (grown_refl _ _))) (fun hHeld => ?_)
            refine wpAnyH_take (i := 0) (v := ?_) rfl (by kernel_rfl) (by kernel_rfl) (by kernel_rfl) (fun _ _ _ h => h) (Or.inl ⟨by rfl, ?_⟩) (by assumption) ?_
            rotate_left
            · intro W hSw
              obtain ⟨⟨z0, z1, z2, z3, z4, z5, z6⟩, q1⟩ := hSw
              go_simp
              with_reducible rfl
            try simp only [Act.put, List.getElem_toArray, List.getElem_cons_succ, List.getElem_cons_zero, List.setIfInBounds_toArray, List.set_cons_zero, List.set_cons_succ]
            refine wpAnyH_take (i := 1) (v := ?_) rfl (by kernel_rfl) (by kernel_rfl) (by kernel_rfl) (fun _ _ _ h => h) (Or.inl ⟨by rfl, ?_⟩) (by assumption) ?_
            rotate_left
            · intro W hSw
              obtain ⟨⟨z0, z1, z2, z3, z4, z5, z6⟩, q1⟩ := hSw
              go_simp
              with_reducible rfl
            try simp only [Act.put, List.getElem_toArray, List.getElem_cons_succ, List.getElem_cons_zero, List.setIfInBounds_toArray, List.set_cons_zero, List.set_cons_succ]
            refine wpAnyH_take (i := 2) (v := ?_) rfl (by kernel_rfl) (by kernel_rfl) (by kernel_rfl) (fun _ _ _ h => h) (Or.inl ⟨by rfl, ?_⟩) (by assumption) ?_
            rotate_left
            · intro W hSw
              obtain ⟨⟨z0, z1, z2, z3, z4, z5, z6⟩, q1⟩ := hSw
              go_simp
              with_reducible rfl
            try simp only [Act.put, List.getElem_toArray, List.getElem_cons_succ, List.getElem_cons_zero, List.setIfInBounds_toArray, List.set_cons_zero, List.set_cons_succ]
            refine wpAnyH_take (i := 3) (v := ?_) rfl (by kernel_rfl) (by kernel_rfl) (by kernel_rfl) (fun _ _ _ h => h) (Or.inl ⟨by rfl, ?_⟩) (by assumption) ?_
            rotate_left
            · intro W hSw
              obtain ⟨⟨z0, z1, z2, z3, z4, z5, z6⟩, q1⟩ := hSw
              go_simp
              with_reducible rfl
            try simp only [Act.put, List.getElem_toArray, List.getElem_cons_succ, List.getElem_cons_zero, List.setIfInBounds_toArray, List.set_cons_zero, List.set_cons_succ]
            refine wpAnyH_take (i := 4) (v := ?_) rfl (by kernel_rfl) (by kernel_rfl) (by kernel_rfl) (fun _ _ _ h => h) (Or.inl ⟨by rfl, ?_⟩) (by assumption) ?_
            rotate_left
            · intro W hSw
              obtain ⟨⟨z0, z1, z2, z3, z4, z5, z6⟩, q1⟩ := hSw
              go_simp
              with_reducible rfl
            try simp only [Act.put, List.getElem_toArray, List.getElem_cons_succ, List.getElem_cons_zero, List.setIfInBounds_toArray, List.set_cons_zero, List.set_cons_succ]
            refine wpAnyH_take (i := 5) (v := ?_) rfl (by kernel_rfl) (by kernel_rfl) (by kernel_rfl) (fun _ _ _ h => h) (Or.inl ⟨by rfl, ?_⟩) (by assumption) ?_
            rotate_left
            · intro W hSw
              obtain ⟨⟨z0, z1, z2, z3, z4, z5, z6⟩, q1⟩ := hSw
              go_simp
              with_reducible rfl
            try simp only [Act.put, List.getElem_toArray, List.getElem_cons_succ, List.getElem_cons_zero, List.setIfInBounds_toArray, List.set_cons_zero, List.set_cons_succ]
            refine wpAnyH_take (i := 6) (v := ?_) rfl (by kernel_rfl) (by kernel_rfl) (by kernel_rfl) (fun _ _ _ h => h) (Or.inl ⟨by rfl, ?_⟩) (by assumption) ?_
            rotate_left
            · intro W hSw
              obtain ⟨⟨z0, z1, z2, z3, z4, z5, z6⟩, q1⟩ := hSw
              go_simp
              with_reducible rfl
            try simp only [Act.put, List.getElem_toArray, List.getElem_cons_succ, List.getElem_cons_zero, List.setIfInBounds_toArray, List.set_cons_zero, List.set_cons_succ]
            refine wpAnyH_ready (rs := [7]) (by kernel_rfl) (by simp) ?_
            refine AllReadyH.cons (o := _) rfl (fun K' hK => ?_) ?_
            · go_simp
              refine (HAk.out _ (alkB y I f) f g3 c3' (grown_trans GI.out (grown_drew (grown_refl _ _))) rfl (fun s hs => OI.out.cls3 (grown_drew (grown_refl _ _)) hs) p q hpn hqn).mono ?_
              rintro E w6 ⟨bb, rfl, hbb, hg6⟩
              have G6 : Hid (W3.grownBy w6 none) := grown_trans GI.out (grown_trans (grown_drew (grown_refl _ _)) hg6)
              have O6 : Hid (ClsT W3.heap.size w6 x.N.length gn g3 c3' (some ⟨g7, 0, none⟩) c7 (alkB y I f) f fs q) := OI.out.kept (grown_trans (grown_drew (grown_refl _ _)) hg6)
              have HBB : Hid (bb = true ↔ alkB y I f p q = true) := hbb
              clear hbb
              go_wp2_with fail
              refine hK.out _ _ (hHeld.kept hg6) (fun hHeld => ?_)
              clear hK K'
              try simp only [Act.put, List.getElem_toArray, List.getElem_cons_succ, List.getElem_cons_zero, List.setIfInBounds_toArray, List.set_cons_zero, List.set_cons_succ]
              refine wpAnyH_ready (rs := [8]) (by kernel_rfl) (by simp) ?_
              refine AllReadyH.cons (o := _) rfl (fun K' hK => ?_) ?_
              · go_simp
                refine hK.out _ _ (by assumption) (fun hHeld => ?_)
                clear hK K'
                try simp only [Act.put, List.getElem_toArray, List.getElem_cons_succ, List.getElem_cons_zero, List.setIfInBounds_toArray, List.set_cons_zero, List.set_cons_succ]
                refine wpAnyH_done (by kernel_rfl) ?_ _
                clear S0
                cases bb with
                | true =>
                  have HEq : Hid (alkB y I f p q = true) := HBB.out.1 rfl
                  have HIx : Hid (ixE (alkB y I f) fs q = k) := ixE_eq hk HNe.out (fun _ => by rw [HP.out]; exact HEq.out)
                  have HAny : Hid (anyE (alkB y I f) fs q) := ⟨p, by rw [← HP.out]; exact getD_mem hkl, HEq.out⟩
                  have HFs1 : Hid (fsE (alkB y I f) (q + 1) = fs) := by show _ = _; rw [fsE_old (HFS.out ▸ HAny.out)]; exact HFS.out
                  have HCl : Hid (k = clE (alkB y I f) x.N.length q) := by
                    show _ = _
                    rw [← clE_at (alkB_eq y I f).1 hqn, HFs1.out, HIx.out]
                  obtain ⟨cN, fN, O9, hB9⟩ := O6.out.put hqn HCl.out
                  have O9' : Hid _ := O9
                  have G9 : Hid (W3.grownBy (w6.setCell ⟨gn, q, none⟩ (.int .i64 (k : Int))) none) := grown_new G6.out (grown_set _ _ _) hB9
                  have hkne : ((k : Int) == (fs.length : Int)) = false := by simp; omega
                  clear hB9 O9
                  go_wp2_with fail
                  go_roundw
                  case rel => exact ⟨q + 1, some ⟨g7, 0, none⟩, c7, by rw [HFs1.out], by go_num, by omega, by rw [HFs1.out]; exact O9'.out, G9.out⟩
                  case measure => simp [intOf]; omega
                | false =>
                  have HEq : Hid (alkB y I f p q = false) := by
                    cases hb : alkB y I f p q with
                    | false => rfl
                    | true => have := HBB.out.2 hb; cases this
                  go_wp2_with fail
                  go_roundw
                  case rel =>
                    refine ⟨k + 1, by go_num, by omega, fun j hj => ?_, O6.out, G6.out⟩
                    by_cases e : j = k
                    · subst e; rw [HP.out]; exact HEq.out
                    · exact HNe.out j (by omega)
                  case measure => simp [intOf]; omega
              exact AllReadyH.nil
            exact AllReadyH.nil
          · have ik : ¬ (k : Int) < (fs.length : Int) := by omega
            have hke : k = fs.length := by omega
            have HNo : Hid (¬ anyE (alkB y I f) fs q) := fun ⟨r, hr, he⟩ => by
              obtain ⟨j, hj, rfl⟩ := List.getElem_of_mem hr
              have := HNe.out j (by omega)
              have e2 : fs.getD j 0 = fs[j] := by simp [List.getD, hj]
              rw [e2, he] at this
              cases this
            have HFs1 : Hid (fsE (alkB y I f) (q + 1) = fs ++ [q]) := by show _ = _; rw [fsE_new (HFS.out ▸ HNo.out), HFS.out]
            have HCl : Hid (fs.length = clE (alkB y I f) x.N.length q) := by
              show _ = _
              rw [← clE_at (alkB_eq y I f).1 hqn, HFs1.out]
              refine (ixE_eq (by simp) (fun j hj => ?_) (fun _ => ?_)).symm
              · rw [getD_app _ hj]; exact HNe.out j (by omega)
              · have e1 : (fs ++ [q]).getD fs.length 0 = q := by simp [List.getD]
                rw [e1]; exact (alkB_eq y I f).1 q
            obtain ⟨g, cap, w2', hrun, hO2, hG2⟩ := OI0.out.push GI.out.size (by omega) q
            obtain ⟨cN, fN, O9, hB9⟩ := hO2.put hqn HCl.out
            have O9' : Hid _ := O9
            have G9 : Hid (W3.grownBy (w2'.setCell ⟨gn, q, none⟩ (.int .i64 (fs.length : Int))) none) := grown_new (hG2 W3 (Nat.le_refl _) GI.out) (grown_set _ _ _) hB9
            have hkeq : ((k : Int) == (fs.length : Int)) = true := by simp; omega
            have HL1 : Hid ((fs ++ [q]).length = fs.length + 1) := by show _ = _; simp
            subst hke
            clear hO2 hG2 O9 hB9
            go_wp2_with fail
            go_roundw
            case rel => exact ⟨q + 1, some ⟨g, 0, none⟩, cap, by rw [HFs1.out, HL1.out], by go_num, by omega, by rw [HFs1.out]; exact O9'.out, G9.out⟩
            case measure => simp [intOf]; omega
      · have iq : ¬ (q : Int) < (x.N.length : Int) := by omega
        have hqe : q = x.N.length := by omega
        have O1 : Hid (OwnsP W3.heap.size 0 0 wq [(3, .slice (some ⟨gn, 0, none⟩) x.N.length x.N.length, fvals x.N.length (clE (alkB y I f) x.N.length))] []) := by
          have h1 := O.out.own
          have e0 : (fvals x.N.length fun s => if s < q then clE (alkB y I f) x.N.length s else 0) = fvals x.N.length (clE (alkB y I f) x.N.length) := by
            apply List.ext_getElem (by simp [fvals])
            intro i h1 h2
            have : i < q := by rw [hqe]; simpa [fvals] using h2
            simp [fvals, this]
          rw [e0] at h1
          exact ⟨own_one h1.own, h1.lie, fun p hp => by simp at hp⟩
        have hlt2 : Hid (∀ s, s < x.N.length → clE (alkB y I f) x.N.length s < fs.length) := fun s hs => by have := clE_lt (alkB_eq y I f).1 (hqe ▸ hs : s < q); rw [hqe] at this HFS; rwa [HFS.out] at this
        have HFN : Hid (fsE (alkB y I f) x.N.length = fs) := by rw [← hqe]; exact HFS.out
        clear hqe
        by_cases hc : fs.length = cnt
        · have hci : ((fs.length : Int) == (cnt : Int)) = true := by simp; omega
          have HE : Hid (∀ p r, p < x.N.length → r < x.N.length → (clE (alkB y I f) x.N.length p = clE (alkB y I f) x.N.length r ↔ BisT y I p r)) := fun p r hp hr => MO.out.end HNl.out (by rw [HFN.out]; exact hc) hp hr
          have Hbd : Hid (∀ s, s < x.N.length → clE (alkB y I f) x.N.length s < x.N.length) := fun s hs => by have := hlt2.out s hs; omega
          obtain ⟨cls, hcls⟩ : ∃ cls, clE (alkB y I f) x.N.length = cls := ⟨_, rfl⟩
          rw [hcls] at HE Hbd O1
          clear hc hcls hlt2 HFN O MO HFS HFlt HAk HNl
          have hm2 := make_intsT wq x.N.length (by omega)
          obtain ⟨gN, hgN⟩ : ∃ g, wq.heap.size = g := ⟨_, rfl⟩
          obtain ⟨W6, hW6⟩ : ∃ W, W = wq.alloc (.cells (Array.replicate x.N.length (Value.int .i64 0)) 3) := ⟨_, rfl⟩
          have G6 : Hid (W3.grownBy W6 none) := by rw [hW6]; exact grown_trans GQ.out (grown_alloc _ _)
          have O6 : Hid (OwnsP W3.heap.size 0 0 W6 [(3, .slice (some ⟨gN, 0, none⟩) x.N.length x.N.length, ivals x.N.length fun j => if j < 0 then -1 else 0), (3, .slice (some ⟨gn, 0, none⟩) x.N.length x.N.length, fvals x.N.length cls)] []) := by
            have h1 := O1.out.made (arr := Array.replicate x.N.length (Value.int .i64 0)) (n := x.N.length) GQ.out.size 3 (by simp) (by unfold maxLen; omega)
            have e : (Array.replicate x.N.length (Value.int .i64 0)).toList = ivals x.N.length fun j => if j < 0 then -1 else 0 := by
              apply List.ext_getElem (by simp [ivals])
              intro i h1 h2
              simp [ivals]
            rw [e, hgN, ← hW6] at h1
            exact h1
          rw [← hW6, hgN] at hm2
          clear O1 GQ hW6 hgN
          go_wp2_with fail
          clear hm2
          go_loopw [12] (fun v W => ∃ (i : Nat), v = .int .i64 (i : Int) ∧ i ≤ x.N.length ∧ OwnsP W3.heap.size 0 0 W [(3, .slice (some ⟨gN, 0, none⟩) x.N.length x.N.length, ivals x.N.length fun j => if j < i then -1 else 0), (3, .slice (some ⟨gn, 0, none⟩) x.N.length x.N.length, fvals x.N.length cls)] [] ∧ W3.grownBy W none) (fun v _ => x.N.length - (intOf v).toNat)
          case atStart => exact ⟨0, rfl, Nat.zero_le _, O6.out, G6.out⟩
          case round =>
            clear O6 G6
            obtain ⟨wj, hwj⟩ : ∃ W, W = wr := ⟨_, rfl⟩
            subst hwj
            obtain ⟨i, rfl, hi, ho, hg⟩ := hrel
            have O : Hid (OwnsP W3.heap.size 0 0 wj [(3, .slice (some ⟨gN, 0, none⟩) x.N.length x.N.length, ivals x.N.length fun j => if j < i then -1 else 0), (3, .slice (some ⟨gn, 0, none⟩) x.N.length x.N.length, fvals x.N.length cls)] []) := ho
            have GJ : Hid (W3.grownBy wj none) := hg
            have hgN : Hid (W3.heap.size ≤ gN) := (ho.own.row.lt gN rfl).1
            clear ho hg
            by_cases hin : i < x.N.length
            · have ii : (i : Int) < (x.N.length : Int) := by omega
              obtain ⟨c1, f1⟩ := O.out.cell (ivals_get (f := fun j => if j < i then (-1 : Int) else 0) hin)
              simp only [Nat.lt_irrefl, if_false] at c1
              have O9 : Hid (OwnsP W3.heap.size 0 0 (wj.setCell ⟨gN, i, none⟩ (.int .i64 (-1))) [(3, .slice (some ⟨gN, 0, none⟩) x.N.length x.N.length, ivals x.N.length fun j => if j < i + 1 then -1 else 0), (3, .slice (some ⟨gn, 0, none⟩) x.N.length x.N.length, fvals x.N.length cls)] []) := by
                have h1 := O.out.set hin (.int .i64 (-1))
                rw [ivals_set (g := fun j => if j < i + 1 then -1 else 0) hin (by simp) (fun j _ hj => by
                  by_cases e : j < i
                  · rw [if_pos e, if_pos (by omega)]
                  · rw [if_neg e, if_neg (by omega)])] at h1
                exact h1
              have G9 : Hid (W3.grownBy (wj.setCell ⟨gN, i, none⟩ (.int .i64 (-1))) none) := grown_new GJ.out (grown_set _ _ _) hgN.out
              go_wp2_with fail
              go_roundw
              case rel => exact ⟨i + 1, by go_num, by omega, O9.out, G9.out⟩
              case measure => simp [intOf]; omega
            · have ii : ¬ (i : Int) < (x.N.length : Int) := by omega
              have hie : i = x.N.length := by omega
              have hcs : cls st < x.N.length := Hbd.out st hstn
              have bj := HB7.out wj GJ.out
              have y2 := bj.b2
              rw [HS0.out] at y2
              have cst := ((O.out.perm (List.perm_middle (l₁ := [_]))).cell (fvals_get (f := cls) hstn)).1
              obtain ⟨c1, f1⟩ := O.out.cell (ivals_get (f := fun j => if j < i then (-1 : Int) else 0) hcs)
              have hci : cls st < i := by omega
              simp only [hci, if_true] at c1
              obtain ⟨Wn, hWn⟩ : ∃ W, W = wj.setCell ⟨gN, cls st, none⟩ (.int .i64 0) := ⟨_, rfl⟩
              have gn7 : W3.grownBy Wn none := by rw [hWn]; exact grown_new GJ.out (grown_set _ _ _) hgN.out
              have hszn : Wn.heap.size = wj.heap.size := by rw [hWn]; simp [World.setCell]
              obtain ⟨Wr, hWr⟩ : ∃ W, W = Wn.alloc (.cells #[.int .i64 (st : Int)] 3) := ⟨_, rfl⟩
              have gr7 : W3.grownBy Wr none := by rw [hWr]; exact grown_trans gn7 (grown_alloc _ _)
              have hszr : Wr.heap.size = wj.heap.size + 1 := by rw [hWr, World.size_alloc, hszn]
              obtain ⟨Wx, hWx⟩ : ∃ W, W = Wr.alloc (.cells #[.int .i64 (I : Int), .int .i64 x.O, .int .i64 0, .slice aH nF cH, .slice none 0 0, .slice none 0 0, .slice none 0 0] 26) := ⟨_, rfl⟩
              have HWx : Hid (Wx = ((wj.setCell ⟨gN, cls st, none⟩ (.int .i64 0)).alloc (.cells #[.int .i64 (st : Int)] 3)).alloc (.cells #[.int .i64 (I : Int), .int .i64 x.O, .int .i64 0, .slice aH nF cH, .slice none 0 0, .slice none 0 0, .slice none 0 0] 26)) := by show _ = _; rw [hWx, hWr, hWn]
              have GX : Hid (W3.grownBy Wx none) := by rw [hWx]; exact grown_trans gr7 (grown_alloc _ _)
              have HBo : Hid (W3.heap.size ≤ wj.heap.size + 1) := by have := GJ.out.size; show _ ≤ _; omega
              have LX : Hid (LsT W3.heap.size (wj.heap.size + 1) Wx (I : Int) x.O (.slice aH nF cH) (.slice (some ⟨wj.heap.size, 0, none⟩) 1 1) (.slice none 0 0) (.slice none 0 0) (.slice none 0 0) x.N.length gN gn x.N.length cls [st] [] [] [] []) := by
                have h1 := O.out.set hcs (.int .i64 0)
                rw [ivals_set (g := numC cls [st]) hcs (by simp [numC, List.findIdx?_cons]) (fun j hj hne => by
                  simp only [numC, List.findIdx?_cons, List.findIdx?_nil]
                  have : (cls st == j) = false := by simp; exact Ne.symm hne
                  have hji : j < i := by omega
                  simp [this, hji]), ← hWn] at h1
                have h2 := ((h1.empty 22).empty 23).empty 22
                have h3 := h2.made (arr := #[.int .i64 (st : Int)]) (n := 1) (by rw [hszn]; exact GJ.out.size) 3 rfl (by unfold maxLen; omega)
                rw [hszn, ← hWr] at h3
                have h4 := h3.made (arr := #[.int .i64 (I : Int), .int .i64 x.O, .int .i64 0, .slice aH nF cH, .slice none 0 0, .slice none 0 0, .slice none 0 0]) (n := 7) (by rw [hszr]; exact HBo.out) 26 rfl (by unfold maxLen; omega)
                rw [hszr, ← hWx] at h4
                exact ⟨h4⟩
              have y2' := (HB7.out Wn gn7).b2
              rw [HS0.out, hWn] at y2'
              have y0r := (HB7.out Wr gr7).b0
              have y1r := (HB7.out Wr gr7).b1
              have y3r := (HB7.out Wr gr7).b3
              rw [hWr, hWn] at y0r y1r y3r
              have isn : (st : Int) < (x.N.length : Int) := by omega
              have iscs : ((cls st : Nat) : Int) < (x.N.length : Int) := by omega
              clear bj hci gn7 hszn hWx hWr gr7 hszr hWn hie O hgN
              generalize cls st = cs at c1 f1 cst hcs iscs y2' y0r y1r y3r HWx ⊢
              go_wp2_with fail
              rw [← HWx.out]
              clear y2 cst c1 f1 y2' y0r y1r y3r
              obtain ⟨bo, hbo⟩ : ∃ b, wj.heap.size + 1 = b := ⟨_, rfl⟩
              obtain ⟨br, hbr⟩ : ∃ b, wj.heap.size = b := ⟨_, rfl⟩
              rw [hbo] at LX HBo ⊢
              rw [hbr] at LX ⊢
              clear hbo hbr GJ
              have hix := HFC.out
              obtain ⟨bb5, oo5, bb6, oo6, e5, e6, hfx⟩ := hix
              have HFX : Hid (∀ W, Q W → ∀ q, q < x.N.length → (W.cell? ⟨bb5, oo5 + q, none⟩ = some (.slice (yx q) I (yc q)) ∧ RowsAt W (yx q) (y.Y.getD q [])) ∧ (W.cell? ⟨bb6, oo6 + q, none⟩ = some (.slice (ex q) (y.E.getD q []).length (ec q)) ∧ Ints W (ex q) (y.E.getD q []))) := hfx
              have HE5 : Hid (b5 = some ⟨bb5, oo5, none⟩ ∧ b6 = some ⟨bb6, oo6, none⟩) := ⟨e5, e6⟩
              clear hfx e5 e6 HFC
              have HD : Hid (∀ s a, s < x.N.length → a < I → nxT x s a < x.N.length) := fun s a hs ha => (HR.out.lt hs ha).1
              go_loopw [13, 15] (fun v13 v15 W => ∃ (k : Nat) (xs : List Nat) (rs : List (Value × List Int)) (aS aN aY aE : Option Addr) (cS cN cY cE : Nat), v13 = .slice aS xs.length cS ∧ v15 = .int .i64 (k : Int) ∧ bfsL cls (nxT x) I st k = xs ∧ k ≤ xs.length ∧ (∀ j, j < k → j < (bfsL cls (nxT x) I st j).length) ∧ LsT W3.heap.size bo W (I : Int) x.O (.slice aH nF cH) (.slice aS xs.length cS) (.slice aN k cN) (.slice aY k cY) (.slice aE k cE) x.N.length gN gn x.N.length cls xs rs ((xs.take k).map fun q => .slice (yx q) I (yc q)) ((xs.take k).map fun q => .slice (ex q) (y.E.getD q []).length (ec q)) [] ∧ rs.map (·.2) = partR cls (nxT x) I st k ∧ rs.length = k ∧ W3.grownBy W none) (fun _ v _ => x.N.length - (intOf v).toNat)
              case atStart => exact ⟨0, [st], [], some ⟨br, 0, none⟩, none, none, none, 1, 0, 0, 0, rfl, rfl, rfl, Nat.zero_le _, fun j hj => by omega, LX.out, rfl, rfl, GX.out⟩
              case round =>
                clear LX GX
                obtain ⟨wk, hwk⟩ : ∃ W, W = wr := ⟨_, rfl⟩
                subst hwk
                obtain ⟨k, xs, rs, aS, aN, aY, aE, cS, cN, cY, cE, rfl, rfl, hxs, hkl, hgo, hL, hrs, hrl, hg⟩ := hrel
                have HXS : Hid (bfsL cls (nxT x) I st k = xs) := hxs
                have HGo : Hid (∀ j, j < k → j < (bfsL cls (nxT x) I st j).length) := hgo
                have L : Hid (LsT W3.heap.size bo wk (I : Int) x.O (.slice aH nF cH) (.slice aS xs.length cS) (.slice aN k cN) (.slice aY k cY) (.slice aE k cE) x.N.length gN gn x.N.length cls xs rs ((xs.take k).map fun q => .slice (yx q) I (yc q)) ((xs.take k).map fun q => .slice (ex q) (y.E.getD q []).length (ec q)) []) := hL
                have HRS : Hid (rs.map (·.2) = partR cls (nxT x) I st k ∧ rs.length = k) := ⟨hrs, hrl⟩
                have GK : Hid (W3.grownBy wk none) := hg
                have hxn : ∀ q, q ∈ xs → q < x.N.length := by rw [← hxs]; exact bfsL_lt cls HD.out hstn k
                have HXn : Hid (∀ q, q ∈ xs → q < x.N.length) := hxn
                have hxlen : xs.length ≤ x.N.length := by
                  have h1 := bfsL_nodup cls (nxT x) I st k
                  rw [hxs] at h1
                  have := nodup_le x.N.length (xs.map cls) h1 (fun c hc => by
                    obtain ⟨q, hq, rfl⟩ := List.mem_map.1 hc
                    exact Hbd.out q (hxn q hq))
                  simpa using this
                clear hxs hgo hL hrs hrl hg hxn
                by_cases hlt : k < xs.length
                · have ik : (k : Int) < (xs.length : Int) := by omega
                  obtain ⟨s, hs⟩ : ∃ s, xs.getD k 0 = s := ⟨_, rfl⟩
                  have HS : Hid (xs.getD k 0 = s) := hs
                  obtain ⟨gS, cS', eS, cs0⟩ := L.out.state hlt
                  simp only [Value.slice.injEq] at eS
                  obtain ⟨rfl, _, rfl⟩ := eS
                  rw [hs] at cs0
                  have hsn : s < x.N.length := HXn.out s (by rw [← hs]; exact getD_mem hlt)
                  clear hs
                  go_wp2_with fail
                  clear cs0
                  go_loopw [13, 17, 18] (fun v13 v17 v18 W => ∃ (a : Nat) (zs : List Nat) (aS aR : Option Addr) (cS cR : Nat), v13 = .slice aS zs.length cS ∧ v17 = .slice aR a cR ∧ v18 = .int .i64 (a : Int) ∧ a ≤ I ∧ rowL cls (nxT x) s a xs = zs ∧ LsT W3.heap.size bo W (I : Int) x.O (.slice aH nF cH) (.slice aS zs.length cS) (.slice aN k cN) (.slice aY k cY) (.slice aE k cE) x.N.length gN gn x.N.length cls zs rs ((xs.take k).map fun q => .slice (yx q) I (yc q)) ((xs.take k).map fun q => .slice (ex q) (y.E.getD q []).length (ec q)) [(3, .slice aR a cR, vals ((List.range a).map fun b => ((ix cls zs (nxT x s b) : Nat) : Int)))] ∧ W3.grownBy W none) (fun _ _ v _ => I - (intOf v).toNat)
                  case atStart => exact ⟨0, xs, _, none, _, 0, rfl, rfl, rfl, Nat.zero_le _, rfl, L.out.begin, GK.out⟩
                  case round =>
                    clear L GK
                    obtain ⟨wa, hwa⟩ : ∃ W, W = wr := ⟨_, rfl⟩
                    subst hwa
                    obtain ⟨a, zs, aS', aR, cS', cR, rfl, rfl, rfl, ha, hzs, hL, hg⟩ := hrel
                    have HZS : Hid (rowL cls (nxT x) s a xs = zs) := hzs
                    have L : Hid (LsT W3.heap.size bo wa (I : Int) x.O (.slice aH nF cH) (.slice aS' zs.length cS') (.slice aN k cN) (.slice aY k cY) (.slice aE k cE) x.N.length gN gn x.N.length cls zs rs ((xs.take k).map fun q => .slice (yx q) I (yc q)) ((xs.take k).map fun q => .slice (ex q) (y.E.getD q []).length (ec q)) [(3, .slice aR a cR, vals ((List.range a).map fun b => ((ix cls zs (nxT x s b) : Nat) : Int)))]) := hL
                    have GA : Hid (W3.grownBy wa none) := hg
                    have hzn : ∀ q, q ∈ zs → q < x.N.length := by rw [← hzs]; exact rowL_lt HD.out hsn HXn.out ha
                    have hzl : zs.length ≤ x.N.length := by
                      have h1 := bfsL_nodup cls (nxT x) I st k
                      rw [HXS.out] at h1
                      have h2 := rowL_nodup (κ := cls) (δ := nxT x) (x := s) h1 a
                      rw [hzs] at h2
                      have := nodup_le x.N.length (zs.map cls) h2 (fun c hc => by
                        obtain ⟨q, hq, rfl⟩ := List.mem_map.1 hc
                        exact Hbd.out q (hzn q hq))
                      simpa using this
                    have b7 := HB7.out wa GA.out
                    have y0 := b7.b0
                    clear hzs hL hg hzn
                    by_cases hal : a < I
                    · have il : (a : Int) < (I : Int) := by omega
                      obtain ⟨b4, o4, k4, bn, on, e4, hs4⟩ := shp_next (HTY.out wa GA.out) HSh.out (by rw [HYV.out.2.2.2.2.1]; exact hsn) hal
                      obtain ⟨c4a, c4b⟩ := hs4 wa (grown_refl _ _)
                      rw [HNx.out] at c4b
                      have y4 := b7.b4
                      rw [e4] at y4
                      have hdn := HD.out s a hsn hal
                      obtain ⟨d, hd⟩ : ∃ d, nxT x s a = d := ⟨_, rfl⟩
                      have HDd : Hid (nxT x s a = d) := hd
                      rw [hd] at c4b hdn
                      have hcd := Hbd.out d hdn
                      have ccd := L.out.clsAt hdn
                      obtain ⟨cnd, fnd⟩ := L.out.num hcd
                      have isn : (s : Int) < (x.N.length : Int) := by omega
                      have idn : (d : Int) < (x.N.length : Int) := by omega
                      have icd : ((cls d : Nat) : Int) < (x.N.length : Int) := by omega
                      by_cases hK : hasK cls zs d
                      · rw [numC_has hK] at cnd
                        have hno : ¬ ((ix cls zs d : Nat) : Int) < 0 := by omega
                        obtain ⟨gR, cR', w2', hrun, hL2, hG2, hB2⟩ := L.out.putC (w0 := W3) (z := ((ix cls zs d : Nat) : Int)) (by simp) GA.out.size (by omega) (Nat.le_refl _) GA.out
                        have e1 : ((List.range a).map fun b => ((ix cls zs (nxT x s b) : Nat) : Int)) ++ [((ix cls zs d : Nat) : Int)] = (List.range (a + 1)).map fun b => ((ix cls zs (nxT x s b) : Nat) : Int) := by
                          rw [List.range_succ, List.map_append, List.map_cons, List.map_nil, HDd.out]
                        rw [e1] at hL2
                        have HL2 : Hid _ := hL2
                        have HG2 : Hid (W3.grownBy w2' none) := hG2
                        have HZ1 : Hid (rowL cls (nxT x) s (a + 1) xs = zs) := by
                          show _ = _
                          simp only [rowL]
                          rw [HZS.out, HDd.out]
                          exact ins_old hK
                        clear hs4 e4 b7 hd hL2 hG2 e1 hK
                        generalize ix cls zs d = iz at *
                        go_wp2_with fail
                        go_roundw
                        case rel => exact ⟨a + 1, zs, _, _, _, _, rfl, by go_num, by go_num, by omega, HZ1.out, HL2.out, HG2.out⟩
                        case measure => simp [intOf]; omega
                      · rw [numC_none hK] at cnd
                        obtain ⟨_, _, W7, hW7, hs7, hg7, _, g9, c9, w9, hrun9, hL9, hG9, hB9⟩ := L.out.new (y := d) (w0 := W3) GA.out.size hK hcd (by omega) (Nat.le_refl _) GA.out
                        rw [hs7, hW7] at hrun9
                        have hL9' := hL9
                        obtain ⟨cnd9, _⟩ := hL9.num hcd
                        rw [numC_snoc hK, if_pos rfl] at cnd9
                        have ccd9 := hL9.clsAt hdn
                        obtain ⟨gR, cR', w2', hrun, hL2, hG2, hB2⟩ := hL9.putC (w0 := W3) (z := (zs.length : Int)) (by simp) hB9 (by omega) (Nat.le_refl _) hG9
                        have e1 : ((List.range a).map fun b => ((ix cls zs (nxT x s b) : Nat) : Int)) = (List.range a).map fun b => ((ix cls (zs ++ [d]) (nxT x s b) : Nat) : Int) := by
                          refine List.map_congr_left fun b hb => ?_
                          rw [ix_append (HZS.out ▸ rowL_has cls (nxT x) s xs (List.mem_range.1 hb))]
                        have e2 : ((List.range a).map fun b => ((ix cls zs (nxT x s b) : Nat) : Int)) ++ [(zs.length : Int)] = (List.range (a + 1)).map fun b => ((ix cls (zs ++ [d]) (nxT x s b) : Nat) : Int) := by
                          rw [e1, List.range_succ, List.map_append, List.map_cons, List.map_nil, HDd.out, ix_last hK]
                        rw [e2] at hL2
                        have HL2 : Hid _ := hL2
                        have HG2 : Hid (W3.grownBy w2' none) := hG2
                        have HZ1 : Hid (rowL cls (nxT x) s (a + 1) xs = zs ++ [d]) := by
                          show _ = _
                          simp only [rowL]
                          rw [HZS.out, HDd.out]
                          exact ins_new hK
                        have HZL : Hid ((zs ++ [d]).length = zs.length + 1) := by show _ = _; simp
                        have cc7 : (wa.setCell ⟨gN, cls d, none⟩ (.int .i64 (zs.length : Int))).heap.size = wa.heap.size := by simp [World.setCell]
                        clear hs4 e4 b7 hd hL2 hG2 e1 e2 hK hL9 hL9' hG9 hB9 hW7 hs7 hg7 cc7
                        generalize cls d = cd at *
                        go_wp2_with fail
                        go_roundw
                        case rel => exact ⟨a + 1, zs ++ [d], _, _, _, _, by rw [HZL.out], by go_num, by go_num, by omega, HZ1.out, by rw [HZL.out]; exact HL2.out, HG2.out⟩
                        case measure => simp [intOf]; omega
                    · have il : ¬ (a : Int) < (I : Int) := by omega
                      have hae : a = I := by omega
                      subst hae
                      have HY1 : Hid (bfsL cls (nxT x) a st (k + 1) = zs) := by
                        show _ = _
                        simp only [bfsL]
                        rw [HXS.out, if_pos hlt, HS.out]
                        exact HZS.out
                      have HRow : Hid (((List.range a).map fun b => ((ix cls zs (nxT x s b) : Nat) : Int)) = rowR cls (nxT x) a zs s) := rfl
                      rw [HRow.out] at L
                      have hsx : ∃ us, zs = xs ++ us := by obtain ⟨us, hus⟩ := rowL_more cls (nxT x) s a xs; exact ⟨us, by rw [← HZS.out, hus]⟩
                      have HTk : Hid (zs.take (k + 1) = xs.take k ++ [s]) := by
                        obtain ⟨us, hus⟩ := hsx
                        show _ = _
                        rw [hus, List.take_append_of_le_length (by omega), List.take_add_one]
                        congr 1
                        have : xs[k]? = some s := by rw [← HS.out]; simp [List.getD, hlt]
                        rw [this]; rfl
                      have HBoo : Hid (W3.heap.size ≤ bo) := HBo.out
                      have hb4 := L.out.cells.2.2.2.2.1
                      have hb4' := fun o => (grown_alloc wa o).cell hb4 (by simp)
                      obtain ⟨gA, cA, w4', hrun4, ⟨p4, f4⟩, hL4, hG4, hB4⟩ := L.out.putN (w0 := W3) rfl HRS.out.2 GA.out.size (by omega) HBoo.out (Nat.le_refl _) GA.out
                      obtain ⟨W4, hW4⟩ : ∃ W, W = w4'.setCell ⟨bo, 4, none⟩ (.slice (some ⟨gA, 0, none⟩) (k + 1) cA) := ⟨_, rfl⟩
                      have HW4 : Hid (W4 = _) := hW4
                      rw [← hW4] at hL4 hG4
                      have L4 : Hid _ := hL4
                      have G4 : Hid (W3.grownBy W4 none) := hG4
                      have hYl : ((xs.take k).map fun q => Value.slice (yx q) a (yc q)).length = k := by simp; omega
                      have hEl : ((xs.take k).map fun q => Value.slice (ex q) (y.E.getD q []).length (ec q)).length = k := by simp; omega
                      obtain ⟨⟨cy5, _⟩, ⟨ce6, _⟩⟩ := HFX.out W4 (HPQ.out _ (HPn.out W3 W4 HPW.out G4.out)) s hsn
                      have b74 := HB7.out W4 G4.out
                      have y5 := b74.b5
                      rw [HE5.out.1] at y5
                      have hb5 := L4.out.cells.2.2.2.2.2.1
                      have hb5' := fun o => (grown_alloc W4 o).cell hb5 (by simp)
                      obtain ⟨gB, cB, w5', hrun50, ⟨p5, f5⟩, hL5, hG5, hB5⟩ := (L4.out.kept (grown_drew (grown_refl _ _))).putY (w0 := W3) (v := .slice (yx s) a (yc s)) rfl hYl G4.out.size (by omega) HBoo.out (Nat.le_refl _) (grown_drew G4.out)
                      have hrun5 : (AppY #[24, 24] 24 #[.slice aY k cY, .slice (some ⟨W4.heap.size, 0, none⟩) 1 1]).run Try.prog (W4.alloc (.cells #[.slice (yx s) a (yc s)] 23)).drew = .ok (.slice (some ⟨gB, 0, none⟩) (k + 1) cB) w5' := hrun50
                      obtain ⟨W5, hW5⟩ : ∃ W, W = w5'.setCell ⟨bo, 5, none⟩ (.slice (some ⟨gB, 0, none⟩) (k + 1) cB) := ⟨_, rfl⟩
                      have HW5 : Hid (W5 = _) := hW5
                      rw [← hW5] at hL5 hG5
                      have L5 : Hid _ := hL5
                      have G5 : Hid (W3.grownBy W5 none) := hG5
                      have b75 := HB7.out W5 G5.out
                      have y6 := b75.b6
                      rw [HE5.out.2] at y6
                      obtain ⟨_, ⟨ce65, _⟩⟩ := HFX.out W5 (HPQ.out _ (HPn.out W3 W5 HPW.out G5.out)) s hsn
                      have hb6 := L5.out.cells.2.2.2.2.2.2.1
                      have hb6' := fun o => (grown_alloc W5 o).cell hb6 (by simp)
                      obtain ⟨nE, hnE⟩ : ∃ n, (y.E.getD s []).length = n := ⟨_, rfl⟩
                      obtain ⟨gC, cC, w6', hrun60, ⟨p6, f6⟩, hL6, hG6, hB6⟩ := (L5.out.kept (grown_drew (grown_refl _ _))).putE (w0 := W3) (v := .slice (ex s) (y.E.getD s []).length (ec s)) rfl hEl G5.out.size (by omega) HBoo.out (Nat.le_refl _) (grown_drew G5.out)
                      have hrun6 : (AppY #[23, 23] 23 #[.slice aE k cE, .slice (some ⟨W5.heap.size, 0, none⟩) 1 1]).run Try.prog (W5.alloc (.cells #[.slice (ex s) (y.E.getD s []).length (ec s)] 22)).drew = .ok (.slice (some ⟨gC, 0, none⟩) (k + 1) cC) w6' := hrun60
                      obtain ⟨W6, hW6⟩ : ∃ W, W = w6'.setCell ⟨bo, 6, none⟩ (.slice (some ⟨gC, 0, none⟩) (k + 1) cC) := ⟨_, rfl⟩
                      have HW6 : Hid (W6 = _) := hW6
                      rw [← hW6] at hL6 hG6
                      have e5 : ((xs.take k).map fun q => Value.slice (yx q) a (yc q)) ++ [.slice (yx s) a (yc s)] = (zs.take (k + 1)).map fun q => .slice (yx q) a (yc q) := by rw [HTk.out]; simp
                      have e6 : ((xs.take k).map fun q => Value.slice (ex q) (y.E.getD q []).length (ec q)) ++ [.slice (ex s) (y.E.getD s []).length (ec s)] = (zs.take (k + 1)).map fun q => .slice (ex q) (y.E.getD q []).length (ec q) := by rw [HTk.out]; simp
                      rw [e5, e6] at hL6
                      have L6 : Hid _ := hL6
                      have G6 : Hid (W3.grownBy W6 none) := hG6
                      have HRS2 : Hid ((rs ++ [(Value.slice aR a cR, rowR cls (nxT x) a zs s)]).map (·.2) = partR cls (nxT x) a st (k + 1) ∧ (rs ++ [(Value.slice aR a cR, rowR cls (nxT x) a zs s)]).length = k + 1) := by
                        refine ⟨?_, by rw [List.length_append, HRS.out.2]; rfl⟩
                        rw [partR_step (fun j hj => by
                          by_cases e : j = k
                          · subst e; rw [HXS.out]; exact hlt
                          · exact HGo.out j (by omega)), List.map_append, HRS.out.1, HY1.out, HXS.out, HS.out]
                        rfl
                      have HGo2 : Hid (∀ j, j < k + 1 → j < (bfsL cls (nxT x) a st j).length) := fun j hj => by
                        by_cases e : j = k
                        · subst e; rw [HXS.out]; exact hlt
                        · exact HGo.out j (by omega)
                      have hkz : k + 1 ≤ zs.length := by obtain ⟨us, hus⟩ := hsx; rw [hus, List.length_append]; omega
                      rw [hnE] at ce65 hrun6
                      have isn : (s : Int) < (x.N.length : Int) := by omega
                      clear hsx hYl hEl hnE hW4 hL4 hG4 hW5 hL5 hG5 hW6 hL6 hG6 e5 e6 b74 b75 hrun50 hrun60 b7
                      go_wp2_with fail
                      rw [← HW4.out]
                      clear y0 hb4 hb4' p4 f4 hrun4
                      go_region
                      go_wp2_with fail
                      rw [← HW5.out]
                      clear hb5 hb5' y5 cy5 hrun5 p5 f5
                      go_region
                      go_wp2_with fail
                      rw [← HW6.out]
                      go_roundw
                      case rel => exact ⟨k + 1, zs, _, _, _, _, _, _, _, _, _, rfl, by go_num, HY1.out, hkz, HGo2.out, L6.out, HRS2.out.1, HRS2.out.2, G6.out⟩
                      case measure => simp [intOf]; omega
                · have ik : ¬ (k : Int) < (xs.length : Int) := by omega
                  have hke : k = xs.length := by omega
                  have HEnd : Hid (IsEnd (bfsL cls (nxT x) I st) k) := ⟨by rw [HXS.out]; exact hke.symm, HGo.out⟩
                  obtain ⟨c0, c1, c2, c3b, c4b, c5b, c6b, _⟩ := L.out.cells
                  obtain ⟨⟨p0, p1, p2, p3, p4, p5, p6⟩, fz, W9, hW9, g9, q0, q1, q2, q3, q4, q5, q6⟩ := seven_store (HRB3.out wk GK.out) (.int .i64 (I : Int)) (.int .i64 x.O) (.int .i64 0) (.slice aH nF cH) (.slice aN k cN) (.slice aY k cY) (.slice aE k cE)
                  have HW9 : Hid (W9 = _) := hW9
                  have F : Hid (Po (.returned (tnV (I : Int) x.O 0 aH nF cH aN k cN aY k cY aE k cE)) W9) := by
                    show Po _ _
                    rw [HPo.out]
                    have hb2 : w.heap.size + 1 < W3.heap.size := HS3.out
                    have hL9 : LsT W3.heap.size bo W9 _ _ _ _ _ _ _ _ _ _ _ _ _ _ _ _ _ := ⟨⟨(L.out.own.own).below g9 (by omega), fun p hp => by simp at hp, fun p hp => by simp at hp⟩⟩
                    have hP9 : P W9 := HPb.out wk W9 _ (HPn.out W3 wk HPW.out GK.out) (by omega) (by have := HSz.out; omega) g9
                    have hTA : ∀ W, LsT W3.heap.size bo W (I : Int) x.O (.slice aH nF cH) (.slice aS xs.length cS) (.slice aN k cN) (.slice aY k cY) (.slice aE k cE) x.N.length gN gn x.N.length cls xs rs ((xs.take k).map fun q => .slice (yx q) I (yc q)) ((xs.take k).map fun q => .slice (ex q) (y.E.getD q []).length (ec q)) [] → Q W → TnAt W (ofK cls x.O (pushT x I B).F I (nxT x) (syT (pushT x I B)) (fun q => (pushT x I B).E.getD q []) xs) aH aN aY aE := fun W9 hL9 hQ9 => by
                      obtain ⟨⟨r4, l4⟩, ⟨l5, k5⟩, ⟨l6, k6⟩⟩ := hL9.rows
                      have hf9 := HFX.out W9 hQ9
                      have htk : xs.take k = xs := List.take_of_length_le (by omega)
                      rw [htk] at l5 k5 l6 k6
                      have hk1 : 1 ≤ xs.length := by
                        obtain ⟨us, hus⟩ := bfsL_le cls (nxT x) I st (Nat.zero_le k)
                        rw [← HXS.out, hus]; simp [bfsL]
                      obtain ⟨g5, rfl, j5⟩ : ∃ g, aY = some ⟨g, 0, none⟩ ∧ ∀ i u, (xs.map fun q => Value.slice (yx q) I (yc q))[i]? = some u → W9.cell? ⟨g, i, none⟩ = some u := by
                        rcases k5 with e | e
                        · have hz : xs.length = 0 := by simpa using congrArg List.length e
                          omega
                        · exact e
                      obtain ⟨g6, rfl, j6⟩ : ∃ g, aE = some ⟨g, 0, none⟩ ∧ ∀ i u, (xs.map fun q => Value.slice (ex q) (y.E.getD q []).length (ec q))[i]? = some u → W9.cell? ⟨g, i, none⟩ = some u := by
                        rcases k6 with e | e
                        · have hz : xs.length = 0 := by simpa using congrArg List.length e
                          omega
                        · exact e
                      have hyl : ∀ q, q < x.N.length → (y.Y.getD q []).length = I := fun q hq => HSh.out.ry q (by rw [HYV.out.2.2.2.2.1]; exact hq)
                      rw [HY.out]
                      refine ⟨HQI.out W9 hQ9, ?_, ?_, ?_, HFm.out, ?_, ?_, ?_⟩
                      · show RowsAt W9 aN (resR cls (nxT x) I xs)
                        rw [← HXS.out, ← partR_end HEnd.out, ← HRS.out.1]; exact r4
                      · refine .inr ⟨g5, 0, rfl, fun i hi => ?_⟩
                        have hi' : i < xs.length := by rw [ofK_len.2.1] at hi; exact hi
                        have hqn := HXn.out _ (getD_mem hi')
                        have e1 : (ofK cls x.O y.F I (nxT x) (syT y) (fun q => y.E.getD q []) xs).Y.getD i [] = y.Y.getD (xs.getD i 0) [] := by
                          have e0 : xs.getD i 0 = xs[i] := by simp [List.getD, hi']
                          have e2 : (ofK cls x.O y.F I (nxT x) (syT y) (fun q => y.E.getD q []) xs).Y.getD i [] = (List.range I).map (syT y (xs.getD i 0)) := by
                            show (xs.map fun q => (List.range I).map (syT y q)).getD i [] = _
                            rw [e0, List.getD, List.getElem?_map, List.getElem?_eq_getElem hi']; rfl
                          rw [e2]
                          have e3 := hyl _ hqn
                          refine List.ext_getElem (by rw [List.length_map, List.length_range]; exact e3.symm) fun j h1 h2 => ?_
                          rw [List.getElem_map, List.getElem_range]
                          show (y.Y.getD (xs.getD i 0) []).getD j [] = _
                          revert h2
                          generalize y.Y.getD (xs.getD i 0) [] = rr
                          intro h2
                          rw [List.getD, List.getElem?_eq_getElem h2, Option.getD_some]
                        have e4 : (xs.map fun q => Value.slice (yx q) I (yc q))[i]? = some (.slice (yx (xs.getD i 0)) I (yc (xs.getD i 0))) := by simp [List.getD, hi']
                        rw [e1, hyl _ hqn, Nat.zero_add]
                        exact ⟨yx (xs.getD i 0), yc (xs.getD i 0), j5 i _ e4, (hf9 _ hqn).1.2, by unfold maxLen; omega⟩
                      · refine .inr ⟨g6, 0, rfl, fun i hi => ?_⟩
                        have hi' : i < xs.length := by rw [ofK_len.2.2] at hi; exact hi
                        have hqn := HXn.out _ (getD_mem hi')
                        have e4 : (xs.map fun q => Value.slice (ex q) (y.E.getD q []).length (ec q))[i]? = some (.slice (ex (xs.getD i 0)) (y.E.getD (xs.getD i 0) []).length (ec (xs.getD i 0))) := by simp [List.getD, hi']
                        rw [ofK_e hi', Nat.zero_add]
                        have := HSh.out.em _ (show xs.getD i 0 < y.N.length by rw [HYV.out.2.2.2.2.1]; exact hqn)
                        exact ⟨ex (xs.getD i 0), ec (xs.getD i 0), j6 i _ e4, (hf9 _ hqn).2.2, by unfold maxLen; omega⟩
                      · rw [ofK_len.1]; unfold maxLen; omega
                      · rw [ofK_len.2.1]; unfold maxLen; omega
                      · rw [ofK_len.2.2]; unfold maxLen; omega
                    have hS : x.S.toNat = st := by rw [HS0.out]; rfl
                    refine ⟨B, cls, k, aH, aN, aY, aE, cH, cN, cY, cE, HSI.out, fun a b ha hb => by rw [HY.out]; exact HE.out a b ha hb, by rw [hS]; exact HEnd.out, by omega, by rw [HnF.out], ?_, grown_new (grown_trans HG3.out GK.out) g9 (by omega), fun W b hDb hg => ?_⟩
                    · show TnAt W9 (ofK _ _ _ _ _ _ _ (bfsL cls (nxT x) I x.S.toNat k)) _ _ _ _
                      rw [hS, HXS.out]; exact hTA W9 hL9 (HPQ.out _ hP9)
                    · show TnAt W (ofK _ _ _ _ _ _ _ (bfsL cls (nxT x) I x.S.toNat k)) _ _ _ _
                      rw [hS, HXS.out]
                      exact hTA W ⟨⟨(hL9.own.own).below hg (by have := HDl.out b hDb; omega), fun p hp => by simp at hp, fun p hp => by simp at hp⟩⟩ (HQb.out _ _ b (HPQ.out _ hP9) hDb hg)
                  have f0 := fz 0
                  have f1 := fz 1
                  have f2 := fz 2
                  have f3 := fz 3
                  have f4 := fz 4
                  have f5 := fz 5
                  have f6 := fz 6
                  clear g9 fz hW9 hke
                  go_wp2_with fail
                  rw [← HW9.out]
                  exact bodyPost_ret (v := tnV (I : Int) x.O 0 aH nF cH aN k cN aY k cY aE k cE) (by simp [results, Try.results25, go_sem, q0, q1, q2, q3, q4, q5, q6]) rfl F.out
        · have hci : ((fs.length : Int) == (cnt : Int)) = false := by simp; omega
          have hge : cnt ≤ fs.length := by have := MO.out.grows; rwa [HFN.out] at this
          have MO2 : Hid (MoT y I x.N.length (clE (alkB y I f) x.N.length) fs.length) := by have := MO.out.next HNl.out; rwa [HFN.out] at this
          go_wp2_with fail
          go_roundw
          case rel => exact ⟨fs.length, clE (alkB y I f) x.N.length, gn, x.N.length, rfl, rfl, by omega, MO2.out, O1.out, GQ.out⟩
          case measure => simp [intOf]; omega

end Go.Proofs.Ytodcmlcpicabaaa
