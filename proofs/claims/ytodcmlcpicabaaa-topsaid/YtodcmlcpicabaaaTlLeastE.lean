/- The program's Least. -/
import Derived.Test.YtodcmlcpicabaaaTlLeast
import Derived.Test.YtodcmlcpicabaaaTnCk
namespace Go.Proofs.Ytodcmlcpicabaaa
open Go.RowKit
set_option linter.unusedVariables false
set_option linter.unusedSimpArgs false

def LeastBP (x : TrI) (w : World) (e : Ending) (w' : World) : Prop := ∃ z, e = .returned (.tuple #[tnZ, .int .i64 z]) ∧ ChkIs x z ∧ z ≠ 0 ∧ w.grownBy w' none
def LeastEP (x : TrI) (I : Nat) (w : World) (e : Ending) (w' : World) : Prop := ∃ B k kd k2, SureIs x I B ∧ IsEnd (bfsL id (nxT x) I x.S.toNat) k ∧ k ≤ x.N.length ∧ KindIs (pshY x I B k) I k kd ∧ IsEnd (bfsL id (fun s l => kd (nxT (pshY x I B k) s l)) I (kd 0)) k2 ∧ k2 ≤ k ∧ w.grownBy w' none ∧
  ((¬ LittleT (lstL x I B k kd k2) ∧ e = .returned (.tuple #[tnZ, .int .i64 7])) ∨ (LittleT (lstL x I B k kd k2) ∧ ∃ a3 a4 a5 a6 c3 c4 c5 c6, e = .returned (.tuple #[tnV (I : Int) x.O 0 a3 (pushT x I B).F.length c3 a4 k2 c4 a5 k2 c5 a6 k2 c6, .int .i64 0]) ∧ TnAt w' (lstL x I B k kd k2) a3 a4 a5 a6 ∧ (pushT x I B).F.length ≤ c3 ∧ ∀ W b, b < w.heap.size → w'.grownBy W (some b) → TnAt W (lstL x I B k kd k2) a3 a4 a5 a6))
theorem lstL_len {x : TrI} {I : Nat} {B : List (List Int)} {k : Nat} {kd : Nat → Nat} {k2 : Nat} (h : IsEnd (bfsL id (fun s l => kd (nxT (pshY x I B k) s l)) I (kd 0)) k2) : (lstL x I B k kd k2).N.length = k2 ∧ (lstL x I B k kd k2).Y.length = k2 ∧ (lstL x I B k kd k2).E.length = k2 := by
  have := ofK_len (κ := id) (O := x.O) (F := (pushT x I B).F) (l := I) (δ := fun s l => kd (nxT (pshY x I B k) s l)) (σ := syT (pshY x I B k)) (ε := fun q => (pshY x I B k).E.getD q []) (xs := bfsL id (fun s l => kd (nxT (pshY x I B k) s l)) I (kd 0) k2)
  rw [h.len] at this
  exact this

set_option maxHeartbeats 1600000 in
set_option maxRecDepth 100000 in
theorem leastE_bad (x : TrI) (a3 a4 a5 a6 : Option Addr) (c3 c4 c5 c6 : Nat) (w : World) (h : TnAt w x a3 a4 a5 a6) (hb : ¬ GoodT x) :
    Calls Try.prog 15 #[tnV x.I x.O x.S a3 x.F.length c3 a4 x.N.length c4 a5 x.Y.length c5 a6 x.E.length c6] w (LeastBP x w) := by
  obtain ⟨W0, hW0, g0, s0, bx⟩ := box7_new w x.I x.O x.S a3 x.F.length c3 a4 x.N.length c4 a5 x.Y.length c5 a6 x.E.length c6
  obtain ⟨W1, hW1⟩ : ∃ W, W = W0.alloc tnZO := ⟨_, rfl⟩
  have g1 : W0.grownBy W1 none := by rw [hW1]; exact grown_alloc _ _
  have hrb : W1.heap[w.heap.size + 1]? = some (.cells #[.int .i64 0, .int .i64 0, .int .i64 0, .slice none 0 0, .slice none 0 0, .slice none 0 0, .slice none 0 0] 26 (0, 0)) := by
    have := heap_alloc_new W0 tnZO
    rw [← hW1, s0] at this
    exact this
  have HW1 : Hid (W1 = (w.alloc (tnO x.I x.O x.S a3 x.F.length c3 a4 x.N.length c4 a5 x.Y.length c5 a6 x.E.length c6)).alloc tnZO) := by show _ = _; rw [hW1, hW0]
  have G1 : Hid (w.grownBy W1 none) := grown_trans g0 g1
  have sW : W1.heap.size = w.heap.size + 1 + 1 := by rw [hW1, World.size_alloc, s0]
  have HC : Hid (Calls Try.prog 26 #[tnV x.I x.O x.S a3 x.F.length c3 a4 x.N.length c4 a5 x.Y.length c5 a6 x.E.length c6] W1 (ChkP x W1)) := check_any x a3 a4 a5 a6 c3 c4 c5 c6 W1 (h.grown (grown_trans g0 g1))
  have HRB : Hid (∀ W, W1.grownBy W none → W.heap[w.heap.size + 1]? = some (.cells #[.int .i64 0, .int .i64 0, .int .i64 0, .slice none 0 0, .slice none 0 0, .slice none 0 0, .slice none 0 0] 26 (0, 0))) := fun W hW => (hW.block _ (by omega) (by simp)).trans hrb
  have x0 := (bx.grown g1).b0
  have x1 := (bx.grown g1).b1
  have x2 := (bx.grown g1).b2
  have x3 := (bx.grown g1).b3
  have x4 := (bx.grown g1).b4
  have x5 := (bx.grown g1).b5
  have x6 := (bx.grown g1).b6
  obtain ⟨Po, hPo⟩ : ∃ P, P = LeastBP x w := ⟨_, rfl⟩
  have HPo : Hid (Po = LeastBP x w) := hPo
  have HNG : Hid (¬ GoodT x) := hb
  rw [← hPo]
  rw [HW1.out] at x0 x1 x2 x3 x4 x5 x6
  clear hW0 hW1 g0 g1 s0 bx h hrb sW hPo hb
  go_enter Try.func15, Try.ntmps15
  go_wp2_with fail
  rw [← HW1.out]
  clear x0 x1 x2 x3 x4 x5 x6
  refine HC.out.mono ?_
  rintro E w2 ⟨z, rfl, hz, hg2⟩
  have hz0 : z ≠ 0 := fun e => HNG.out ((hz.all hz).2.1 e)
  obtain ⟨⟨p0, p1, p2, p3, p4, p5, p6⟩, fz, W5, hW5, g5, y0, y1, y2, y3, y4, y5, y6⟩ := seven_store (HRB.out w2 hg2) (.int .i64 0) (.int .i64 0) (.int .i64 0) (.slice none 0 0) (.slice none 0 0) (.slice none 0 0) (.slice none 0 0)
  have F : Hid (Po (.returned (.tuple #[tnZ, .int .i64 z])) W5) := by
    show Po _ _
    rw [HPo.out]
    exact ⟨z, rfl, hz, hz0, grown_new (grown_trans G1.out hg2) g5 (by omega)⟩
  have HW5 : Hid (W5 = _) := hW5
  have f0 := fz 0
  have f1 := fz 1
  have f2 := fz 2
  have f3 := fz 3
  have f4 := fz 4
  have f5 := fz 5
  have f6 := fz 6
  have d1 : (z == 0) = false := by simpa using hz0
  clear hW5 g5 fz hz hg2 HC HRB
  go_wp2_with fail
  rw [← HW5.out]
  exact bodyPost_ret (v := .tuple #[tnZ, .int .i64 z]) (by simp [results, Try.results15, go_sem, y0, y1, y2, y3, y4, y5, y6]) rfl F.out

set_option maxHeartbeats 1600000 in
set_option maxRecDepth 100000 in
theorem leastE_good (x : TrI) (I : Nat) (a3 a4 a5 a6 : Option Addr) (c3 c4 c5 c6 : Nat) (w : World) (h : TnAt w x a3 a4 a5 a6) (hk : CapsAt w a6 x.E) (hG : GoodT x) (hxI : x.I = (I : Int)) :
    Calls Try.prog 15 #[tnV x.I x.O x.S a3 x.F.length c3 a4 x.N.length c4 a5 x.Y.length c5 a6 x.E.length c6] w (LeastEP x I w) := by
  have hr : ReadT x I := by have := hG.read; rwa [hxI, Int.toNat_natCast] at this
  have hI : I ≤ 4 := by have := hG.many.1; unfold ManyT at this; omega
  have hn6 : x.N.length ≤ 6 := hG.size.2
  obtain ⟨W0, hW0, g0, s0, bx⟩ := box7_new w x.I x.O x.S a3 x.F.length c3 a4 x.N.length c4 a5 x.Y.length c5 a6 x.E.length c6
  obtain ⟨W1, hW1⟩ : ∃ W, W = W0.alloc tnZO := ⟨_, rfl⟩
  have g1 : W0.grownBy W1 none := by rw [hW1]; exact grown_alloc _ _
  have hrb : W1.heap[w.heap.size + 1]? = some (.cells #[.int .i64 0, .int .i64 0, .int .i64 0, .slice none 0 0, .slice none 0 0, .slice none 0 0, .slice none 0 0] 26 (0, 0)) := by
    have := heap_alloc_new W0 tnZO
    rw [← hW1, s0] at this
    exact this
  have HW1 : Hid (W1 = (w.alloc (tnO x.I x.O x.S a3 x.F.length c3 a4 x.N.length c4 a5 x.Y.length c5 a6 x.E.length c6)).alloc tnZO) := by show _ = _; rw [hW1, hW0]
  have G1 : Hid (w.grownBy W1 none) := grown_trans g0 g1
  have sW : W1.heap.size = w.heap.size + 1 + 1 := by rw [hW1, World.size_alloc, s0]
  have HSz : Hid (W1.heap.size = w.heap.size + 1 + 1) := sW
  have HC : Hid (Calls Try.prog 26 #[tnV x.I x.O x.S a3 x.F.length c3 a4 x.N.length c4 a5 x.Y.length c5 a6 x.E.length c6] W1 (ChkP x W1)) := check_any x a3 a4 a5 a6 c3 c4 c5 c6 W1 (h.grown (grown_trans g0 g1))
  have HL : Hid (∀ W, W1.grownBy W none → Calls Try.prog 20 #[tnV x.I x.O x.S a3 x.F.length c3 a4 x.N.length c4 a5 x.Y.length c5 a6 x.E.length c6] W (LeastTP x I W)) := fun W hW => leastT_any x I a3 a4 a5 a6 c3 c4 c5 c6 W (h.grown (grown_trans G1.out hW)) (hk.grown (grown_trans G1.out hW)) hr (by omega) hxI hI (by omega)
  have HX : Hid (∀ W, W1.grownBy W none → Box7 W w.heap.size x.I x.O x.S a3 x.F.length c3 a4 x.N.length c4 a5 x.Y.length c5 a6 x.E.length c6) := fun W hW => (bx.grown g1).grown hW
  have HRB : Hid (∀ W, W1.grownBy W none → W.heap[w.heap.size + 1]? = some (.cells #[.int .i64 0, .int .i64 0, .int .i64 0, .slice none 0 0, .slice none 0 0, .slice none 0 0, .slice none 0 0] 26 (0, 0))) := fun W hW => (hW.block _ (by omega) (by simp)).trans hrb
  have x0 := (bx.grown g1).b0
  have x1 := (bx.grown g1).b1
  have x2 := (bx.grown g1).b2
  have x3 := (bx.grown g1).b3
  have x4 := (bx.grown g1).b4
  have x5 := (bx.grown g1).b5
  have x6 := (bx.grown g1).b6
  obtain ⟨Po, hPo⟩ : ∃ P, P = LeastEP x I w := ⟨_, rfl⟩
  have HPo : Hid (Po = LeastEP x I w) := hPo
  have HG : Hid (GoodT x) := hG
  have HN6 : Hid (x.N.length ≤ 6) := hn6
  rw [← hPo]
  rw [HW1.out] at x0 x1 x2 x3 x4 x5 x6
  clear hW0 hW1 g0 g1 s0 bx h hk hrb sW hPo hG hr hn6 hxI
  go_enter Try.func15, Try.ntmps15
  go_wp2_with fail
  rw [← HW1.out]
  clear x0 x1 x2 x3 x4 x5 x6
  refine HC.out.mono ?_
  rintro E w2 ⟨z, rfl, hz, hg2⟩
  have hz0 : z = 0 := (hz.all hz).2.2 HG.out
  subst hz0
  have G2 : Hid (W1.grownBy w2 none) := hg2
  have HL2 : Hid (Calls Try.prog 20 #[tnV x.I x.O x.S a3 x.F.length c3 a4 x.N.length c4 a5 x.Y.length c5 a6 x.E.length c6] w2 (LeastTP x I w2)) := HL.out w2 hg2
  have hx := HX.out w2 hg2
  have x0 := hx.b0
  have x1 := hx.b1
  have x2 := hx.b2
  have x3 := hx.b3
  have x4 := hx.b4
  have x5 := hx.b5
  have x6 := hx.b6
  clear hz hg2 hx HC HL HX
  go_wp2_with fail
  refine HL2.out.mono ?_
  rintro E w3 ⟨B, k, kd, k2, b3, b4, b5, b6, d3, d4, d5, d6, hsi, he1, hkn, hkd, he2, hk2, hcapF, rfl, hg3, P, hP, hPT, hPb, hPn⟩
  have HCp : Hid ((pushT x I B).F.length ≤ d3) := hcapF
  clear hcapF
  have HPb : Hid (∀ W W' b, P W → b < w2.heap.size + 1 + 1 → W.grownBy W' (some b) → P W') := hPb
  have HPn : Hid (∀ W W', P W → W.grownBy W' none → P W') := hPn
  have HPT : Hid (∀ W, P W → TnAt W (lstL x I B k kd k2) b3 b4 b5 b6) := hPT
  have hlen := lstL_len he2
  have HAll : Hid (SureIs x I B ∧ IsEnd (bfsL id (nxT x) I x.S.toNat) k ∧ k ≤ x.N.length ∧ KindIs (pshY x I B k) I k kd ∧ IsEnd (bfsL id (fun s l => kd (nxT (pshY x I B k) s l)) I (kd 0)) k2 ∧ k2 ≤ k) := ⟨hsi, he1, hkn, hkd, he2, hk2⟩
  obtain ⟨L, hL⟩ : ∃ L, lstL x I B k kd k2 = L := ⟨_, rfl⟩
  have HLL : Hid (lstL x I B k kd k2 = L) := hL
  have hLV : L.I = (I : Int) ∧ L.O = x.O ∧ L.S = 0 ∧ L.F.length = (pushT x I B).F.length := by rw [← hL]; exact ⟨rfl, rfl, rfl, rfl⟩
  rw [hL] at HPT hlen
  obtain ⟨nF, hnF⟩ : ∃ n, (pushT x I B).F.length = n := ⟨_, rfl⟩
  have HnF : Hid ((pushT x I B).F.length = nF) := hnF
  rw [hnF] at hLV ⊢
  have HW : Hid (Calls Try.prog 19 #[tnV (I : Int) x.O 0 b3 nF d3 b4 k2 d4 b5 k2 d5 b6 k2 d6] w3 (WithinP L (tnV (I : Int) x.O 0 b3 nF d3 b4 k2 d4 b5 k2 d5 b6 k2 d6) w3)) := by
    have h1 := within_any L b3 b4 b5 b6 d3 d4 d5 d6 w3 (HPT.out w3 hP) (hlen.2.2.trans hlen.2.1.symm)
    rw [hLV.1, hLV.2.1, hLV.2.2.1, hLV.2.2.2, hlen.1, hlen.2.1, hlen.2.2] at h1
    exact h1
  have H6 : Hid (L.N.length ≤ 6) := by show _ ≤ _; rw [hlen.1]; have := HN6.out; omega
  have G3 : Hid (w2.grownBy w3 none) := hg3
  have HP3 : Hid (P w3) := hP
  clear hsi he1 hkn hkd he2 hk2 hg3 hP hPT hPb hPn hlen hL hLV hnF x0 x1 x2 x3 x4 x5 x6 HL2
  go_wp2_with fail
  refine HW.out.mono ?_
  intro E w4 hE
  rcases hE with ⟨hw, rfl, hg4⟩ | ⟨hw, rfl, hg4⟩
  · obtain ⟨⟨p0, p1, p2, p3, p4, p5, p6⟩, fz, W5, hW5, g5, y0, y1, y2, y3, y4, y5, y6⟩ := seven_store (HRB.out w4 (grown_trans G2.out (grown_trans G3.out hg4))) (.int .i64 (I : Int)) (.int .i64 x.O) (.int .i64 0) (.slice b3 nF d3) (.slice b4 k2 d4) (.slice b5 k2 d5) (.slice b6 k2 d6)
    have F : Hid (Po (.returned (.tuple #[tnV (I : Int) x.O 0 b3 nF d3 b4 k2 d4 b5 k2 d5 b6 k2 d6, .int .i64 0])) W5) := by
      show Po _ _
      rw [HPo.out]
      obtain ⟨h1, h2, h3, h4, h5, h6⟩ := HAll.out
      have hP5 := HPb.out w4 W5 _ (HPn.out w3 w4 HP3.out hg4) (by have := HSz.out; have := G2.out.size; omega) g5
      have hT := HPT.out W5 hP5
      have hTo : ∀ W b, b < w.heap.size → W5.grownBy W (some b) → TnAt W L b3 b4 b5 b6 := fun W b h9 h10 => HPT.out W (HPb.out W5 W b hP5 (by have := HSz.out; have := G2.out.size; omega) h10)
      rw [← HLL.out] at hT hw hTo
      rw [← HnF.out]
      exact ⟨B, k, kd, k2, h1, h2, h3, h4, h5, h6, grown_new (grown_trans G1.out (grown_trans G2.out (grown_trans G3.out hg4))) g5 (by omega), .inr ⟨hw.2, b3, b4, b5, b6, d3, d4, d5, d6, rfl, hT, HCp.out, hTo⟩⟩
    have HW5 : Hid (W5 = _) := hW5
    have f0 := fz 0
    have f1 := fz 1
    have f2 := fz 2
    have f3 := fz 3
    have f4 := fz 4
    have f5 := fz 5
    have f6 := fz 6
    clear hW5 g5 fz hw hg4
    go_wp2_with fail
    rw [← HW5.out]
    exact bodyPost_ret (v := .tuple #[tnV (I : Int) x.O 0 b3 nF d3 b4 k2 d4 b5 k2 d5 b6 k2 d6, .int .i64 0]) (by simp [results, Try.results15, go_sem, y0, y1, y2, y3, y4, y5, y6]) rfl F.out
  · obtain ⟨⟨p0, p1, p2, p3, p4, p5, p6⟩, fz, W5, hW5, g5, y0, y1, y2, y3, y4, y5, y6⟩ := seven_store (HRB.out w4 (grown_trans G2.out (grown_trans G3.out hg4))) (.int .i64 0) (.int .i64 0) (.int .i64 0) (.slice none 0 0) (.slice none 0 0) (.slice none 0 0) (.slice none 0 0)
    have F : Hid (Po (.returned (.tuple #[tnZ, .int .i64 7])) W5) := by
      show Po _ _
      rw [HPo.out]
      obtain ⟨h1, h2, h3, h4, h5, h6⟩ := HAll.out
      have h7 : ¬ LittleT L := fun e => hw ⟨H6.out, e⟩
      rw [← HLL.out] at h7
      exact ⟨B, k, kd, k2, h1, h2, h3, h4, h5, h6, grown_new (grown_trans G1.out (grown_trans G2.out (grown_trans G3.out hg4))) g5 (by omega), .inl ⟨h7, rfl⟩⟩
    have HW5 : Hid (W5 = _) := hW5
    have f0 := fz 0
    have f1 := fz 1
    have f2 := fz 2
    have f3 := fz 3
    have f4 := fz 4
    have f5 := fz 5
    have f6 := fz 6
    clear hW5 g5 fz hw hg4
    go_wp2_with fail
    rw [← HW5.out]
    exact bodyPost_ret (v := .tuple #[tnZ, .int .i64 7]) (by simp [results, Try.results15, go_sem, y0, y1, y2, y3, y4, y5, y6]) rfl F.out

end Go.Proofs.Ytodcmlcpicabaaa
