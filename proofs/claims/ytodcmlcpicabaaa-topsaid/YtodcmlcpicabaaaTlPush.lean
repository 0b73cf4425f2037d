/- One that says ahead what it is sure to say: the program's pushed. -/
import Derived.Test.YtodcmlcpicabaaaTlPushC
import Derived.Test.YtodcmlcpicabaaaTlOfP
import Derived.Test.YtodcmlcpicabaaaTlM
namespace Go.Proofs.Ytodcmlcpicabaaa
open Go.RowKit
set_option linter.unusedVariables false
set_option linter.unusedSimpArgs false

abbrev pshY (x : TrI) (I : Nat) (B : List (List Int)) (k : Nat) : TrI := ofK id 0 (pushT x I B).F I (nxT x) (syT (pushT x I B)) (fun s => (pushT x I B).E.getD s []) (bfsL id (nxT x) I x.S.toNat k)
def PushP (x : TrI) (I : Nat) (w : World) (e : Ending) (w' : World) : Prop := ∃ B k a3 a4 a5 a6 c3 c4 c5 c6, SureIs x I B ∧ IsEnd (bfsL id (nxT x) I x.S.toNat) k ∧ k ≤ x.N.length ∧ e = .returned (tnV (I : Int) 0 0 a3 (pushT x I B).F.length c3 a4 k c4 a5 k c5 a6 k c6) ∧ TnAt w' (pshY x I B k) a3 a4 a5 a6 ∧ w.grownBy w' none ∧ (∀ y, a3 = some y → w.heap.size ≤ y.block) ∧ (pushT x I B).F.length ≤ c3

def SPd (bt bs g s0 : Nat) (v3 vs v2 t : Value) (W : World) : Prop := W.cell? ⟨bt, 3, none⟩ = some v3 ∧ W.cell? ⟨bs, 0, none⟩ = some vs ∧ W.cell? ⟨bt, 2, none⟩ = some v2 ∧ W.cell? ⟨g, s0, none⟩ = some t
theorem SPd.kept {bt bs g s0 : Nat} {v3 vs v2 t : Value} {W W' : World} (h : SPd bt bs g s0 v3 vs v2 t W) (k : W.grownBy W' none) : SPd bt bs g s0 v3 vs v2 t W' := ⟨k.cell h.1 (by simp), k.cell h.2.1 (by simp), k.cell h.2.2.1 (by simp), k.cell h.2.2.2 (by simp)⟩
theorem box7_of {W : World} {b : Nat} {T : TypeId} {I O S : Int} {a3 : Option Addr} {n3 c3 : Nat} {a4 : Option Addr} {n4 c4 : Nat} {a5 : Option Addr} {n5 c5 : Nat} {a6 : Option Addr} {n6 c6 : Nat} (h : W.heap[b]? = some (.cells #[.int .i64 I, .int .i64 O, .int .i64 S, .slice a3 n3 c3, .slice a4 n4 c4, .slice a5 n5 c5, .slice a6 n6 c6] T (0, 0))) : Box7 W b I O S a3 n3 c3 a4 n4 c4 a5 n5 c5 a6 n6 c6 ∧ ∀ i, W.frozen? ⟨b, i, none⟩ = false := by
  have hc : ∀ k v, #[Value.int .i64 I, .int .i64 O, .int .i64 S, .slice a3 n3 c3, .slice a4 n4 c4, .slice a5 n5 c5, .slice a6 n6 c6][k]? = some v → W.cell? ⟨b, k, none⟩ = some v := fun k v hv => by rw [cell_of_row _ _ k _ _ (0, 0) h]; exact hv
  exact ⟨⟨hc 0 _ rfl, hc 1 _ rfl, hc 2 _ rfl, hc 3 _ rfl, hc 4 _ rfl, hc 5 _ rfl, hc 6 _ rfl⟩, fun i => frozen_of_row _ _ _ _ _ h⟩

theorem sure_at {x : TrI} {I : Nat} {W1 W : World} {g c : Nat} {ps : List Trip} {mb : Nat} (hr : ReadT x I mb) (h : SureIs x I (wordsT ps)) (ho : OwnS W1 W g c ps) : SureAt W x I g ps mb := by
  have hs := h.sure hr.he
  have hl : ps.length = x.N.length := by rw [← wordsT_len, hs.len]
  refine ⟨hl, fun i hi => (ho.at hi).1, ho.lie.grown ho.gr, hs, fun i hi => ?_⟩
  obtain ⟨r, hr2⟩ := hs.last i (by omega)
  have := hr.e8 i (by omega)
  rw [hr2, List.length_append] at this
  omega
theorem push_len {x : TrI} {I : Nat} {ps : List Trip} {mb : Nat} (hr : ReadT x I mb) (h : SureIs x I (wordsT ps)) (l8 : ∀ i, i < ps.length → ((wordsT ps).getD i []).length ≤ mb) : (∀ s a, s < x.N.length → a < I → (syT (pushT x I (wordsT ps)) s a).length ≤ 2 * mb) ∧ ∀ s, s < x.N.length → ((pushT x I (wordsT ps)).E.getD s []).length ≤ mb := by
  have hs := h.sure hr.he
  have hl : ps.length = x.N.length := by rw [← wordsT_len, hs.len]
  refine ⟨fun s a hs' ha => ?_, fun s hs' => ?_⟩
  · rw [pushT_sy hs' ha, List.length_drop, List.length_append]
    have h1 := hr.y8 s hs' a ha
    have h2 := l8 (nxT x s a) (by rw [hl]; exact (hr.lt hs' ha).1)
    omega
  · rw [pushT_last hs', List.length_drop]
    have := hr.e8 s hs'
    omega

set_option maxHeartbeats 3200000 in
set_option maxRecDepth 100000 in
theorem pushed_any (x : TrI) (I : Nat) (a3 a4 a5 a6 : Option Addr) (c3 c4 c5 c6 : Nat) (w : World) (h : TnAt w x a3 a4 a5 a6) (hk : CapsAt w a6 x.E) {mb : Nat} (hr : ReadT x I mb) (hmb : mb ≤ 100) (hxI : x.I = (I : Int)) (hI : I ≤ 4) (hN : x.N.length ≤ 1000) :
    Calls Try.prog 30 #[tnV x.I x.O x.S a3 x.F.length c3 a4 x.N.length c4 a5 x.Y.length c5 a6 x.E.length c6] w (PushP x I w) := by
  obtain ⟨W0, hW0, g0, s0, bx⟩ := box7_new w x.I x.O x.S a3 x.F.length c3 a4 x.N.length c4 a5 x.Y.length c5 a6 x.E.length c6
  obtain ⟨W1, hW1⟩ : ∃ W, W = W0.alloc tnZO := ⟨_, rfl⟩
  have g1 : W0.grownBy W1 none := by rw [hW1]; exact grown_alloc _ _
  have hrb : W1.heap[w.heap.size + 1]? = some (.cells #[.int .i64 0, .int .i64 0, .int .i64 0, .slice none 0 0, .slice none 0 0, .slice none 0 0, .slice none 0 0] 26 (0, 0)) := by
    have := heap_alloc_new W0 tnZO
    rw [← hW1, s0] at this
    exact this
  have sW : W1.heap.size = w.heap.size + 1 + 1 := by rw [hW1, World.size_alloc, s0]
  have HW1 : Hid (W1 = (w.alloc (tnO x.I x.O x.S a3 x.F.length c3 a4 x.N.length c4 a5 x.Y.length c5 a6 x.E.length c6)).alloc tnZO) := by show _ = _; rw [hW1, hW0]
  have G1 : Hid (w.grownBy W1 none) := grown_trans g0 g1
  have HS : Hid (Calls Try.prog 52 #[tnV x.I x.O x.S a3 x.F.length c3 a4 x.N.length c4 a5 x.Y.length c5 a6 x.E.length c6] W1 (SureP x I W1)) := sureOf_any x I a3 a4 a5 a6 c3 c4 c5 c6 W1 (h.grown G1.out) (hk.grown G1.out) hr hmb hI hN
  have HX : Hid (∀ W, W1.grownBy W none → Box7 W w.heap.size x.I x.O x.S a3 x.F.length c3 a4 x.N.length c4 a5 x.Y.length c5 a6 x.E.length c6) := fun W hW => (bx.grown g1).grown hW
  have HRB : Hid (∀ W, W1.grownBy W none → W.heap[w.heap.size + 1]? = some (.cells #[.int .i64 0, .int .i64 0, .int .i64 0, .slice none 0 0, .slice none 0 0, .slice none 0 0, .slice none 0 0] 26 (0, 0))) := fun W hW => (hW.block _ (by omega) (by simp)).trans hrb
  have HT : Hid (TnAt W1 x a3 a4 a5 a6 ∧ CapsAt W1 a6 x.E) := ⟨h.grown G1.out, hk.grown G1.out⟩
  have HT0 : Hid (TnAt w x a3 a4 a5 a6 ∧ CapsAt w a6 x.E) := ⟨h, hk⟩
  have HR : Hid (ReadT x I mb) := hr
  have HSz : Hid (W1.heap.size = w.heap.size + 1 + 1) := sW
  have HST : Hid (0 ≤ x.S ∧ x.S < (x.N.length : Int)) := hr.st
  have HxI : Hid (x.I = (I : Int)) := hxI
  have HF8 : Hid (x.F.length ≤ mb) := hr.f8
  have x0 := (bx.grown g1).b0
  have x1 := (bx.grown g1).b1
  have x2 := (bx.grown g1).b2
  have x3 := (bx.grown g1).b3
  have x4 := (bx.grown g1).b4
  have x5 := (bx.grown g1).b5
  have x6 := (bx.grown g1).b6
  obtain ⟨Po, hPo⟩ : ∃ P, P = PushP x I w := ⟨_, rfl⟩
  have HP : Hid (∀ W B k a3 a4 a5 a6 c3 c4 c5 c6, SureIs x I B → IsEnd (bfsL id (nxT x) I x.S.toNat) k → k ≤ x.N.length → TnAt W (pshY x I B k) a3 a4 a5 a6 → w.grownBy W none → (∀ y, a3 = some y → w.heap.size ≤ y.block) → (pushT x I B).F.length ≤ c3 → Po (.returned (tnV (I : Int) 0 0 a3 (pushT x I B).F.length c3 a4 k c4 a5 k c5 a6 k c6)) W) := fun W B k a3 a4 a5 a6 c3 c4 c5 c6 h1 h2 h3 h4 h5 h6 h7 => by rw [hPo]; exact ⟨B, k, a3, a4, a5, a6, c3, c4, c5, c6, h1, h2, h3, rfl, h4, h5, h6, h7⟩
  rw [← hPo]
  rw [HW1.out] at x0 x1 x2 x3 x4 x5 x6
  clear hW0 hW1 g0 g1 s0 bx h hk hr hxI hrb sW hPo
  go_enter Try.func30, Try.ntmps30
  go_wp2_with fail
  rw [← HW1.out]
  clear x0 x1 x2 x3 x4 x5 x6
  refine HS.out.mono ?_
  rintro E w2 ⟨g, c, ps, rfl, hsi, hg2, Wx, hgx, ho⟩
  have HSI : Hid (SureIs x I (wordsT ps)) := hsi
  have G2 : Hid (W1.grownBy w2 none) := hg2
  have HSA : Hid (∀ W, w2.grownBy W none → SureAt W x I g ps mb) := fun W hW => (sure_at HR.out hsi ho).grown hW
  clear hsi hg2 hgx ho HS
  obtain ⟨W3, hW3⟩ : ∃ W, W = w2.alloc (.cells #[.slice (some ⟨g, 0, none⟩) x.N.length c] 23) := ⟨_, rfl⟩
  have HW3 : Hid (W3 = _) := hW3
  have g3 : w2.grownBy W3 none := by rw [hW3]; exact grown_alloc _ _
  have HSB : Hid (∀ W, W3.grownBy W none → W.cell? ⟨w2.heap.size, 0, none⟩ = some (.slice (some ⟨g, 0, none⟩) x.N.length c)) := fun W hW => hW.cell (by rw [hW3, cell_of_row _ _ _ _ _ (0, 0) (heap_alloc_new _ _)]; rfl) (by simp)
  have G3 : Hid (W1.grownBy W3 none) := grown_trans G2.out g3
  have HS3 : Hid (W3.heap.size = w2.heap.size + 1) := by show _ = _; rw [hW3, World.size_alloc]
  have HG23 : Hid (w2.grownBy W3 none) := g3
  obtain ⟨s0, hs0⟩ : ∃ s0 : Nat, x.S = (s0 : Int) := ⟨x.S.toNat, by have := HST.out.1; omega⟩
  have hst : x.S.toNat = s0 := by rw [hs0]; rfl
  have hsn : s0 < x.N.length := by have := HST.out.2; omega
  have hpl := push_len HR.out HSI.out (HSA.out w2 (grown_refl _ _)).l8
  have HO : Hid (Calls Try.prog 35 #[.int .i64 (I : Int), .int .i64 (s0 : Int), .func (.func 53) #[] #[.pointer (some ⟨w.heap.size, 0, none⟩), .pointer (some ⟨w2.heap.size, 0, none⟩)], .func (.func 54) #[] #[.pointer (some ⟨w.heap.size, 0, none⟩), .pointer (some ⟨w2.heap.size, 0, none⟩)]] W3 (OfTP w.heap.size I s0 x.N.length (nxT x) (syT (pushT x I (wordsT ps))) (fun s => (pushT x I (wordsT ps)).E.getD s []) W3)) := by
    refine ofP_any w.heap.size I s0 x.N.length (nxT x) (syT (pushT x I (wordsT ps))) (fun s => (pushT x I (wordsT ps)).E.getD s []) _ _ W3 hI hN hsn (fun s a hs ha => (HR.out.lt hs ha).1) (fun s a hs ha => by have := hpl.1 s a hs ha; omega) (fun s hs => by have := hpl.2 s hs; omega) (fun W hW s a hs ha => ?_) (fun W hW s hs => ?_)
    · exact (pushed1_any x I a3 a4 a5 a6 c3 c4 c5 c6 _ _ g c ps s a W (HT.out.1.grown (grown_trans G3.out hW)) HR.out hI hN (HX.out W (grown_trans G3.out hW)) (HSB.out W hW) (HSA.out W (grown_trans HG23.out hW)) hmb hs ha).mono fun e w' ⟨b, k, h1, h2, h3, h4, h5⟩ => ⟨b, k, h1, h2, h3, h4⟩
    · refine (pushed2_any x I a3 a4 a5 a6 c3 c4 c5 c6 _ _ g c ps s w W (grown_trans G1.out (grown_trans G3.out hW)) HT0.out.1 HT0.out.2 HR.out hN (HX.out W (grown_trans G3.out hW)) (HSB.out W hW) (HSA.out W (grown_trans HG23.out hW)) hmb hs).mono fun e w' ⟨b, k, h1, h2, h3, h4, h5⟩ => ⟨b, k, h1, h3, h4, fun hne y hy => .inl ?_, h5⟩
      have h6 := ints_lt h2 hne hy
      have h7 := (grown_trans G1.out G3.out).size
      simp only [Nat.lt_min]
      omega
  have Y3 := HX.out W3 G3.out
  have x0 := Y3.b0
  have x2 := Y3.b2
  rw [HxI.out] at x0
  rw [hs0] at x2
  rw [hW3] at x0 x2
  clear Y3 g3 hW3 hpl
  go_wp2_with fail
  rw [← HW3.out]
  clear x0 x2
  refine HO.out.mono ?_
  rintro E w4 ⟨k, a4', a5', a6', c4', c5', c6', ps', hend, hkn, rfl, htn, hg4, htr, hwt, hcap, P, hP, hPT, hPb, hPn⟩
  have HEnd : Hid (IsEnd (bfsL id (nxT x) I s0) k) := hend
  have G4 : Hid (W3.grownBy w4 none) := hg4
  have HSV : Hid (∀ W W' b, w.heap.size ≤ b → b < W3.heap.size → w4.grownBy W none → W.grownBy W' (some b) → TnAt W' (ofX I (nxT x) (syT (pushT x I (wordsT ps))) (fun s => (pushT x I (wordsT ps)).E.getD s []) (bfsL id (nxT x) I s0 k)) none a4' a5' a6') := fun W W' b h1 h2 h3 h4 => (hPT W' (hPb W W' b (hPn _ _ hP h3) h1 h2 h4)).1
  have HT4 : Hid (TnAt w4 (ofX I (nxT x) (syT (pushT x I (wordsT ps))) (fun s => (pushT x I (wordsT ps)).E.getD s []) (bfsL id (nxT x) I s0 k)) none a4' a5' a6') := htn
  clear hend htn hg4 htr hwt hcap HO hP hPT hPb hPn
  obtain ⟨W5, hW5⟩ : ∃ W, W = w4.alloc (tnO (I : Int) 0 0 none 0 0 a4' k c4' a5' k c5' a6' k c6') := ⟨_, rfl⟩
  have HW5 : Hid (W5 = _) := hW5
  go_wp2_with fail
  rw [← HW5.out]
  have g45 : w4.grownBy W5 none := by rw [hW5]; exact grown_alloc _ _
  have G45 : Hid (w4.grownBy W5 none) := g45
  have HS5 : Hid (W5.heap.size = w4.heap.size + 1) := by show _ = _; rw [hW5, World.size_alloc]
  have HB5 : Hid (W5.heap[w4.heap.size]? = some (.cells #[.int .i64 (I : Int), .int .i64 0, .int .i64 0, .slice none 0 0, .slice a4' k c4', .slice a5' k c5', .slice a6' k c6'] 26 (0, 0))) := by show _ = _; rw [hW5]; exact heap_alloc_new _ _
  have HSE : Hid (x.S.toNat = s0) := hst
  have sa := HSA.out W3 HG23.out
  have hsp : s0 < ps.length := by rw [sa.len]; exact hsn
  have z0 := sa.cell s0 hsp
  have zl := (sa.lie _ (OwnS.mem hsp)).1
  have zw := words_at hsp
  have z8 := sa.l8 s0 hsp
  obtain ⟨t, ht⟩ : ∃ t, ps.getD s0 (none, 0, []) = t := ⟨_, rfl⟩
  rw [ht] at z0 zl zw
  rw [← zw] at z8
  obtain ⟨X, hX⟩ : ∃ X, x.F ++ t.2.2 = X := ⟨_, rfl⟩
  have HFX : Hid ((pushT x I (wordsT ps)).F = X) := by
    show x.F ++ (wordsT ps).getD x.S.toNat [] = X
    rw [hst, ← zw, hX]
  have hXl : X.length ≤ 300 := by rw [← hX, List.length_append]; have := HF8.out; omega
  have CTA0 : ∀ (W : World) (g2 : Nat), W5.grownBy W none → C2 W g2 (.slice a3 x.F.length c3) (.slice t.1 t.2.2.length t.2.1) → Calls Try.prog 39 #[.slice (some ⟨g2, 0, none⟩) 2 2] W (CatX X W) := fun W g2 hW c2 => by
    have hg : W3.grownBy W none := grown_trans G4.out (grown_trans G45.out hW)
    have hf : Ints W a3 x.F := (HT.out.1.first).grown (grown_trans G3.out hg)
    rw [← hX]; exact catX_any _ _ _ _ _ _ g2 W hf (zl.grown hg) (by have := HF8.out; omega) (by omega) c2.1 c2.2
  obtain ⟨n2, hn2⟩ : ∃ n, t.2.2.length = n := ⟨_, rfl⟩
  simp only [valT] at z0
  rw [hn2] at z0 CTA0
  have Y3 := HX.out W3 G3.out
  have S3' : SPd w.heap.size w2.heap.size g s0 (.slice a3 x.F.length c3) (.slice (some ⟨g, 0, none⟩) x.N.length c) (.int .i64 (s0 : Int)) (.slice t.1 n2 t.2.1) W3 := ⟨Y3.b3, HSB.out W3 (grown_refl _ _), by rw [← hs0]; exact Y3.b2, z0⟩
  obtain ⟨nF, hnF⟩ : ∃ n, x.F.length = n := ⟨_, rfl⟩
  rw [hnF] at CTA0 S3'
  have CTA : Hid (∀ (W : World) (g2 : Nat), W5.grownBy W none → C2 W g2 (.slice a3 nF c3) (.slice t.1 n2 t.2.1) → Calls Try.prog 39 #[.slice (some ⟨g2, 0, none⟩) 2 2] W (CatX X W)) := CTA0
  have S3 : Hid (SPd w.heap.size w2.heap.size g s0 (.slice a3 nF c3) (.slice (some ⟨g, 0, none⟩) x.N.length c) (.int .i64 (s0 : Int)) (.slice t.1 n2 t.2.1) W3) := S3'
  have S0 : Hid (SPd w.heap.size w2.heap.size g s0 (.slice a3 nF c3) (.slice (some ⟨g, 0, none⟩) x.N.length c) (.int .i64 (s0 : Int)) (.slice t.1 n2 t.2.1) W5.drew) := SPd.kept S3' (grown_drew (grown_trans G4.out g45))
  have isn : (s0 : Int) < (x.N.length : Int) := by omega
  clear hW5 g45 sa hsp z0 zl zw z8 ht hX CTA0 hn2 Y3 S3' hnF hst hs0 HSA HT HT0 HX HSB hsn
  refine wp_region_held_drew (S := SPd w.heap.size w2.heap.size g s0 (.slice a3 nF c3) (.slice (some ⟨g, 0, none⟩) x.N.length c) (.int .i64 (s0 : Int)) (.slice t.1 n2 t.2.1)) (by kernel_rfl) (S0.out) (fun hHeld => ?_)
  refine wpAnyH_take (i := 0) (v := ?_) rfl (by kernel_rfl) (by kernel_rfl) (by kernel_rfl) (fun _ _ _ h => h) (Or.inl ⟨by rfl, ?_⟩) (by assumption) ?_
  rotate_left
  · intro W hSw
    obtain ⟨q0, q1, q2, q3⟩ := hSw
    go_simp
    with_reducible rfl
  try simp only [Act.put, List.getElem_toArray, List.getElem_cons_succ, List.getElem_cons_zero, List.setIfInBounds_toArray, List.set_cons_zero, List.set_cons_succ]
  refine wpAnyH_take (i := 1) (v := ?_) rfl (by kernel_rfl) (by kernel_rfl) (by kernel_rfl) (fun _ _ _ h => h) (Or.inl ⟨by rfl, ?_⟩) (by assumption) ?_
  rotate_left
  · intro W hSw
    obtain ⟨q0, q1, q2, q3⟩ := hSw
    go_simp
    with_reducible rfl
  try simp only [Act.put, List.getElem_toArray, List.getElem_cons_succ, List.getElem_cons_zero, List.setIfInBounds_toArray, List.set_cons_zero, List.set_cons_succ]
  refine wpAnyH_take (i := 2) (v := ?_) rfl (by kernel_rfl) (by kernel_rfl) (by kernel_rfl) (fun _ _ _ h => h) (Or.inl ⟨by rfl, ?_⟩) (by assumption) ?_
  rotate_left
  · intro W hSw
    obtain ⟨q0, q1, q2, q3⟩ := hSw
    go_simp
    with_reducible rfl
  try simp only [Act.put, List.getElem_toArray, List.getElem_cons_succ, List.getElem_cons_zero, List.setIfInBounds_toArray, List.set_cons_zero, List.set_cons_succ]
  refine wpAnyH_take (i := 3) (v := ?_) rfl (by kernel_rfl) (by kernel_rfl) (by kernel_rfl) (fun _ _ _ h => h) (Or.inl ⟨by rfl, ?_⟩) (by assumption) ?_
  rotate_left
  · intro W hSw
    obtain ⟨q0, q1, q2, q3⟩ := hSw
    go_simp
    with_reducible rfl
  try simp only [Act.put, List.getElem_toArray, List.getElem_cons_succ, List.getElem_cons_zero, List.setIfInBounds_toArray, List.set_cons_zero, List.set_cons_succ]
  refine wpAnyH_take (i := 4) (v := ?_) rfl (by kernel_rfl) (by kernel_rfl) (by kernel_rfl) (fun _ _ _ h => h) (Or.inl ⟨by rfl, ?_⟩) (by assumption) ?_
  rotate_left
  · intro W hSw
    obtain ⟨q0, q1, q2, q3⟩ := hSw
    go_simp
    with_reducible rfl
  try simp only [Act.put, List.getElem_toArray, List.getElem_cons_succ, List.getElem_cons_zero, List.setIfInBounds_toArray, List.set_cons_zero, List.set_cons_succ]
  refine wpAnyH_take (i := 5) (v := ?_) rfl (by kernel_rfl) (by kernel_rfl) (by kernel_rfl) (fun _ _ _ h => h) (Or.inl ⟨by rfl, ?_⟩) (by assumption) ?_
  rotate_left
  · intro W hSw
    obtain ⟨q0, q1, q2, q3⟩ := hSw
    go_simp
    with_reducible rfl
  try simp only [Act.put, List.getElem_toArray, List.getElem_cons_succ, List.getElem_cons_zero, List.setIfInBounds_toArray, List.set_cons_zero, List.set_cons_succ]
  refine wpAnyH_take (i := 6) (v := ?_) rfl (by kernel_rfl) (by kernel_rfl) (by kernel_rfl) (fun _ _ _ h => h) (Or.inl ⟨by rfl, ?_⟩) (by assumption) ?_
  rotate_left
  · intro W hSw
    obtain ⟨q0, q1, q2, q3⟩ := hSw
    go_simp
    with_reducible rfl
  try simp only [Act.put, List.getElem_toArray, List.getElem_cons_succ, List.getElem_cons_zero, List.setIfInBounds_toArray, List.set_cons_zero, List.set_cons_succ]
  refine wpAnyH_ready (rs := [7]) (by kernel_rfl) (by simp) ?_
  refine AllReadyH.cons (o := _) rfl (fun K' hK => ?_) ?_
  · go_simp
    refine hK.out _ _ (hHeld.kept (grown_alloc _ _)) (fun hHeld => ?_)
    clear hK K'
    try simp only [Act.put, List.getElem_toArray, List.getElem_cons_succ, List.getElem_cons_zero, List.setIfInBounds_toArray, List.set_cons_zero, List.set_cons_succ]
    refine wpAnyH_ready (rs := [8]) (by kernel_rfl) (by simp) ?_
    refine AllReadyH.cons (o := _) rfl (fun K' hK => ?_) ?_
    · go_simp
      refine (CTA.out _ _ (gr_1 _ _) (c2_a _ (.slice a3 nF c3) (.slice t.1 n2 t.2.1) _)).mono ?_
      rintro E w6 ⟨ax, kx, rfl, hix, hgx, hnx, hcx⟩
      have G6 : Hid (W5.grownBy w6 none) := grown_trans (gr_1 W5 _) hgx
      have hnx5 : ∀ y, ax = some y → W5.heap.size ≤ y.block := fun y hy => Nat.le_trans (gr_1 W5 _).size (hnx y hy).1
      have H6 : Hid (SPd w.heap.size w2.heap.size g s0 (.slice a3 nF c3) (.slice (some ⟨g, 0, none⟩) x.N.length c) (.int .i64 (s0 : Int)) (.slice t.1 n2 t.2.1) w6) := SPd.kept S3.out (grown_trans G4.out (grown_trans G45.out G6.out))
      have hb6 : w6.heap[w4.heap.size]? = some (.cells #[.int .i64 (I : Int), .int .i64 0, .int .i64 0, .slice none 0 0, .slice a4' k c4', .slice a5' k c5', .slice a6' k c6'] 26 (0, 0)) := (G6.out.block _ (by rw [HS5.out]; omega) (by simp)).trans HB5.out
      have x10 := (box7_of hb6).1.b3
      have f10 := (box7_of hb6).2 3
      obtain ⟨W7, hW7⟩ : ∃ W, W = w6.setCell ⟨w4.heap.size, 3, none⟩ (.slice ax X.length kx) := ⟨_, rfl⟩
      have HW7 : Hid (W7 = _) := hW7
      have hb7 := heap_setCell_same w6 w4.heap.size 3 _ _ (.slice ax X.length kx) hb6
      rw [← hW7] at hb7
      have g67 : w6.grownBy W7 (some w4.heap.size) := by rw [hW7]; exact grown_set _ _ _
      have hg47 : w4.grownBy W7 none := grown_new (grown_trans G45.out G6.out) g67 (Nat.le_refl _)
      have bx7 := (box7_of hb7).1
      have y0 := bx7.b0
      have y1 := bx7.b1
      have y2 := bx7.b2
      have y3 := bx7.b3
      have y4 := bx7.b4
      have y5 := bx7.b5
      have y6 := bx7.b6
      have G17 : W1.grownBy W7 none := grown_trans G3.out (grown_trans G4.out hg47)
      obtain ⟨⟨p0, p1, p2, p3, p4, p5, p6⟩, fz, W9, hW9, g9, q0, q1, q2, q3, q4, q5, q6⟩ := seven_store (HRB.out W7 G17) (.int .i64 (I : Int)) (.int .i64 0) (.int .i64 0) (.slice ax X.length kx) (.slice a4' k c4') (.slice a5' k c5') (.slice a6' k c6')
      have HW9 : Hid (W9 = _) := hW9
      have S7 : Hid (SPd w.heap.size w2.heap.size g s0 (.slice a3 nF c3) (.slice (some ⟨g, 0, none⟩) x.N.length c) (.int .i64 (s0 : Int)) (.slice t.1 n2 t.2.1) W7) := SPd.kept S3.out (grown_trans G4.out hg47)
      have hs12 := G2.out.size
      have F : Hid (Po (.returned (tnV (I : Int) 0 0 ax X.length kx a4' k c4' a5' k c5' a6' k c6')) W9) := by
        have i7 : Ints W7 ax X := ints_far hix (fun _ y hy => by have := hnx5 y hy; have := HS5.out; omega) g67
        have i9 : Ints W9 ax X := ints_far i7 (fun _ y hy => by have := hnx5 y hy; have := HS5.out; have := HSz.out; have := G3.out.size; have := G4.out.size; omega) g9
        have h4 := HSV.out W7 W9 (w.heap.size + 1) (by omega) (by have := HSz.out; have := HS3.out; omega) hg47 g9
        have hY : pshY x I (wordsT ps) k = ofK id 0 (pushT x I (wordsT ps)).F I (nxT x) (syT (pushT x I (wordsT ps))) (fun s => (pushT x I (wordsT ps)).E.getD s []) (bfsL id (nxT x) I s0 k) := by show ofK _ _ _ _ _ _ _ (bfsL id (nxT x) I x.S.toNat k) = _; rw [HSE.out]
        have h5 : TnAt W9 (pshY x I (wordsT ps) k) ax a4' a5' a6' := by
          refine ⟨?_, ?_, ?_, ?_, ?_, ?_, ?_, ?_⟩
          · show Ints W9 ax (pushT x I (wordsT ps)).F
            rw [HFX.out]; exact i9
          · rw [hY]; exact h4.next
          · rw [hY]; exact h4.says
          · rw [hY]; exact h4.last
          · show (pushT x I (wordsT ps)).F.length ≤ _
            rw [HFX.out]; unfold maxLen; omega
          · rw [hY]; exact h4.m4
          · rw [hY]; exact h4.m5
          · rw [hY]; exact h4.m6
        have h6 := HP.out W9 (wordsT ps) k ax a4' a5' a6' kx c4' c5' c6' HSI.out (by rw [HSE.out]; exact HEnd.out) hkn h5 (grown_new (grown_trans G1.out G17) g9 (by omega)) (fun y hy => by have := hnx5 y hy; have := HS5.out; have := G4.out.size; have := G3.out.size; have := HSz.out; omega) (by rw [HFX.out]; exact hcx)
        rw [HFX.out] at h6
        exact h6
      have f0 := fz 0
      have f1 := fz 1
      have f2 := fz 2
      have f3 := fz 3
      have f4 := fz 4
      have f5 := fz 5
      have f6 := fz 6
      clear hW7 g9 fz hW9 g67 hg47 bx7 hb7 hb6 hix hgx hnx hcx G17
      go_wp2_with fail
      refine hK.out _ _ (H6.out) (fun hHeld => ?_)
      clear hK K'
      try simp only [Act.put, List.getElem_toArray, List.getElem_cons_succ, List.getElem_cons_zero, List.setIfInBounds_toArray, List.set_cons_zero, List.set_cons_succ]
      refine wpAnyH_take (i := 9) (v := ?_) rfl (by kernel_rfl) (by kernel_rfl) (by kernel_rfl) (fun _ _ _ h => h) (Or.inl ⟨by rfl, ?_⟩) (by assumption) ?_
      rotate_left
      · intro W hSw
        obtain ⟨q0, q1, q2, q3⟩ := hSw
        go_simp
        with_reducible rfl
      try simp only [Act.put, List.getElem_toArray, List.getElem_cons_succ, List.getElem_cons_zero, List.setIfInBounds_toArray, List.set_cons_zero, List.set_cons_succ]
      refine wpAnyH_ready (rs := [10]) (by kernel_rfl) (by simp) ?_
      refine AllReadyH.cons (o := _) rfl (fun K' hK => ?_) ?_
      · go_simp
        rw [← HW7.out]
        refine hK.out _ _ (S7.out) (fun hHeld => ?_)
        clear hK K'
        try simp only [Act.put, List.getElem_toArray, List.getElem_cons_succ, List.getElem_cons_zero, List.setIfInBounds_toArray, List.set_cons_zero, List.set_cons_succ]
        refine wpAnyH_done (by kernel_rfl) ?_ _
        go_wp2_with fail
        rw [← HW9.out]
        exact bodyPost_ret (v := tnV (I : Int) 0 0 ax X.length kx a4' k c4' a5' k c5' a6' k c6') (by simp [results, Try.results30, go_sem, q0, q1, q2, q3, q4, q5, q6]) rfl F.out
      exact AllReadyH.nil
    exact AllReadyH.nil
  exact AllReadyH.nil

end Go.Proofs.Ytodcmlcpicabaaa
