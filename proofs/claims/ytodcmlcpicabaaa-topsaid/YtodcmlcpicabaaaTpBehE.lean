/- The program's Behind. -/
import Derived.Test.YtodcmlcpicabaaaTpBeh
import Derived.Test.YtodcmlcpicabaaaTlLeast
import Derived.Test.YtodcmlcpicabaaaTnCk
namespace Go.Proofs.Ytodcmlcpicabaaa
open Go.RowKit
set_option linter.unusedVariables false
set_option linter.unusedSimpArgs false

theorem lstL_lenB {x : TrI} {I : Nat} {B : List (List Int)} {k : Nat} {kd : Nat → Nat} {k2 : Nat} (h : IsEnd (bfsL id (fun s l => kd (nxT (pshY x I B k) s l)) I (kd 0)) k2) : (lstL x I B k kd k2).N.length = k2 ∧ (lstL x I B k kd k2).Y.length = k2 ∧ (lstL x I B k kd k2).E.length = k2 := by
  have := ofK_len (κ := id) (O := x.O) (F := (pushT x I B).F) (l := I) (δ := fun s l => kd (nxT (pshY x I B k) s l)) (σ := syT (pshY x I B k)) (ε := fun q => (pshY x I B k).E.getD q []) (xs := bfsL id (fun s l => kd (nxT (pshY x I B k) s l)) I (kd 0) k2)
  rw [h.len] at this
  exact this
def BehBP (x y : TrI) (w : World) (e : Ending) (w' : World) : Prop := ∃ z, e = .returned (.tuple #[tnZ, .int .i64 z]) ∧ ((ChkB x y z ∧ z ≠ 0) ∨ (GoodT x ∧ GoodT y ∧ x.O ≠ y.I ∧ z = 3)) ∧ w.grownBy w' none
/-- What Least comes to, of one whose start is its first state. -/
structure LstIs (z : TrI) (I : Nat) (B : List (List Int)) (k : Nat) (kd : Nat → Nat) (k2 : Nat) : Prop where
  sure : SureIs z I B
  e1 : IsEnd (bfsL id (nxT z) I z.S.toNat) k
  kn : k ≤ z.N.length
  kind : KindIs (pshY z I B k) I k kd
  e2 : IsEnd (bfsL id (fun s l => kd (nxT (pshY z I B k) s l)) I (kd 0)) k2
  k2n : k2 ≤ k
def BehEP (x y : TrI) (I : Nat) (w : World) (e : Ending) (w' : World) : Prop := ∃ k0 B k kd k2, IsEnd (bfsL id (bD x y) I (bX x y)) k0 ∧ k0 ≤ x.N.length * y.N.length ∧ LstIs (behY x y I k0) I B k kd k2 ∧ w.grownBy w' none ∧
  ((¬ (k2 ≤ 6 ∧ LittleT (lstL (behY x y I k0) I B k kd k2)) ∧ e = .returned (.tuple #[tnZ, .int .i64 7])) ∨ (k2 ≤ 6 ∧ LittleT (lstL (behY x y I k0) I B k kd k2) ∧ ∃ a3 a4 a5 a6 c3 c4 c5 c6, e = .returned (.tuple #[tnV (I : Int) y.O 0 a3 (pushT (behY x y I k0) I B).F.length c3 a4 k2 c4 a5 k2 c5 a6 k2 c6, .int .i64 0]) ∧ TnAt w' (lstL (behY x y I k0) I B k kd k2) a3 a4 a5 a6 ∧ (pushT (behY x y I k0) I B).F.length ≤ c3))
theorem beh_good {x y : TrI} (hx : GoodT x) (hy : GoodT y) (h : x.O = y.I) : BehG x y x.I.toNat y.I.toNat := by
  have rx := hx.read
  have hl := hx.lets
  have ho := hy.many.1
  unfold ManyT at ho
  have hL : ∀ u, u ∈ sayT x → ∀ j, j ∈ u → 0 ≤ j ∧ j < ((y.I.toNat : Nat) : Int) := fun u hu j hj => by
    obtain ⟨i, hi, e⟩ := List.getElem_of_mem hj
    have h1 := hl u hu i hi
    rw [List.getD, List.getElem?_eq_getElem hi, Option.getD_some, e] at h1
    omega
  have hE : ∀ s, s < x.N.length → x.E.getD s [] ∈ sayT x := fun s hs => List.mem_cons.2 (.inr (List.mem_flatMap.2 ⟨s, by simp; have := rx.hy; omega, List.mem_append.2 (.inr (List.mem_cons.2 (.inl rfl)))⟩))
  have hY : ∀ s, s < x.N.length → ∀ l, l < x.I.toNat → syT x s l ∈ sayT x := fun s hs l hl => by
    refine List.mem_cons.2 (.inr (List.mem_flatMap.2 ⟨s, by simp; have := rx.hy; omega, List.mem_append.2 (.inl ?_)⟩))
    have hlt : l < (x.Y.getD s []).length := by rw [rx.ry s hs]; exact hl
    show (x.Y.getD s []).getD l [] ∈ x.Y.getD s []
    revert hlt
    generalize x.Y.getD s [] = r
    intro hlt
    rw [List.getD, List.getElem?_eq_getElem hlt, Option.getD_some]
    exact List.getElem_mem hlt
  exact ⟨rx, hy.read, hL _ (List.mem_cons.2 (.inl rfl)), fun s hs l hl => hL _ (hY s hs l hl), fun s hs => hL _ (hE s hs)⟩

set_option maxHeartbeats 1600000 in
set_option maxRecDepth 100000 in
theorem behE_bad (x y : TrI) (a3 a4 a5 a6 : Option Addr) (c3 c4 c5 c6 : Nat) (e3 e4 e5 e6 : Option Addr) (d3 d4 d5 d6 : Nat) (w : World) (hx : TnAt w x a3 a4 a5 a6) (hy : TnAt w y e3 e4 e5 e6) (hb : ¬ (GoodT x ∧ GoodT y ∧ x.O = y.I)) :
    Calls Try.prog 6 #[tnV x.I x.O x.S a3 x.F.length c3 a4 x.N.length c4 a5 x.Y.length c5 a6 x.E.length c6, tnV y.I y.O y.S e3 y.F.length d3 e4 y.N.length d4 e5 y.Y.length d5 e6 y.E.length d6] w (BehBP x y w) := by
  obtain ⟨W0, hW0, g0, s0, bx, bz⟩ := two_boxes7 w x y a3 a4 a5 a6 c3 c4 c5 c6 e3 e4 e5 e6 d3 d4 d5 d6
  obtain ⟨W1, hW1⟩ : ∃ W, W = W0.alloc tnZO := ⟨_, rfl⟩
  have g1 : W0.grownBy W1 none := by rw [hW1]; exact grown_alloc _ _
  have s00 : W0.heap.size = w.heap.size + 1 + 1 := by omega
  have hrb : W1.heap[w.heap.size + 1 + 1]? = some (.cells #[.int .i64 0, .int .i64 0, .int .i64 0, .slice none 0 0, .slice none 0 0, .slice none 0 0, .slice none 0 0] 26 (0, 0)) := by
    have := heap_alloc_new W0 tnZO
    rw [← hW1, s00] at this
    exact this
  have HW1 : Hid (W1 = ((w.alloc (tnO x.I x.O x.S a3 x.F.length c3 a4 x.N.length c4 a5 x.Y.length c5 a6 x.E.length c6)).alloc (tnO y.I y.O y.S e3 y.F.length d3 e4 y.N.length d4 e5 y.Y.length d5 e6 y.E.length d6)).alloc tnZO) := by show _ = _; rw [hW1, hW0]
  have G1 : Hid (w.grownBy W1 none) := grown_trans g0 g1
  have HSz : Hid (W1.heap.size = w.heap.size + 1 + 1 + 1) := by show _ = _; rw [hW1, World.size_alloc, s00]
  have HC : Hid (Calls Try.prog 18 #[tnV x.I x.O x.S a3 x.F.length c3 a4 x.N.length c4 a5 x.Y.length c5 a6 x.E.length c6, tnV y.I y.O y.S e3 y.F.length d3 e4 y.N.length d4 e5 y.Y.length d5 e6 y.E.length d6] W1 (ChkBP x y W1)) := checkBoth_any x y a3 a4 a5 a6 c3 c4 c5 c6 e3 e4 e5 e6 d3 d4 d5 d6 W1 (hx.grown G1.out) (hy.grown G1.out)
  have HRB : Hid (∀ W, W1.grownBy W none → W.heap[w.heap.size + 1 + 1]? = some (.cells #[.int .i64 0, .int .i64 0, .int .i64 0, .slice none 0 0, .slice none 0 0, .slice none 0 0, .slice none 0 0] 26 (0, 0))) := fun W hW => (hW.block _ (by have := HSz.out; omega) (by simp)).trans hrb
  have HX : Hid (∀ W, W1.grownBy W none → Box7 W w.heap.size x.I x.O x.S a3 x.F.length c3 a4 x.N.length c4 a5 x.Y.length c5 a6 x.E.length c6) := fun W hW => (bx.grown g1).grown hW
  have HY : Hid (∀ W, W1.grownBy W none → Box7 W (w.heap.size + 1) y.I y.O y.S e3 y.F.length d3 e4 y.N.length d4 e5 y.Y.length d5 e6 y.E.length d6) := fun W hW => (bz.grown g1).grown hW
  have x0 := (bx.grown g1).b0
  have x1 := (bx.grown g1).b1
  have x2 := (bx.grown g1).b2
  have x3 := (bx.grown g1).b3
  have x4 := (bx.grown g1).b4
  have x5 := (bx.grown g1).b5
  have x6 := (bx.grown g1).b6
  have z0 := (bz.grown g1).b0
  have z1 := (bz.grown g1).b1
  have z2 := (bz.grown g1).b2
  have z3 := (bz.grown g1).b3
  have z4 := (bz.grown g1).b4
  have z5 := (bz.grown g1).b5
  have z6 := (bz.grown g1).b6
  obtain ⟨Po, hPo⟩ : ∃ P, P = BehBP x y w := ⟨_, rfl⟩
  have HPo : Hid (Po = BehBP x y w) := hPo
  have HNG : Hid (¬ (GoodT x ∧ GoodT y ∧ x.O = y.I)) := hb
  rw [← hPo]
  rw [HW1.out] at x0 x1 x2 x3 x4 x5 x6 z0 z1 z2 z3 z4 z5 z6
  clear hW0 hW1 g0 g1 s0 s00 bx bz hx hy hrb hPo hb
  go_enter Try.func6, Try.ntmps6
  go_wp2_with fail
  rw [← HW1.out]
  clear x0 x1 x2 x3 x4 x5 x6 z0 z1 z2 z3 z4 z5 z6
  refine HC.out.mono ?_
  rintro E w2 ⟨z, rfl, hz, hg2⟩
  have HZ : Hid (ChkB x y z) := hz
  have G2 : Hid (W1.grownBy w2 none) := hg2
  have x1 := (HX.out w2 hg2).b1
  have z0 := (HY.out w2 hg2).b0
  clear hz hg2 HC HX HY
  by_cases hz0 : z = 0
  · subst hz0
    have hg := ((HZ.out.all HZ.out).2.1 rfl)
    have ho : ¬ (x.O = y.I) := fun e => HNG.out ⟨hg.1, hg.2, e⟩
    have d1 : (x.O != y.I) = true := by simpa using ho
    have HA : Hid (GoodT x ∧ GoodT y ∧ x.O ≠ y.I) := ⟨hg.1, hg.2, ho⟩
    clear hg
    obtain ⟨⟨p0, p1, p2, p3, p4, p5, p6⟩, fz, W5, hW5, g5, y0, y1, y2, y3, y4, y5, y6⟩ := seven_store (HRB.out w2 G2.out) (.int .i64 0) (.int .i64 0) (.int .i64 0) (.slice none 0 0) (.slice none 0 0) (.slice none 0 0) (.slice none 0 0)
    have F : Hid (Po (.returned (.tuple #[tnZ, .int .i64 3])) W5) := by
      show Po _ _
      rw [HPo.out]
      exact ⟨3, rfl, .inr ⟨HA.out.1, HA.out.2.1, HA.out.2.2, rfl⟩, grown_new (grown_trans G1.out G2.out) g5 (by omega)⟩
    have HW5 : Hid (W5 = _) := hW5
    have f0 := fz 0
    have f1 := fz 1
    have f2 := fz 2
    have f3 := fz 3
    have f4 := fz 4
    have f5 := fz 5
    have f6 := fz 6
    clear hW5 g5 fz HRB HNG HZ HA
    go_wp2_with fail
    rw [← HW5.out]
    exact bodyPost_ret (v := .tuple #[tnZ, .int .i64 3]) (by simp [results, Try.results6, go_sem, y0, y1, y2, y3, y4, y5, y6]) rfl F.out
  · have d1 : (z != 0) = true := by simpa using hz0
    have HZ0 : Hid (z ≠ 0) := hz0
    obtain ⟨⟨p0, p1, p2, p3, p4, p5, p6⟩, fz, W5, hW5, g5, y0, y1, y2, y3, y4, y5, y6⟩ := seven_store (HRB.out w2 G2.out) (.int .i64 0) (.int .i64 0) (.int .i64 0) (.slice none 0 0) (.slice none 0 0) (.slice none 0 0) (.slice none 0 0)
    have F : Hid (Po (.returned (.tuple #[tnZ, .int .i64 z])) W5) := by
      show Po _ _
      rw [HPo.out]
      exact ⟨z, rfl, .inl ⟨HZ.out, HZ0.out⟩, grown_new (grown_trans G1.out G2.out) g5 (by omega)⟩
    have HW5 : Hid (W5 = _) := hW5
    have f0 := fz 0
    have f1 := fz 1
    have f2 := fz 2
    have f3 := fz 3
    have f4 := fz 4
    have f5 := fz 5
    have f6 := fz 6
    clear hW5 g5 fz HRB HNG HZ
    go_wp2_with fail
    rw [← HW5.out]
    exact bodyPost_ret (v := .tuple #[tnZ, .int .i64 z]) (by simp [results, Try.results6, go_sem, y0, y1, y2, y3, y4, y5, y6]) rfl F.out

set_option maxHeartbeats 1600000 in
set_option maxRecDepth 100000 in
theorem behE_good (x y : TrI) (I : Nat) (a3 a4 a5 a6 : Option Addr) (c3 c4 c5 c6 : Nat) (e3 e4 e5 e6 : Option Addr) (d3 d4 d5 d6 : Nat) (w : World) (hx : TnAt w x a3 a4 a5 a6) (hy : TnAt w y e3 e4 e5 e6) (hGx : GoodT x) (hGy : GoodT y) (hO : x.O = y.I) (hxI : x.I = (I : Int)) :
    Calls Try.prog 6 #[tnV x.I x.O x.S a3 x.F.length c3 a4 x.N.length c4 a5 x.Y.length c5 a6 x.E.length c6, tnV y.I y.O y.S e3 y.F.length d3 e4 y.N.length d4 e5 y.Y.length d5 e6 y.E.length d6] w (BehEP x y I w) := by
  have hB : BehG x y I y.I.toNat := by have := beh_good hGx hGy hO; rwa [hxI, Int.toNat_natCast] at this
  have hI : I ≤ 4 := by have := hGx.many.1; unfold ManyT at this; omega
  have hM : y.I.toNat ≤ 4 := by have := hGy.many.1; unfold ManyT at this; omega
  have hnx : x.N.length ≤ 6 := hGx.size.2
  have hny : y.N.length ≤ 6 := hGy.size.2
  have hNN : x.N.length * y.N.length ≤ 36 := Nat.mul_le_mul hnx hny
  obtain ⟨W0, hW0, g0, s0, bx, bz⟩ := two_boxes7 w x y a3 a4 a5 a6 c3 c4 c5 c6 e3 e4 e5 e6 d3 d4 d5 d6
  obtain ⟨W1, hW1⟩ : ∃ W, W = W0.alloc tnZO := ⟨_, rfl⟩
  have g1 : W0.grownBy W1 none := by rw [hW1]; exact grown_alloc _ _
  have s00 : W0.heap.size = w.heap.size + 1 + 1 := by omega
  have hrb : W1.heap[w.heap.size + 1 + 1]? = some (.cells #[.int .i64 0, .int .i64 0, .int .i64 0, .slice none 0 0, .slice none 0 0, .slice none 0 0, .slice none 0 0] 26 (0, 0)) := by
    have := heap_alloc_new W0 tnZO
    rw [← hW1, s00] at this
    exact this
  have HW1 : Hid (W1 = ((w.alloc (tnO x.I x.O x.S a3 x.F.length c3 a4 x.N.length c4 a5 x.Y.length c5 a6 x.E.length c6)).alloc (tnO y.I y.O y.S e3 y.F.length d3 e4 y.N.length d4 e5 y.Y.length d5 e6 y.E.length d6)).alloc tnZO) := by show _ = _; rw [hW1, hW0]
  have G1 : Hid (w.grownBy W1 none) := grown_trans g0 g1
  have HSz : Hid (W1.heap.size = w.heap.size + 1 + 1 + 1) := by show _ = _; rw [hW1, World.size_alloc, s00]
  have HC : Hid (Calls Try.prog 18 #[tnV x.I x.O x.S a3 x.F.length c3 a4 x.N.length c4 a5 x.Y.length c5 a6 x.E.length c6, tnV y.I y.O y.S e3 y.F.length d3 e4 y.N.length d4 e5 y.Y.length d5 e6 y.E.length d6] W1 (ChkBP x y W1)) := checkBoth_any x y a3 a4 a5 a6 c3 c4 c5 c6 e3 e4 e5 e6 d3 d4 d5 d6 W1 (hx.grown G1.out) (hy.grown G1.out)
  have HRB : Hid (∀ W, W1.grownBy W none → W.heap[w.heap.size + 1 + 1]? = some (.cells #[.int .i64 0, .int .i64 0, .int .i64 0, .slice none 0 0, .slice none 0 0, .slice none 0 0, .slice none 0 0] 26 (0, 0))) := fun W hW => (hW.block _ (by have := HSz.out; omega) (by simp)).trans hrb
  have HX : Hid (∀ W, W1.grownBy W none → Box7 W w.heap.size x.I x.O x.S a3 x.F.length c3 a4 x.N.length c4 a5 x.Y.length c5 a6 x.E.length c6) := fun W hW => (bx.grown g1).grown hW
  have HY : Hid (∀ W, W1.grownBy W none → Box7 W (w.heap.size + 1) y.I y.O y.S e3 y.F.length d3 e4 y.N.length d4 e5 y.Y.length d5 e6 y.E.length d6) := fun W hW => (bz.grown g1).grown hW
  have x0 := (bx.grown g1).b0
  have x1 := (bx.grown g1).b1
  have x2 := (bx.grown g1).b2
  have x3 := (bx.grown g1).b3
  have x4 := (bx.grown g1).b4
  have x5 := (bx.grown g1).b5
  have x6 := (bx.grown g1).b6
  have z0 := (bz.grown g1).b0
  have z1 := (bz.grown g1).b1
  have z2 := (bz.grown g1).b2
  have z3 := (bz.grown g1).b3
  have z4 := (bz.grown g1).b4
  have z5 := (bz.grown g1).b5
  have z6 := (bz.grown g1).b6
  have HL : Hid (∀ W, W1.grownBy W none → Calls Try.prog 21 #[tnV x.I x.O x.S a3 x.F.length c3 a4 x.N.length c4 a5 x.Y.length c5 a6 x.E.length c6, tnV y.I y.O y.S e3 y.F.length d3 e4 y.N.length d4 e5 y.Y.length d5 e6 y.E.length d6] W (BehP x y I W)) := fun W hW => behind_any x y I y.I.toNat hB a3 a4 a5 a6 c3 c4 c5 c6 e3 e4 e5 e6 d3 d4 d5 d6 W (hx.grown (grown_trans G1.out hW)) (hy.grown (grown_trans G1.out hW)) hxI hI hM (by omega) (by omega)
  obtain ⟨Po, hPo⟩ : ∃ P, P = BehEP x y I w := ⟨_, rfl⟩
  have HPo : Hid (Po = BehEP x y I w) := hPo
  have HG : Hid (GoodT x ∧ GoodT y) := ⟨hGx, hGy⟩
  have HB : Hid (BehG x y I y.I.toNat) := hB
  have HNN : Hid (x.N.length * y.N.length ≤ 36 ∧ I ≤ 4) := ⟨hNN, hI⟩
  have d1 : (x.O != y.I) = false := by simpa using hO
  rw [← hPo]
  rw [HW1.out] at x0 x1 x2 x3 x4 x5 x6 z0 z1 z2 z3 z4 z5 z6
  clear hW0 hW1 g0 g1 s0 s00 bx bz hx hy hrb hPo hGx hGy hO hxI hB hM hnx hny hNN
  go_enter Try.func6, Try.ntmps6
  go_wp2_with fail
  rw [← HW1.out]
  clear x0 x1 x2 x3 x4 x5 x6 z0 z1 z2 z3 z4 z5 z6
  refine HC.out.mono ?_
  rintro E w2 ⟨z, rfl, hz, hg2⟩
  have hz0 : z = 0 := (hz.all hz).2.2 HG.out
  subst hz0
  have G2 : Hid (W1.grownBy w2 none) := hg2
  have HL2 : Hid (Calls Try.prog 21 #[tnV x.I x.O x.S a3 x.F.length c3 a4 x.N.length c4 a5 x.Y.length c5 a6 x.E.length c6, tnV y.I y.O y.S e3 y.F.length d3 e4 y.N.length d4 e5 y.Y.length d5 e6 y.E.length d6] w2 (BehP x y I w2)) := HL.out w2 hg2
  have hx := HX.out w2 hg2
  have hy := HY.out w2 hg2
  have x0 := hx.b0
  have x1 := hx.b1
  have x2 := hx.b2
  have x3 := hx.b3
  have x4 := hx.b4
  have x5 := hx.b5
  have x6 := hx.b6
  have z0 := hy.b0
  have z1 := hy.b1
  have z2 := hy.b2
  have z3 := hy.b3
  have z4 := hy.b4
  have z5 := hy.b5
  have z6 := hy.b6
  clear hz hg2 hx hy HC HL HX HY
  go_wp2_with fail
  clear x0 x1 x2 x3 x4 x5 x6 z0 z1 z2 z3 z4 z5 z6
  refine HL2.out.mono ?_
  rintro E w3 ⟨k0, i3, i4, i5, i6, j3, j4, j5, j6, he0, hk0, rfl, ht3, hc3, hg3⟩
  have hin : ∀ q, q ∈ bfsL id (bD x y) I (bX x y) k0 → q < x.N.length * y.N.length := fun q hq => bfsL_lt id (fun s a hs ha => HB.out.d hs ha) HB.out.x0 k0 q hq
  have hrd : ReadT (behY x y I k0) I 72 := beh_read HB.out he0 hin
  have hlen : (behY x y I k0).N.length = k0 ∧ (behY x y I k0).Y.length = k0 ∧ (behY x y I k0).E.length = k0 := by
    have := ofK_len (κ := id) (O := y.O) (F := bF x y) (l := I) (δ := bD x y) (σ := bS x y) (ε := bE x y) (xs := bfsL id (bD x y) I (bX x y) k0)
    rw [he0.len] at this
    exact this
  have HE0 : Hid (IsEnd (bfsL id (bD x y) I (bX x y)) k0 ∧ k0 ≤ x.N.length * y.N.length) := ⟨he0, hk0⟩
  have G3 : Hid (w2.grownBy w3 none) := hg3
  obtain ⟨Y, hY⟩ : ∃ Y, behY x y I k0 = Y := ⟨_, rfl⟩
  have HYY : Hid (behY x y I k0 = Y) := hY
  have hYV : Y.I = (I : Int) ∧ Y.O = y.O ∧ Y.S = 0 ∧ Y.F.length = (bF x y).length := by rw [← hY]; exact ⟨rfl, rfl, rfl, rfl⟩
  rw [hY] at ht3 hc3 hrd hlen
  obtain ⟨nB, hnB⟩ : ∃ n, (bF x y).length = n := ⟨_, rfl⟩
  rw [hnB] at hYV ⊢
  have HL3 : Hid (Calls Try.prog 20 #[tnV (I : Int) y.O 0 i3 nB j3 i4 k0 j4 i5 k0 j5 i6 k0 j6] w3 (LeastTP Y I w3)) := by
    have h1 := leastT_any Y I i3 i4 i5 i6 j3 j4 j5 j6 w3 ht3 hc3 hrd (by omega) hYV.1 HNN.out.2 (by rw [hlen.1]; have := HNN.out.1; omega)
    rw [hYV.1, hYV.2.1, hYV.2.2.1, hYV.2.2.2, hlen.1, hlen.2.1, hlen.2.2] at h1
    exact h1
  have HYO : Hid (Y.O = y.O) := hYV.2.1
  clear he0 hk0 ht3 hc3 hg3 hin hrd hlen hY hYV hnB HL2
  go_wp2_with fail
  refine HL3.out.mono ?_
  rintro E w4 ⟨B, k, kd, k2, b3, b4, b5, b6, n3, n4, n5, n6, hsi, he1, hkn, hkd, he2, hk2, hcapF, rfl, hg4, P, hP, hPT, hPb, hPn⟩
  have HCp : Hid ((pushT Y I B).F.length ≤ n3) := hcapF
  clear hcapF
  have HPb : Hid (∀ W W' b, P W → b < w3.heap.size + 1 + 1 → W.grownBy W' (some b) → P W') := hPb
  have HPn : Hid (∀ W W', P W → W.grownBy W' none → P W') := hPn
  have HPT : Hid (∀ W, P W → TnAt W (lstL Y I B k kd k2) b3 b4 b5 b6) := hPT
  have hlen := lstL_lenB he2
  have HAll : Hid (LstIs Y I B k kd k2) := ⟨hsi, he1, hkn, hkd, he2, hk2⟩
  obtain ⟨L, hL⟩ : ∃ L, lstL Y I B k kd k2 = L := ⟨_, rfl⟩
  have HLL : Hid (lstL Y I B k kd k2 = L) := hL
  have hLV : L.I = (I : Int) ∧ L.O = Y.O ∧ L.S = 0 ∧ L.F.length = (pushT Y I B).F.length := by rw [← hL]; exact ⟨rfl, rfl, rfl, rfl⟩
  rw [hL] at HPT hlen
  rw [HYO.out] at hLV ⊢
  obtain ⟨nF, hnF⟩ : ∃ n, (pushT Y I B).F.length = n := ⟨_, rfl⟩
  have HnF : Hid ((pushT Y I B).F.length = nF) := hnF
  rw [hnF] at hLV ⊢
  have HW : Hid (Calls Try.prog 19 #[tnV (I : Int) y.O 0 b3 nF n3 b4 k2 n4 b5 k2 n5 b6 k2 n6] w4 (WithinP L (tnV (I : Int) y.O 0 b3 nF n3 b4 k2 n4 b5 k2 n5 b6 k2 n6) w4)) := by
    have h1 := within_any L b3 b4 b5 b6 n3 n4 n5 n6 w4 (HPT.out w4 hP) (hlen.2.2.trans hlen.2.1.symm)
    rw [hLV.1, hLV.2.1, hLV.2.2.1, hLV.2.2.2, hlen.1, hlen.2.1, hlen.2.2] at h1
    exact h1
  have HLn : Hid (L.N.length = k2) := hlen.1
  have G4 : Hid (w3.grownBy w4 none) := hg4
  have HP4 : Hid (P w4) := hP
  clear hsi he1 hkn hkd he2 hk2 hg4 hP hPT hPb hPn hlen hL hLV hnF HL3
  go_wp2_with fail
  refine HW.out.mono ?_
  intro E w5 hE
  rcases hE with ⟨hw, rfl, hg5⟩ | ⟨hw, rfl, hg5⟩
  · obtain ⟨⟨p0, p1, p2, p3, p4, p5, p6⟩, fz, W5, hW5, g5, y0, y1, y2, y3, y4, y5, y6⟩ := seven_store (HRB.out w5 (grown_trans G2.out (grown_trans G3.out (grown_trans G4.out hg5)))) (.int .i64 (I : Int)) (.int .i64 y.O) (.int .i64 0) (.slice b3 nF n3) (.slice b4 k2 n4) (.slice b5 k2 n5) (.slice b6 k2 n6)
    have F : Hid (Po (.returned (.tuple #[tnV (I : Int) y.O 0 b3 nF n3 b4 k2 n4 b5 k2 n5 b6 k2 n6, .int .i64 0])) W5) := by
      show Po _ _
      rw [HPo.out]
      obtain ⟨h1, h2⟩ := HE0.out
      have hT := HPT.out W5 (HPb.out w5 W5 _ (HPn.out w4 w5 HP4.out hg5) (by have := HSz.out; have := G2.out.size; have := G3.out.size; omega) g5)
      have h3 := HAll.out
      have hcp := HCp.out
      rw [HLn.out] at hw
      rw [← HLL.out] at hT hw
      rw [← HnF.out]
      rw [← HYY.out] at h3 hT hw hcp ⊢
      exact ⟨k0, B, k, kd, k2, h1, h2, h3, grown_new (grown_trans G1.out (grown_trans G2.out (grown_trans G3.out (grown_trans G4.out hg5)))) g5 (by omega), .inr ⟨hw.1, hw.2, b3, b4, b5, b6, n3, n4, n5, n6, rfl, hT, hcp⟩⟩
    have HW5 : Hid (W5 = _) := hW5
    have f0 := fz 0
    have f1 := fz 1
    have f2 := fz 2
    have f3 := fz 3
    have f4 := fz 4
    have f5 := fz 5
    have f6 := fz 6
    clear hW5 g5 fz hw hg5
    go_wp2_with fail
    rw [← HW5.out]
    exact bodyPost_ret (v := .tuple #[tnV (I : Int) y.O 0 b3 nF n3 b4 k2 n4 b5 k2 n5 b6 k2 n6, .int .i64 0]) (by simp [results, Try.results6, go_sem, y0, y1, y2, y3, y4, y5, y6]) rfl F.out
  · obtain ⟨⟨p0, p1, p2, p3, p4, p5, p6⟩, fz, W5, hW5, g5, y0, y1, y2, y3, y4, y5, y6⟩ := seven_store (HRB.out w5 (grown_trans G2.out (grown_trans G3.out (grown_trans G4.out hg5)))) (.int .i64 0) (.int .i64 0) (.int .i64 0) (.slice none 0 0) (.slice none 0 0) (.slice none 0 0) (.slice none 0 0)
    have F : Hid (Po (.returned (.tuple #[tnZ, .int .i64 7])) W5) := by
      show Po _ _
      rw [HPo.out]
      obtain ⟨h1, h2⟩ := HE0.out
      have h3 := HAll.out
      rw [HLn.out] at hw
      rw [← HLL.out] at hw
      rw [← HYY.out] at h3 hw
      exact ⟨k0, B, k, kd, k2, h1, h2, h3, grown_new (grown_trans G1.out (grown_trans G2.out (grown_trans G3.out (grown_trans G4.out hg5)))) g5 (by omega), .inl ⟨hw, rfl⟩⟩
    have HW5 : Hid (W5 = _) := hW5
    have f0 := fz 0
    have f1 := fz 1
    have f2 := fz 2
    have f3 := fz 3
    have f4 := fz 4
    have f5 := fz 5
    have f6 := fz 6
    clear hW5 g5 fz hw hg5
    go_wp2_with fail
    rw [← HW5.out]
    exact bodyPost_ret (v := .tuple #[tnZ, .int .i64 7]) (by simp [results, Try.results6, go_sem, y0, y1, y2, y3, y4, y5, y6]) rfl F.out

end Go.Proofs.Ytodcmlcpicabaaa
