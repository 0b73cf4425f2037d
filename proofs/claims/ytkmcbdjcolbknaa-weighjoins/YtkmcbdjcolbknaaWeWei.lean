/- What the law asks of what is made: weighs, noWeigh. -/
import Derived.Test.YtkmcbdjcolbknaaNuVal
import Derived.Test.YtkmcbdjcolbknaaWeRefC
namespace Go.Proofs.Ytkmcbdjcolbknaa
open Go.RowKit
set_option linter.unusedVariables false
set_option linter.unusedSimpArgs false

theorem val_bd {x : WgI} {ws : List Nat} (hx : GoodWg x) (hw : ∀ l, l ∈ ws → l < x.S.length) : ((valW x ws).natAbs : Int) < pwN (1 + ws.length + 1) :=
  bd_dot (bd_row hx hw (bd_first hx.within.1)) hx.within.2.1 (by rw [hx.shape.1]; exact hx.size.2)
theorem three_boxes (w : World) {L M K : Int} {a1 a2 a3 b1 b2 b3 d1 d2 d3 : Option Addr} {an1 ac1 an2 ac2 an3 ac3 bn1 bc1 bn2 bc2 bn3 bc3 dn1 dc1 dn2 dc2 dn3 dc3 : Nat} : ∃ W, W = ((w.alloc (wgO L a1 an1 ac1 a2 an2 ac2 a3 an3 ac3)).alloc (wgO M b1 bn1 bc1 b2 bn2 bc2 b3 bn3 bc3)).alloc (wgO K d1 dn1 dc1 d2 dn2 dc2 d3 dn3 dc3) ∧ w.grownBy W none ∧ Box4 W w.heap.size L a1 an1 ac1 a2 an2 ac2 a3 an3 ac3 ∧ Box4 W (w.heap.size + 1) M b1 bn1 bc1 b2 bn2 bc2 b3 bn3 bc3 ∧ Box4 W (w.heap.size + 1 + 1) K d1 dn1 dc1 d2 dn2 dc2 d3 dn3 dc3 := by
  obtain ⟨W1, hW1, g1, s1, x1⟩ := box4_new w L a1 an1 ac1 a2 an2 ac2 a3 an3 ac3
  obtain ⟨W2, hW2, g2, s2, x2⟩ := box4_new W1 M b1 bn1 bc1 b2 bn2 bc2 b3 bn3 bc3
  obtain ⟨W3, hW3, g3, s3, x3⟩ := box4_new W2 K d1 dn1 dc1 d2 dn2 dc2 d3 dn3 dc3
  rw [s1] at x2
  rw [s2, s1] at x3
  exact ⟨W3, by rw [hW3, hW2, hW1], grown_trans g1 (grown_trans g2 g3), x1.grown (grown_trans g2 g3), x2.grown g3, x3⟩

set_option maxHeartbeats 3200000 in
set_option maxRecDepth 100000 in
theorem weighs_any (ws : List Nat) (hl : ws.length ≤ 80) (au : Option Addr) (cu nu : Nat) (w : World) (hu : Ints w au (ws.map fun l : Nat => (l : Int))) (e4 : ws.length = nu) (z : WgI) (hz : GoodWg z) (hwz : ∀ l, l ∈ ws → l < z.S.length) (d1 d2 d3 : Option Addr) (dc1 dc2 dc3 dn1 dn2 dn3 : Nat) (mz : WgAt w z d1 d2 d3) (z1 : z.F.length = dn1) (z2 : z.S.length = dn2) (z3 : z.E.length = dn3) (x : WgI) (hx : GoodWg x) (hwx : ∀ l, l ∈ ws → l < x.S.length) (a1 a2 a3 : Option Addr) (ac1 ac2 ac3 an1 an2 an3 : Nat) (mx : WgAt w x a1 a2 a3) (x1 : x.F.length = an1) (x2 : x.S.length = an2) (x3 : x.E.length = an3) (y : WgI) (hy : GoodWg y) (hwy : ∀ l, l ∈ ws → l < y.S.length) (b1 b2 b3 : Option Addr) (bc1 bc2 bc3 bn1 bn2 bn3 : Nat) (my : WgAt w y b1 b2 b3) (y1 : y.F.length = bn1) (y2 : y.S.length = bn2) (y3 : y.E.length = bn3) (pr : Bool) (he : valW z ws = if pr then valW x ws * valW y ws else valW x ws + valW y ws) :
    Calls Try.prog 10 #[wgV z.L d1 dn1 dc1 d2 dn2 dc2 d3 dn3 dc3, wgV x.L a1 an1 ac1 a2 an2 ac2 a3 an3 ac3, wgV y.L b1 bn1 bc1 b2 bn2 bc2 b3 bn3 bc3, .slice au nu cu, .bool pr] w (fun e w' => e = .returned (.bool true) ∧ w.grownBy w' none) := by
  obtain ⟨W1, hW1, g1, bz, bx, by'⟩ := three_boxes w (L := z.L) (M := x.L) (K := y.L) (a1 := d1) (a2 := d2) (a3 := d3) (b1 := a1) (b2 := a2) (b3 := a3) (d1 := b1) (d2 := b2) (d3 := b3) (an1 := dn1) (ac1 := dc1) (an2 := dn2) (ac2 := dc2) (an3 := dn3) (ac3 := dc3) (bn1 := an1) (bc1 := ac1) (bn2 := an2) (bc2 := ac2) (bn3 := an3) (bc3 := ac3) (dn1 := bn1) (dc1 := bc1) (dn2 := bn2) (dc2 := bc2) (dn3 := bn3) (dc3 := bc3)
  have HW1 : Hid (W1 = _) := hW1
  have G1 : Hid (w.grownBy W1 none) := g1
  have BZ : Hid (∀ W, W1.grownBy W none → Box4 W w.heap.size z.L d1 dn1 dc1 d2 dn2 dc2 d3 dn3 dc3) := fun W hW => bz.grown hW
  have BX : Hid (∀ W, W1.grownBy W none → Box4 W (w.heap.size + 1) x.L a1 an1 ac1 a2 an2 ac2 a3 an3 ac3) := fun W hW => bx.grown hW
  have BY : Hid (∀ W, W1.grownBy W none → Box4 W (w.heap.size + 1 + 1) y.L b1 bn1 bc1 b2 bn2 bc2 b3 bn3 bc3) := fun W hW => by'.grown hW
  have HVz : Hid (∀ W, w.grownBy W none → Calls Try.prog 16 #[wgV z.L d1 dn1 dc1 d2 dn2 dc2 d3 dn3 dc3, .slice au nu cu] W (WhN (valW z ws) W)) := fun W hW => value_any z hz ws hwz hl d1 d2 d3 au dc1 dc2 dc3 cu dn1 dn2 dn3 nu W (mz.grown hW) (hu.grown hW) z1 z2 z3 e4
  have HVx : Hid (∀ W, w.grownBy W none → Calls Try.prog 16 #[wgV x.L a1 an1 ac1 a2 an2 ac2 a3 an3 ac3, .slice au nu cu] W (WhN (valW x ws) W)) := fun W hW => value_any x hx ws hwx hl a1 a2 a3 au ac1 ac2 ac3 cu an1 an2 an3 nu W (mx.grown hW) (hu.grown hW) x1 x2 x3 e4
  have HVy : Hid (∀ W, w.grownBy W none → Calls Try.prog 16 #[wgV y.L b1 bn1 bc1 b2 bn2 bc2 b3 bn3 bc3, .slice au nu cu] W (WhN (valW y ws) W)) := fun W hW => value_any y hy ws hwy hl b1 b2 b3 au bc1 bc2 bc3 cu bn1 bn2 bn3 nu W (my.grown hW) (hu.grown hW) y1 y2 y3 e4
  have HBz : Hid (((valW z ws).natAbs : Int) < pwN 82) := by
    have h1 := val_bd hz hwz
    have h2 := pwN_mono (show 1 + ws.length + 1 ≤ 82 by omega)
    show _ < _
    omega
  have HBx : Hid (((valW x ws).natAbs : Int) < pwN 82) := by
    have h1 := val_bd hx hwx
    have h2 := pwN_mono (show 1 + ws.length + 1 ≤ 82 by omega)
    show _ < _
    omega
  have HBy : Hid (((valW y ws).natAbs : Int) < pwN 82) := by
    have h1 := val_bd hy hwy
    have h2 := pwN_mono (show 1 + ws.length + 1 ≤ 82 by omega)
    show _ < _
    omega
  have HE : Hid (valW z ws = if pr then valW x ws * valW y ws else valW x ws + valW y ws) := he
  have p0 := (BX.out W1 (grown_refl _ _)).b0
  have p1 := (BX.out W1 (grown_refl _ _)).b1
  have p2 := (BX.out W1 (grown_refl _ _)).b2
  have p3 := (BX.out W1 (grown_refl _ _)).b3
  rw [HW1.out] at p0 p1 p2 p3
  clear hW1 g1 bz bx by' hu e4 hz hwz mz z1 z2 z3 hx hwx mx x1 x2 x3 hy hwy my y1 y2 y3 hl he
  go_enter Try.func10, Try.ntmps10
  go_wp2_with fail
  rw [← HW1.out]
  clear p0 p1 p2 p3
  refine (HVx.out W1 G1.out).mono ?_
  rintro E v1 ⟨s1, t1, n1, c1, rfl, hwh, hn1, hg, hnew⟩
  obtain ⟨U1, hU, gU, sU, bU, hbU⟩ := box2_new v1 s1 t1 n1 c1
  have HU1 : Hid (U1 = _) := hU
  have GU1 : Hid (W1.grownBy U1 none) := grown_trans (grown_refl W1 none) (grown_trans hg gU)
  have HX1 : Hid (∀ W, U1.grownBy W none → Box2 W v1.heap.size s1 t1 n1 c1 ∧ WhAt W s1 t1 n1 c1 (valW x ws)) := fun W hW => ⟨bU.grown hW, (hwh.grown gU).grown hW⟩
  have hs1 := WhAt.short hwh HBx.out
  clear hU gU sU bU hbU hwh hg hnew hn1
  have p0 := (BY.out U1 GU1.out).b0
  have p1 := (BY.out U1 GU1.out).b1
  have p2 := (BY.out U1 GU1.out).b2
  have p3 := (BY.out U1 GU1.out).b3
  rw [HU1.out] at p0 p1 p2 p3
  go_wp2_with fail
  rw [← HU1.out]
  clear p0 p1 p2 p3
  refine (HVy.out U1 (grown_trans G1.out GU1.out)).mono ?_
  rintro E v2 ⟨s2, t2, n2, c2, rfl, hwh, hn2, hg, hnew⟩
  obtain ⟨U2, hU, gU, sU, bU, hbU⟩ := box2_new v2 s2 t2 n2 c2
  have HU2 : Hid (U2 = _) := hU
  have GU12 : Hid (U1.grownBy U2 none) := grown_trans hg gU
  have GU2 : Hid (W1.grownBy U2 none) := grown_trans GU1.out (grown_trans hg gU)
  have HX2 : Hid (∀ W, U2.grownBy W none → Box2 W v2.heap.size s2 t2 n2 c2 ∧ WhAt W s2 t2 n2 c2 (valW y ws)) := fun W hW => ⟨bU.grown hW, (hwh.grown gU).grown hW⟩
  have hs2 := WhAt.short hwh HBy.out
  clear hU gU sU bU hbU hwh hg hnew hn2
  have p0 := (BZ.out U2 GU2.out).b0
  have p1 := (BZ.out U2 GU2.out).b1
  have p2 := (BZ.out U2 GU2.out).b2
  have p3 := (BZ.out U2 GU2.out).b3
  rw [HU2.out] at p0 p1 p2 p3
  go_wp2_with fail
  rw [← HU2.out]
  clear p0 p1 p2 p3
  refine (HVz.out U2 (grown_trans G1.out GU2.out)).mono ?_
  rintro E v3 ⟨s3, t3, n3, c3, rfl, hwh, hn3, hg, hnew⟩
  obtain ⟨U3, hU, gU, sU, bU, hbU⟩ := box2_new v3 s3 t3 n3 c3
  have HU3 : Hid (U3 = _) := hU
  have GU23 : Hid (U2.grownBy U3 none) := grown_trans hg gU
  have GU13 : Hid (U1.grownBy U3 none) := grown_trans GU12.out GU23.out
  have GU3 : Hid (W1.grownBy U3 none) := grown_trans GU2.out (grown_trans hg gU)
  have HX3 : Hid (∀ W, U3.grownBy W none → Box2 W v3.heap.size s3 t3 n3 c3 ∧ WhAt W s3 t3 n3 c3 (valW z ws)) := fun W hW => ⟨bU.grown hW, (hwh.grown gU).grown hW⟩
  have hs3 := WhAt.short hwh HBz.out
  clear hU gU sU bU hbU hwh hg hnew hn3
  have HAd : Hid (Calls Try.prog 17 #[whV s1 t1 n1 c1, whV s2 t2 n2 c2] U3 (WhN (valW x ws + valW y ws) U3)) := add_any s1 t1 n1 c1 _ s2 t2 n2 c2 _ U3 (HX1.out U3 GU13.out).2 (HX2.out U3 GU23.out).2 (by omega) (by omega)
  have q0 := (HX1.out U3 GU13.out).1.b0
  have q1 := (HX1.out U3 GU13.out).1.b1
  have r0 := (HX2.out U3 GU23.out).1.b0
  have r1 := (HX2.out U3 GU23.out).1.b1
  rw [HU3.out] at q0 q1 r0 r1
  go_wp2_with fail
  rw [← HU3.out]
  clear q0 q1 r0 r1
  refine HAd.out.mono ?_
  rintro E v4 ⟨s4, t4, n4, c4, rfl, hwh, hn4, hg, hnew⟩
  obtain ⟨U4, hU, gU, sU, bU, hbU⟩ := box2_new v4 s4 t4 n4 c4
  have HU4 : Hid (U4 = _) := hU
  have G34 : Hid (U3.grownBy U4 none) := grown_trans hg gU
  have HX4 : Hid (Box2 U4 v4.heap.size s4 t4 n4 c4 ∧ WhAt U4 s4 t4 n4 c4 (valW x ws + valW y ws) ∧ U4.heap[v4.heap.size]? = some (.cells #[.bool s4, .slice t4 n4 c4] 40 (0, 0)) ∧ U3.heap.size ≤ v4.heap.size) := ⟨bU, hwh.grown gU, hbU, hg.size⟩
  have hs4 := WhAt.short hwh (k := 83) (by
    have h1 := HBx.out
    have h2 := HBy.out
    have h3 := pwN_succ 82
    have e : ((83 : Nat)) = 82 + 1 := rfl
    rw [e, h3]
    omega)
  clear hU gU sU bU hbU hwh hg hnew hn4 HAd
  cases pr with
  | false =>
    have HC : Hid (Calls Try.prog 19 #[whV s3 t3 n3 c3, whV s4 t4 n4 c4] U4 (SizeP (valW z ws - (valW x ws + valW y ws)) U4)) := cmp_any s3 t3 n3 c3 _ s4 t4 n4 c4 _ U4 (HX3.out U4 G34.out).2 HX4.out.2.1 (by omega) (by omega)
    have q0 := (HX3.out U4 G34.out).1.b0
    have q1 := (HX3.out U4 G34.out).1.b1
    have r0 := HX4.out.1.b0
    have r1 := HX4.out.1.b1
    rw [HU4.out] at q0 q1 r0 r1
    go_wp2_with fail
    rw [← HU4.out]
    clear q0 q1 r0 r1
    refine HC.out.mono ?_
    rintro E v5 ⟨rfl, hg5⟩
    have e0 : valW z ws - (valW x ws + valW y ws) = 0 := by have := HE.out; simp at this; omega
    have F : Hid (w.grownBy v5 none) := grown_trans G1.out (grown_trans GU3.out (grown_trans G34.out hg5))
    rw [e0]
    have e1 : sgN 0 = 0 := rfl
    rw [e1]
    clear hg5 e0 e1 HC
    go_wp2_with fail
    go_ret
    exact ⟨rfl, F.out⟩
  | true =>
    have HMu : Hid (Calls Try.prog 18 #[whV s1 t1 n1 c1, whV s2 t2 n2 c2] U4 (WhN (valW x ws * valW y ws) U4)) := mul_any s1 t1 n1 c1 _ s2 t2 n2 c2 _ U4 (HX1.out U4 (grown_trans GU13.out G34.out)).2 (HX2.out U4 (grown_trans GU23.out G34.out)).2 (by omega) (by omega)
    have q0 := (HX1.out U4 (grown_trans GU13.out G34.out)).1.b0
    have q1 := (HX1.out U4 (grown_trans GU13.out G34.out)).1.b1
    have r0 := (HX2.out U4 (grown_trans GU23.out G34.out)).1.b0
    have r1 := (HX2.out U4 (grown_trans GU23.out G34.out)).1.b1
    rw [HU4.out] at q0 q1 r0 r1
    go_wp2_with fail
    rw [← HU4.out]
    clear q0 q1 r0 r1
    refine HMu.out.mono ?_
    rintro E v5 ⟨s5, t5, n5, c5, rfl, hwh, hn5, hg5, hnew⟩
    have hb5 := (hg5.block v4.heap.size (Array.getElem?_eq_some_iff.1 HX4.out.2.2.1).1 (by simp)).trans HX4.out.2.2.1
    obtain ⟨⟨p0, p1⟩, fz, W9, hW9, g9, y0, y1, _⟩ := two_store hb5 (.bool s5) (.slice t5 n5 c5)
    have HW9 : Hid (W9 = _) := hW9
    have hs5 := WhAt.short hwh (k := 164) (by
      have h1 := HBx.out
      have h2 := HBy.out
      have e : pwN 164 = pwN 82 * pwN 82 := pwN_add 82 82
      have e1 : ((valW x ws * valW y ws).natAbs : Int) = ((valW x ws).natAbs : Int) * ((valW y ws).natAbs : Int) := by rw [Int.natAbs_mul]; simp
      have hp := pwN_pos 82
      have h3 : ((valW x ws).natAbs : Int) * ((valW y ws).natAbs : Int) ≤ (pwN 82 - 1) * (pwN 82 - 1) := Int.mul_le_mul (by omega) (by omega) (by omega) (by omega)
      have h4 : (pwN 82 - 1) * (pwN 82 - 1) = pwN 82 * pwN 82 - 2 * pwN 82 + 1 := by rw [Int.sub_mul, Int.mul_sub]; omega
      rw [e, e1]
      omega)
    have GV : Hid (U3.grownBy W9 none) := grown_new (grown_trans G34.out hg5) g9 HX4.out.2.2.2
    have HC : Hid (Calls Try.prog 19 #[whV s3 t3 n3 c3, whV s5 t5 n5 c5] W9 (SizeP (valW z ws - valW x ws * valW y ws) W9)) := cmp_any s3 t3 n3 c3 _ s5 t5 n5 c5 _ W9 (HX3.out W9 GV.out).2 (hwh.far g9 (fun y hy => by have h1 := hnew y hy; have h2 := (Array.getElem?_eq_some_iff.1 HX4.out.2.2.1).1; omega)) (by omega) (by omega)
    have q0 := (HX3.out W9 GV.out).1.b0
    have q1 := (HX3.out W9 GV.out).1.b1
    have f0 := fz 0
    have f1 := fz 1
    rw [hW9] at q0 q1 y0 y1
    clear hb5 fz hW9 g9 hwh hn5 hg5 hnew hs5 HMu
    go_wp2_with fail
    rw [← HW9.out]
    clear q0 q1 y0 y1
    refine HC.out.mono ?_
    rintro E v6 ⟨rfl, hg6⟩
    have e0 : valW z ws - valW x ws * valW y ws = 0 := by have := HE.out; simp at this; omega
    have F : Hid (w.grownBy v6 none) := grown_trans G1.out (grown_trans GU3.out (grown_trans GV.out hg6))
    rw [e0]
    have e1 : sgN 0 = 0 := rfl
    rw [e1]
    clear hg6 e0 e1 HC
    go_wp2_with fail
    go_ret
    exact ⟨rfl, F.out⟩
end Go.Proofs.Ytkmcbdjcolbknaa
