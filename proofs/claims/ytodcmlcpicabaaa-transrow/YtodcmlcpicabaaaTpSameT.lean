/- Whether two transducers are one, number by number. -/
import Derived.Test.YtodcmlcpicabaaaBas
import Derived.Test.YtodcmlcpicabaaaJoin1
import Derived.Test.YtodcmlcpicabaaaTnCk
import Derived.Deep.RegionHeld3
namespace Go.Proofs.Ytodcmlcpicabaaa
open Go.RowKit
set_option linter.unusedVariables false
set_option linter.unusedSimpArgs false

def SameWK (zs zt : List Int) : Prop := zs = zt

set_option maxHeartbeats 1600000 in
set_option maxRecDepth 100000 in
theorem alikeW_any (a b : Option Addr) (c d : Nat) (zs zt : List Int) (w : World) (hz : Ints w a zs) (ht : Ints w b zt) (hm : zs.length ≤ maxLen) (hm' : zt.length ≤ maxLen) :
    Calls Try.prog 27 #[.slice a zs.length c, .slice b zt.length d] w (TellsB (SameWK zs zt) w) := by
  unfold maxLen at hm hm'
  have HZ : Hid (Ints w a zs) := hz
  have HT : Hid (Ints w b zt) := ht
  clear hz ht
  by_cases hne : ¬ zs.length = zt.length
  · have hne' : ((zs.length : Int) != (zt.length : Int)) = true := by simp; omega
    go_enter Try.func27, Try.ntmps27
    go_wp2_with fail
    go_ret
    exact tellsB false rfl ⟨(fun e => by cases e), fun e => absurd (congrArg List.length e) hne⟩ (grown_refl _ _)
  have hne' : ((zs.length : Int) != (zt.length : Int)) = false := by simp; omega
  have HLn : Hid (zs.length = zt.length) := by show _ = _; omega
  clear hne
  go_enter Try.func27, Try.ntmps27
  go_wp2_with fail
  go_loopw [5] (fun v wr => ∃ k : Nat, v = .int .i64 k ∧ k ≤ zs.length ∧ w.grownBy wr none ∧ ∀ j, j < k → zs.getD j 0 = zt.getD j 0) (fun v _ => zs.length - (intOf v).toNat)
  case atStart => exact ⟨0, rfl, by omega, grown_refl _ _, fun j hj => by omega⟩
  case round =>
    obtain ⟨k, rfl, hk, hg, hl⟩ := hrel
    have G : Hid (w.grownBy wr none) := hg
    have HK : Hid (∀ j, j < k → zs.getD j 0 = zt.getD j 0) := hl
    clear hg hl
    by_cases hkl : k < zs.length
    · have hkl2 : k < zt.length := by rw [← HLn.out]; exact hkl
      obtain ⟨bx, ox, rfl, hcx⟩ := HZ.out.at hkl
      obtain ⟨bY, oY, rfl, hcy⟩ := HT.out.at hkl2
      have c3 : wr.cell? ⟨bx, ox + k, none⟩ = some (.int .i64 (zs.getD k 0)) := G.out.cell (hcx k hkl) (by simp)
      have c4 : wr.cell? ⟨bY, oY + k, none⟩ = some (.int .i64 (zt.getD k 0)) := G.out.cell (hcy k hkl2) (by simp)
      clear hcx hcy
      generalize hu : zs.getD k 0 = u at c3
      generalize hv : zt.getD k 0 = v at c4
      have HU : Hid (zs.getD k 0 = u) := hu
      have HV : Hid (zt.getD k 0 = v) := hv
      clear hu hv
      have hk1 : (k : Int) < (zs.length : Int) := by omega
      have hk2 : (k : Int) < (zt.length : Int) := by omega
      by_cases huv : u = v
      · have huv' : (u != v) = false := by simpa using huv
        go_wp2_with fail
        go_quiet (fail)
        go_wp2_with fail
        go_roundw
        case rel =>
          refine ⟨k + 1, by go_num, by omega, grown_drewN G.out _, fun j hj => ?_⟩
          by_cases e : j = k
          · subst e; rw [HU.out, HV.out]; exact huv
          · exact HK.out j (by omega)
        case measure => simp [intOf]; omega
      · have huv' : (u != v) = true := by simpa using huv
        go_wp2_with fail
        go_quiet (fail)
        go_wp2_with fail
        go_ret
        exact tellsB false rfl ⟨(fun e => by cases e), fun e => absurd (by rw [← HU.out, ← HV.out]; exact congrArg (fun q => List.getD q k 0) e) huv⟩ (grown_drewN G.out _)
    · have hki : ¬ (k : Int) < (zs.length : Int) := by omega
      have EZ : Hid (zs = zt) := getD_ext HLn.out (fun j hj => HK.out j (by omega))
      clear HK
      go_wp2_with fail
      go_ret
      exact tellsB true rfl ⟨fun _ => EZ.out, fun _ => rfl⟩ G.out


structure SQ (bt bu i : Nat) (v u : Value) (b o : Nat) (v1 : Value) (d p : Nat) (v2 : Value) (b' o' : Nat) (v3 : Value) (d' p' : Nat) (v4 : Value) (W : World) : Prop where
  q1 : W.cell? ⟨bt, i, none⟩ = some v
  q2 : W.cell? ⟨bu, i, none⟩ = some u
  q3 : W.cell? ⟨b, o, none⟩ = some v1
  q4 : W.cell? ⟨d, p, none⟩ = some v2
  q5 : W.cell? ⟨b', o', none⟩ = some v3
  q6 : W.cell? ⟨d', p', none⟩ = some v4
theorem SQ.kept {bt bu i : Nat} {v u : Value} {b o : Nat} {v1 : Value} {d p : Nat} {v2 : Value} {b' o' : Nat} {v3 : Value} {d' p' : Nat} {v4 : Value} {W W' : World} (h : SQ bt bu i v u b o v1 d p v2 b' o' v3 d' p' v4 W) (k : W.grownBy W' none) : SQ bt bu i v u b o v1 d p v2 b' o' v3 d' p' v4 W' :=
  ⟨k.cell h.q1 (by simp), k.cell h.q2 (by simp), k.cell h.q3 (by simp), k.cell h.q4 (by simp), k.cell h.q5 (by simp), k.cell h.q6 (by simp)⟩
theorem say_at {x : TrI} {I mb : Nat} {W : World} {a3 a4 a5 a6 : Option Addr} (hr : ReadT x I mb) (h : TnAt W x a3 a4 a5 a6) {q a : Nat} (hq : q < x.N.length) (ha : a < I) :
    ∃ b4 o4 k5 b5 o5 r1 k1, a5 = some ⟨b4, o4, none⟩ ∧ W.cell? ⟨b4, o4 + q, none⟩ = some (.slice (some ⟨b5, o5, none⟩) I k5) ∧ W.cell? ⟨b5, o5 + a, none⟩ = some (.slice r1 (syT x q a).length k1) ∧ Ints W r1 (syT x q a) ∧ (syT x q a).length ≤ maxLen ∧ True ∧ True := by
  have hl := hr.ry q hq
  obtain ⟨b4, o4, f, hc⟩ := h.says.at (k := q) (by rw [hr.hy]; exact hq)
  obtain ⟨r, k5, c5, hrow, _⟩ := hc q (by rw [hr.hy]; exact hq)
  rw [hl] at c5
  obtain ⟨b5, o5, rfl, hc2⟩ := hrow.at (k := a) (by rw [hl]; exact ha)
  obtain ⟨r1, k1, c1, i1, m1⟩ := hc2 a (by rw [hl]; exact ha)
  exact ⟨b4, o4, k5, b5, o5, r1, k1, f, c5, c1, i1, m1, trivial, trivial⟩
theorem getD_ext0 {α : Type} (d : α) {L M : List α} (hl : L.length = M.length) (h : ∀ i, i < L.length → L.getD i d = M.getD i d) : L = M := by
  refine List.ext_getElem hl fun i h1 h2 => ?_
  have := h i h1
  simpa [List.getD, h1, h2] using this
theorem trI_ext {x y : TrI} {I m n : Nat} (hx : ReadT x I m) (hy : ReadT y I n) (h1 : x.I = y.I) (h2 : x.O = y.O) (h3 : x.S = y.S) (h4 : x.F = y.F) (hn : x.N.length = y.N.length) (h : ∀ s, s < x.N.length → x.N.getD s [] = y.N.getD s [] ∧ x.E.getD s [] = y.E.getD s [] ∧ ∀ l, l < I → syT x s l = syT y s l) : x = y := by
  have eN : x.N = y.N := getD_ext0 [] hn fun s hs => (h s hs).1
  have eE : x.E = y.E := getD_ext0 [] (by rw [hx.he, hy.he, hn]) fun s hs => (h s (by rw [← hx.he]; exact hs)).2.1
  have eY : x.Y = y.Y := getD_ext0 [] (by rw [hx.hy, hy.hy, hn]) fun s hs => by
    have hs' : s < x.N.length := by rw [← hx.hy]; exact hs
    refine getD_ext0 [] (by rw [hx.ry s hs', hy.ry s (by rw [← hn]; exact hs')]) fun l hl => ?_
    exact (h s hs').2.2 l (by rw [← hx.ry s hs']; exact hl)
  cases x
  cases y
  simp only at h1 h2 h3 h4 eN eE eY
  subst h1 h2 h3 h4 eN eE eY
  rfl

set_option maxHeartbeats 3200000 in
set_option maxRecDepth 100000 in
theorem sameT_any (x y : TrI) (a3 a4 a5 a6 : Option Addr) (c3 c4 c5 c6 : Nat) (e3 e4 e5 e6 : Option Addr) (d3 d4 d5 d6 : Nat) (w : World) (hx : TnAt w x a3 a4 a5 a6) (hy : TnAt w y e3 e4 e5 e6) (gx : GoodT x) (gy : GoodT y) :
    Calls Try.prog 16 #[tnV x.I x.O x.S a3 x.F.length c3 a4 x.N.length c4 a5 x.Y.length c5 a6 x.E.length c6, tnV y.I y.O y.S e3 y.F.length d3 e4 y.N.length d4 e5 y.Y.length d5 e6 y.E.length d6] w (TellsB (x = y) w) := by
  obtain ⟨I, hxI⟩ : ∃ I : Nat, x.I = (I : Int) := ⟨x.I.toNat, by have := gx.many.1; unfold ManyT at this; omega⟩
  have hr : ReadT x I := by have := gx.read; rwa [hxI, Int.toNat_natCast] at this
  have hI4 : I ≤ 4 := by have := gx.many.1; unfold ManyT at this; omega
  have hN6 : x.N.length ≤ 6 := gx.size.2
  obtain ⟨W0, hW0, g0, s0, bx, bz⟩ := two_boxes7 w x y a3 a4 a5 a6 c3 c4 c5 c6 e3 e4 e5 e6 d3 d4 d5 d6
  have HW0 : Hid (W0 = _) := hW0
  have G0 : Hid (w.grownBy W0 none) := g0
  have BX : Hid (∀ W, W0.grownBy W none → Box7 W w.heap.size x.I x.O x.S a3 x.F.length c3 a4 x.N.length c4 a5 x.Y.length c5 a6 x.E.length c6) := fun W hW => bx.grown hW
  have BY : Hid (∀ W, W0.grownBy W none → Box7 W (w.heap.size + 1) y.I y.O y.S e3 y.F.length d3 e4 y.N.length d4 e5 y.Y.length d5 e6 y.E.length d6) := fun W hW => bz.grown hW
  have HTX : Hid (∀ W, W0.grownBy W none → TnAt W x a3 a4 a5 a6) := fun W hW => hx.grown (grown_trans g0 hW)
  have HTY : Hid (∀ W, W0.grownBy W none → TnAt W y e3 e4 e5 e6) := fun W hW => hy.grown (grown_trans g0 hW)
  have HR : Hid (ReadT x I) := hr
  have HRY0 : Hid (ReadT y y.I.toNat) := gy.read
  have HxI : Hid (x.I = (I : Int)) := hxI
  have HFi : Hid (Calls Try.prog 27 #[.slice a3 x.F.length c3, .slice e3 y.F.length d3] W0 (TellsB (SameWK x.F y.F) W0)) := alikeW_any _ _ _ _ _ _ _ (hx.first.grown g0) (hy.first.grown g0) hx.m3 hy.m3
  have x0 := (bx).b0
  have x1 := (bx).b1
  have x2 := (bx).b2
  have x3 := (bx).b3
  have x4 := (bx).b4
  have x5 := (bx).b5
  have x6 := (bx).b6
  have z0 := (bz).b0
  have z1 := (bz).b1
  have z2 := (bz).b2
  have z3 := (bz).b3
  have z4 := (bz).b4
  have z5 := (bz).b5
  have z6 := (bz).b6
  rw [hW0] at x0 x1 x2 x3 x4 x5 x6 z0 z1 z2 z3 z4 z5 z6
  clear hW0 g0 s0 bx bz hx hy gx gy hr hxI
  go_enter Try.func16, Try.ntmps16
  go_wp2_with fail
  rw [← HW0.out]
  clear x0 x1 x2 x3 x4 x5 x6 z0 z1 z2 z3 z4 z5 z6
  refine HFi.out.mono ?_
  rintro E w1 ⟨b1, rfl, hb1, hg1⟩
  have Gw1 : Hid (W0.grownBy w1 none) := hg1
  have HB1 : Hid (b1 = true ↔ x.F = y.F) := hb1
  have GF : Hid (w.grownBy w1 none) := grown_trans G0.out hg1
  have x0 := (BX.out w1 hg1).b0
  have x1 := (BX.out w1 hg1).b1
  have x2 := (BX.out w1 hg1).b2
  have x3 := (BX.out w1 hg1).b3
  have x4 := (BX.out w1 hg1).b4
  have x5 := (BX.out w1 hg1).b5
  have x6 := (BX.out w1 hg1).b6
  have z0 := (BY.out w1 hg1).b0
  have z1 := (BY.out w1 hg1).b1
  have z2 := (BY.out w1 hg1).b2
  have z3 := (BY.out w1 hg1).b3
  have z4 := (BY.out w1 hg1).b4
  have z5 := (BY.out w1 hg1).b5
  have z6 := (BY.out w1 hg1).b6
  clear hb1 hg1 HFi
  by_cases t1 : x.I = y.I
  case neg =>
    have u1 : (x.I != y.I) = true := by simpa using t1
    have hne : Hid (¬ x = y) := fun e => t1 (by rw [e])
    clear t1
    go_wp2_with fail
    go_ret
    exact tellsB false rfl ⟨(fun e => by cases e), fun e => absurd e hne.out⟩ GF.out
  have u1 : (x.I != y.I) = false := by simpa using t1
  have HT1 : Hid (x.I = y.I) := t1
  clear t1
  by_cases t2 : x.O = y.O
  case neg =>
    have u2 : (x.O != y.O) = true := by simpa using t2
    have hne : Hid (¬ x = y) := fun e => t2 (by rw [e])
    clear t2
    go_wp2_with fail
    go_ret
    exact tellsB false rfl ⟨(fun e => by cases e), fun e => absurd e hne.out⟩ GF.out
  have u2 : (x.O != y.O) = false := by simpa using t2
  have HT2 : Hid (x.O = y.O) := t2
  clear t2
  by_cases t3 : x.S = y.S
  case neg =>
    have u3 : (x.S != y.S) = true := by simpa using t3
    have hne : Hid (¬ x = y) := fun e => t3 (by rw [e])
    clear t3
    go_wp2_with fail
    go_ret
    exact tellsB false rfl ⟨(fun e => by cases e), fun e => absurd e hne.out⟩ GF.out
  have u3 : (x.S != y.S) = false := by simpa using t3
  have HT3 : Hid (x.S = y.S) := t3
  clear t3
  cases b1 with
  | false =>
    have hne : Hid (¬ x = y) := fun e => by have := HB1.out.2 (by rw [e]); cases this
    go_wp2_with fail
    go_ret
    exact tellsB false rfl ⟨(fun e => by cases e), fun e => absurd e hne.out⟩ GF.out
  | true =>
  have HT4 : Hid (x.F = y.F) := HB1.out.1 rfl
  clear HB1
  by_cases t5 : x.N.length = y.N.length
  case neg =>
    have u5 : ((x.N.length : Int) != (y.N.length : Int)) = true := by simp; omega
    have hne : Hid (¬ x = y) := fun e => t5 (by rw [e])
    clear t5
    go_wp2_with fail
    go_ret
    exact tellsB false rfl ⟨(fun e => by cases e), fun e => absurd e hne.out⟩ GF.out
  have u5 : ((x.N.length : Int) != (y.N.length : Int)) = false := by simp; omega
  have HLn : Hid (x.N.length = y.N.length) := t5
  have HRY : Hid (ReadT y I) := by
    have e : y.I.toNat = I := by rw [← HT1.out, HxI.out]; rfl
    have := HRY0.out
    rwa [e] at this
  clear t5 HRY0 GF
  go_wp2_with fail
  clear x0 x1 x2 x3 x4 x5 x6 z0 z1 z2 z3 z4 z5 z6 u1 u2 u3 u5
  go_loopw [6] (fun v W => ∃ q : Nat, v = .int .i64 (q : Int) ∧ q ≤ x.N.length ∧ (∀ s, s < q → x.N.getD s [] = y.N.getD s [] ∧ x.E.getD s [] = y.E.getD s [] ∧ ∀ l, l < I → syT x s l = syT y s l) ∧ W0.grownBy W none) (fun v _ => x.N.length - (intOf v).toNat)
  case atStart => exact ⟨0, rfl, Nat.zero_le _, fun s hs => by omega, Gw1.out⟩
  case round =>
    clear Gw1
    obtain ⟨wq, hwq⟩ : ∃ W, W = wr := ⟨_, rfl⟩
    subst hwq
    obtain ⟨q, rfl, hq, hro, hg⟩ := hrel
    have HRo : Hid (∀ s, s < q → x.N.getD s [] = y.N.getD s [] ∧ x.E.getD s [] = y.E.getD s [] ∧ ∀ l, l < I → syT x s l = syT y s l) := hro
    have Gwq : Hid (W0.grownBy wq none) := hg
    have x4 := (BX.out wq hg).b4
    clear hro hg
    by_cases hqn : q < x.N.length
    · have iq : (q : Int) < (x.N.length : Int) := by omega
      have iq2 : (q : Int) < (y.N.length : Int) := by rw [← HLn.out]; omega
      obtain ⟨b4, o4, f4a, hc1⟩ := (HTX.out wq Gwq.out).next.at (k := q) (by exact hqn)
      obtain ⟨b4', o4', f4b, hc2⟩ := (HTY.out wq Gwq.out).next.at (k := q) (by rw [← HLn.out]; exact hqn)
      obtain ⟨r1, k1, ca, i1, m1⟩ := hc1 q (by exact hqn)
      obtain ⟨r2, k2, cb, i2, m2⟩ := hc2 q (by rw [← HLn.out]; exact hqn)
      obtain ⟨u1, hu1⟩ : ∃ u, x.N.getD q [] = u := ⟨_, rfl⟩
      obtain ⟨u2, hu2⟩ : ∃ u, y.N.getD q [] = u := ⟨_, rfl⟩
      rw [hu1] at ca i1 m1
      rw [hu2] at cb i2 m2
      have HU1 : Hid (x.N.getD q [] = u1) := hu1
      have HU2 : Hid (y.N.getD q [] = u2) := hu2
      obtain ⟨n1, hn1⟩ : ∃ n, u1.length = n := ⟨_, rfl⟩
      obtain ⟨n2, hn2⟩ : ∃ n, u2.length = n := ⟨_, rfl⟩
      rw [hn1] at ca
      rw [hn2] at cb
      have HI1 : Hid (∀ W, wq.grownBy W none → Ints W r1 u1) := fun W hW => i1.grown hW
      have HI2 : Hid (∀ W, wq.grownBy W none → Ints W r2 u2) := fun W hW => i2.grown hW
      have HM1 : Hid (u1.length ≤ maxLen) := m1
      have HM2 : Hid (u2.length ≤ maxLen) := m2
      have HAl : Hid (∀ W (a b : Option Addr) (c d : Nat) (z t : List Int), Ints W a z → Ints W b t → z.length ≤ maxLen → t.length ≤ maxLen → True) := fun _ _ _ _ _ _ _ _ _ _ _ => trivial
      clear HAl
      have HAl : Hid (∀ W (a b : Option Addr) (c d : Nat) (z t : List Int), Ints W r1 u1 → Ints W r2 u2 → u1.length ≤ maxLen → u2.length ≤ maxLen → Calls Try.prog 27 #[.slice r1 n1 k1, .slice r2 n2 k2] W (TellsB (SameWK u1 u2) W)) := fun W a b c d z t h1 h2 h3 h4 => by rw [← hn1, ← hn2]; exact alikeW_any r1 r2 k1 k2 u1 u2 W h1 h2 h3 h4
      have y1 := (BX.out wq Gwq.out).b4
      have y2 := (BY.out wq Gwq.out).b4
      rw [f4a] at y1
      rw [f4b] at y2
      have HS0 : Hid (SQ w.heap.size (w.heap.size + 1) 4 (.slice (some ⟨b4, o4, none⟩) x.N.length c4) (.slice (some ⟨b4', o4', none⟩) y.N.length d4) b4 (o4 + q) (.slice r1 n1 k1) b4' (o4' + q) (.slice r2 n2 k2) b4 (o4 + q) (.slice r1 n1 k1) b4' (o4' + q) (.slice r2 n2 k2) wq) := ⟨y1, y2, ca, cb, ca, cb⟩
      clear hc1 hc2 i1 i2 f4a f4b y1 y2 ca cb hu1 hu2 hn1 hn2 m1 m2
      go_wp2_with fail
      clear x4
      refine wp_region_held_drew (S := SQ w.heap.size (w.heap.size + 1) 4 (.slice (some ⟨b4, o4, none⟩) x.N.length c4) (.slice (some ⟨b4', o4', none⟩) y.N.length d4) b4 (o4 + q) (.slice r1 n1 k1) b4' (o4' + q) (.slice r2 n2 k2) b4 (o4 + q) (.slice r1 n1 k1) b4' (o4' + q) (.slice r2 n2 k2)) (by kernel_rfl) (HS0.out.kept (grown_drew (grown_refl _ _))) (fun hHeld => ?_)
      refine wpAnyH_take (i := 0) (v := ?_) rfl (by kernel_rfl) (by kernel_rfl) (by kernel_rfl) (fun _ _ _ h => h) (Or.inl ⟨by rfl, ?_⟩) (by assumption) ?_
      rotate_left
      · intro W hSw
        obtain ⟨q1, q2, q3, q4, q5, q6⟩ := hSw
        go_simp
        with_reducible rfl
      try simp only [Act.put, List.getElem_toArray, List.getElem_cons_succ, List.getElem_cons_zero, List.setIfInBounds_toArray, List.set_cons_zero, List.set_cons_succ]
      refine wpAnyH_take (i := 1) (v := ?_) rfl (by kernel_rfl) (by kernel_rfl) (by kernel_rfl) (fun _ _ _ h => h) (Or.inl ⟨by rfl, ?_⟩) (by assumption) ?_
      rotate_left
      · intro W hSw
        obtain ⟨q1, q2, q3, q4, q5, q6⟩ := hSw
        go_simp
        with_reducible rfl
      try simp only [Act.put, List.getElem_toArray, List.getElem_cons_succ, List.getElem_cons_zero, List.setIfInBounds_toArray, List.set_cons_zero, List.set_cons_succ]
      refine wpAnyH_take (i := 2) (v := ?_) rfl (by kernel_rfl) (by kernel_rfl) (by kernel_rfl) (fun _ _ _ h => h) (Or.inl ⟨by rfl, ?_⟩) (by assumption) ?_
      rotate_left
      · intro W hSw
        obtain ⟨q1, q2, q3, q4, q5, q6⟩ := hSw
        go_simp
        with_reducible rfl
      try simp only [Act.put, List.getElem_toArray, List.getElem_cons_succ, List.getElem_cons_zero, List.setIfInBounds_toArray, List.set_cons_zero, List.set_cons_succ]
      refine wpAnyH_take (i := 3) (v := ?_) rfl (by kernel_rfl) (by kernel_rfl) (by kernel_rfl) (fun _ _ _ h => h) (Or.inl ⟨by rfl, ?_⟩) (by assumption) ?_
      rotate_left
      · intro W hSw
        obtain ⟨q1, q2, q3, q4, q5, q6⟩ := hSw
        go_simp
        with_reducible rfl
      try simp only [Act.put, List.getElem_toArray, List.getElem_cons_succ, List.getElem_cons_zero, List.setIfInBounds_toArray, List.set_cons_zero, List.set_cons_succ]
      refine wpAnyH_take (i := 4) (v := ?_) rfl (by kernel_rfl) (by kernel_rfl) (by kernel_rfl) (fun _ _ _ h => h) (Or.inl ⟨by rfl, ?_⟩) (by assumption) ?_
      rotate_left
      · intro W hSw
        obtain ⟨q1, q2, q3, q4, q5, q6⟩ := hSw
        go_simp
        with_reducible rfl
      try simp only [Act.put, List.getElem_toArray, List.getElem_cons_succ, List.getElem_cons_zero, List.setIfInBounds_toArray, List.set_cons_zero, List.set_cons_succ]
      refine wpAnyH_take (i := 5) (v := ?_) rfl (by kernel_rfl) (by kernel_rfl) (by kernel_rfl) (fun _ _ _ h => h) (Or.inl ⟨by rfl, ?_⟩) (by assumption) ?_
      rotate_left
      · intro W hSw
        obtain ⟨q1, q2, q3, q4, q5, q6⟩ := hSw
        go_simp
        with_reducible rfl
      try simp only [Act.put, List.getElem_toArray, List.getElem_cons_succ, List.getElem_cons_zero, List.setIfInBounds_toArray, List.set_cons_zero, List.set_cons_succ]
      refine wpAnyH_take (i := 6) (v := ?_) rfl (by kernel_rfl) (by kernel_rfl) (by kernel_rfl) (fun _ _ _ h => h) (Or.inl ⟨by rfl, ?_⟩) (by assumption) ?_
      rotate_left
      · intro W hSw
        obtain ⟨q1, q2, q3, q4, q5, q6⟩ := hSw
        go_simp
        with_reducible rfl
      try simp only [Act.put, List.getElem_toArray, List.getElem_cons_succ, List.getElem_cons_zero, List.setIfInBounds_toArray, List.set_cons_zero, List.set_cons_succ]
      refine wpAnyH_take (i := 7) (v := ?_) rfl (by kernel_rfl) (by kernel_rfl) (by kernel_rfl) (fun _ _ _ h => h) (Or.inl ⟨by rfl, ?_⟩) (by assumption) ?_
      rotate_left
      · intro W hSw
        obtain ⟨q1, q2, q3, q4, q5, q6⟩ := hSw
        go_simp
        with_reducible rfl
      try simp only [Act.put, List.getElem_toArray, List.getElem_cons_succ, List.getElem_cons_zero, List.setIfInBounds_toArray, List.set_cons_zero, List.set_cons_succ]
      refine wpAnyH_take (i := 8) (v := ?_) rfl (by kernel_rfl) (by kernel_rfl) (by kernel_rfl) (fun _ _ _ h => h) (Or.inl ⟨by rfl, ?_⟩) (by assumption) ?_
      rotate_left
      · intro W hSw
        obtain ⟨q1, q2, q3, q4, q5, q6⟩ := hSw
        go_simp
        with_reducible rfl
      try simp only [Act.put, List.getElem_toArray, List.getElem_cons_succ, List.getElem_cons_zero, List.setIfInBounds_toArray, List.set_cons_zero, List.set_cons_succ]
      refine wpAnyH_take (i := 9) (v := ?_) rfl (by kernel_rfl) (by kernel_rfl) (by kernel_rfl) (fun _ _ _ h => h) (Or.inl ⟨by rfl, ?_⟩) (by assumption) ?_
      rotate_left
      · intro W hSw
        obtain ⟨q1, q2, q3, q4, q5, q6⟩ := hSw
        go_simp
        with_reducible rfl
      try simp only [Act.put, List.getElem_toArray, List.getElem_cons_succ, List.getElem_cons_zero, List.setIfInBounds_toArray, List.set_cons_zero, List.set_cons_succ]
      refine wpAnyH_ready (rs := [10]) (by kernel_rfl) (by simp) ?_
      refine AllReadyH.cons (o := _) rfl (fun K' hK => ?_) ?_
      · go_simp
        refine (HAl.out _ none none 0 0 u1 u2 (HI1.out _ (grown_drew (grown_refl _ _))) (HI2.out _ (grown_drew (grown_refl _ _))) HM1.out HM2.out).mono ?_
        rintro E w2 ⟨bb, rfl, hbb, hg2⟩
        have G2 : Hid (wq.grownBy w2 none) := grown_trans (grown_drew (grown_refl _ _)) hg2
        have H2 : Hid (SQ w.heap.size (w.heap.size + 1) 4 (.slice (some ⟨b4, o4, none⟩) x.N.length c4) (.slice (some ⟨b4', o4', none⟩) y.N.length d4) b4 (o4 + q) (.slice r1 n1 k1) b4' (o4' + q) (.slice r2 n2 k2) b4 (o4 + q) (.slice r1 n1 k1) b4' (o4' + q) (.slice r2 n2 k2) w2) := SQ.kept HS0.out G2.out
        have HBB : Hid (bb = true ↔ u1 = u2) := hbb
        clear hbb hg2
        go_wp2_with fail
        refine hK.out _ _ (H2.out) (fun hHeld => ?_)
        clear hK K'
        try simp only [Act.put, List.getElem_toArray, List.getElem_cons_succ, List.getElem_cons_zero, List.setIfInBounds_toArray, List.set_cons_zero, List.set_cons_succ]
        refine wpAnyH_take (i := 11) (v := ?_) rfl (by kernel_rfl) (by kernel_rfl) (by kernel_rfl) (fun _ _ _ h => h) (Or.inl ⟨by rfl, ?_⟩) (by assumption) ?_
        rotate_left
        · intro W hSw
          obtain ⟨q1, q2, q3, q4, q5, q6⟩ := hSw
          go_simp
          with_reducible rfl
        try simp only [Act.put, List.getElem_toArray, List.getElem_cons_succ, List.getElem_cons_zero, List.setIfInBounds_toArray, List.set_cons_zero, List.set_cons_succ]
        refine wpAnyH_done (by kernel_rfl) ?_ _
        have GG7 : Hid (W0.grownBy w2 none) := grown_trans Gwq.out G2.out
        have HN : Hid (bb = true ↔ x.N.getD q [] = y.N.getD q []) := by rw [HU1.out, HU2.out]; exact HBB.out
        clear HS0 HBB HU1 HU2 HI1 HI2 HM1 HM2 HAl
        obtain ⟨w7, hw7⟩ : ∃ W, W = w2 := ⟨_, rfl⟩
        subst hw7
        have Gw7 : Hid (W0.grownBy w7 none) := GG7.out
        clear G2 GG7
        obtain ⟨b7, hb7⟩ : ∃ b, b = bb := ⟨_, rfl⟩
        subst hb7
        obtain ⟨b4, o4, f4a, hc1⟩ := (HTX.out w7 Gw7.out).last.at (k := q) (by rw [HR.out.he]; omega)
        obtain ⟨b4', o4', f4b, hc2⟩ := (HTY.out w7 Gw7.out).last.at (k := q) (by rw [HRY.out.he, ← HLn.out]; omega)
        obtain ⟨r1, k1, ca, i1, m1⟩ := hc1 q (by rw [HR.out.he]; omega)
        obtain ⟨r2, k2, cb, i2, m2⟩ := hc2 q (by rw [HRY.out.he, ← HLn.out]; omega)
        obtain ⟨u1, hu1⟩ : ∃ u, x.E.getD q [] = u := ⟨_, rfl⟩
        obtain ⟨u2, hu2⟩ : ∃ u, y.E.getD q [] = u := ⟨_, rfl⟩
        rw [hu1] at ca i1 m1
        rw [hu2] at cb i2 m2
        have HU1 : Hid (x.E.getD q [] = u1) := hu1
        have HU2 : Hid (y.E.getD q [] = u2) := hu2
        obtain ⟨n1, hn1⟩ : ∃ n, u1.length = n := ⟨_, rfl⟩
        obtain ⟨n2, hn2⟩ : ∃ n, u2.length = n := ⟨_, rfl⟩
        rw [hn1] at ca
        rw [hn2] at cb
        have HI1 : Hid (∀ W, w7.grownBy W none → Ints W r1 u1) := fun W hW => i1.grown hW
        have HI2 : Hid (∀ W, w7.grownBy W none → Ints W r2 u2) := fun W hW => i2.grown hW
        have HM1 : Hid (u1.length ≤ maxLen) := m1
        have HM2 : Hid (u2.length ≤ maxLen) := m2
        have HAl : Hid (∀ W (a b : Option Addr) (c d : Nat) (z t : List Int), Ints W a z → Ints W b t → z.length ≤ maxLen → t.length ≤ maxLen → True) := fun _ _ _ _ _ _ _ _ _ _ _ => trivial
        clear HAl
        have HAl : Hid (∀ W (a b : Option Addr) (c d : Nat) (z t : List Int), Ints W r1 u1 → Ints W r2 u2 → u1.length ≤ maxLen → u2.length ≤ maxLen → Calls Try.prog 27 #[.slice r1 n1 k1, .slice r2 n2 k2] W (TellsB (SameWK u1 u2) W)) := fun W a b c d z t h1 h2 h3 h4 => by rw [← hn1, ← hn2]; exact alikeW_any r1 r2 k1 k2 u1 u2 W h1 h2 h3 h4
        have y1 := (BX.out w7 Gw7.out).b6
        have y2 := (BY.out w7 Gw7.out).b6
        rw [f4a] at y1
        rw [f4b] at y2
        have HS0 : Hid (SQ w.heap.size (w.heap.size + 1) 6 (.slice (some ⟨b4, o4, none⟩) x.E.length c6) (.slice (some ⟨b4', o4', none⟩) y.E.length d6) b4 (o4 + q) (.slice r1 n1 k1) b4' (o4' + q) (.slice r2 n2 k2) b4 (o4 + q) (.slice r1 n1 k1) b4' (o4' + q) (.slice r2 n2 k2) w7) := ⟨y1, y2, ca, cb, ca, cb⟩
        clear hc1 hc2 i1 i2 f4a f4b y1 y2 ca cb hu1 hu2 hn1 hn2 m1 m2
        have iq6 : (q : Int) < (x.E.length : Int) := by rw [HR.out.he]; omega
        have iq7 : (q : Int) < (y.E.length : Int) := by rw [HRY.out.he, ← HLn.out]; omega
        go_wp2_with fail
        refine wp_region_held_drew (S := SQ w.heap.size (w.heap.size + 1) 6 (.slice (some ⟨b4, o4, none⟩) x.E.length c6) (.slice (some ⟨b4', o4', none⟩) y.E.length d6) b4 (o4 + q) (.slice r1 n1 k1) b4' (o4' + q) (.slice r2 n2 k2) b4 (o4 + q) (.slice r1 n1 k1) b4' (o4' + q) (.slice r2 n2 k2)) (by kernel_rfl) (HS0.out.kept (grown_drew (grown_refl _ _))) (fun hHeld => ?_)
        refine wpAnyH_take (i := 0) (v := ?_) rfl (by kernel_rfl) (by kernel_rfl) (by kernel_rfl) (fun _ _ _ h => h) (Or.inl ⟨by rfl, ?_⟩) (by assumption) ?_
        rotate_left
        · intro W hSw
          obtain ⟨q1, q2, q3, q4, q5, q6⟩ := hSw
          go_simp
          with_reducible rfl
        try simp only [Act.put, List.getElem_toArray, List.getElem_cons_succ, List.getElem_cons_zero, List.setIfInBounds_toArray, List.set_cons_zero, List.set_cons_succ]
        refine wpAnyH_take (i := 1) (v := ?_) rfl (by kernel_rfl) (by kernel_rfl) (by kernel_rfl) (fun _ _ _ h => h) (Or.inl ⟨by rfl, ?_⟩) (by assumption) ?_
        rotate_left
        · intro W hSw
          obtain ⟨q1, q2, q3, q4, q5, q6⟩ := hSw
          go_simp
          with_reducible rfl
        try simp only [Act.put, List.getElem_toArray, List.getElem_cons_succ, List.getElem_cons_zero, List.setIfInBounds_toArray, List.set_cons_zero, List.set_cons_succ]
        refine wpAnyH_take (i := 2) (v := ?_) rfl (by kernel_rfl) (by kernel_rfl) (by kernel_rfl) (fun _ _ _ h => h) (Or.inl ⟨by rfl, ?_⟩) (by assumption) ?_
        rotate_left
        · intro W hSw
          obtain ⟨q1, q2, q3, q4, q5, q6⟩ := hSw
          go_simp
          with_reducible rfl
        try simp only [Act.put, List.getElem_toArray, List.getElem_cons_succ, List.getElem_cons_zero, List.setIfInBounds_toArray, List.set_cons_zero, List.set_cons_succ]
        refine wpAnyH_take (i := 3) (v := ?_) rfl (by kernel_rfl) (by kernel_rfl) (by kernel_rfl) (fun _ _ _ h => h) (Or.inl ⟨by rfl, ?_⟩) (by assumption) ?_
        rotate_left
        · intro W hSw
          obtain ⟨q1, q2, q3, q4, q5, q6⟩ := hSw
          go_simp
          with_reducible rfl
        try simp only [Act.put, List.getElem_toArray, List.getElem_cons_succ, List.getElem_cons_zero, List.setIfInBounds_toArray, List.set_cons_zero, List.set_cons_succ]
        refine wpAnyH_take (i := 4) (v := ?_) rfl (by kernel_rfl) (by kernel_rfl) (by kernel_rfl) (fun _ _ _ h => h) (Or.inl ⟨by rfl, ?_⟩) (by assumption) ?_
        rotate_left
        · intro W hSw
          obtain ⟨q1, q2, q3, q4, q5, q6⟩ := hSw
          go_simp
          with_reducible rfl
        try simp only [Act.put, List.getElem_toArray, List.getElem_cons_succ, List.getElem_cons_zero, List.setIfInBounds_toArray, List.set_cons_zero, List.set_cons_succ]
        refine wpAnyH_take (i := 5) (v := ?_) rfl (by kernel_rfl) (by kernel_rfl) (by kernel_rfl) (fun _ _ _ h => h) (Or.inl ⟨by rfl, ?_⟩) (by assumption) ?_
        rotate_left
        · intro W hSw
          obtain ⟨q1, q2, q3, q4, q5, q6⟩ := hSw
          go_simp
          with_reducible rfl
        try simp only [Act.put, List.getElem_toArray, List.getElem_cons_succ, List.getElem_cons_zero, List.setIfInBounds_toArray, List.set_cons_zero, List.set_cons_succ]
        refine wpAnyH_take (i := 6) (v := ?_) rfl (by kernel_rfl) (by kernel_rfl) (by kernel_rfl) (fun _ _ _ h => h) (Or.inl ⟨by rfl, ?_⟩) (by assumption) ?_
        rotate_left
        · intro W hSw
          obtain ⟨q1, q2, q3, q4, q5, q6⟩ := hSw
          go_simp
          with_reducible rfl
        try simp only [Act.put, List.getElem_toArray, List.getElem_cons_succ, List.getElem_cons_zero, List.setIfInBounds_toArray, List.set_cons_zero, List.set_cons_succ]
        refine wpAnyH_take (i := 7) (v := ?_) rfl (by kernel_rfl) (by kernel_rfl) (by kernel_rfl) (fun _ _ _ h => h) (Or.inl ⟨by rfl, ?_⟩) (by assumption) ?_
        rotate_left
        · intro W hSw
          obtain ⟨q1, q2, q3, q4, q5, q6⟩ := hSw
          go_simp
          with_reducible rfl
        try simp only [Act.put, List.getElem_toArray, List.getElem_cons_succ, List.getElem_cons_zero, List.setIfInBounds_toArray, List.set_cons_zero, List.set_cons_succ]
        refine wpAnyH_take (i := 8) (v := ?_) rfl (by kernel_rfl) (by kernel_rfl) (by kernel_rfl) (fun _ _ _ h => h) (Or.inl ⟨by rfl, ?_⟩) (by assumption) ?_
        rotate_left
        · intro W hSw
          obtain ⟨q1, q2, q3, q4, q5, q6⟩ := hSw
          go_simp
          with_reducible rfl
        try simp only [Act.put, List.getElem_toArray, List.getElem_cons_succ, List.getElem_cons_zero, List.setIfInBounds_toArray, List.set_cons_zero, List.set_cons_succ]
        refine wpAnyH_take (i := 9) (v := ?_) rfl (by kernel_rfl) (by kernel_rfl) (by kernel_rfl) (fun _ _ _ h => h) (Or.inl ⟨by rfl, ?_⟩) (by assumption) ?_
        rotate_left
        · intro W hSw
          obtain ⟨q1, q2, q3, q4, q5, q6⟩ := hSw
          go_simp
          with_reducible rfl
        try simp only [Act.put, List.getElem_toArray, List.getElem_cons_succ, List.getElem_cons_zero, List.setIfInBounds_toArray, List.set_cons_zero, List.set_cons_succ]
        refine wpAnyH_ready (rs := [10]) (by kernel_rfl) (by simp) ?_
        refine AllReadyH.cons (o := _) rfl (fun K' hK => ?_) ?_
        · go_simp
          refine (HAl.out _ none none 0 0 u1 u2 (HI1.out _ (grown_drew (grown_refl _ _))) (HI2.out _ (grown_drew (grown_refl _ _))) HM1.out HM2.out).mono ?_
          rintro E w2 ⟨bb, rfl, hbb, hg2⟩
          have G2 : Hid (w7.grownBy w2 none) := grown_trans (grown_drew (grown_refl _ _)) hg2
          have H2 : Hid (SQ w.heap.size (w.heap.size + 1) 6 (.slice (some ⟨b4, o4, none⟩) x.E.length c6) (.slice (some ⟨b4', o4', none⟩) y.E.length d6) b4 (o4 + q) (.slice r1 n1 k1) b4' (o4' + q) (.slice r2 n2 k2) b4 (o4 + q) (.slice r1 n1 k1) b4' (o4' + q) (.slice r2 n2 k2) w2) := SQ.kept HS0.out G2.out
          have HBB : Hid (bb = true ↔ u1 = u2) := hbb
          clear hbb hg2
          go_wp2_with fail
          refine hK.out _ _ (H2.out) (fun hHeld => ?_)
          clear hK K'
          try simp only [Act.put, List.getElem_toArray, List.getElem_cons_succ, List.getElem_cons_zero, List.setIfInBounds_toArray, List.set_cons_zero, List.set_cons_succ]
          refine wpAnyH_take (i := 11) (v := ?_) rfl (by kernel_rfl) (by kernel_rfl) (by kernel_rfl) (fun _ _ _ h => h) (Or.inl ⟨by rfl, ?_⟩) (by assumption) ?_
          rotate_left
          · intro W hSw
            obtain ⟨q1, q2, q3, q4, q5, q6⟩ := hSw
            go_simp
            with_reducible rfl
          try simp only [Act.put, List.getElem_toArray, List.getElem_cons_succ, List.getElem_cons_zero, List.setIfInBounds_toArray, List.set_cons_zero, List.set_cons_succ]
          refine wpAnyH_done (by kernel_rfl) ?_ _
          have G8 : Hid (W0.grownBy w2 none) := grown_trans Gw7.out G2.out
          have HE : Hid (bb = true ↔ x.E.getD q [] = y.E.getD q []) := by rw [HU1.out, HU2.out]; exact HBB.out
          clear HS0 HBB HU1 HU2 HI1 HI2 HM1 HM2 HAl G2
          obtain ⟨w8, hw8⟩ : ∃ W, W = w2 := ⟨_, rfl⟩
          subst hw8
          cases b7 with
          | false =>
            have hne : Hid (¬ x = y) := fun e => by have := HN.out.2 (by rw [e]); cases this
            have GF : Hid (w.grownBy w8 none) := grown_trans G0.out G8.out
            go_wp2_with fail
            go_ret
            exact tellsB false rfl ⟨(fun e => by cases e), fun e => absurd e hne.out⟩ GF.out
          | true =>
            cases bb with
            | false =>
              have hne : Hid (¬ x = y) := fun e => by have := HE.out.2 (by rw [e]); cases this
              have GF : Hid (w.grownBy w8 none) := grown_trans G0.out G8.out
              go_wp2_with fail
              go_ret
              exact tellsB false rfl ⟨(fun e => by cases e), fun e => absurd e hne.out⟩ GF.out
            | true =>
              have hN1 : Hid (x.N.getD q [] = y.N.getD q []) := HN.out.1 rfl
              have hE1 : Hid (x.E.getD q [] = y.E.getD q []) := HE.out.1 rfl
              clear HN HE
              go_wp2_with fail
              go_loopw [9] (fun v W => ∃ a : Nat, v = .int .i64 (a : Int) ∧ a ≤ I ∧ (∀ l, l < a → syT x q l = syT y q l) ∧ W0.grownBy W none) (fun v _ => I - (intOf v).toNat)
              case atStart => exact ⟨0, rfl, Nat.zero_le _, fun l hl => by omega, G8.out⟩
              case round =>
                clear G8
                obtain ⟨wi, hwi⟩ : ∃ W, W = wr := ⟨_, rfl⟩
                subst hwi
                obtain ⟨a, rfl, ha, hsy, hg⟩ := hrel
                have HSy : Hid (∀ l, l < a → syT x q l = syT y q l) := hsy
                have Gwi : Hid (W0.grownBy wi none) := hg
                have x0 := (BX.out wi hg).b0
                rw [HxI.out] at x0
                clear hsy hg
                by_cases hal : a < I
                · have il : (a : Int) < (I : Int) := by omega
                  obtain ⟨b4, o4, k5, b5, o5, r1, k1, f4a, ca5, ca, i1, m1, _, _⟩ := say_at HR.out (HTX.out wi Gwi.out) hqn hal
                  obtain ⟨b4', o4', k5', b5', o5', r2, k2, f4b, cb5, cb, i2, m2, _, _⟩ := say_at HRY.out (HTY.out wi Gwi.out) (by rw [← HLn.out]; exact hqn) hal
                  obtain ⟨u1, hu1⟩ : ∃ u, syT x q a = u := ⟨_, rfl⟩
                  obtain ⟨u2, hu2⟩ : ∃ u, syT y q a = u := ⟨_, rfl⟩
                  rw [hu1] at ca i1 m1
                  rw [hu2] at cb i2 m2
                  have HU1 : Hid (syT x q a = u1) := hu1
                  have HU2 : Hid (syT y q a = u2) := hu2
                  obtain ⟨n1, hn1⟩ : ∃ n, u1.length = n := ⟨_, rfl⟩
                  obtain ⟨n2, hn2⟩ : ∃ n, u2.length = n := ⟨_, rfl⟩
                  rw [hn1] at ca
                  rw [hn2] at cb
                  have HI1 : Hid (∀ W, wi.grownBy W none → Ints W r1 u1) := fun W hW => i1.grown hW
                  have HI2 : Hid (∀ W, wi.grownBy W none → Ints W r2 u2) := fun W hW => i2.grown hW
                  have HM1 : Hid (u1.length ≤ maxLen) := m1
                  have HM2 : Hid (u2.length ≤ maxLen) := m2
                  have HAl : Hid (∀ W (a b : Option Addr) (c d : Nat) (z t : List Int), Ints W r1 u1 → Ints W r2 u2 → u1.length ≤ maxLen → u2.length ≤ maxLen → Calls Try.prog 27 #[.slice r1 n1 k1, .slice r2 n2 k2] W (TellsB (SameWK u1 u2) W)) := fun W a b c d z t h1 h2 h3 h4 => by rw [← hn1, ← hn2]; exact alikeW_any r1 r2 k1 k2 u1 u2 W h1 h2 h3 h4
                  have y1 := (BX.out wi Gwi.out).b5
                  have y2 := (BY.out wi Gwi.out).b5
                  rw [f4a] at y1
                  rw [f4b] at y2
                  have HS0 : Hid (SQ w.heap.size (w.heap.size + 1) 5 (.slice (some ⟨b4, o4, none⟩) x.Y.length c5) (.slice (some ⟨b4', o4', none⟩) y.Y.length d5) b4 (o4 + q) (.slice (some ⟨b5, o5, none⟩) I k5) b4' (o4' + q) (.slice (some ⟨b5', o5', none⟩) I k5') b5 (o5 + a) (.slice r1 n1 k1) b5' (o5' + a) (.slice r2 n2 k2) wi) := ⟨y1, y2, ca5, cb5, ca, cb⟩
                  have iq6 : (q : Int) < (x.Y.length : Int) := by rw [HR.out.hy]; omega
                  have iq7 : (q : Int) < (y.Y.length : Int) := by rw [HRY.out.hy, ← HLn.out]; omega
                  clear i1 i2 f4a f4b y1 y2 ca cb ca5 cb5 hu1 hu2 hn1 hn2 m1 m2
                  go_wp2_with fail
                  clear x0
                  refine wp_region_held_drew (S := SQ w.heap.size (w.heap.size + 1) 5 (.slice (some ⟨b4, o4, none⟩) x.Y.length c5) (.slice (some ⟨b4', o4', none⟩) y.Y.length d5) b4 (o4 + q) (.slice (some ⟨b5, o5, none⟩) I k5) b4' (o4' + q) (.slice (some ⟨b5', o5', none⟩) I k5') b5 (o5 + a) (.slice r1 n1 k1) b5' (o5' + a) (.slice r2 n2 k2)) (by kernel_rfl) (HS0.out.kept (grown_drew (grown_refl _ _))) (fun hHeld => ?_)
                  refine wpAnyH_take (i := 0) (v := ?_) rfl (by kernel_rfl) (by kernel_rfl) (by kernel_rfl) (fun _ _ _ h => h) (Or.inl ⟨by rfl, ?_⟩) (by assumption) ?_
                  rotate_left
                  · intro W hSw
                    obtain ⟨q1, q2, q3, q4, q5, q6⟩ := hSw
                    go_simp
                    with_reducible rfl
                  try simp only [Act.put, List.getElem_toArray, List.getElem_cons_succ, List.getElem_cons_zero, List.setIfInBounds_toArray, List.set_cons_zero, List.set_cons_succ]
                  refine wpAnyH_take (i := 1) (v := ?_) rfl (by kernel_rfl) (by kernel_rfl) (by kernel_rfl) (fun _ _ _ h => h) (Or.inl ⟨by rfl, ?_⟩) (by assumption) ?_
                  rotate_left
                  · intro W hSw
                    obtain ⟨q1, q2, q3, q4, q5, q6⟩ := hSw
                    go_simp
                    with_reducible rfl
                  try simp only [Act.put, List.getElem_toArray, List.getElem_cons_succ, List.getElem_cons_zero, List.setIfInBounds_toArray, List.set_cons_zero, List.set_cons_succ]
                  refine wpAnyH_take (i := 2) (v := ?_) rfl (by kernel_rfl) (by kernel_rfl) (by kernel_rfl) (fun _ _ _ h => h) (Or.inl ⟨by rfl, ?_⟩) (by assumption) ?_
                  rotate_left
                  · intro W hSw
                    obtain ⟨q1, q2, q3, q4, q5, q6⟩ := hSw
                    go_simp
                    with_reducible rfl
                  try simp only [Act.put, List.getElem_toArray, List.getElem_cons_succ, List.getElem_cons_zero, List.setIfInBounds_toArray, List.set_cons_zero, List.set_cons_succ]
                  refine wpAnyH_take (i := 3) (v := ?_) rfl (by kernel_rfl) (by kernel_rfl) (by kernel_rfl) (fun _ _ _ h => h) (Or.inl ⟨by rfl, ?_⟩) (by assumption) ?_
                  rotate_left
                  · intro W hSw
                    obtain ⟨q1, q2, q3, q4, q5, q6⟩ := hSw
                    go_simp
                    with_reducible rfl
                  try simp only [Act.put, List.getElem_toArray, List.getElem_cons_succ, List.getElem_cons_zero, List.setIfInBounds_toArray, List.set_cons_zero, List.set_cons_succ]
                  refine wpAnyH_take (i := 4) (v := ?_) rfl (by kernel_rfl) (by kernel_rfl) (by kernel_rfl) (fun _ _ _ h => h) (Or.inl ⟨by rfl, ?_⟩) (by assumption) ?_
                  rotate_left
                  · intro W hSw
                    obtain ⟨q1, q2, q3, q4, q5, q6⟩ := hSw
                    go_simp
                    with_reducible rfl
                  try simp only [Act.put, List.getElem_toArray, List.getElem_cons_succ, List.getElem_cons_zero, List.setIfInBounds_toArray, List.set_cons_zero, List.set_cons_succ]
                  refine wpAnyH_take (i := 5) (v := ?_) rfl (by kernel_rfl) (by kernel_rfl) (by kernel_rfl) (fun _ _ _ h => h) (Or.inl ⟨by rfl, ?_⟩) (by assumption) ?_
                  rotate_left
                  · intro W hSw
                    obtain ⟨q1, q2, q3, q4, q5, q6⟩ := hSw
                    go_simp
                    with_reducible rfl
                  try simp only [Act.put, List.getElem_toArray, List.getElem_cons_succ, List.getElem_cons_zero, List.setIfInBounds_toArray, List.set_cons_zero, List.set_cons_succ]
                  refine wpAnyH_take (i := 6) (v := ?_) rfl (by kernel_rfl) (by kernel_rfl) (by kernel_rfl) (fun _ _ _ h => h) (Or.inl ⟨by rfl, ?_⟩) (by assumption) ?_
                  rotate_left
                  · intro W hSw
                    obtain ⟨q1, q2, q3, q4, q5, q6⟩ := hSw
                    go_simp
                    with_reducible rfl
                  try simp only [Act.put, List.getElem_toArray, List.getElem_cons_succ, List.getElem_cons_zero, List.setIfInBounds_toArray, List.set_cons_zero, List.set_cons_succ]
                  refine wpAnyH_take (i := 7) (v := ?_) rfl (by kernel_rfl) (by kernel_rfl) (by kernel_rfl) (fun _ _ _ h => h) (Or.inl ⟨by rfl, ?_⟩) (by assumption) ?_
                  rotate_left
                  · intro W hSw
                    obtain ⟨q1, q2, q3, q4, q5, q6⟩ := hSw
                    go_simp
                    with_reducible rfl
                  try simp only [Act.put, List.getElem_toArray, List.getElem_cons_succ, List.getElem_cons_zero, List.setIfInBounds_toArray, List.set_cons_zero, List.set_cons_succ]
                  refine wpAnyH_take (i := 8) (v := ?_) rfl (by kernel_rfl) (by kernel_rfl) (by kernel_rfl) (fun _ _ _ h => h) (Or.inl ⟨by rfl, ?_⟩) (by assumption) ?_
                  rotate_left
                  · intro W hSw
                    obtain ⟨q1, q2, q3, q4, q5, q6⟩ := hSw
                    go_simp
                    with_reducible rfl
                  try simp only [Act.put, List.getElem_toArray, List.getElem_cons_succ, List.getElem_cons_zero, List.setIfInBounds_toArray, List.set_cons_zero, List.set_cons_succ]
                  refine wpAnyH_take (i := 9) (v := ?_) rfl (by kernel_rfl) (by kernel_rfl) (by kernel_rfl) (fun _ _ _ h => h) (Or.inl ⟨by rfl, ?_⟩) (by assumption) ?_
                  rotate_left
                  · intro W hSw
                    obtain ⟨q1, q2, q3, q4, q5, q6⟩ := hSw
                    go_simp
                    with_reducible rfl
                  try simp only [Act.put, List.getElem_toArray, List.getElem_cons_succ, List.getElem_cons_zero, List.setIfInBounds_toArray, List.set_cons_zero, List.set_cons_succ]
                  refine wpAnyH_take (i := 10) (v := ?_) rfl (by kernel_rfl) (by kernel_rfl) (by kernel_rfl) (fun _ _ _ h => h) (Or.inl ⟨by rfl, ?_⟩) (by assumption) ?_
                  rotate_left
                  · intro W hSw
                    obtain ⟨q1, q2, q3, q4, q5, q6⟩ := hSw
                    go_simp
                    with_reducible rfl
                  try simp only [Act.put, List.getElem_toArray, List.getElem_cons_succ, List.getElem_cons_zero, List.setIfInBounds_toArray, List.set_cons_zero, List.set_cons_succ]
                  refine wpAnyH_take (i := 11) (v := ?_) rfl (by kernel_rfl) (by kernel_rfl) (by kernel_rfl) (fun _ _ _ h => h) (Or.inl ⟨by rfl, ?_⟩) (by assumption) ?_
                  rotate_left
                  · intro W hSw
                    obtain ⟨q1, q2, q3, q4, q5, q6⟩ := hSw
                    go_simp
                    with_reducible rfl
                  try simp only [Act.put, List.getElem_toArray, List.getElem_cons_succ, List.getElem_cons_zero, List.setIfInBounds_toArray, List.set_cons_zero, List.set_cons_succ]
                  refine wpAnyH_take (i := 12) (v := ?_) rfl (by kernel_rfl) (by kernel_rfl) (by kernel_rfl) (fun _ _ _ h => h) (Or.inl ⟨by rfl, ?_⟩) (by assumption) ?_
                  rotate_left
                  · intro W hSw
                    obtain ⟨q1, q2, q3, q4, q5, q6⟩ := hSw
                    go_simp
                    with_reducible rfl
                  try simp only [Act.put, List.getElem_toArray, List.getElem_cons_succ, List.getElem_cons_zero, List.setIfInBounds_toArray, List.set_cons_zero, List.set_cons_succ]
                  refine wpAnyH_take (i := 13) (v := ?_) rfl (by kernel_rfl) (by kernel_rfl) (by kernel_rfl) (fun _ _ _ h => h) (Or.inl ⟨by rfl, ?_⟩) (by assumption) ?_
                  rotate_left
                  · intro W hSw
                    obtain ⟨q1, q2, q3, q4, q5, q6⟩ := hSw
                    go_simp
                    with_reducible rfl
                  try simp only [Act.put, List.getElem_toArray, List.getElem_cons_succ, List.getElem_cons_zero, List.setIfInBounds_toArray, List.set_cons_zero, List.set_cons_succ]
                  refine wpAnyH_take (i := 14) (v := ?_) rfl (by kernel_rfl) (by kernel_rfl) (by kernel_rfl) (fun _ _ _ h => h) (Or.inl ⟨by rfl, ?_⟩) (by assumption) ?_
                  rotate_left
                  · intro W hSw
                    obtain ⟨q1, q2, q3, q4, q5, q6⟩ := hSw
                    go_simp
                    with_reducible rfl
                  try simp only [Act.put, List.getElem_toArray, List.getElem_cons_succ, List.getElem_cons_zero, List.setIfInBounds_toArray, List.set_cons_zero, List.set_cons_succ]
                  refine wpAnyH_take (i := 15) (v := ?_) rfl (by kernel_rfl) (by kernel_rfl) (by kernel_rfl) (fun _ _ _ h => h) (Or.inl ⟨by rfl, ?_⟩) (by assumption) ?_
                  rotate_left
                  · intro W hSw
                    obtain ⟨q1, q2, q3, q4, q5, q6⟩ := hSw
                    go_simp
                    with_reducible rfl
                  try simp only [Act.put, List.getElem_toArray, List.getElem_cons_succ, List.getElem_cons_zero, List.setIfInBounds_toArray, List.set_cons_zero, List.set_cons_succ]
                  refine wpAnyH_ready (rs := [16]) (by kernel_rfl) (by simp) ?_
                  refine AllReadyH.cons (o := _) rfl (fun K' hK => ?_) ?_
                  · go_simp
                    refine (HAl.out _ none none 0 0 u1 u2 (HI1.out _ (grown_drew (grown_refl _ _))) (HI2.out _ (grown_drew (grown_refl _ _))) HM1.out HM2.out).mono ?_
                    rintro E w2 ⟨bb, rfl, hbb, hg2⟩
                    have G2 : Hid (wi.grownBy w2 none) := grown_trans (grown_drew (grown_refl _ _)) hg2
                    have H2 : Hid (SQ w.heap.size (w.heap.size + 1) 5 (.slice (some ⟨b4, o4, none⟩) x.Y.length c5) (.slice (some ⟨b4', o4', none⟩) y.Y.length d5) b4 (o4 + q) (.slice (some ⟨b5, o5, none⟩) I k5) b4' (o4' + q) (.slice (some ⟨b5', o5', none⟩) I k5') b5 (o5 + a) (.slice r1 n1 k1) b5' (o5' + a) (.slice r2 n2 k2) w2) := SQ.kept HS0.out G2.out
                    have HBB : Hid (bb = true ↔ u1 = u2) := hbb
                    clear hbb hg2
                    go_wp2_with fail
                    refine hK.out _ _ (H2.out) (fun hHeld => ?_)
                    clear hK K'
                    try simp only [Act.put, List.getElem_toArray, List.getElem_cons_succ, List.getElem_cons_zero, List.setIfInBounds_toArray, List.set_cons_zero, List.set_cons_succ]
                    refine wpAnyH_take (i := 17) (v := ?_) rfl (by kernel_rfl) (by kernel_rfl) (by kernel_rfl) (fun _ _ _ h => h) (Or.inl ⟨by rfl, ?_⟩) (by assumption) ?_
                    rotate_left
                    · intro W hSw
                      obtain ⟨q1, q2, q3, q4, q5, q6⟩ := hSw
                      go_simp
                      with_reducible rfl
                    try simp only [Act.put, List.getElem_toArray, List.getElem_cons_succ, List.getElem_cons_zero, List.setIfInBounds_toArray, List.set_cons_zero, List.set_cons_succ]
                    refine wpAnyH_done (by kernel_rfl) ?_ _
                    have G9 : Hid (W0.grownBy w2 none) := grown_trans Gwi.out G2.out
                    have HY : Hid (bb = true ↔ syT x q a = syT y q a) := by rw [HU1.out, HU2.out]; exact HBB.out
                    clear HS0 HBB HU1 HU2 HI1 HI2 HM1 HM2 HAl G2
                    cases bb with
                    | false =>
                      have hne : Hid (¬ x = y) := fun e => by have := HY.out.2 (by rw [e]); cases this
                      have GF : Hid (w.grownBy w2 none) := grown_trans G0.out G9.out
                      go_wp2_with fail
                      go_ret
                      exact tellsB false rfl ⟨(fun e => by cases e), fun e => absurd e hne.out⟩ GF.out
                    | true =>
                      have HSy2 : Hid (∀ l, l < a + 1 → syT x q l = syT y q l) := fun l hl => by
                        by_cases e : l = a
                        · subst e; exact HY.out.1 rfl
                        · exact HSy.out l (by omega)
                      go_wp2_with fail
                      go_roundw
                      case rel => exact ⟨a + 1, by go_num, by omega, HSy2.out, G9.out⟩
                      case measure => simp [intOf]; omega
                  exact AllReadyH.nil
                · have il : ¬ (a : Int) < (I : Int) := by omega
                  have HSa : Hid (∀ l, l < I → syT x q l = syT y q l) := fun l hl => HSy.out l (by omega)
                  have HRo2 : Hid (∀ s, s < q + 1 → x.N.getD s [] = y.N.getD s [] ∧ x.E.getD s [] = y.E.getD s [] ∧ ∀ l, l < I → syT x s l = syT y s l) := fun s hs => by
                    by_cases e : s = q
                    · subst e; exact ⟨hN1.out, hE1.out, HSa.out⟩
                    · exact HRo.out s (by omega)
                  clear HSy
                  go_wp2_with fail
                  go_roundw
                  case rel => exact ⟨q + 1, by go_num, by omega, HRo2.out, Gwi.out⟩
                  case measure => simp [intOf]; omega
        exact AllReadyH.nil
      exact AllReadyH.nil
    · have iq : ¬ (q : Int) < (x.N.length : Int) := by omega
      have GF : Hid (w.grownBy wq none) := grown_trans G0.out Gwq.out
      have HEq : Hid (x = y) := trI_ext HR.out HRY.out HT1.out HT2.out HT3.out HT4.out HLn.out fun s hs => HRo.out s (by omega)
      clear HRo
      go_wp2_with fail
      go_ret
      exact tellsB true rfl ⟨fun _ => HEq.out, fun _ => rfl⟩ GF.out

end Go.Proofs.Ytodcmlcpicabaaa
