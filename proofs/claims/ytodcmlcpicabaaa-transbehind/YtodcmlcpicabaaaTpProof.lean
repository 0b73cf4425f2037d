/- TransBehind holds: whatever two transducers and whatever word come in, in whatever memory, shared or not: the program refuses what the reference refuses, with the same error; else it makes the one least transducer that the reference makes of the second behind the first, or says that it is too large where that one is; and to the word it says what the second says to what the first says. -/
import Derived.Test.YtodcmlcpicabaaaTpRefB
import Derived.Test.YtodcmlcpicabaaaTpBehE
import Derived.Test.YtodcmlcpicabaaaTlSame
import Derived.Test.YtodcmlcpicabaaaTlNo
import Derived.Test.YtodcmlcpicabaaaTnRefC
import Derived.Test.YtodcmlcpicabaaaRWord1
import Derived.Test.YtodcmlcpicabaaaMyP
import Derived.SizedLaws
namespace Go.Proofs.Ytodcmlcpicabaaa
open Go.ChangeShapes Go.WideShapes Go.ChangeAt Go.RowKit Go.Joins
set_option linter.unusedVariables false

theorem may_nsB {n : Int} {zs : List Int} (h : mayF n zs = 0) : 1 ≤ n ∧ n ≤ 4 ∧ zs.length ≤ 60 ∧ ∃ us : List Nat, zs = nsT us ∧ ∀ l ∈ us, l < n.toNat := by
  unfold mayF at h
  by_cases h1 : n < 1 ∨ 4 < n
  · rw [if_pos h1] at h; cases h
  · rw [if_neg h1] at h
    by_cases h2 : 60 < zs.length
    · rw [if_pos h2] at h; cases h
    · rw [if_neg h2] at h
      by_cases h3 : (zs.all fun x => decide (0 ≤ x) && decide (x < n)) = true
      · have h4 := List.all_eq_true.1 h3
        refine ⟨by omega, by omega, by omega, zs.map Int.toNat, ?_, ?_⟩
        · unfold nsT
          rw [List.map_map]
          conv => lhs; rw [← List.map_id zs]
          refine List.map_congr_left fun z hz => ?_
          have := h4 z hz
          simp at this
          simp
          omega
        · intro l hl
          obtain ⟨z, hz, rfl⟩ := List.mem_map.1 hl
          have := h4 z hz
          simp at this
          omega
      · rw [if_neg h3] at h; cases h
theorem says_lenB {x : TrI} {I : Nat} (h : ReadT x I) (us : List Nat) (hu : ∀ l ∈ us, l < I) : (saysT x us).length ≤ 16 + 8 * us.length := by
  have hS := h.st
  unfold StT at hS
  have h1 := h.len us hu (q := x.S.toNat) (by omega)
  have h2 := h.e8 _ (h.go us hu (q := x.S.toNat) (by omega))
  have h3 := h.f8
  unfold saysT
  rw [List.length_append, List.length_append]
  omega
theorem many_lst {x : TrI} {I mb : Nat} {L : TrI} (h : LeastK x I L mb) (hI : I ≤ 4) (hN : x.N.length ≤ 36) : (sayR L).length ≤ 1000 := by
  have hs := h.shp
  have hn := h.n6
  have h1 : ∀ R : List (List (List Int)), (∀ r, r ∈ R → r.length ≤ 4) → R.flatten.length ≤ 4 * R.length := fun R hR => by
    induction R with
    | nil => simp
    | cons r R ih =>
      have h2 := ih (fun q hq => hR q (by simp [hq]))
      have h3 := hR r (by simp)
      simp only [List.flatten_cons, List.length_append, List.length_cons]
      omega
  have h2 := h1 L.Y (fun r hr => by
    obtain ⟨i, hi, rfl⟩ := List.getElem_of_mem hr
    have := hs.ry i (by rw [← hs.hy]; exact hi)
    have e : L.Y.getD i [] = L.Y[i] := by simp [List.getD, hi]
    rw [e] at this
    omega)
  have h3 := hs.hy
  have h4 := hs.he
  unfold sayR
  simp only [List.length_cons, List.length_append]
  omega
def BehE2 (x y : TrI) (I : Nat) (w : World) (e : Ending) (w' : World) : Prop := ∃ k0 L, IsEnd (bfsL id (bD x y) I (bX x y)) k0 ∧ k0 ≤ x.N.length * y.N.length ∧ LeastIs (behY x y I k0) I L ∧ w.grownBy w' none ∧
  ((¬ (L.N.length ≤ 6 ∧ LittleT L) ∧ e = .returned (.tuple #[tnZ, .int .i64 7])) ∨ (L.N.length ≤ 6 ∧ LittleT L ∧ ∃ b3 b4 b5 b6 k3 k4 k5 k6, e = .returned (.tuple #[tnV L.I L.O L.S b3 L.F.length k3 b4 L.N.length k4 b5 L.Y.length k5 b6 L.E.length k6, .int .i64 0]) ∧ TnAt w' L b3 b4 b5 b6))
theorem BehEP.two {x y : TrI} {I : Nat} {w w' : World} {e : Ending} (h : BehEP x y I w e w') : BehE2 x y I w e w' := by
  obtain ⟨k0, B, k, kd, k2, h1, h1b, h2, h3, h4⟩ := h
  obtain ⟨l1, l2, l3⟩ := lstL_lenB (x := behY x y I k0) h2.e2
  refine ⟨k0, lstL (behY x y I k0) I B k kd k2, h1, h1b, ⟨B, k, kd, k2, h2.sure, h2.e1, h2.kn, h2.kind, h2.e2, h2.k2n, rfl⟩, h3, ?_⟩
  rw [l1, l2, l3]
  rcases h4 with h4 | ⟨h4, h5, a3, a4, a5, a6, c3, c4, c5, c6, h6, h7⟩
  · exact .inl h4
  · exact .inr ⟨h4, h5, a3, a4, a5, a6, c3, c4, c5, c6, h6, h7⟩

set_option maxHeartbeats 3200000 in
set_option maxRecDepth 100000 in
theorem tbeh_bad (x y : TrI) (a3 a4 a5 a6 : Option Addr) (c3 c4 c5 c6 : Nat) (e3 e4 e5 e6 : Option Addr) (d3 d4 d5 d6 : Nat) (zs : List Int) (az : Option Addr) (cz : Nat) (w : World) (hx : TnAt w x a3 a4 a5 a6) (hy : TnAt w y e3 e4 e5 e6) (hz : Ints w az zs) (hmz : zs.length ≤ maxLen) (hb : ¬ (GoodT x ∧ GoodT y ∧ x.O = y.I)) :
    Calls Try.prog 3 #[tnV x.I x.O x.S a3 x.F.length c3 a4 x.N.length c4 a5 x.Y.length c5 a6 x.E.length c6, tnV y.I y.O y.S e3 y.F.length d3 e4 y.N.length d4 e5 y.Y.length d5 e6 y.E.length d6, .slice az zs.length cz] w (Says (.bool true) w) := by
  obtain ⟨W0, hW0, g0, s0, bx, bz⟩ := two_boxes7 w x y a3 a4 a5 a6 c3 c4 c5 c6 e3 e4 e5 e6 d3 d4 d5 d6
  have HW0 : Hid (W0 = _) := hW0
  have G0 : Hid (w.grownBy W0 none) := g0
  have BX : Hid (∀ W, W0.grownBy W none → Box7 W w.heap.size x.I x.O x.S a3 x.F.length c3 a4 x.N.length c4 a5 x.Y.length c5 a6 x.E.length c6) := fun W hW => bx.grown hW
  have BY : Hid (∀ W, W0.grownBy W none → Box7 W (w.heap.size + 1) y.I y.O y.S e3 y.F.length d3 e4 y.N.length d4 e5 y.Y.length d5 e6 y.E.length d6) := fun W hW => bz.grown hW
  have HCX : Hid (∀ W, W0.grownBy W none → Calls Try.prog 7 #[tnV x.I x.O x.S a3 x.F.length c3 a4 x.N.length c4 a5 x.Y.length c5 a6 x.E.length c6] W (ChkP x W)) := fun W hW => checkR16_any _ _ _ _ _ _ _ _ _ _ (hx.grown (grown_trans g0 hW))
  have HCY : Hid (∀ W, W0.grownBy W none → Calls Try.prog 7 #[tnV y.I y.O y.S e3 y.F.length d3 e4 y.N.length d4 e5 y.Y.length d5 e6 y.E.length d6] W (ChkP y W)) := fun W hW => checkR16_any _ _ _ _ _ _ _ _ _ _ (hy.grown (grown_trans g0 hW))
  have x0 := (bx).b0
  have x1 := (bx).b1
  have x2 := (bx).b2
  have x3 := (bx).b3
  have x4 := (bx).b4
  have x5 := (bx).b5
  have x6 := (bx).b6
  have z0 := (bz).b0
  have z1 := (bz).b1
  have z2 := (bz).b2
  have z3 := (bz).b3
  have z4 := (bz).b4
  have z5 := (bz).b5
  have z6 := (bz).b6
  rw [hW0] at x0 x1 x2 x3 x4 x5 x6 z0 z1 z2 z3 z4 z5 z6
  have HL : Hid (Calls Try.prog 6 #[tnV x.I x.O x.S a3 x.F.length c3 a4 x.N.length c4 a5 x.Y.length c5 a6 x.E.length c6, tnV y.I y.O y.S e3 y.F.length d3 e4 y.N.length d4 e5 y.Y.length d5 e6 y.E.length d6] W0 (BehBP x y W0)) := behE_bad x y a3 a4 a5 a6 c3 c4 c5 c6 e3 e4 e5 e6 d3 d4 d5 d6 W0 (hx.grown g0) (hy.grown g0) hb
  clear hW0 g0 s0 bx bz hx hy hz hmz hb
  go_enter Try.func3, Try.ntmps3
  go_wp2_with fail
  rw [← HW0.out]
  clear x0 x1 x2 x3 x4 x5 x6 z0 z1 z2 z3 z4 z5 z6
  refine HL.out.mono ?_
  rintro E w2 ⟨z, rfl, hz, hg2⟩
  have G2 : Hid (W0.grownBy w2 none) := hg2
  have HZ : Hid ((ChkB x y z ∧ z ≠ 0) ∨ (GoodT x ∧ GoodT y ∧ x.O ≠ y.I ∧ z = 3)) := hz
  clear hz hg2 HL
  obtain ⟨W3, hW3, gW3, sW3, bW3⟩ := box7_new w2 0 0 0 none 0 0 none 0 0 none 0 0 none 0 0
  have HW3 : Hid (W3 = _) := hW3
  have HBL : Hid (∀ W, W3.grownBy W none → Box7 W w2.heap.size 0 0 0 none 0 0 none 0 0 none 0 0 none 0 0) := fun W hW => bW3.grown hW
  have G3 : Hid (W0.grownBy W3 none) := grown_trans G2.out gW3
  have x0 := (BX.out W3 G3.out).b0
  have x1 := (BX.out W3 G3.out).b1
  have x2 := (BX.out W3 G3.out).b2
  have x3 := (BX.out W3 G3.out).b3
  have x4 := (BX.out W3 G3.out).b4
  have x5 := (BX.out W3 G3.out).b5
  have x6 := (BX.out W3 G3.out).b6
  rw [hW3] at x0 x1 x2 x3 x4 x5 x6
  clear hW3 gW3 sW3 bW3
  go_wp2_with fail
  rw [← HW3.out]
  clear x0 x1 x2 x3 x4 x5 x6
  refine (HCX.out W3 G3.out).mono ?_
  rintro E w4 ⟨zx, rfl, hzx, hg4⟩
  have G34 : Hid (W3.grownBy w4 none) := hg4
  have G4 : Hid (W0.grownBy w4 none) := grown_trans G3.out hg4
  clear hg4
  by_cases hx0 : zx = 0
  · subst hx0
    have HGX : Hid (GoodT x) := (hzx.all hzx).2.1 rfl
    clear hzx
    have z0 := (BY.out w4 G4.out).b0
    have z1 := (BY.out w4 G4.out).b1
    have z2 := (BY.out w4 G4.out).b2
    have z3 := (BY.out w4 G4.out).b3
    have z4 := (BY.out w4 G4.out).b4
    have z5 := (BY.out w4 G4.out).b5
    have z6 := (BY.out w4 G4.out).b6
    go_wp2_with fail
    clear z0 z1 z2 z3 z4 z5 z6
    refine (HCY.out w4 G4.out).mono ?_
    rintro E w5 ⟨zy, rfl, hzy, hg5⟩
    have G35 : Hid (W3.grownBy w5 none) := grown_trans G34.out hg5
    have G5 : Hid (W0.grownBy w5 none) := grown_trans G4.out hg5
    clear hg5 HCX HCY
    by_cases hy0 : zy = 0
    · subst hy0
      have hgy := (hzy.all hzy).2.1 rfl
      have h3 : x.O ≠ y.I ∧ z = 3 := by
        rcases HZ.out with ⟨h1, h2⟩ | ⟨_, _, h1, h2⟩
        · exact absurd ((h1.all h1).2.2 ⟨HGX.out, hgy⟩) h2
        · exact ⟨h1, h2⟩
      obtain ⟨h3, rfl⟩ := h3
      have dO : (x.O != y.I) = true := by simpa using h3
      have x1 := (BX.out w5 G5.out).b1
      have z0 := (BY.out w5 G5.out).b0
      clear hzy hgy h3 HZ
      have v0 := (HBL.out w5 G35.out).b0
      have v1 := (HBL.out w5 G35.out).b1
      have v2 := (HBL.out w5 G35.out).b2
      have v3 := (HBL.out w5 G35.out).b3
      have v4 := (HBL.out w5 G35.out).b4
      have v5 := (HBL.out w5 G35.out).b5
      have v6 := (HBL.out w5 G35.out).b6
      have HNo : Hid (Calls Try.prog 11 #[tnZ] w5 (Says (.bool true) w5)) := noTrans_zero w5
      go_wp2_with fail
      clear x1 z0 v0 v1 v2 v3 v4 v5 v6
      refine HNo.out.mono ?_
      rintro E w9 ⟨rfl, hg9⟩
      have GF : Hid (w.grownBy w9 none) := grown_trans G0.out (grown_trans G5.out hg9)
      clear hg9
      go_wp2_with fail
      go_ret
      exact ⟨rfl, GF.out⟩
    · have hz : z = zy := by
        rcases HZ.out with ⟨⟨z1, h1, h2, h3⟩, h4⟩ | ⟨_, h1, _⟩
        · have e1 : z1 = 0 := (h1.all h1).2.2 HGX.out
          exact ((h3 e1).all hzy).1
        · exact absurd ((hzy.all hzy).2.2 h1) hy0
      subst hz
      have d1 : (z == 0) = false := by simpa using hy0
      have d2 : (z != 0) = true := by simpa using hy0
      have d3 : (z == z) = true := by simp
      clear hzy HZ hy0
      have x0 := (HBL.out w5 G35.out).b0
      have x1 := (HBL.out w5 G35.out).b1
      have x2 := (HBL.out w5 G35.out).b2
      have x3 := (HBL.out w5 G35.out).b3
      have x4 := (HBL.out w5 G35.out).b4
      have x5 := (HBL.out w5 G35.out).b5
      have x6 := (HBL.out w5 G35.out).b6
      have HNo : Hid (Calls Try.prog 11 #[tnZ] w5 (Says (.bool true) w5)) := noTrans_zero w5
      go_wp2_with fail
      clear x0 x1 x2 x3 x4 x5 x6
      refine HNo.out.mono ?_
      rintro E w9 ⟨rfl, hg9⟩
      have GF : Hid (w.grownBy w9 none) := grown_trans G0.out (grown_trans G5.out hg9)
      clear hg9
      go_wp2_with fail
      go_ret
      exact ⟨rfl, GF.out⟩
  · have hz : z = zx := by
      rcases HZ.out with ⟨⟨z1, h1, h2, h3⟩, h4⟩ | ⟨h1, _⟩
      · have e1 := (h1.all hzx).1
        rw [h2 (by rw [e1]; exact hx0), e1]
      · exact absurd ((hzx.all hzx).2.2 h1) hx0
    subst hz
    have d1 : (z == 0) = false := by simpa using hx0
    have d2 : (z != 0) = true := by simpa using hx0
    have d3 : (z == z) = true := by simp
    clear hzx HZ hx0 HCX HCY
    have x0 := (HBL.out w4 G34.out).b0
    have x1 := (HBL.out w4 G34.out).b1
    have x2 := (HBL.out w4 G34.out).b2
    have x3 := (HBL.out w4 G34.out).b3
    have x4 := (HBL.out w4 G34.out).b4
    have x5 := (HBL.out w4 G34.out).b5
    have x6 := (HBL.out w4 G34.out).b6
    have HNo : Hid (Calls Try.prog 11 #[tnZ] w4 (Says (.bool true) w4)) := noTrans_zero w4
    go_wp2_with fail
    clear x0 x1 x2 x3 x4 x5 x6
    refine HNo.out.mono ?_
    rintro E w9 ⟨rfl, hg9⟩
    have GF : Hid (w.grownBy w9 none) := grown_trans G0.out (grown_trans G4.out hg9)
    clear hg9
    go_wp2_with fail
    go_ret
    exact ⟨rfl, GF.out⟩

set_option maxHeartbeats 3200000 in
set_option maxRecDepth 100000 in
theorem tbeh_good (x y : TrI) (a3 a4 a5 a6 : Option Addr) (c3 c4 c5 c6 : Nat) (e3 e4 e5 e6 : Option Addr) (d3 d4 d5 d6 : Nat) (zs : List Int) (az : Option Addr) (cz : Nat) (w : World) (hx : TnAt w x a3 a4 a5 a6) (hy : TnAt w y e3 e4 e5 e6) (hz : Ints w az zs) (hmz : zs.length ≤ maxLen) (hGx : GoodT x) (hGy : GoodT y) (hO : x.O = y.I) :
    Calls Try.prog 3 #[tnV x.I x.O x.S a3 x.F.length c3 a4 x.N.length c4 a5 x.Y.length c5 a6 x.E.length c6, tnV y.I y.O y.S e3 y.F.length d3 e4 y.N.length d4 e5 y.Y.length d5 e6 y.E.length d6, .slice az zs.length cz] w (Says (.bool true) w) := by
  obtain ⟨I, hxI⟩ : ∃ I : Nat, x.I = (I : Int) := ⟨x.I.toNat, by have := hGx.many.1; unfold ManyT at this; omega⟩
  have hB : BehG x y I y.I.toNat := by have := beh_good hGx hGy hO; rwa [hxI, Int.toNat_natCast] at this
  have hI : I ≤ 4 := by have := hGx.many.1; unfold ManyT at this; omega
  have hM : y.I.toNat ≤ 4 := by have := hGy.many.1; unfold ManyT at this; omega
  have hnx : x.N.length ≤ 6 := hGx.size.2
  have hny : y.N.length ≤ 6 := hGy.size.2
  have hNN : x.N.length * y.N.length ≤ 36 := Nat.mul_le_mul hnx hny
  obtain ⟨W0, hW0, g0, s0, bx, bz⟩ := two_boxes7 w x y a3 a4 a5 a6 c3 c4 c5 c6 e3 e4 e5 e6 d3 d4 d5 d6
  have HW0 : Hid (W0 = _) := hW0
  have G0 : Hid (w.grownBy W0 none) := g0
  have BX : Hid (∀ W, W0.grownBy W none → Box7 W w.heap.size x.I x.O x.S a3 x.F.length c3 a4 x.N.length c4 a5 x.Y.length c5 a6 x.E.length c6) := fun W hW => bx.grown hW
  have BY : Hid (∀ W, W0.grownBy W none → Box7 W (w.heap.size + 1) y.I y.O y.S e3 y.F.length d3 e4 y.N.length d4 e5 y.Y.length d5 e6 y.E.length d6) := fun W hW => bz.grown hW
  have HCX : Hid (∀ W, W0.grownBy W none → Calls Try.prog 7 #[tnV x.I x.O x.S a3 x.F.length c3 a4 x.N.length c4 a5 x.Y.length c5 a6 x.E.length c6] W (ChkP x W)) := fun W hW => checkR16_any _ _ _ _ _ _ _ _ _ _ (hx.grown (grown_trans g0 hW))
  have HCY : Hid (∀ W, W0.grownBy W none → Calls Try.prog 7 #[tnV y.I y.O y.S e3 y.F.length d3 e4 y.N.length d4 e5 y.Y.length d5 e6 y.E.length d6] W (ChkP y W)) := fun W hW => checkR16_any _ _ _ _ _ _ _ _ _ _ (hy.grown (grown_trans g0 hW))
  have x0 := (bx).b0
  have x1 := (bx).b1
  have x2 := (bx).b2
  have x3 := (bx).b3
  have x4 := (bx).b4
  have x5 := (bx).b5
  have x6 := (bx).b6
  have z0 := (bz).b0
  have z1 := (bz).b1
  have z2 := (bz).b2
  have z3 := (bz).b3
  have z4 := (bz).b4
  have z5 := (bz).b5
  have z6 := (bz).b6
  rw [hW0] at x0 x1 x2 x3 x4 x5 x6 z0 z1 z2 z3 z4 z5 z6
  have HL : Hid (Calls Try.prog 6 #[tnV x.I x.O x.S a3 x.F.length c3 a4 x.N.length c4 a5 x.Y.length c5 a6 x.E.length c6, tnV y.I y.O y.S e3 y.F.length d3 e4 y.N.length d4 e5 y.Y.length d5 e6 y.E.length d6] W0 (BehE2 x y I W0)) := (behE_good x y I a3 a4 a5 a6 c3 c4 c5 c6 e3 e4 e5 e6 d3 d4 d5 d6 W0 (hx.grown g0) (hy.grown g0) hGx hGy hO hxI).mono fun _ _ => BehEP.two
  have HRB : Hid (∀ W, W0.grownBy W none → Calls Try.prog 8 #[tnV x.I x.O x.S a3 x.F.length c3 a4 x.N.length c4 a5 x.Y.length c5 a6 x.E.length c6, tnV y.I y.O y.S e3 y.F.length d3 e4 y.N.length d4 e5 y.Y.length d5 e6 y.E.length d6] W (RLeastE2 (refB x y I) I W)) := fun W hW => behR_any x y I y.I.toNat hB a3 a4 a5 a6 c3 c4 c5 c6 e3 e4 e5 e6 d3 d4 d5 d6 W (hx.grown (grown_trans g0 hW)) (hy.grown (grown_trans g0 hW)) hxI hI hM hnx hny
  have HMy : Hid (∀ W, w.grownBy W none → Calls Try.prog 12 #[.int .i64 x.I, .slice az zs.length cz] W fun e w' => e = .returned (.int .i64 (mayF x.I zs)) ∧ w' = W) := fun W hW => mayR_any _ _ _ _ _ (hz.grown hW) hmz
  have HRX : Hid (∀ us, zs = nsT us → (∀ l ∈ us, l < I) → us.length ≤ 60 → ∀ W, w.grownBy W none → Calls Try.prog 13 #[tnV x.I x.O x.S a3 x.F.length c3 a4 x.N.length c4 a5 x.Y.length c5 a6 x.E.length c6, .slice az zs.length cz] W (RunRP x us W)) := fun us hu hl h60 W hW => by
    have hlu : zs.length = us.length := by rw [hu, nsT_len]
    rw [hlu]
    exact runR16_long x I a3 a4 a5 a6 c3 c4 c5 c6 W (hx.grown hW) hB.rx hI (by omega) us hl (by omega) az cz (by rw [← hu]; exact hz.grown hW)
  have HRY : Hid (∀ (u : List Int) (a : Option Addr) (c : Nat) (W : World), (∀ j, j ∈ u → 0 ≤ j) → (∀ l, l ∈ tnsT u → l < y.I.toNat) → u.length ≤ 1000 → w.grownBy W none → Ints W a u → Calls Try.prog 13 #[tnV y.I y.O y.S e3 y.F.length d3 e4 y.N.length d4 e5 y.Y.length d5 e6 y.E.length d6, .slice a u.length c] W (RunRP y (tnsT u) W)) := fun u a c W h0 hl h1 hW hi => by
    have h2 := runR16_long y y.I.toNat e3 e4 e5 e6 d3 d4 d5 d6 W (hy.grown hW) hB.ry hM (by omega) (tnsT u) hl (by rw [tnsT_len]; exact h1) a c (by rw [nsT_tns h0]; exact hi)
    rw [tnsT_len] at h2
    exact h2
  have HRL0 : Hid (∀ L : TrI, ReadT L I → L.N.length ≤ 6 → ∀ us b3 b4 b5 b6 k3 k4 k5 k6, zs = nsT us → (∀ l ∈ us, l < I) → us.length ≤ 60 → ∀ W, w.grownBy W none → TnAt W L b3 b4 b5 b6 → Calls Try.prog 13 #[tnV L.I L.O L.S b3 L.F.length k3 b4 L.N.length k4 b5 L.Y.length k5 b6 L.E.length k6, .slice az zs.length cz] W (RunRP L us W)) := fun L hrL hL6 us b3 b4 b5 b6 k3 k4 k5 k6 hu hl h60 W hW hT => by
    have hlu : zs.length = us.length := by rw [hu, nsT_len]
    rw [hlu]
    exact runR16_long L I b3 b4 b5 b6 k3 k4 k5 k6 W hT hrL hI (by omega) us hl (by omega) az cz (by rw [← hu]; exact hz.grown hW)
  have HGX : Hid (GoodT x) := hGx
  have HGY : Hid (GoodT y) := hGy
  have HB : Hid (BehG x y I y.I.toNat) := hB
  have HR : Hid (ReadT x I) := hB.rx
  have HRy : Hid (ReadT y y.I.toNat) := hB.ry
  have HxI : Hid (x.I = (I : Int)) := hxI
  have HxO : Hid (x.O = y.I) := hO
  have HLp : Hid (LetP x I x.O) := hGx.letp hxI
  have HO : Hid ((x.O != y.I) = false) := by show _ = _; simpa using hO
  have HNN : Hid (x.N.length * y.N.length ≤ 36 ∧ I ≤ 4) := ⟨hNN, hI⟩
  clear hW0 g0 s0 bx bz hx hy hz hmz hGx hGy hO hxI hB hI hM hnx hny hNN
  go_enter Try.func3, Try.ntmps3
  go_wp2_with fail
  rw [← HW0.out]
  clear x0 x1 x2 x3 x4 x5 x6 z0 z1 z2 z3 z4 z5 z6
  refine HL.out.mono ?_
  rintro E w2 ⟨k0, L, hE0, hk0, hLI, hg2, hends⟩
  have hin : ∀ q, q ∈ bfsL id (bD x y) I (bX x y) k0 → q < x.N.length * y.N.length := bfsL_lt id (fun s a hs ha => HB.out.d hs ha) HB.out.x0 k0
  have hrd : ReadT (behY x y I k0) I 72 := beh_read HB.out hE0 hin
  have hK := (least_k hrd hLI).1
  have HLK : Hid (LeastK (behY x y I k0) I L 72) := hK
  have HSays : Hid (∀ us : List Nat, (∀ l, l ∈ us → l < I) → saysT L us = saysT y (tnsT (saysT x us))) := fun us hu => (hK.says us hu).trans (beh_says HB.out hE0 us hu)
  have HOne : Hid (∀ L', RefIs (refB x y I) I L' → L = L') := fun L' hR => can_one hrd (refB_read HB.out) rfl (fun us hu => refB_says HB.out hE0 us hu) hLI hR
  have HSh : Hid (LittleT L ↔ ShortW (sayR L)) := hK.short
  have HMany : Hid ((sayR L).length ≤ 1000) := by
    have hl : (behY x y I k0).N.length = k0 := ofK_len.1.trans hE0.len
    exact many_lst hK HNN.out.2 (by rw [hl]; have := HNN.out.1; omega)
  have G2 : Hid (W0.grownBy w2 none) := hg2
  clear hE0 hk0 hLI hg2 hin hrd hK HL HB
  rcases hends with ⟨hnl, rfl⟩ | ⟨hn6, hlt, b3, b4, b5, b6, k3, k4, k5, k6, rfl, hT⟩
  · have HNL : Hid (¬ (L.N.length ≤ 6 ∧ LittleT L)) := hnl
    clear hnl HRL0 HRX HRY HMy
    obtain ⟨W3, hW3, gW3, sW3, bW3⟩ := box7_new w2 0 0 0 none 0 0 none 0 0 none 0 0 none 0 0
    have HW3 : Hid (W3 = _) := hW3
    have HBL : Hid (∀ W, W3.grownBy W none → Box7 W w2.heap.size 0 0 0 none 0 0 none 0 0 none 0 0 none 0 0) := fun W hW => bW3.grown hW
    have G3 : Hid (W0.grownBy W3 none) := grown_trans G2.out gW3
    have x0 := (BX.out W3 G3.out).b0
    have x1 := (BX.out W3 G3.out).b1
    have x2 := (BX.out W3 G3.out).b2
    have x3 := (BX.out W3 G3.out).b3
    have x4 := (BX.out W3 G3.out).b4
    have x5 := (BX.out W3 G3.out).b5
    have x6 := (BX.out W3 G3.out).b6
    rw [hW3] at x0 x1 x2 x3 x4 x5 x6
    clear hW3 gW3 sW3 bW3
    go_wp2_with fail
    rw [← HW3.out]
    clear x0 x1 x2 x3 x4 x5 x6
    refine (HCX.out W3 G3.out).mono ?_
    rintro E w4 ⟨zx, rfl, hzx, hg4⟩
    obtain rfl : zx = 0 := (hzx.all hzx).2.2 HGX.out
    have G34 : Hid (W3.grownBy w4 none) := hg4
    have G4 : Hid (W0.grownBy w4 none) := grown_trans G3.out hg4
    clear hzx hg4
    have z0 := (BY.out w4 G4.out).b0
    have z1 := (BY.out w4 G4.out).b1
    have z2 := (BY.out w4 G4.out).b2
    have z3 := (BY.out w4 G4.out).b3
    have z4 := (BY.out w4 G4.out).b4
    have z5 := (BY.out w4 G4.out).b5
    have z6 := (BY.out w4 G4.out).b6
    go_wp2_with fail
    clear z0 z1 z2 z3 z4 z5 z6
    refine (HCY.out w4 G4.out).mono ?_
    rintro E w5 ⟨zy, rfl, hzy, hg5⟩
    obtain rfl : zy = 0 := (hzy.all hzy).2.2 HGY.out
    have G35 : Hid (W3.grownBy w5 none) := grown_trans G34.out hg5
    have G5 : Hid (W0.grownBy w5 none) := grown_trans G4.out hg5
    clear hzy hg5 HCX HCY
    have x0 := (BX.out w5 G5.out).b0
    have x1 := (BX.out w5 G5.out).b1
    have x2 := (BX.out w5 G5.out).b2
    have x3 := (BX.out w5 G5.out).b3
    have x4 := (BX.out w5 G5.out).b4
    have x5 := (BX.out w5 G5.out).b5
    have x6 := (BX.out w5 G5.out).b6
    have z0 := (BY.out w5 G5.out).b0
    have z1 := (BY.out w5 G5.out).b1
    have z2 := (BY.out w5 G5.out).b2
    have z3 := (BY.out w5 G5.out).b3
    have z4 := (BY.out w5 G5.out).b4
    have z5 := (BY.out w5 G5.out).b5
    have z6 := (BY.out w5 G5.out).b6
    have dO : (x.O != y.I) = false := HO.out
    go_wp2_with fail
    clear x0 x1 x2 x3 x4 x5 x6 z0 z1 z2 z3 z4 z5 z6 dO
    refine (HRB.out w5 G5.out).mono ?_
    rintro E w6 ⟨L', q3, q4, q5, q6, m3, m4, m5, m6, hRis, hg6, rfl, hQ⟩
    have hLL := HOne.out L' hRis
    subst hLL
    have G36 : Hid (W3.grownBy w6 none) := grown_trans G35.out hg6
    have G6 : Hid (W0.grownBy w6 none) := grown_trans G5.out hg6
    obtain ⟨W7, hW7, gW7, sW7, bW7⟩ := box7_new w6 L.I L.O L.S q3 L.F.length m3 q4 L.N.length m4 q5 L.Y.length m5 q6 L.E.length m6
    have HW7 : Hid (W7 = _) := hW7
    have HBQ : Hid (∀ W, W7.grownBy W none → Box7 W w6.heap.size L.I L.O L.S q3 L.F.length m3 q4 L.N.length m4 q5 L.Y.length m5 q6 L.E.length m6) := fun W hW => bW7.grown hW
    have G67 : Hid (W0.grownBy W7 none) := grown_trans G6.out gW7
    have G37 : Hid (W3.grownBy W7 none) := grown_trans G36.out gW7
    have HQ7 : Hid (∀ W, W7.grownBy W none → TnAt W L q3 q4 q5 q6) := fun W hW => hQ.grown (grown_trans gW7 hW)
    have HLo : Hid (Calls Try.prog 9 #[tnV L.I L.O L.S q3 L.F.length m3 q4 L.N.length m4 q5 L.Y.length m5 q6 L.E.length m6] W7 (TellsB (¬ ShortW (sayR L)) W7)) := longR_any L q3 q4 q5 q6 m3 m4 m5 m6 W7 (hQ.grown gW7) (HMany.out)
    have x0 := (bW7).b0
    have x1 := (bW7).b1
    have x2 := (bW7).b2
    have x3 := (bW7).b3
    have x4 := (bW7).b4
    have x5 := (bW7).b5
    have x6 := (bW7).b6
    rw [hW7] at x0 x1 x2 x3 x4 x5 x6
    clear hRis hg6 hQ hW7 gW7 sW7 bW7 HRB HOne
    go_wp2_with fail
    rw [← HW7.out]
    clear x0 x1 x2 x3 x4 x5 x6
    refine HLo.out.mono ?_
    rintro E w8 ⟨bb, rfl, hbb, hg8⟩
    have G78 : Hid (W7.grownBy w8 none) := hg8
    have G8 : Hid (W0.grownBy w8 none) := grown_trans G67.out hg8
    have G38 : Hid (W3.grownBy w8 none) := grown_trans G37.out hg8
    by_cases hls : LittleT L
    · obtain rfl : bb = false := by
        cases bb with
        | false => rfl
        | true => exact absurd (HSh.out.1 hls) (hbb.1 rfl)
      have hbig : 6 < L.N.length := by
        rcases Nat.lt_or_ge 6 L.N.length with h | h
        · exact h
        · exact absurd ⟨h, hls⟩ HNL.out
      have il : (6 : Int) < (L.N.length : Int) := by omega
      have k4 := (HBQ.out w8 G78.out).b4
      have x0 := (HBL.out w8 G38.out).b0
      have x1 := (HBL.out w8 G38.out).b1
      have x2 := (HBL.out w8 G38.out).b2
      have x3 := (HBL.out w8 G38.out).b3
      have x4 := (HBL.out w8 G38.out).b4
      have x5 := (HBL.out w8 G38.out).b5
      have x6 := (HBL.out w8 G38.out).b6
      have HNo : Hid (Calls Try.prog 11 #[tnZ] w8 (Says (.bool true) w8)) := noTrans_zero w8
      clear hbb hg8 HLo
      go_wp2_with fail
      clear x0 x1 x2 x3 x4 x5 x6
      refine HNo.out.mono ?_
      rintro E w9 ⟨rfl, hg9⟩
      have GF : Hid (w.grownBy w9 none) := grown_trans G0.out (grown_trans G8.out hg9)
      clear hg9
      go_wp2_with fail
      go_ret
      exact ⟨rfl, GF.out⟩
    · obtain rfl : bb = true := hbb.2 (fun e => hls (HSh.out.2 e))
      have x0 := (HBL.out w8 G38.out).b0
      have x1 := (HBL.out w8 G38.out).b1
      have x2 := (HBL.out w8 G38.out).b2
      have x3 := (HBL.out w8 G38.out).b3
      have x4 := (HBL.out w8 G38.out).b4
      have x5 := (HBL.out w8 G38.out).b5
      have x6 := (HBL.out w8 G38.out).b6
      have HNo : Hid (Calls Try.prog 11 #[tnZ] w8 (Says (.bool true) w8)) := noTrans_zero w8
      clear hbb hg8 HLo
      go_wp2_with fail
      clear x0 x1 x2 x3 x4 x5 x6
      refine HNo.out.mono ?_
      rintro E w9 ⟨rfl, hg9⟩
      have GF : Hid (w.grownBy w9 none) := grown_trans G0.out (grown_trans G8.out hg9)
      clear hg9
      go_wp2_with fail
      go_ret
      exact ⟨rfl, GF.out⟩
  · have HN6 : Hid (L.N.length ≤ 6) := hn6
    have HLt : Hid (LittleT L) := hlt
    have HRL : Hid (∀ us b3 b4 b5 b6 k3 k4 k5 k6, zs = nsT us → (∀ l ∈ us, l < I) → us.length ≤ 60 → ∀ W, w.grownBy W none → TnAt W L b3 b4 b5 b6 → Calls Try.prog 13 #[tnV L.I L.O L.S b3 L.F.length k3 b4 L.N.length k4 b5 L.Y.length k5 b6 L.E.length k6, .slice az zs.length cz] W (RunRP L us W)) := HRL0.out L (HLK.out.read hlt) hn6
    clear hn6 hlt HRL0
    obtain ⟨W3, hW3, gW3, sW3, bW3⟩ := box7_new w2 L.I L.O L.S b3 L.F.length k3 b4 L.N.length k4 b5 L.Y.length k5 b6 L.E.length k6
    have HW3 : Hid (W3 = _) := hW3
    have HBL : Hid (∀ W, W3.grownBy W none → Box7 W w2.heap.size L.I L.O L.S b3 L.F.length k3 b4 L.N.length k4 b5 L.Y.length k5 b6 L.E.length k6) := fun W hW => bW3.grown hW
    have HTL : Hid (∀ W, W3.grownBy W none → TnAt W L b3 b4 b5 b6) := fun W hW => hT.grown (grown_trans gW3 hW)
    have G3 : Hid (W0.grownBy W3 none) := grown_trans G2.out gW3
    have x0 := (BX.out W3 G3.out).b0
    have x1 := (BX.out W3 G3.out).b1
    have x2 := (BX.out W3 G3.out).b2
    have x3 := (BX.out W3 G3.out).b3
    have x4 := (BX.out W3 G3.out).b4
    have x5 := (BX.out W3 G3.out).b5
    have x6 := (BX.out W3 G3.out).b6
    rw [hW3] at x0 x1 x2 x3 x4 x5 x6
    clear hT hW3 gW3 sW3 bW3
    go_wp2_with fail
    rw [← HW3.out]
    clear x0 x1 x2 x3 x4 x5 x6
    refine (HCX.out W3 G3.out).mono ?_
    rintro E w4 ⟨zx, rfl, hzx, hg4⟩
    obtain rfl : zx = 0 := (hzx.all hzx).2.2 HGX.out
    have G34 : Hid (W3.grownBy w4 none) := hg4
    have G4 : Hid (W0.grownBy w4 none) := grown_trans G3.out hg4
    clear hzx hg4
    have z0 := (BY.out w4 G4.out).b0
    have z1 := (BY.out w4 G4.out).b1
    have z2 := (BY.out w4 G4.out).b2
    have z3 := (BY.out w4 G4.out).b3
    have z4 := (BY.out w4 G4.out).b4
    have z5 := (BY.out w4 G4.out).b5
    have z6 := (BY.out w4 G4.out).b6
    go_wp2_with fail
    clear z0 z1 z2 z3 z4 z5 z6
    refine (HCY.out w4 G4.out).mono ?_
    rintro E w5 ⟨zy, rfl, hzy, hg5⟩
    obtain rfl : zy = 0 := (hzy.all hzy).2.2 HGY.out
    have G35 : Hid (W3.grownBy w5 none) := grown_trans G34.out hg5
    have G5 : Hid (W0.grownBy w5 none) := grown_trans G4.out hg5
    clear hzy hg5 HCX HCY
    have x0 := (BX.out w5 G5.out).b0
    have x1 := (BX.out w5 G5.out).b1
    have x2 := (BX.out w5 G5.out).b2
    have x3 := (BX.out w5 G5.out).b3
    have x4 := (BX.out w5 G5.out).b4
    have x5 := (BX.out w5 G5.out).b5
    have x6 := (BX.out w5 G5.out).b6
    have z0 := (BY.out w5 G5.out).b0
    have z1 := (BY.out w5 G5.out).b1
    have z2 := (BY.out w5 G5.out).b2
    have z3 := (BY.out w5 G5.out).b3
    have z4 := (BY.out w5 G5.out).b4
    have z5 := (BY.out w5 G5.out).b5
    have z6 := (BY.out w5 G5.out).b6
    have dO : (x.O != y.I) = false := HO.out
    go_wp2_with fail
    clear x0 x1 x2 x3 x4 x5 x6 z0 z1 z2 z3 z4 z5 z6 dO
    refine (HRB.out w5 G5.out).mono ?_
    rintro E w6 ⟨L', q3, q4, q5, q6, m3, m4, m5, m6, hRis, hg6, rfl, hQ⟩
    have hLL := HOne.out L' hRis
    subst hLL
    have G36 : Hid (W3.grownBy w6 none) := grown_trans G35.out hg6
    have G6 : Hid (W0.grownBy w6 none) := grown_trans G5.out hg6
    obtain ⟨W7, hW7, gW7, sW7, bW7⟩ := box7_new w6 L.I L.O L.S q3 L.F.length m3 q4 L.N.length m4 q5 L.Y.length m5 q6 L.E.length m6
    have HW7 : Hid (W7 = _) := hW7
    have HBQ : Hid (∀ W, W7.grownBy W none → Box7 W w6.heap.size L.I L.O L.S q3 L.F.length m3 q4 L.N.length m4 q5 L.Y.length m5 q6 L.E.length m6) := fun W hW => bW7.grown hW
    have G67 : Hid (W0.grownBy W7 none) := grown_trans G6.out gW7
    have G37 : Hid (W3.grownBy W7 none) := grown_trans G36.out gW7
    have HQ7 : Hid (∀ W, W7.grownBy W none → TnAt W L q3 q4 q5 q6) := fun W hW => hQ.grown (grown_trans gW7 hW)
    have HLo : Hid (Calls Try.prog 9 #[tnV L.I L.O L.S q3 L.F.length m3 q4 L.N.length m4 q5 L.Y.length m5 q6 L.E.length m6] W7 (TellsB (¬ ShortW (sayR L)) W7)) := longR_any L q3 q4 q5 q6 m3 m4 m5 m6 W7 (hQ.grown gW7) (HMany.out)
    have x0 := (bW7).b0
    have x1 := (bW7).b1
    have x2 := (bW7).b2
    have x3 := (bW7).b3
    have x4 := (bW7).b4
    have x5 := (bW7).b5
    have x6 := (bW7).b6
    rw [hW7] at x0 x1 x2 x3 x4 x5 x6
    clear hRis hg6 hQ hW7 gW7 sW7 bW7 HRB HOne
    go_wp2_with fail
    rw [← HW7.out]
    clear x0 x1 x2 x3 x4 x5 x6
    refine HLo.out.mono ?_
    rintro E w8 ⟨bb, rfl, hbb, hg8⟩
    have G78 : Hid (W7.grownBy w8 none) := hg8
    have G8 : Hid (W0.grownBy w8 none) := grown_trans G67.out hg8
    have G38 : Hid (W3.grownBy w8 none) := grown_trans G37.out hg8
    obtain rfl : bb = false := by
      cases bb with
      | false => rfl
      | true => exact absurd (HSh.out.1 HLt.out) (hbb.1 rfl)
    have il : ¬ (6 : Int) < (L.N.length : Int) := by have := HN6.out; omega
    have HSm : Hid (Calls Try.prog 10 #[tnV L.I L.O L.S b3 L.F.length k3 b4 L.N.length k4 b5 L.Y.length k5 b6 L.E.length k6, tnV L.I L.O L.S q3 L.F.length m3 q4 L.N.length m4 q5 L.Y.length m5 q6 L.E.length m6] w8 (Says (.bool true) w8)) := sameR16_any L b3 b4 b5 b6 q3 q4 q5 q6 k3 k4 k5 k6 m3 m4 m5 m6 w8 (HTL.out w8 G38.out) (HQ7.out w8 G78.out) HMany.out (by have := HN6.out; omega) HLK.out.shp.hy HLK.out.shp.he
    have x0 := (HBL.out w8 G38.out).b0
    have x1 := (HBL.out w8 G38.out).b1
    have x2 := (HBL.out w8 G38.out).b2
    have x3 := (HBL.out w8 G38.out).b3
    have x4 := (HBL.out w8 G38.out).b4
    have x5 := (HBL.out w8 G38.out).b5
    have x6 := (HBL.out w8 G38.out).b6
    have z0 := (HBQ.out w8 G78.out).b0
    have z1 := (HBQ.out w8 G78.out).b1
    have z2 := (HBQ.out w8 G78.out).b2
    have z3 := (HBQ.out w8 G78.out).b3
    have z4 := (HBQ.out w8 G78.out).b4
    have z5 := (HBQ.out w8 G78.out).b5
    have z6 := (HBQ.out w8 G78.out).b6
    clear hbb hg8 HLo
    go_wp2_with fail
    clear x0 x1 x2 x3 x4 x5 x6 z0 z1 z2 z3 z4 z5 z6
    refine HSm.out.mono ?_
    rintro E w9 ⟨rfl, hg9⟩
    have G9 : Hid (W0.grownBy w9 none) := grown_trans G8.out hg9
    have G39 : Hid (W3.grownBy w9 none) := grown_trans G38.out hg9
    have x0 := (BX.out w9 G9.out).b0
    clear hg9 HSm
    go_wp2_with fail
    refine (HMy.out w9 (grown_trans G0.out G9.out)).mono ?_
    rintro E wa ⟨rfl, rfl⟩
    clear x0
    by_cases hm : mayF x.I zs = 0
    · obtain ⟨_, _, h60, us, hus, hl'⟩ := may_nsB hm
      have hl : ∀ l ∈ us, l < I := fun l hl => by have := hl' l hl; rw [HxI.out, Int.toNat_natCast] at this; exact this
      have h60u : us.length ≤ 60 := by rw [hus, nsT_len] at h60; exact h60
      have h1000 : (saysT x us).length ≤ 1000 := by have := says_lenB HR.out us hl; omega
      have HInM : Hid (InO y.I (saysT x us)) := by show InO _ _; rw [← HxO.out]; exact HLp.out.says HR.out us hl
      have HlM : Hid (∀ l, l ∈ tnsT (saysT x us) → l < y.I.toNat) := fun l hl => by
        obtain ⟨j, hj, rfl⟩ := List.mem_map.1 hl
        have := HInM.out j hj
        omega
      have HR2 : Hid (∀ W, w.grownBy W none → Calls Try.prog 13 #[tnV x.I x.O x.S a3 x.F.length c3 a4 x.N.length c4 a5 x.Y.length c5 a6 x.E.length c6, .slice az zs.length cz] W (RunRP x us W)) := HRX.out us hus hl h60u
      have HR3 : Hid (∀ W a c, w.grownBy W none → Ints W a (saysT x us) → Calls Try.prog 13 #[tnV y.I y.O y.S e3 y.F.length d3 e4 y.N.length d4 e5 y.Y.length d5 e6 y.E.length d6, .slice a (saysT x us).length c] W (RunRP y (tnsT (saysT x us)) W)) := fun W a c hW hi => HRY.out (saysT x us) a c W (fun j hj => (HInM.out j hj).1) HlM.out h1000 hW hi
      have HR4 : Hid (∀ W, W3.grownBy W none → Calls Try.prog 13 #[tnV L.I L.O L.S b3 L.F.length k3 b4 L.N.length k4 b5 L.Y.length k5 b6 L.E.length k6, .slice az zs.length cz] W (RunRP L us W)) := fun W hW => HRL.out us b3 b4 b5 b6 k3 k4 k5 k6 hus hl h60u W (grown_trans G0.out (grown_trans G3.out hW)) (HTL.out W hW)
      have HSe : Hid (saysT L us = saysT y (tnsT (saysT x us))) := HSays.out us hl
      have HLn : Hid ((saysT y (tnsT (saysT x us))).length ≤ 100000) := by
        have := says_lenB HRy.out _ HlM.out
        rw [tnsT_len] at this
        show _ ≤ _
        omega
      have x0 := (BX.out wa G9.out).b0
      have x1 := (BX.out wa G9.out).b1
      have x2 := (BX.out wa G9.out).b2
      have x3 := (BX.out wa G9.out).b3
      have x4 := (BX.out wa G9.out).b4
      have x5 := (BX.out wa G9.out).b5
      have x6 := (BX.out wa G9.out).b6
      rw [hm]
      clear hm hus hl' hl h60 h60u h1000 HRX HRY HRL HMy HSays
      go_wp2_with fail
      clear x0 x1 x2 x3 x4 x5 x6
      refine (HR2.out wa (grown_trans G0.out G9.out)).mono ?_
      rintro E wb ⟨aa, ca, rfl, hia, hga, _⟩
      have HIa : Hid (Ints wb aa (saysT x us)) := hia
      have Gb : Hid (W0.grownBy wb none) := grown_trans G9.out hga
      have G3b : Hid (W3.grownBy wb none) := grown_trans G39.out hga
      have z0 := (BY.out wb Gb.out).b0
      have z1 := (BY.out wb Gb.out).b1
      have z2 := (BY.out wb Gb.out).b2
      have z3 := (BY.out wb Gb.out).b3
      have z4 := (BY.out wb Gb.out).b4
      have z5 := (BY.out wb Gb.out).b5
      have z6 := (BY.out wb Gb.out).b6
      clear hia hga
      go_wp2_with fail
      clear z0 z1 z2 z3 z4 z5 z6
      refine (HR3.out wb aa ca (grown_trans G0.out Gb.out) HIa.out).mono ?_
      rintro E wc ⟨ab, cb, rfl, hib, hgb, _⟩
      have HIb : Hid (Ints wc ab (saysT y (tnsT (saysT x us)))) := hib
      have Gc : Hid (W0.grownBy wc none) := grown_trans Gb.out hgb
      have G3c : Hid (W3.grownBy wc none) := grown_trans G3b.out hgb
      have x0 := (HBL.out wc G3c.out).b0
      have x1 := (HBL.out wc G3c.out).b1
      have x2 := (HBL.out wc G3c.out).b2
      have x3 := (HBL.out wc G3c.out).b3
      have x4 := (HBL.out wc G3c.out).b4
      have x5 := (HBL.out wc G3c.out).b5
      have x6 := (HBL.out wc G3c.out).b6
      clear hib hgb
      go_wp2_with fail
      clear x0 x1 x2 x3 x4 x5 x6
      refine (HR4.out wc G3c.out).mono ?_
      rintro E wd ⟨ac, cc, rfl, hic, hgc, _⟩
      rw [HSe.out] at hic ⊢
      have Gd : Hid (W0.grownBy wd none) := grown_trans Gc.out hgc
      obtain ⟨rs, hrs⟩ : ∃ rs, saysT y (tnsT (saysT x us)) = rs := ⟨_, rfl⟩
      rw [hrs] at HIb HLn hic ⊢
      have HWo : Hid (Calls Try.prog 14 #[.slice ab rs.length cb, .slice ac rs.length cc] wd (TellsB (SameW rs rs) wd)) :=
        wordsR_any ab ac cb cc _ _ wd (HIb.out.grown hgc) hic (by have := HLn.out; unfold maxLen; omega) (by have := HLn.out; unfold maxLen; omega)
      clear hic hgc hrs
      go_wp2_with fail
      refine HWo.out.mono ?_
      rintro E we ⟨bb, rfl, hbb, hge⟩
      obtain rfl : bb = true := hbb.2 rfl
      have GF : Hid (w.grownBy we none) := grown_trans G0.out (grown_trans Gd.out hge)
      clear hbb hge
      go_wp2_with fail
      go_ret
      exact ⟨rfl, GF.out⟩
    · have d2 : (mayF x.I zs != 0) = true := by simpa using hm
      have GF : Hid (w.grownBy wa none) := grown_trans G0.out G9.out
      clear hm HRX HRY HRL HMy
      go_wp2_with fail
      go_ret
      exact ⟨rfl, GF.out⟩

theorem tbeh_walk (x y : TrI) (a3 a4 a5 a6 : Option Addr) (c3 c4 c5 c6 : Nat) (e3 e4 e5 e6 : Option Addr) (d3 d4 d5 d6 : Nat) (zs : List Int) (az : Option Addr) (cz : Nat) (w : World) (hx : TnAt w x a3 a4 a5 a6) (hy : TnAt w y e3 e4 e5 e6) (hz : Ints w az zs) (hmz : zs.length ≤ maxLen) : Calls Try.prog 3 #[tnV x.I x.O x.S a3 x.F.length c3 a4 x.N.length c4 a5 x.Y.length c5 a6 x.E.length c6, tnV y.I y.O y.S e3 y.F.length d3 e4 y.N.length d4 e5 y.Y.length d5 e6 y.E.length d6, .slice az zs.length cz] w (Says (.bool true) w) := by
  by_cases h : GoodT x ∧ GoodT y ∧ x.O = y.I
  · exact tbeh_good x y a3 a4 a5 a6 c3 c4 c5 c6 e3 e4 e5 e6 d3 d4 d5 d6 zs az cz w hx hy hz hmz h.1 h.2.1 h.2.2
  · exact tbeh_bad x y a3 a4 a5 a6 c3 c4 c5 c6 e3 e4 e5 e6 d3 d4 d5 d6 zs az cz w hx hy hz hmz h

theorem tbeh_own : ownKnob Try.prog.godebug = none := by kernel_rfl

set_option maxRecDepth 100000 in
theorem tbeh_lifted (os : Os) (started : os.Started) (H : Type) (enc : TypeId × Value → H) :
    ReturnsInHanded {} Try.checked os 3 .any (Rows.transBehindSpec.pre6 enc Try.prog Try.f3 Rows.transBehindRow.domain false) (Rows.transBehindSpec.post enc Try.prog Try.f3 false true false false) := by
  refine returnsInHanded_of_change_sized (C := Try.checked) tbeh_own started (by kernel_rfl) Try.func3
    (ChangeSpec.witness6 (enc := enc) (C := Try.checked) false ⟨#[], #[.agg #[.int .i64 0, .int .i64 0, .int .i64 0, .slice none 0 0, .slice none 0 0, .slice none 0 0, .slice none 0 0], .agg #[.int .i64 0, .int .i64 0, .int .i64 0, .slice none 0 0, .slice none 0 0, .slice none 0 0, .slice none 0 0], .slice none 0 0], []⟩ 8 (by kernel_rfl) (by kernel_rfl) (by kernel_rfl) (by kernel_rfl)) ?_
  intro W base args ds gs before hval0 hW hcnd hsz0 _
  have hval : ∀ (j : Nat) t v, Try.f3.params[j]? = some t → args[j]? = some v → Value.okWide Try.prog W .any base t v := hval0
  have hW' := hW
  obtain ⟨p, q, hA0, hV, rfl, hfz, hnd⟩ := hW
  have hA : DataW.TrodAll enc Try.prog W 0 (fun _ => true) true Try.f3.params.toList args.toList ds p := hA0
  rw [Try.params3] at hA hval
  obtain ⟨v0, vs0, d0, ds0, p0, q0, hargs, rfl, rfl, h0, r0⟩ := trodAll_cons hA
  obtain ⟨v1, vs1, d1, ds1, p1, q1, rfl, rfl, rfl, h1, r1⟩ := trodAll_cons r0
  obtain ⟨v2, vs2, d2, ds2, p2, q2, rfl, rfl, rfl, h2, r2⟩ := trodAll_cons r1
  obtain ⟨rfl, rfl, rfl⟩ := trodAll_nil r2
  obtain rfl : args = #[v0, v1, v2] := by cases args; simp_all
  obtain ⟨rfl, rfl⟩ := trodVars_none hV
  have lt0 : ∀ x ∈ p0, x.block < W.heap.size := by obtain ⟨m, hm⟩ := h0; exact DataW.trod_lt m _ _ _ hm
  have lt1 : ∀ x ∈ p1, x.block < W.heap.size := by obtain ⟨m, hm⟩ := h1; exact DataW.trod_lt m _ _ _ hm
  have lt2 : ∀ x ∈ p2, x.block < W.heap.size := by obtain ⟨m, hm⟩ := h2; exact DataW.trod_lt m _ _ _ hm
  obtain ⟨x, a3, a4, a5, a6, ac3, ac4, ac5, ac6, rfl, hX, _, _, _, hcx⟩ := tn_of_trod (hval 0 26 v0 rfl rfl) h0
  obtain ⟨y, b3, b4, b5, b6, bc3, bc4, bc5, bc6, rfl, hY, _, _, _, hcy⟩ := tn_of_trod (hval 1 26 v1 rfl rfl) h1
  obtain ⟨az, cz, zs, rfl, hz, hmz⟩ := slice_of_trod (hval 2 22 v2 rfl rfl) h2
  clear hA0 hval0 hsz0
  refine (tbeh_walk x y a3 a4 a5 a6 ac3 ac4 ac5 ac6 b3 b4 b5 b6 bc3 bc4 bc5 bc6 zs az cz W hX hY hz hmz).mono fun E W' ⟨he, hg⟩ => ?_
  subst he
  have bel : Below W.heap.size W W' := below_of_grown hg
  exact ⟨_, rfl, _, _, _, [], _, [], hW', trodAll_mk1 (shut_bool Try.underlying4 _), (trodAll_cons_mk (Below.trod Try.laidOut (by kernel_rfl) (of_decide_eq_true (by kernel_rfl)) h0 bel lt0) (trodAll_cons_mk (Below.trod Try.laidOut (by kernel_rfl) (of_decide_eq_true (by kernel_rfl)) h1 bel lt1) (trodAll_cons_mk (Below.trod Try.laidOut (by kernel_rfl) (of_decide_eq_true (by kernel_rfl)) h2 bel lt2) trodAll_mk0))), rfl, bel.frame _, fun h => by cases h⟩

theorem transBehind_holds : Rows.TransBehindSaid :=
  OpenClaim.holds_of_wide 3 Try.f3 rfl rfl rfl rfl rfl rfl rfl ⟨rfl, rfl, rfl, rfl, rfl⟩ rfl rfl rfl rfl rfl (by kernel_rfl) Try.func3 (by kernel_rfl)
    (of_decide_eq_true (by kernel_rfl)) (by unfold Func.isWrapper; first | (rw [if_pos (by decide +kernel)]; kernel_rfl) | (rw [if_neg (by decide +kernel)]; exact ⟨rfl, rfl⟩))
    (fun os started H enc _ => tbeh_lifted os started H enc)
#print axioms transBehind_holds
end Go.Proofs.Ytodcmlcpicabaaa
