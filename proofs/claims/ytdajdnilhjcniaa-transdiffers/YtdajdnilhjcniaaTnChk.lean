/- What is wrong with a transducer: the program's Check. -/
import Derived.Test.YtdajdnilhjcniaaTnSmall
import Derived.Test.YtdajdnilhjcniaaTnLit
import Derived.Test.YtdajdnilhjcniaaTnChkD
namespace Go.Proofs.Ytdajdnilhjcniaa
open Go.RowKit
set_option linter.unusedVariables false

set_option maxHeartbeats 3200000 in
set_option maxRecDepth 100000 in
theorem check_any (x : TrI) (a3 a4 a5 a6 : Option Addr) (c3 c4 c5 c6 : Nat) (w : World) (h : TnAt w x a3 a4 a5 a6) :
    Calls Try.prog 16 #[tnV x.I x.O x.S a3 x.F.length c3 a4 x.N.length c4 a5 x.Y.length c5 a6 x.E.length c6] w (ChkP x w) := by
  obtain ⟨W1, hW1, g1, s1, bx⟩ := box7_new w x.I x.O x.S a3 x.F.length c3 a4 x.N.length c4 a5 x.Y.length c5 a6 x.E.length c6
  have HM : Hid (∀ z W, Calls Try.prog 21 #[.int .i64 z] W (TellsB (ManyT z) W)) := fun z W => isMany_any z W
  have HSh : Hid (∀ W, w.grownBy W none → Calls Try.prog 22 #[tnV x.I x.O x.S a3 x.F.length c3 a4 x.N.length c4 a5 x.Y.length c5 a6 x.E.length c6] W (TellsB (ShapeT x) W)) := fun W hW => shaped_any _ _ _ _ _ _ _ _ _ _ (h.grown hW)
  have HWi : Hid (∀ W, w.grownBy W none → Calls Try.prog 23 #[tnV x.I x.O x.S a3 x.F.length c3 a4 x.N.length c4 a5 x.Y.length c5 a6 x.E.length c6] W (TellsB (WithT x) W)) := fun W hW => leadsWithin_any _ _ _ _ _ _ _ _ _ _ (h.grown hW)
  have HLi : Hid (ShapeT x → ∀ W, w.grownBy W none → Calls Try.prog 24 #[tnV x.I x.O x.S a3 x.F.length c3 a4 x.N.length c4 a5 x.Y.length c5 a6 x.E.length c6] W (TellsB (LittleT x) W)) := fun hs W hW => saysLittle_any _ _ _ _ _ _ _ _ _ _ (h.grown hW) (by have := hs.1; have := hs.2.1; omega)
  have HLe : Hid (ShapeT x → ∀ W, w.grownBy W none → Calls Try.prog 25 #[tnV x.I x.O x.S a3 x.F.length c3 a4 x.N.length c4 a5 x.Y.length c5 a6 x.E.length c6] W (TellsB (LetsT x) W)) := fun hs W hW => saysLetters_any _ _ _ _ _ _ _ _ _ _ (h.grown hW) (by have := hs.1; have := hs.2.1; omega)
  have HW1 : Hid (W1 = _) := hW1
  have G1 : Hid (w.grownBy W1 none) := g1
  have BX : Hid (∀ W, W1.grownBy W none → Box7 W w.heap.size x.I x.O x.S a3 x.F.length c3 a4 x.N.length c4 a5 x.Y.length c5 a6 x.E.length c6) := fun W hW => bx.grown hW
  have hm := h.m4
  unfold maxLen at hm
  have x0 := bx.b0
  rw [hW1] at x0
  obtain ⟨Po, hPo⟩ : ∃ P, P = ChkP x w := ⟨_, rfl⟩
  have HP : Hid (∀ z W, ChkIs x z → W1.grownBy W none → Po (.returned (.int .i64 z)) W) := fun z W h1 h2 => by rw [hPo]; exact ⟨z, rfl, h1, grown_trans G1.out h2⟩
  have HSz : Hid (SizeT x ↔ 1 ≤ x.N.length ∧ x.N.length ≤ 6) := Iff.rfl
  rw [← hPo]
  clear hW1 g1 s1 bx h hPo
  go_enter Try.func16, Try.ntmps16
  go_wp2_with fail
  rw [← HW1.out]
  refine (HM.out x.I W1).mono ?_
  rintro E w1 ⟨bI, rfl, hI, g1⟩
  have HI : Hid (bI = true ↔ ManyT x.I) := hI
  have HG : Hid (W1.grownBy w1 none) := g1
  have y1 := (BX.out w1 g1).b1
  clear hI g1 x0
  cases bI with
  | false =>
    have F : Hid (Po (.returned (.int .i64 2)) w1) := HP.out 2 w1 (chk_many fun hh => by have := HI.out.2 hh.1; cases this) HG.out
    go_wp2_with fail
    first | exact F.out | (go_ret; exact F.out)
  | true =>
  have HI1 : Hid (ManyT x.I) := HI.out.1 rfl
  clear HI
  go_wp2_with fail
  refine (HM.out x.O w1).mono ?_
  rintro E w2 ⟨bO, rfl, hO, g2⟩
  have HO : Hid (bO = true ↔ ManyT x.O) := hO
  have HG2 : Hid (W1.grownBy w2 none) := grown_trans HG.out g2
  have y4 := (BX.out w2 HG2.out).b4
  clear hO g2 y1
  cases bO with
  | false =>
    have F : Hid (Po (.returned (.int .i64 2)) w2) := HP.out 2 w2 (chk_many fun hh => by have := HO.out.2 hh.2; cases this) HG2.out
    go_wp2_with fail
    first | exact F.out | (go_ret; exact F.out)
  | true =>
  have HMM : Hid (ManyT x.I ∧ ManyT x.O) := ⟨HI1.out, HO.out.1 rfl⟩
  clear HI1 HO HM HG
  by_cases n1 : (x.N.length : Int) < 1
  · have d1 : decide ((x.N.length : Int) < 1) = true := by simpa using n1
    have F : Hid (Po (.returned (.int .i64 1)) w2) := HP.out 1 w2 (chk_size HMM.out fun hh => by have := (HSz.out.1 hh).1; omega) HG2.out
    go_wp2_with fail
    first | exact F.out | (go_ret; exact F.out)
  have d1 : decide ((x.N.length : Int) < 1) = false := by simpa using n1
  by_cases n2 : (6 : Int) < (x.N.length : Int)
  · have d2 : decide ((6 : Int) < (x.N.length : Int)) = true := by simpa using n2
    have F : Hid (Po (.returned (.int .i64 1)) w2) := HP.out 1 w2 (chk_size HMM.out fun hh => by have := (HSz.out.1 hh).2; omega) HG2.out
    go_wp2_with fail
    first | exact F.out | (go_ret; exact F.out)
  have d2 : decide ((6 : Int) < (x.N.length : Int)) = false := by simpa using n2
  have HZ : Hid (SizeT x) := HSz.out.2 ⟨by omega, by omega⟩
  have z0 := (BX.out w2 HG2.out).b0
  have z1 := (BX.out w2 HG2.out).b1
  have z2 := (BX.out w2 HG2.out).b2
  have z3 := (BX.out w2 HG2.out).b3
  have z5 := (BX.out w2 HG2.out).b5
  have z6 := (BX.out w2 HG2.out).b6
  go_wp2_with fail
  refine (HSh.out w2 (grown_trans G1.out HG2.out)).mono ?_
  rintro E w3 ⟨bS, rfl, hS, g3⟩
  have HS : Hid (bS = true ↔ ShapeT x) := hS
  have HG3 : Hid (W1.grownBy w3 none) := grown_trans HG2.out g3
  clear hS g3 z0 z1 z2 z3 y4 z5 z6 HG2 d1 d2 n1 n2
  cases bS with
  | false =>
    have F : Hid (Po (.returned (.int .i64 3)) w3) := HP.out 3 w3 (chk_shape HMM.out HZ.out fun hh => by have := HS.out.2 hh; cases this) HG3.out
    go_wp2_with fail
    first | exact F.out | (go_ret; exact F.out)
  | true =>
  have z0 := (BX.out w3 HG3.out).b0
  have z1 := (BX.out w3 HG3.out).b1
  have z2 := (BX.out w3 HG3.out).b2
  have z3 := (BX.out w3 HG3.out).b3
  have z4 := (BX.out w3 HG3.out).b4
  have z5 := (BX.out w3 HG3.out).b5
  have z6 := (BX.out w3 HG3.out).b6
  have HS1 : Hid (ShapeT x) := HS.out.1 rfl
  go_wp2_with fail
  refine (HWi.out w3 (grown_trans G1.out HG3.out)).mono ?_
  rintro E w4 ⟨bW, rfl, hW, g4⟩
  have HW : Hid (bW = true ↔ WithT x) := hW
  have HG4 : Hid (W1.grownBy w4 none) := grown_trans HG3.out g4
  clear hW g4 z0 z1 z2 z3 z4 z5 z6 HG3
  cases bW with
  | false =>
    have F : Hid (Po (.returned (.int .i64 2)) w4) := HP.out 2 w4 (chk_with HMM.out HZ.out HS1.out fun hh => by have := HW.out.2 hh; cases this) HG4.out
    go_wp2_with fail
    first | exact F.out | (go_ret; exact F.out)
  | true =>
  have HW' : Hid (WithT x) := HW.out.1 rfl
  clear HW
  have z0 := (BX.out w4 HG4.out).b0
  have z1 := (BX.out w4 HG4.out).b1
  have z2 := (BX.out w4 HG4.out).b2
  have z3 := (BX.out w4 HG4.out).b3
  have z4 := (BX.out w4 HG4.out).b4
  have z5 := (BX.out w4 HG4.out).b5
  have z6 := (BX.out w4 HG4.out).b6
  go_wp2_with fail
  refine (HLi.out HS1.out w4 (grown_trans G1.out HG4.out)).mono ?_
  rintro E w5 ⟨bL, rfl, hL, g5⟩
  have HL : Hid (bL = true ↔ LittleT x) := hL
  have HG5 : Hid (W1.grownBy w5 none) := grown_trans HG4.out g5
  clear hL g5 z0 z1 z2 z3 z4 z5 z6 HG4
  cases bL with
  | false =>
    have F : Hid (Po (.returned (.int .i64 1)) w5) := HP.out 1 w5 (chk_little HMM.out HZ.out HS1.out HW'.out fun hh => by have := HL.out.2 hh; cases this) HG5.out
    go_wp2_with fail
    first | exact F.out | (go_ret; exact F.out)
  | true =>
  have HL' : Hid (LittleT x) := HL.out.1 rfl
  clear HL
  have z0 := (BX.out w5 HG5.out).b0
  have z1 := (BX.out w5 HG5.out).b1
  have z2 := (BX.out w5 HG5.out).b2
  have z3 := (BX.out w5 HG5.out).b3
  have z4 := (BX.out w5 HG5.out).b4
  have z5 := (BX.out w5 HG5.out).b5
  have z6 := (BX.out w5 HG5.out).b6
  go_wp2_with fail
  refine (HLe.out HS1.out w5 (grown_trans G1.out HG5.out)).mono ?_
  rintro E w6 ⟨bE, rfl, hE, g6⟩
  have HE : Hid (bE = true ↔ LetsT x) := hE
  have HG6 : Hid (W1.grownBy w6 none) := grown_trans HG5.out g6
  clear hE g6 z0 z1 z2 z3 z4 z5 z6 HG5
  cases bE with
  | false =>
    have F : Hid (Po (.returned (.int .i64 2)) w6) := HP.out 2 w6 (chk_lets HMM.out HZ.out HS1.out HW'.out HL'.out fun hh => by have := HE.out.2 hh; cases this) HG6.out
    go_wp2_with fail
    first | exact F.out | (go_ret; exact F.out)
  | true =>
  have F : Hid (Po (.returned (.int .i64 0)) w6) := HP.out 0 w6 (chk_good HMM.out HZ.out HS1.out HW'.out HL'.out (HE.out.1 rfl)) HG6.out
  go_wp2_with fail
  first | exact F.out | (go_ret; exact F.out)

end Go.Proofs.Ytdajdnilhjcniaa
