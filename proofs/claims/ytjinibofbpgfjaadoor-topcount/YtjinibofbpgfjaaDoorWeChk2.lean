/- The program's Check and checkBoth. -/
import Derived.Test.YtjinibofbpgfjaaDoorWeChk
namespace Go.Proofs.YtjinibofbpgfjaaDoor
open Go.RowKit
set_option linter.unusedVariables false
set_option linter.unusedSimpArgs false

def ErrP (z : Int) (w : World) (e : Ending) (w' : World) : Prop := e = .returned (.int .i64 z) ∧ w.grownBy w' none
theorem chk1 {x : WgI} (h : ¬ LetW x) : checkW x = 2 := by unfold checkW; rw [if_pos h]
theorem chk2 {x : WgI} (h1 : LetW x) (h : ¬ SizeW x) : checkW x = 1 := by unfold checkW; rw [if_neg (fun e => e h1), if_pos h]
theorem chk3 {x : WgI} (h1 : LetW x) (h2 : SizeW x) (h : ¬ ShapeW x) : checkW x = 3 := by unfold checkW; rw [if_neg (fun e => e h1), if_neg (fun e => e h2), if_pos h]
theorem chk4 {x : WgI} (h1 : LetW x) (h2 : SizeW x) (h3 : ShapeW x) (h : ¬ InA x 9) : checkW x = 2 := by unfold checkW; rw [if_neg (fun e => e h1), if_neg (fun e => e h2), if_neg (fun e => e h3), if_pos h]

set_option maxHeartbeats 3200000 in
set_option maxRecDepth 100000 in
theorem checkWg_any (x : WgI) (a1 a2 a3 : Option Addr) (c1 c2 c3 : Nat) (w : World) (h : WgAt w x a1 a2 a3) :
    Calls Tryd.prog 5 #[wgV x.L a1 x.F.length c1 a2 x.S.length c2 a3 x.E.length c3] w (ErrP (checkW x) w) := by
  obtain ⟨W1, hW1, g1, s1, bx⟩ := box4_new w x.L a1 x.F.length c1 a2 x.S.length c2 a3 x.E.length c3
  have HW1 : Hid (W1 = _) := hW1
  have G : Hid (w.grownBy W1 none) := g1
  have HT : Hid (WgAt W1 x a1 a2 a3) := h.grown g1
  have HX : Hid (∀ W, W1.grownBy W none → Box4 W w.heap.size x.L a1 x.F.length c1 a2 x.S.length c2 a3 x.E.length c3) := fun W hW => bx.grown hW
  have x0 := bx.b0
  have x1 := bx.b1
  have x2 := bx.b2
  have x3 := bx.b3
  rw [hW1] at x0 x1 x2 x3
  have m1 := h.m1
  unfold maxLen at m1
  obtain ⟨z, hz⟩ : ∃ z, checkW x = z := ⟨_, rfl⟩
  have HZ : Hid (checkW x = z) := hz
  rw [hz]
  clear hW1 g1 s1 bx h hz
  have HS : Hid (Calls Tryd.prog 12 #[wgV x.L a1 x.F.length c1 a2 x.S.length c2 a3 x.E.length c3] W1 (TellsB (ShapeW x) W1)) := shaped_any x a1 a2 a3 c1 c2 c3 W1 HT.out
  have HI : Hid (∀ W, W1.grownBy W none → Calls Tryd.prog 13 #[wgV x.L a1 x.F.length c1 a2 x.S.length c2 a3 x.E.length c3, .int .i64 9] W (TellsB (InA x 9) W)) := fun W hW => within_any x a1 a2 a3 c1 c2 c3 9 W (HT.out.grown hW) (by omega)
  by_cases h1 : x.L < 1
  · have ez : z = 2 := by rw [← HZ.out]; exact chk1 (fun hh => by have := hh.1; omega)
    subst ez
    go_enter Tryd.func5, Tryd.ntmps5
    go_wp2_with fail
    rw [← HW1.out]
    go_ret
    exact ⟨rfl, G.out⟩
  · by_cases h2 : 4 < x.L
    · have ez : z = 2 := by rw [← HZ.out]; exact chk1 (fun hh => by have := hh.2; omega)
      subst ez
      go_enter Tryd.func5, Tryd.ntmps5
      go_wp2_with fail
      rw [← HW1.out]
      go_ret
      exact ⟨rfl, G.out⟩
    · have HL : Hid (LetW x) := ⟨by omega, by omega⟩
      by_cases h3 : (x.F.length : Int) < 1
      · have ez : z = 1 := by rw [← HZ.out]; exact chk2 HL.out (fun hh => by have := hh.1; omega)
        subst ez
        go_enter Tryd.func5, Tryd.ntmps5
        go_wp2_with fail
        rw [← HW1.out]
        go_ret
        exact ⟨rfl, G.out⟩
      · by_cases h4 : 8 < (x.F.length : Int)
        · have ez : z = 1 := by rw [← HZ.out]; exact chk2 HL.out (fun hh => by have := hh.2; omega)
          subst ez
          go_enter Tryd.func5, Tryd.ntmps5
          go_wp2_with fail
          rw [← HW1.out]
          go_ret
          exact ⟨rfl, G.out⟩
        · have HSz : Hid (SizeW x) := ⟨by omega, by omega⟩
          go_enter Tryd.func5, Tryd.ntmps5
          go_wp2_with fail
          rw [← HW1.out]
          clear x0 x1 x2 x3 h1 h2 h3 h4
          refine HS.out.mono ?_
          rintro E w2 ⟨bb, rfl, hbb, hg2⟩
          have HB : Hid (bb = true ↔ ShapeW x) := hbb
          have G2 : Hid (W1.grownBy w2 none) := hg2
          have x0 := (HX.out w2 hg2).b0
          have x1 := (HX.out w2 hg2).b1
          have x2 := (HX.out w2 hg2).b2
          have x3 := (HX.out w2 hg2).b3
          clear hbb hg2 HS
          cases bb with
          | false =>
            have ez : z = 3 := by rw [← HZ.out]; exact chk3 HL.out HSz.out (fun hh => by have := HB.out.2 hh; cases this)
            subst ez
            go_wp2_with fail
            go_ret
            exact ⟨rfl, grown_trans G.out G2.out⟩
          | true =>
            have HSh : Hid (ShapeW x) := HB.out.1 rfl
            go_wp2_with fail
            clear x0 x1 x2 x3
            refine (HI.out w2 G2.out).mono ?_
            rintro E w3 ⟨bb, rfl, hbb, hg3⟩
            have HB3 : Hid (bb = true ↔ InA x 9) := hbb
            have G3 : Hid (w.grownBy w3 none) := grown_trans G.out (grown_trans G2.out hg3)
            clear hbb hg3 HI
            cases bb with
            | false =>
              have ez : z = 2 := by rw [← HZ.out]; exact chk4 HL.out HSz.out HSh.out (fun hh => by have := HB3.out.2 hh; cases this)
              subst ez
              go_wp2_with fail
              go_ret
              exact ⟨rfl, G3.out⟩
            | true =>
              have ez : z = 0 := by rw [← HZ.out]; exact check_good.2 ⟨HL.out, HSz.out, HSh.out, HB3.out.1 rfl⟩
              subst ez
              go_wp2_with fail
              go_ret
              exact ⟨rfl, G3.out⟩

end Go.Proofs.YtjinibofbpgfjaaDoor
