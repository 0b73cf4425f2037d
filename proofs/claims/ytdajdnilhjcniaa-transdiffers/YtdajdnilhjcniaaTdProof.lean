/- TransDiffers holds: whatever two transducers and whatever word come in, in whatever memory, shared or not: the program refuses what the reference refuses, with the same error, and else finds the same first word to which both say unlike things, or finds none; and where it finds none both say the same to every word. -/
import Derived.Test.YtdajdnilhjcniaaTdDiff
import Derived.Test.YtdajdnilhjcniaaTdRef
import Derived.Test.YtdajdnilhjcniaaTnRefC
import Derived.Test.YtdajdnilhjcniaaMay
import Derived.SizedLaws
namespace Go.Proofs.Ytdajdnilhjcniaa
open Go.ChangeShapes Go.WideShapes Go.ChangeAt Go.RowKit Go.Joins
set_option linter.unusedVariables false

theorem may_ns {n : Int} {zs : List Int} (h : mayF n zs = 0) : 1 ≤ n ∧ n ≤ 4 ∧ zs.length ≤ 60 ∧ ∃ us : List Nat, zs = nsT us ∧ ∀ l ∈ us, l < n.toNat := by
  unfold mayF at h
  by_cases h1 : n < 1 ∨ 4 < n
  · rw [if_pos h1] at h; cases h
  · rw [if_neg h1] at h
    by_cases h2 : 60 < zs.length
    · rw [if_pos h2] at h; cases h
    · rw [if_neg h2] at h
      by_cases h3 : (zs.all fun x => decide (0 ≤ x) && decide (x < n)) = true
      · have h4 := List.all_eq_true.1 h3
        refine ⟨by omega, by omega, by omega, zs.map Int.toNat, ?_, ?_⟩
        · unfold nsT
          rw [List.map_map]
          conv => lhs; rw [← List.map_id zs]
          refine List.map_congr_left fun z hz => ?_
          have := h4 z hz
          simp at this
          simp
          omega
        · intro l hl
          obtain ⟨z, hz, rfl⟩ := List.mem_map.1 hl
          have := h4 z hz
          simp at this
          omega
      · rw [if_neg h3] at h; cases h

set_option maxHeartbeats 6400000 in
set_option maxRecDepth 100000 in
theorem tdiff_walk (x y : TrI) (a3 a4 a5 a6 : Option Addr) (ac3 ac4 ac5 ac6 : Nat) (b3 b4 b5 b6 : Option Addr) (bc3 bc4 bc5 bc6 : Nat) (zs : List Int) (az : Option Addr) (cz : Nat) (w : World) (hx : TnAt w x a3 a4 a5 a6) (hy : TnAt w y b3 b4 b5 b6) (hz : Ints w az zs) (hmz : zs.length ≤ maxLen) (hcx : x.F.length ≤ ac3) (hcy : y.F.length ≤ bc3) :
    Calls Try.prog 3 #[tnV x.I x.O x.S a3 x.F.length ac3 a4 x.N.length ac4 a5 x.Y.length ac5 a6 x.E.length ac6, tnV y.I y.O y.S b3 y.F.length bc3 b4 y.N.length bc4 b5 y.Y.length bc5 b6 y.E.length bc6, .slice az zs.length cz] w (Says (.bool true) w) := by
  obtain ⟨W1, hW1, g1, s1, bx, by'⟩ := two_boxes7 w x y a3 a4 a5 a6 ac3 ac4 ac5 ac6 b3 b4 b5 b6 bc3 bc4 bc5 bc6
  have HDf : Hid (Calls Try.prog 4 #[tnV x.I x.O x.S a3 x.F.length ac3 a4 x.N.length ac4 a5 x.Y.length ac5 a6 x.E.length ac6, tnV y.I y.O y.S b3 y.F.length bc3 b4 y.N.length bc4 b5 y.Y.length bc5 b6 y.E.length bc6] W1 (DifP x y W1)) := differ_any x y _ _ _ _ _ _ _ _ _ _ _ _ _ _ _ _ W1 (hx.grown g1) (hy.grown g1) hcx hcy
  have HCX : Hid (∀ W, w.grownBy W none → Calls Try.prog 5 #[tnV x.I x.O x.S a3 x.F.length ac3 a4 x.N.length ac4 a5 x.Y.length ac5 a6 x.E.length ac6] W (ChkP x W)) := fun W hW => checkR16_any _ _ _ _ _ _ _ _ _ _ (hx.grown hW)
  have HCY : Hid (∀ W, w.grownBy W none → Calls Try.prog 5 #[tnV y.I y.O y.S b3 y.F.length bc3 b4 y.N.length bc4 b5 y.Y.length bc5 b6 y.E.length bc6] W (ChkP y W)) := fun W hW => checkR16_any _ _ _ _ _ _ _ _ _ _ (hy.grown hW)
  have HDR : Hid (GoodT x ∧ GoodT y → x.I = y.I ∧ x.O = y.O → ∀ W, w.grownBy W none → Calls Try.prog 6 #[tnV x.I x.O x.S a3 x.F.length ac3 a4 x.N.length ac4 a5 x.Y.length ac5 a6 x.E.length ac6, tnV y.I y.O y.S b3 y.F.length bc3 b4 y.N.length bc4 b5 y.Y.length bc5 b6 y.E.length bc6] W (UnP x y x.I.toNat W)) := fun hG hn W hW => by
    have hI := hG.1.many.1
    have ry := hG.2.read
    rw [← hn.1] at ry
    unfold ManyT at hI
    exact differR_any x y x.I.toNat _ _ _ _ _ _ _ _ _ _ _ _ _ _ _ _ W (hx.grown hW) (hy.grown hW) hG.1.read ry (by omega) (by omega) hG.1.size.2 hG.2.size.2
  have HMy : Hid (∀ W, w.grownBy W none → Calls Try.prog 8 #[.int .i64 x.I, .slice az zs.length cz] W fun e w' => e = .returned (.int .i64 (mayF x.I zs)) ∧ w' = W) := fun W hW => mayR_any _ _ _ _ _ (hz.grown hW) hmz
  have HRx : Hid (∀ us, GoodT x → zs = nsT us → (∀ l ∈ us, l < x.I.toNat) → us.length ≤ 60 → ∀ W, w.grownBy W none → Calls Try.prog 9 #[tnV x.I x.O x.S a3 x.F.length ac3 a4 x.N.length ac4 a5 x.Y.length ac5 a6 x.E.length ac6, .slice az zs.length cz] W (RunRP x us W)) := fun us hG hu hl h60 W hW => by
    have hI := hG.many.1.2
    have hN := hG.size.2
    have hlu : zs.length = us.length := by rw [hu, nsT_len]
    rw [hlu]
    exact runR16_any x x.I.toNat a3 a4 a5 a6 ac3 ac4 ac5 ac6 W (hx.grown hW) hG.read (by omega) (by omega) us hl h60 az cz (by rw [← hu]; exact hz.grown hW)
  have HRy : Hid (∀ us, GoodT y → zs = nsT us → (∀ l ∈ us, l < y.I.toNat) → us.length ≤ 60 → ∀ W, w.grownBy W none → Calls Try.prog 9 #[tnV y.I y.O y.S b3 y.F.length bc3 b4 y.N.length bc4 b5 y.Y.length bc5 b6 y.E.length bc6, .slice az zs.length cz] W (RunRP y us W)) := fun us hG hu hl h60 W hW => by
    have hI := hG.many.1.2
    have hN := hG.size.2
    have hlu : zs.length = us.length := by rw [hu, nsT_len]
    rw [hlu]
    exact runR16_any y y.I.toNat b3 b4 b5 b6 bc3 bc4 bc5 bc6 W (hy.grown hW) hG.read (by omega) (by omega) us hl h60 az cz (by rw [← hu]; exact hz.grown hW)
  have HW1 : Hid (W1 = _) := hW1
  have G1 : Hid (w.grownBy W1 none) := g1
  have BX : Hid (∀ W, W1.grownBy W none → Box7 W w.heap.size x.I x.O x.S a3 x.F.length ac3 a4 x.N.length ac4 a5 x.Y.length ac5 a6 x.E.length ac6) := fun W hW => bx.grown hW
  have BY : Hid (∀ W, W1.grownBy W none → Box7 W (w.heap.size + 1) y.I y.O y.S b3 y.F.length bc3 b4 y.N.length bc4 b5 y.Y.length bc5 b6 y.E.length bc6) := fun W hW => by'.grown hW
  have x0 := bx.b0
  have x1 := bx.b1
  have x2 := bx.b2
  have x3 := bx.b3
  have x4 := bx.b4
  have x5 := bx.b5
  have x6 := bx.b6
  have y0 := by'.b0
  have y1 := by'.b1
  have y2 := by'.b2
  have y3 := by'.b3
  have y4 := by'.b4
  have y5 := by'.b5
  have y6 := by'.b6
  rw [hW1] at x0 x1 x2 x3 x4 x5 x6 y0 y1 y2 y3 y4 y5 y6
  clear hW1 g1 s1 bx by' hx hy hz hmz hcx hcy
  go_enter Try.func3, Try.ntmps3
  go_wp2_with fail
  rw [← HW1.out]
  clear x0 x1 x2 x3 x4 x5 x6 y0 y1 y2 y3 y4 y5 y6
  refine HDf.out.mono ?_
  intro E w4 hdf
  rcases hdf with ⟨z, hz, hz0, rfl, hg4⟩ | ⟨hgd, hn, rfl, hg4⟩ | ⟨hgd, hn, v, a, c, hf, hi, hl, hv, rfl, hg4⟩ | ⟨hgd, hn, hf, rfl, hg4⟩
  · have H0 : Hid (ChkB x y z) := hz
    have G4 : Hid (W1.grownBy w4 none) := hg4
    clear hz hg4
    have x0 := (BX.out w4 G4.out).b0
    have x1 := (BX.out w4 G4.out).b1
    have x2 := (BX.out w4 G4.out).b2
    have x3 := (BX.out w4 G4.out).b3
    have x4 := (BX.out w4 G4.out).b4
    have x5 := (BX.out w4 G4.out).b5
    have x6 := (BX.out w4 G4.out).b6
    go_wp2_with fail
    clear x0 x1 x2 x3 x4 x5 x6
    refine (HCX.out w4 (grown_trans G1.out G4.out)).mono ?_
    rintro E w5 ⟨z1, rfl, hz1, hgw5⟩
    have G5 : Hid (W1.grownBy w5 none) := grown_trans G4.out hgw5
    clear hgw5
    by_cases e1 : z1 = 0
    · subst e1
      have y0 := (BY.out w5 G5.out).b0
      have y1 := (BY.out w5 G5.out).b1
      have y2 := (BY.out w5 G5.out).b2
      have y3 := (BY.out w5 G5.out).b3
      have y4 := (BY.out w5 G5.out).b4
      have y5 := (BY.out w5 G5.out).b5
      have y6 := (BY.out w5 G5.out).b6
      go_wp2_with fail
      clear y0 y1 y2 y3 y4 y5 y6
      refine (HCY.out w5 (grown_trans G1.out G5.out)).mono ?_
      rintro E w6 ⟨z2, rfl, hz2, hgw6⟩
      have G6 : Hid (W1.grownBy w6 none) := grown_trans G5.out hgw6
      clear hgw6
      obtain rfl : z2 = z := ((show ChkB x y z2 from ⟨0, hz1, fun e => absurd rfl e, fun _ => hz2⟩).all H0.out).1
      have d1 : (z2 == 0) = false := by simpa using hz0
      have d2 : (z2 != 0) = true := by simpa using hz0
      have d3 : (z2 == z2) = true := by simp
      have GF : Hid (w.grownBy w6 none) := grown_trans G1.out G6.out
      clear hz0 hz1 hz2
      go_wp2_with fail
      go_ret
      exact ⟨rfl, GF.out⟩
    · obtain rfl : z1 = z := ((show ChkB x y z1 from ⟨z1, hz1, fun _ => rfl, fun e => absurd e e1⟩).all H0.out).1
      have d1 : (z1 == 0) = false := by simpa using hz0
      have d2 : (z1 != 0) = true := by simpa using hz0
      have d3 : (z1 == z1) = true := by simp
      have GF : Hid (w.grownBy w5 none) := grown_trans G1.out G5.out
      clear hz0 hz1 e1
      go_wp2_with fail
      go_ret
      exact ⟨rfl, GF.out⟩
  · have HG : Hid (GoodT x ∧ GoodT y) := hgd
    have G4 : Hid (W1.grownBy w4 none) := hg4
    clear hgd hg4
    have x0 := (BX.out w4 G4.out).b0
    have x1 := (BX.out w4 G4.out).b1
    have x2 := (BX.out w4 G4.out).b2
    have x3 := (BX.out w4 G4.out).b3
    have x4 := (BX.out w4 G4.out).b4
    have x5 := (BX.out w4 G4.out).b5
    have x6 := (BX.out w4 G4.out).b6
    go_wp2_with fail
    clear x0 x1 x2 x3 x4 x5 x6
    refine (HCX.out w4 (grown_trans G1.out G4.out)).mono ?_
    rintro E w5 ⟨z1, rfl, hz1, hgw5⟩
    have G5 : Hid (W1.grownBy w5 none) := grown_trans G4.out hgw5
    clear hgw5
    obtain rfl : z1 = 0 := (hz1.all hz1).2.2 HG.out.1
    clear hz1
    have y0 := (BY.out w5 G5.out).b0
    have y1 := (BY.out w5 G5.out).b1
    have y2 := (BY.out w5 G5.out).b2
    have y3 := (BY.out w5 G5.out).b3
    have y4 := (BY.out w5 G5.out).b4
    have y5 := (BY.out w5 G5.out).b5
    have y6 := (BY.out w5 G5.out).b6
    go_wp2_with fail
    clear y0 y1 y2 y3 y4 y5 y6
    refine (HCY.out w5 (grown_trans G1.out G5.out)).mono ?_
    rintro E w6 ⟨z2, rfl, hz2, hgw6⟩
    have G6 : Hid (W1.grownBy w6 none) := grown_trans G5.out hgw6
    clear hgw6
    obtain rfl : z2 = 0 := (hz2.all hz2).2.2 HG.out.2
    clear hz2
    have x0 := (BX.out w6 G6.out).b0
    have x1 := (BX.out w6 G6.out).b1
    have y0 := (BY.out w6 G6.out).b0
    have y1 := (BY.out w6 G6.out).b1
    have GF : Hid (w.grownBy w6 none) := grown_trans G1.out G6.out
    by_cases e1 : x.I = y.I
    · have d1 : (x.I != y.I) = false := by simpa using e1
      have e2 : ¬ x.O = y.O := fun e => hn ⟨e1, e⟩
      have d2 : (x.O != y.O) = true := by simpa using e2
      clear e1 e2 hn
      go_wp2_with fail
      go_ret
      exact ⟨rfl, GF.out⟩
    · have d1 : (x.I != y.I) = true := by simpa using e1
      clear e1 hn
      go_wp2_with fail
      go_ret
      exact ⟨rfl, GF.out⟩
  · have HIV : Hid (∀ W, w4.grownBy W none → Ints W a (nsT v)) := fun W hW => hi.grown hW
    have HN : Hid (x.I = y.I ∧ x.O = y.O) := hn
    clear hn
    have HG : Hid (GoodT x ∧ GoodT y) := hgd
    have G4 : Hid (W1.grownBy w4 none) := hg4
    clear hgd hg4
    have x0 := (BX.out w4 G4.out).b0
    have x1 := (BX.out w4 G4.out).b1
    have x2 := (BX.out w4 G4.out).b2
    have x3 := (BX.out w4 G4.out).b3
    have x4 := (BX.out w4 G4.out).b4
    have x5 := (BX.out w4 G4.out).b5
    have x6 := (BX.out w4 G4.out).b6
    go_wp2_with fail
    clear x0 x1 x2 x3 x4 x5 x6
    refine (HCX.out w4 (grown_trans G1.out G4.out)).mono ?_
    rintro E w5 ⟨z1, rfl, hz1, hgw5⟩
    have G45 : Hid (w4.grownBy w5 none) := hgw5
    have G5 : Hid (W1.grownBy w5 none) := grown_trans G4.out hgw5
    clear hgw5
    obtain rfl : z1 = 0 := (hz1.all hz1).2.2 HG.out.1
    clear hz1
    have y0 := (BY.out w5 G5.out).b0
    have y1 := (BY.out w5 G5.out).b1
    have y2 := (BY.out w5 G5.out).b2
    have y3 := (BY.out w5 G5.out).b3
    have y4 := (BY.out w5 G5.out).b4
    have y5 := (BY.out w5 G5.out).b5
    have y6 := (BY.out w5 G5.out).b6
    go_wp2_with fail
    clear y0 y1 y2 y3 y4 y5 y6
    refine (HCY.out w5 (grown_trans G1.out G5.out)).mono ?_
    rintro E w6 ⟨z2, rfl, hz2, hgw6⟩
    have G46 : Hid (w4.grownBy w6 none) := grown_trans G45.out hgw6
    have G6 : Hid (W1.grownBy w6 none) := grown_trans G5.out hgw6
    clear hgw6
    obtain rfl : z2 = 0 := (hz2.all hz2).2.2 HG.out.2
    clear hz2
    have x0 := (BX.out w6 G6.out).b0
    have x1 := (BX.out w6 G6.out).b1
    have y0 := (BY.out w6 G6.out).b0
    have y1 := (BY.out w6 G6.out).b1
    have d1 : (x.I != y.I) = false := by have := HN.out.1; simpa using this
    have d2 : (x.O != y.O) = false := by have := HN.out.2; simpa using this
    have HD2 : Hid (∀ W, w.grownBy W none → Calls Try.prog 6 #[tnV x.I x.O x.S a3 x.F.length ac3 a4 x.N.length ac4 a5 x.Y.length ac5 a6 x.E.length ac6, tnV y.I y.O y.S b3 y.F.length bc3 b4 y.N.length bc4 b5 y.Y.length bc5 b6 y.E.length bc6] W (UnP x y x.I.toNat W)) := HDR.out HG.out HN.out
    have x2 := (BX.out w6 G6.out).b2
    have x3 := (BX.out w6 G6.out).b3
    have x4 := (BX.out w6 G6.out).b4
    have x5 := (BX.out w6 G6.out).b5
    have x6 := (BX.out w6 G6.out).b6
    have y2 := (BY.out w6 G6.out).b2
    have y3 := (BY.out w6 G6.out).b3
    have y4 := (BY.out w6 G6.out).b4
    have y5 := (BY.out w6 G6.out).b5
    have y6 := (BY.out w6 G6.out).b6
    go_wp2_with fail
    clear x0 x1 x2 x3 x4 x5 x6 y0 y1 y2 y3 y4 y5 y6
    refine (HD2.out w6 (grown_trans G1.out G6.out)).mono ?_
    intro E w7 hun
    rcases hun with ⟨v', a', c', rfl, hf', hi', hl', hv', hg7⟩ | ⟨rfl, hf', hg7⟩
    rotate_left
    · exact absurd (found_none hf hf') id
    obtain rfl : v' = v := found_one hf' hf
    have G7 : Hid (W1.grownBy w7 none) := grown_trans G6.out hg7
    have HW : Hid (Calls Try.prog 7 #[.slice a v'.length c, .slice a' v'.length c'] w7 (TellsB (SameW (nsT v') (nsT v')) w7)) := by
      have h1 := wordsR_any a a' c c' (nsT v') (nsT v') w7 (HIV.out w7 (grown_trans G46.out hg7)) hi' (by rw [nsT_len]; unfold maxLen; omega) (by rw [nsT_len]; unfold maxLen; omega)
      rwa [nsT_len] at h1
    clear hf hf' hi hi' hg7 hv hv' hl hl'
    generalize v'.length = nv at *
    go_wp2_with fail
    refine HW.out.mono ?_
    rintro E w8 ⟨bb, rfl, hbb, hg8⟩
    obtain rfl : bb = true := hbb.2 rfl
    have G8 : Hid (W1.grownBy w8 none) := grown_trans G7.out hg8
    have x0 := (BX.out w8 G8.out).b0
    clear hbb hg8
    go_wp2_with fail
    refine (HMy.out w8 (grown_trans G1.out G8.out)).mono ?_
    rintro E w9 ⟨rfl, rfl⟩
    have GF : Hid (w.grownBy w9 none) := grown_trans G1.out G8.out
    by_cases hm : mayF x.I zs = 0
    · have d3 : (mayF x.I zs != 0) = false := by simpa using hm
      clear hm
      go_wp2_with fail
      go_ret
      exact ⟨rfl, GF.out⟩
    · have d3 : (mayF x.I zs != 0) = true := by simpa using hm
      clear hm
      go_wp2_with fail
      go_ret
      exact ⟨rfl, GF.out⟩
  · have HN : Hid (x.I = y.I ∧ x.O = y.O) := hn
    clear hn
    have HG : Hid (GoodT x ∧ GoodT y) := hgd
    have G4 : Hid (W1.grownBy w4 none) := hg4
    clear hgd hg4
    have x0 := (BX.out w4 G4.out).b0
    have x1 := (BX.out w4 G4.out).b1
    have x2 := (BX.out w4 G4.out).b2
    have x3 := (BX.out w4 G4.out).b3
    have x4 := (BX.out w4 G4.out).b4
    have x5 := (BX.out w4 G4.out).b5
    have x6 := (BX.out w4 G4.out).b6
    go_wp2_with fail
    clear x0 x1 x2 x3 x4 x5 x6
    refine (HCX.out w4 (grown_trans G1.out G4.out)).mono ?_
    rintro E w5 ⟨z1, rfl, hz1, hgw5⟩
    have G5 : Hid (W1.grownBy w5 none) := grown_trans G4.out hgw5
    clear hgw5
    obtain rfl : z1 = 0 := (hz1.all hz1).2.2 HG.out.1
    clear hz1
    have y0 := (BY.out w5 G5.out).b0
    have y1 := (BY.out w5 G5.out).b1
    have y2 := (BY.out w5 G5.out).b2
    have y3 := (BY.out w5 G5.out).b3
    have y4 := (BY.out w5 G5.out).b4
    have y5 := (BY.out w5 G5.out).b5
    have y6 := (BY.out w5 G5.out).b6
    go_wp2_with fail
    clear y0 y1 y2 y3 y4 y5 y6
    refine (HCY.out w5 (grown_trans G1.out G5.out)).mono ?_
    rintro E w6 ⟨z2, rfl, hz2, hgw6⟩
    have G6 : Hid (W1.grownBy w6 none) := grown_trans G5.out hgw6
    clear hgw6
    obtain rfl : z2 = 0 := (hz2.all hz2).2.2 HG.out.2
    clear hz2
    have x0 := (BX.out w6 G6.out).b0
    have x1 := (BX.out w6 G6.out).b1
    have y0 := (BY.out w6 G6.out).b0
    have y1 := (BY.out w6 G6.out).b1
    have d1 : (x.I != y.I) = false := by have := HN.out.1; simpa using this
    have d2 : (x.O != y.O) = false := by have := HN.out.2; simpa using this
    have HD2 : Hid (∀ W, w.grownBy W none → Calls Try.prog 6 #[tnV x.I x.O x.S a3 x.F.length ac3 a4 x.N.length ac4 a5 x.Y.length ac5 a6 x.E.length ac6, tnV y.I y.O y.S b3 y.F.length bc3 b4 y.N.length bc4 b5 y.Y.length bc5 b6 y.E.length bc6] W (UnP x y x.I.toNat W)) := HDR.out HG.out HN.out
    have x2 := (BX.out w6 G6.out).b2
    have x3 := (BX.out w6 G6.out).b3
    have x4 := (BX.out w6 G6.out).b4
    have x5 := (BX.out w6 G6.out).b5
    have x6 := (BX.out w6 G6.out).b6
    have y2 := (BY.out w6 G6.out).b2
    have y3 := (BY.out w6 G6.out).b3
    have y4 := (BY.out w6 G6.out).b4
    have y5 := (BY.out w6 G6.out).b5
    have y6 := (BY.out w6 G6.out).b6
    go_wp2_with fail
    clear x0 x1 x2 x3 x4 x5 x6 y0 y1 y2 y3 y4 y5 y6
    refine (HD2.out w6 (grown_trans G1.out G6.out)).mono ?_
    intro E w7 hun
    rcases hun with ⟨v', a', c', rfl, hf', hi', hl', hv', hg7⟩ | ⟨rfl, hf', hg7⟩
    · exact absurd (found_none hf' hf) id
    have G7 : Hid (W1.grownBy w7 none) := grown_trans G6.out hg7
    have HW : Hid (Calls Try.prog 7 #[.slice none 0 0, .slice none 0 0] w7 (TellsB (SameW [] []) w7)) := wordsR_any none none 0 0 [] [] w7 (.inl rfl) (.inl rfl) (by simp) (by simp)
    have HNo : Hid (NoneT x y x.I.toNat) := hf
    clear hf hf' hg7
    go_wp2_with fail
    refine HW.out.mono ?_
    rintro E w8 ⟨bb, rfl, hbb, hg8⟩
    obtain rfl : bb = true := hbb.2 rfl
    have G8 : Hid (W1.grownBy w8 none) := grown_trans G7.out hg8
    have x0 := (BX.out w8 G8.out).b0
    clear hbb hg8
    go_wp2_with fail
    refine (HMy.out w8 (grown_trans G1.out G8.out)).mono ?_
    rintro E w9 ⟨rfl, rfl⟩
    by_cases hm : mayF x.I zs = 0
    · obtain ⟨_, _, h60, us, hus, hl⟩ := may_ns hm
      have d3 : (mayF x.I zs != 0) = false := by simpa using hm
      have h60u : us.length ≤ 60 := by rw [hus, nsT_len] at h60; exact h60
      have HAll : Hid (saysT x us = saysT y us) := by
        have ry := HG.out.2.read
        rw [← HN.out.1] at ry
        exact HNo.out.all ry us hl
      have HRX : Hid (∀ W, w.grownBy W none → Calls Try.prog 9 #[tnV x.I x.O x.S a3 x.F.length ac3 a4 x.N.length ac4 a5 x.Y.length ac5 a6 x.E.length ac6, .slice az zs.length cz] W (RunRP x us W)) := HRx.out us HG.out.1 hus hl h60u
      have HRY : Hid (∀ W, w.grownBy W none → Calls Try.prog 9 #[tnV y.I y.O y.S b3 y.F.length bc3 b4 y.N.length bc4 b5 y.Y.length bc5 b6 y.E.length bc6, .slice az zs.length cz] W (RunRP y us W)) := HRy.out us HG.out.2 hus (by rw [← HN.out.1]; exact hl) h60u
      have hlx := saysT_lenR HG.out.1.read us hl h60u
      clear hm h60 hus hl h60u
      have x1 := (BX.out w9 G8.out).b1
      have x2 := (BX.out w9 G8.out).b2
      have x3 := (BX.out w9 G8.out).b3
      have x4 := (BX.out w9 G8.out).b4
      have x5 := (BX.out w9 G8.out).b5
      have x6 := (BX.out w9 G8.out).b6
      go_wp2_with fail
      clear x0 x1 x2 x3 x4 x5 x6
      refine (HRX.out w9 (grown_trans G1.out G8.out)).mono ?_
      rintro E wA ⟨aA, kA, rfl, hiA, hgA, _⟩
      have GA : Hid (W1.grownBy wA none) := grown_trans G8.out hgA
      have HIA : Hid (Ints wA aA (saysT x us)) := hiA
      clear hiA hgA
      have y0 := (BY.out wA GA.out).b0
      have y1 := (BY.out wA GA.out).b1
      have y2 := (BY.out wA GA.out).b2
      have y3 := (BY.out wA GA.out).b3
      have y4 := (BY.out wA GA.out).b4
      have y5 := (BY.out wA GA.out).b5
      have y6 := (BY.out wA GA.out).b6
      go_wp2_with fail
      clear y0 y1 y2 y3 y4 y5 y6
      refine (HRY.out wA (grown_trans G1.out GA.out)).mono ?_
      rintro E wB ⟨aB, kB, rfl, hiB, hgB, _⟩
      have GB : Hid (W1.grownBy wB none) := grown_trans GA.out hgB
      rw [← HAll.out] at hiB ⊢
      have HWo : Hid (Calls Try.prog 7 #[.slice aA (saysT x us).length kA, .slice aB (saysT x us).length kB] wB (TellsB (SameW (saysT x us) (saysT x us)) wB)) := wordsR_any aA aB kA kB _ _ wB (HIA.out.grown hgB) hiB (by unfold maxLen; omega) (by unfold maxLen; omega)
      clear hiB hgB hlx
      generalize (saysT x us).length = ns at *
      go_wp2_with fail
      refine HWo.out.mono ?_
      rintro E wC ⟨bc, rfl, hbc, hgC⟩
      obtain rfl : bc = true := hbc.2 rfl
      have GF : Hid (w.grownBy wC none) := grown_trans G1.out (grown_trans GB.out hgC)
      clear hbc hgC
      go_wp2_with fail
      go_ret
      exact ⟨rfl, GF.out⟩
    · have d3 : (mayF x.I zs != 0) = true := by simpa using hm
      have GF : Hid (w.grownBy w9 none) := grown_trans G1.out G8.out
      clear hm
      go_wp2_with fail
      go_ret
      exact ⟨rfl, GF.out⟩

theorem tdiff_own : ownKnob Try.prog.godebug = none := by kernel_rfl

set_option maxRecDepth 100000 in
theorem tdiff_lifted (os : Os) (started : os.Started) (H : Type) (enc : TypeId × Value → H) :
    ReturnsInHanded {} Try.checked os 3 .any (Rows.transDiffersSpec.pre6 enc Try.prog Try.f3 Rows.transDiffersRow.domain false) (Rows.transDiffersSpec.post enc Try.prog Try.f3 false true false false) := by
  refine returnsInHanded_of_change_sized (C := Try.checked) tdiff_own started (by kernel_rfl) Try.func3
    (ChangeSpec.witness6 (enc := enc) (C := Try.checked) false ⟨#[], #[.agg #[.int .i64 0, .int .i64 0, .int .i64 0, .slice none 0 0, .slice none 0 0, .slice none 0 0, .slice none 0 0], .agg #[.int .i64 0, .int .i64 0, .int .i64 0, .slice none 0 0, .slice none 0 0, .slice none 0 0, .slice none 0 0], .slice none 0 0], []⟩ 8 (by kernel_rfl) (by kernel_rfl) (by kernel_rfl) (by kernel_rfl)) ?_
  intro W base args ds gs before hval0 hW hcnd hsz0 _
  have hval : ∀ (j : Nat) t v, Try.f3.params[j]? = some t → args[j]? = some v → Value.okWide Try.prog W .any base t v := hval0
  have hW' := hW
  obtain ⟨p, q, hA0, hV, rfl, hfz, hnd⟩ := hW
  have hA : DataW.TrodAll enc Try.prog W 0 (fun _ => true) true Try.f3.params.toList args.toList ds p := hA0
  rw [Try.params3] at hA hval
  obtain ⟨v0, vs0, d0, ds0, p0, q0, hargs, rfl, rfl, h0, r0⟩ := trodAll_cons hA
  obtain ⟨v1, vs1, d1, ds1, p1, q1, rfl, rfl, rfl, h1, r1⟩ := trodAll_cons r0
  obtain ⟨v2, vs2, d2, ds2, p2, q2, rfl, rfl, rfl, h2, r2⟩ := trodAll_cons r1
  obtain ⟨rfl, rfl, rfl⟩ := trodAll_nil r2
  obtain rfl : args = #[v0, v1, v2] := by cases args; simp_all
  obtain ⟨rfl, rfl⟩ := trodVars_none hV
  have lt0 : ∀ x ∈ p0, x.block < W.heap.size := by obtain ⟨m, hm⟩ := h0; exact DataW.trod_lt m _ _ _ hm
  have lt1 : ∀ x ∈ p1, x.block < W.heap.size := by obtain ⟨m, hm⟩ := h1; exact DataW.trod_lt m _ _ _ hm
  have lt2 : ∀ x ∈ p2, x.block < W.heap.size := by obtain ⟨m, hm⟩ := h2; exact DataW.trod_lt m _ _ _ hm
  obtain ⟨x, a3, a4, a5, a6, ac3, ac4, ac5, ac6, rfl, hX, _, _, _, hcx⟩ := tn_of_trod (hval 0 26 v0 rfl rfl) h0
  obtain ⟨y, b3, b4, b5, b6, bc3, bc4, bc5, bc6, rfl, hY, _, _, _, hcy⟩ := tn_of_trod (hval 1 26 v1 rfl rfl) h1
  obtain ⟨az, cz, zs, rfl, hz, hmz⟩ := slice_of_trod (hval 2 22 v2 rfl rfl) h2
  clear hA0 hval0 hsz0
  refine (tdiff_walk x y a3 a4 a5 a6 ac3 ac4 ac5 ac6 b3 b4 b5 b6 bc3 bc4 bc5 bc6 zs az cz W hX hY hz hmz hcx hcy).mono fun E W' ⟨he, hg⟩ => ?_
  subst he
  have bel : Below W.heap.size W W' := below_of_grown hg
  exact ⟨_, rfl, _, _, _, [], _, [], hW', trodAll_mk1 (shut_bool Try.underlying4 _), (trodAll_cons_mk (Below.trod Try.laidOut (by kernel_rfl) (of_decide_eq_true (by kernel_rfl)) h0 bel lt0) (trodAll_cons_mk (Below.trod Try.laidOut (by kernel_rfl) (of_decide_eq_true (by kernel_rfl)) h1 bel lt1) (trodAll_cons_mk (Below.trod Try.laidOut (by kernel_rfl) (of_decide_eq_true (by kernel_rfl)) h2 bel lt2) trodAll_mk0))), rfl, bel.frame _, fun h => by cases h⟩

theorem transDiffers_holds : Rows.TransDiffersSaid :=
  OpenClaim.holds_of_wide 3 Try.f3 rfl rfl rfl rfl rfl rfl rfl ⟨rfl, rfl, rfl, rfl, rfl⟩ rfl rfl rfl rfl rfl (by kernel_rfl) Try.func3 (by kernel_rfl)
    (of_decide_eq_true (by kernel_rfl)) (by unfold Func.isWrapper; first | (rw [if_pos (by decide +kernel)]; kernel_rfl) | (rw [if_neg (by decide +kernel)]; exact ⟨rfl, rfl⟩))
    (fun os started H enc _ => tdiff_lifted os started H enc)
#print axioms transDiffers_holds
end Go.Proofs.Ytdajdnilhjcniaa
