/- TransLeast holds: whatever transducer and whatever word come in, in whatever memory, shared or not: the program refuses what the reference refuses, with the same error; else it makes the one least transducer that the reference makes, or says that it says too much at once where that one does; and it says to the word what was said before. -/
import Derived.Test.YtkcbdfgbmaeodaaTlLawD
import Derived.Test.YtkcbdfgbmaeodaaTlSame
import Derived.Test.YtkcbdfgbmaeodaaTlCaps
import Derived.Test.YtkcbdfgbmaeodaaTlNo
import Derived.Test.YtkcbdfgbmaeodaaTnRefC
import Derived.Test.YtkcbdfgbmaeodaaTnRefR
import Derived.Test.YtkcbdfgbmaeodaaRWord1
import Derived.Test.YtkcbdfgbmaeodaaMyP
import Derived.SizedLaws
namespace Go.Proofs.Ytkcbdfgbmaeodaa
open Go.ChangeShapes Go.WideShapes Go.ChangeAt Go.RowKit Go.Joins
set_option linter.unusedVariables false

theorem may_ns {n : Int} {zs : List Int} (h : mayF n zs = 0) : 1 ≤ n ∧ n ≤ 4 ∧ zs.length ≤ 60 ∧ ∃ us : List Nat, zs = nsT us ∧ ∀ l ∈ us, l < n.toNat := by
  unfold mayF at h
  by_cases h1 : n < 1 ∨ 4 < n
  · rw [if_pos h1] at h; cases h
  · rw [if_neg h1] at h
    by_cases h2 : 60 < zs.length
    · rw [if_pos h2] at h; cases h
    · rw [if_neg h2] at h
      by_cases h3 : (zs.all fun x => decide (0 ≤ x) && decide (x < n)) = true
      · have h4 := List.all_eq_true.1 h3
        refine ⟨by omega, by omega, by omega, zs.map Int.toNat, ?_, ?_⟩
        · unfold nsT
          rw [List.map_map]
          conv => lhs; rw [← List.map_id zs]
          refine List.map_congr_left fun z hz => ?_
          have := h4 z hz
          simp at this
          simp
          omega
        · intro l hl
          obtain ⟨z, hz, rfl⟩ := List.mem_map.1 hl
          have := h4 z hz
          simp at this
          omega
      · rw [if_neg h3] at h; cases h
theorem saysL_len {x : TrI} {I : Nat} (h : ReadT x I) (us : List Nat) (hu : ∀ l ∈ us, l < I) (hl : us.length ≤ 60) : (saysT x us).length ≤ 1000 := by
  have hS := h.st
  unfold StT at hS
  have h1 := h.len us hu (q := x.S.toNat) (by omega)
  have h2 := h.e8 _ (h.go us hu (q := x.S.toNat) (by omega))
  have h3 := h.f8
  unfold saysT
  rw [List.length_append, List.length_append]
  omega

set_option maxHeartbeats 3200000 in
set_option maxRecDepth 100000 in
theorem tleast_walk (x : TrI) (a3 a4 a5 a6 : Option Addr) (c3 c4 c5 c6 : Nat) (zs : List Int) (az : Option Addr) (cz : Nat) (w : World) (h : TnAt w x a3 a4 a5 a6) (hk : CapsAt w a6 x.E) (hz : Ints w az zs) (hmz : zs.length ≤ maxLen) :
    Calls Try.prog 3 #[tnV x.I x.O x.S a3 x.F.length c3 a4 x.N.length c4 a5 x.Y.length c5 a6 x.E.length c6, .slice az zs.length cz] w (Says (.bool true) w) := by
  obtain ⟨W1, hW1, g1, s1, bx⟩ := box7_new w x.I x.O x.S a3 x.F.length c3 a4 x.N.length c4 a5 x.Y.length c5 a6 x.E.length c6
  have HCR : Hid (∀ W, w.grownBy W none → Calls Try.prog 5 #[tnV x.I x.O x.S a3 x.F.length c3 a4 x.N.length c4 a5 x.Y.length c5 a6 x.E.length c6] W (ChkP x W)) := fun W hW => checkR16_any _ _ _ _ _ _ _ _ _ _ (h.grown hW)
  have HMy : Hid (∀ W, w.grownBy W none → Calls Try.prog 10 #[.int .i64 x.I, .slice az zs.length cz] W fun e w' => e = .returned (.int .i64 (mayF x.I zs)) ∧ w' = W) := fun W hW => mayR_any _ _ _ _ _ (hz.grown hW) hmz
  have HW1 : Hid (W1 = _) := hW1
  have G1 : Hid (w.grownBy W1 none) := g1
  have BX : Hid (∀ W, W1.grownBy W none → Box7 W w.heap.size x.I x.O x.S a3 x.F.length c3 a4 x.N.length c4 a5 x.Y.length c5 a6 x.E.length c6) := fun W hW => bx.grown hW
  have x0 := bx.b0
  have x1 := bx.b1
  have x2 := bx.b2
  have x3 := bx.b3
  have x4 := bx.b4
  have x5 := bx.b5
  have x6 := bx.b6
  rw [hW1] at x0 x1 x2 x3 x4 x5 x6
  by_cases hG : GoodT x
  · obtain ⟨I, hxI⟩ : ∃ I : Nat, x.I = (I : Int) := ⟨x.I.toNat, by have := hG.many.1; unfold ManyT at this; omega⟩
    have hr : ReadT x I := by have := hG.read; rwa [hxI, Int.toNat_natCast] at this
    have hI : I ≤ 4 := by have := hG.many.1; unfold ManyT at this; omega
    have hn6 : x.N.length ≤ 6 := hG.size.2
    have HL : Hid (Calls Try.prog 4 #[tnV x.I x.O x.S a3 x.F.length c3 a4 x.N.length c4 a5 x.Y.length c5 a6 x.E.length c6] W1 (LeastE2 x I W1)) := (leastE_good x I a3 a4 a5 a6 c3 c4 c5 c6 W1 (h.grown g1) (hk.grown g1) hG hxI).mono fun _ _ => LeastEP.two
    have HLR : Hid (∀ W, w.grownBy W none → Calls Try.prog 6 #[tnV x.I x.O x.S a3 x.F.length c3 a4 x.N.length c4 a5 x.Y.length c5 a6 x.E.length c6] W (RLeastE2 x I W)) := fun W hW => (leastR16_any x I a3 a4 a5 a6 c3 c4 c5 c6 W (h.grown hW) (hk.grown hW) hr hxI hI (by omega)).mono fun _ _ => RLeastP.two
    have HRR : Hid (∀ us, zs = nsT us → (∀ l ∈ us, l < I) → us.length ≤ 60 → ∀ W, w.grownBy W none → Calls Try.prog 11 #[tnV x.I x.O x.S a3 x.F.length c3 a4 x.N.length c4 a5 x.Y.length c5 a6 x.E.length c6, .slice az zs.length cz] W (RunRP x us W)) := fun us hu hl h60 W hW => by
      have hlu : zs.length = us.length := by rw [hu, nsT_len]
      rw [hlu]
      exact runR16_any x I a3 a4 a5 a6 c3 c4 c5 c6 W (h.grown hW) hr hI (by omega) us hl h60 az cz (by rw [← hu]; exact hz.grown hW)
    have HRL : Hid (∀ (L : TrI) us b3 b4 b5 b6 d3 d4 d5 d6, ReadT L I → L.N.length ≤ 6 → zs = nsT us → (∀ l ∈ us, l < I) → us.length ≤ 60 → ∀ W, w.grownBy W none → TnAt W L b3 b4 b5 b6 → Calls Try.prog 11 #[tnV L.I L.O L.S b3 L.F.length d3 b4 L.N.length d4 b5 L.Y.length d5 b6 L.E.length d6, .slice az zs.length cz] W (RunRP L us W)) := fun L us b3 b4 b5 b6 d3 d4 d5 d6 hrL hL6 hu hl h60 W hW hT => by
      have hlu : zs.length = us.length := by rw [hu, nsT_len]
      rw [hlu]
      exact runR16_any L I b3 b4 b5 b6 d3 d4 d5 d6 W hT hrL hI (by omega) us hl h60 az cz (by rw [← hu]; exact hz.grown hW)
    have HR : Hid (ReadT x I) := hr
    have HGd : Hid (GoodT x) := hG
    have HxI : Hid (x.I = (I : Int)) := hxI
    clear hW1 g1 s1 bx h hk hz hmz hr hG hxI
    go_enter Try.func3, Try.ntmps3
    go_wp2_with fail
    rw [← HW1.out]
    clear x0 x1 x2 x3 x4 x5 x6
    refine HL.out.mono ?_
    rintro E w2 ⟨L, hLis, hg2, hends⟩
    have G2 : Hid (W1.grownBy w2 none) := hg2
    have HLI : Hid (LeastIs x I L) := hLis
    clear hg2 hLis HL
    rcases hends with ⟨hnl, rfl⟩ | ⟨hlt, b3, b4, b5, b6, d3, d4, d5, d6, rfl, hT⟩
    · have HNL : Hid (¬ LittleT L) := hnl
      clear hnl
      obtain ⟨W3, hW3, g3, s3, b3x⟩ := box7_new w2 0 0 0 none 0 0 none 0 0 none 0 0 none 0 0
      have G3 : Hid (W1.grownBy W3 none) := grown_trans G2.out g3
      have HW3 : Hid (W3 = _) := hW3
      have HB5 : Hid (∀ W, W3.grownBy W none → Box7 W w2.heap.size 0 0 0 none 0 0 none 0 0 none 0 0 none 0 0) := fun W hW => b3x.grown hW
      have bb := BX.out W3 G3.out
      have x0 := bb.b0
      have x1 := bb.b1
      have x2 := bb.b2
      have x3 := bb.b3
      have x4 := bb.b4
      have x5 := bb.b5
      have x6 := bb.b6
      rw [hW3] at x0 x1 x2 x3 x4 x5 x6
      clear hW3 g3 s3 b3x bb
      go_wp2_with fail
      rw [← HW3.out]
      clear x0 x1 x2 x3 x4 x5 x6
      refine (HCR.out W3 (grown_trans G1.out G3.out)).mono ?_
      rintro E w4 ⟨z, rfl, hz, hg4⟩
      obtain rfl : z = 0 := (hz.all hz).2.2 HGd.out
      have G4 : Hid (W1.grownBy w4 none) := grown_trans G3.out hg4
      have G34 : Hid (W3.grownBy w4 none) := hg4
      have bb := BX.out w4 G4.out
      have x0 := bb.b0
      have x1 := bb.b1
      have x2 := bb.b2
      have x3 := bb.b3
      have x4 := bb.b4
      have x5 := bb.b5
      have x6 := bb.b6
      clear hz hg4 bb
      go_wp2_with fail
      clear x0 x1 x2 x3 x4 x5 x6
      refine (HLR.out w4 (grown_trans G1.out G4.out)).mono ?_
      rintro E w5 ⟨L', a3', a4', a5', a6', c3', c4', c5', c6', hRis, hg5, rfl, hT'⟩
      obtain ⟨rfl, hK⟩ := least_is HR.out HLI.out hRis
      have HK : Hid (LeastK x I L') := hK
      obtain ⟨W6, hW6, g6, s6, b6x⟩ := box7_new w5 L'.I L'.O L'.S a3' L'.F.length c3' a4' L'.N.length c4' a5' L'.Y.length c5' a6' L'.E.length c6'
      have G6 : Hid (W1.grownBy W6 none) := grown_trans G4.out (grown_trans hg5 g6)
      have G36 : Hid (W3.grownBy W6 none) := grown_trans G34.out (grown_trans hg5 g6)
      have HW6 : Hid (W6 = _) := hW6
      have HLo : Hid (Calls Try.prog 7 #[tnV L'.I L'.O L'.S a3' L'.F.length c3' a4' L'.N.length c4' a5' L'.Y.length c5' a6' L'.E.length c6'] W6 (TellsB (¬ ShortW (sayR L')) W6)) := longR_any L' a3' a4' a5' a6' c3' c4' c5' c6' W6 (hT'.grown g6) (hK.many hI hn6)
      have x0 := b6x.b0
      have x1 := b6x.b1
      have x2 := b6x.b2
      have x3 := b6x.b3
      have x4 := b6x.b4
      have x5 := b6x.b5
      have x6 := b6x.b6
      rw [hW6] at x0 x1 x2 x3 x4 x5 x6
      clear hRis hg5 hT' hK hW6 g6 s6 b6x
      go_wp2_with fail
      rw [← HW6.out]
      clear x0 x1 x2 x3 x4 x5 x6
      refine HLo.out.mono ?_
      rintro E w7 ⟨bb, rfl, hbb, hg7⟩
      obtain rfl : bb = true := hbb.2 (fun e => HNL.out (HK.out.short.2 e))
      have G7 : Hid (W1.grownBy w7 none) := grown_trans G6.out hg7
      have bz := HB5.out w7 (grown_trans G36.out hg7)
      have x0 := bz.b0
      have x1 := bz.b1
      have x2 := bz.b2
      have x3 := bz.b3
      have x4 := bz.b4
      have x5 := bz.b5
      have x6 := bz.b6
      have HNo : Hid (Calls Try.prog 9 #[tnZ] w7 (Says (.bool true) w7)) := noTrans_zero w7
      clear hbb hg7 bz
      go_wp2_with fail
      clear x0 x1 x2 x3 x4 x5 x6
      refine HNo.out.mono ?_
      rintro E w8 ⟨rfl, hg8⟩
      have GF : Hid (w.grownBy w8 none) := grown_trans G1.out (grown_trans G7.out hg8)
      clear hg8
      go_wp2_with fail
      go_ret
      exact ⟨rfl, GF.out⟩
    · have HLt : Hid (LittleT L) := hlt
      obtain ⟨W3, hW3, g3, s3, b3x⟩ := box7_new w2 L.I L.O L.S b3 L.F.length d3 b4 L.N.length d4 b5 L.Y.length d5 b6 L.E.length d6
      have HTL : Hid (∀ W, W3.grownBy W none → TnAt W L b3 b4 b5 b6) := fun W hW => hT.grown (grown_trans g3 hW)
      have G3 : Hid (W1.grownBy W3 none) := grown_trans G2.out g3
      have HW3 : Hid (W3 = _) := hW3
      have HB5 : Hid (∀ W, W3.grownBy W none → Box7 W w2.heap.size L.I L.O L.S b3 L.F.length d3 b4 L.N.length d4 b5 L.Y.length d5 b6 L.E.length d6) := fun W hW => b3x.grown hW
      have bb := BX.out W3 G3.out
      have x0 := bb.b0
      have x1 := bb.b1
      have x2 := bb.b2
      have x3 := bb.b3
      have x4 := bb.b4
      have x5 := bb.b5
      have x6 := bb.b6
      rw [hW3] at x0 x1 x2 x3 x4 x5 x6
      clear hlt hT hW3 g3 s3 b3x bb
      go_wp2_with fail
      rw [← HW3.out]
      clear x0 x1 x2 x3 x4 x5 x6
      refine (HCR.out W3 (grown_trans G1.out G3.out)).mono ?_
      rintro E w4 ⟨z, rfl, hz, hg4⟩
      obtain rfl : z = 0 := (hz.all hz).2.2 HGd.out
      have G4 : Hid (W1.grownBy w4 none) := grown_trans G3.out hg4
      have G34 : Hid (W3.grownBy w4 none) := hg4
      have bb := BX.out w4 G4.out
      have x0 := bb.b0
      have x1 := bb.b1
      have x2 := bb.b2
      have x3 := bb.b3
      have x4 := bb.b4
      have x5 := bb.b5
      have x6 := bb.b6
      clear hz hg4 bb
      go_wp2_with fail
      clear x0 x1 x2 x3 x4 x5 x6
      refine (HLR.out w4 (grown_trans G1.out G4.out)).mono ?_
      rintro E w5 ⟨L', a3', a4', a5', a6', c3', c4', c5', c6', hRis, hg5, rfl, hT'⟩
      obtain ⟨rfl, hK⟩ := least_is HR.out HLI.out hRis
      have HK : Hid (LeastK x I L') := hK
      obtain ⟨W6, hW6, g6, s6, b6x⟩ := box7_new w5 L'.I L'.O L'.S a3' L'.F.length c3' a4' L'.N.length c4' a5' L'.Y.length c5' a6' L'.E.length c6'
      have G6 : Hid (W1.grownBy W6 none) := grown_trans G4.out (grown_trans hg5 g6)
      have G36 : Hid (W3.grownBy W6 none) := grown_trans G34.out (grown_trans hg5 g6)
      have HW6 : Hid (W6 = _) := hW6
      have HT6 : Hid (∀ W, W6.grownBy W none → TnAt W L' a3' a4' a5' a6') := fun W hW => hT'.grown (grown_trans g6 hW)
      have HB8 : Hid (∀ W, W6.grownBy W none → Box7 W w5.heap.size L'.I L'.O L'.S a3' L'.F.length c3' a4' L'.N.length c4' a5' L'.Y.length c5' a6' L'.E.length c6') := fun W hW => b6x.grown hW
      have HLo : Hid (Calls Try.prog 7 #[tnV L'.I L'.O L'.S a3' L'.F.length c3' a4' L'.N.length c4' a5' L'.Y.length c5' a6' L'.E.length c6'] W6 (TellsB (¬ ShortW (sayR L')) W6)) := longR_any L' a3' a4' a5' a6' c3' c4' c5' c6' W6 (hT'.grown g6) (hK.many hI hn6)
      have x0 := b6x.b0
      have x1 := b6x.b1
      have x2 := b6x.b2
      have x3 := b6x.b3
      have x4 := b6x.b4
      have x5 := b6x.b5
      have x6 := b6x.b6
      rw [hW6] at x0 x1 x2 x3 x4 x5 x6
      clear hRis hg5 hT' hK hW6 g6 s6 b6x
      go_wp2_with fail
      rw [← HW6.out]
      clear x0 x1 x2 x3 x4 x5 x6
      refine HLo.out.mono ?_
      rintro E w7 ⟨bb, rfl, hbb, hg7⟩
      obtain rfl : bb = false := by
        cases bb with
        | false => rfl
        | true => exact absurd (HK.out.short.1 HLt.out) (hbb.1 rfl)
      have G7 : Hid (W1.grownBy w7 none) := grown_trans G6.out hg7
      have G67 : Hid (W6.grownBy w7 none) := hg7
      have G37 : Hid (W3.grownBy w7 none) := grown_trans G36.out hg7
      have HSm : Hid (Calls Try.prog 8 #[tnV L'.I L'.O L'.S b3 L'.F.length d3 b4 L'.N.length d4 b5 L'.Y.length d5 b6 L'.E.length d6, tnV L'.I L'.O L'.S a3' L'.F.length c3' a4' L'.N.length c4' a5' L'.Y.length c5' a6' L'.E.length c6'] w7 (Says (.bool true) w7)) := sameR16_any L' b3 b4 b5 b6 a3' a4' a5' a6' d3 d4 d5 d6 c3' c4' c5' c6' w7 (HTL.out w7 G37.out) (HT6.out w7 hg7) (HK.out.many hI hn6) (by have := HK.out.n6; omega) HK.out.shp.hy HK.out.shp.he
      have bz := HB5.out w7 G37.out
      have bz2 := HB8.out w7 G67.out
      have x0 := bz.b0
      have x1 := bz.b1
      have x2 := bz.b2
      have x3 := bz.b3
      have x4 := bz.b4
      have x5 := bz.b5
      have x6 := bz.b6
      have y0 := bz2.b0
      have y1 := bz2.b1
      have y2 := bz2.b2
      have y3 := bz2.b3
      have y4 := bz2.b4
      have y5 := bz2.b5
      have y6 := bz2.b6
      clear hbb hg7 bz bz2 HLo
      go_wp2_with fail
      clear x0 x1 x2 x3 x4 x5 x6 y0 y1 y2 y3 y4 y5 y6
      refine HSm.out.mono ?_
      rintro E w8 ⟨rfl, hg8⟩
      have G8 : Hid (W1.grownBy w8 none) := grown_trans G7.out hg8
      have G38 : Hid (W3.grownBy w8 none) := grown_trans G37.out hg8
      have x0 := (BX.out w8 G8.out).b0
      clear hg8 HSm
      go_wp2_with fail
      refine (HMy.out w8 (grown_trans G1.out G8.out)).mono ?_
      rintro E w9 ⟨rfl, rfl⟩
      clear x0
      by_cases hm : mayF x.I zs = 0
      · obtain ⟨_, _, h60, us, hus, hl'⟩ := may_ns hm
        have hl : ∀ l ∈ us, l < I := fun l hl => by have := hl' l hl; rw [HxI.out, Int.toNat_natCast] at this; exact this
        have h60u : us.length ≤ 60 := by rw [hus, nsT_len] at h60; exact h60
        have HLn : Hid ((saysT x us).length ≤ 1000) := saysL_len HR.out us hl h60u
        have HR2 : Hid (∀ W, w.grownBy W none → Calls Try.prog 11 #[tnV x.I x.O x.S a3 x.F.length c3 a4 x.N.length c4 a5 x.Y.length c5 a6 x.E.length c6, .slice az zs.length cz] W (RunRP x us W)) := HRR.out us hus hl h60u
        have HR3 : Hid (∀ W, W3.grownBy W none → Calls Try.prog 11 #[tnV L'.I L'.O L'.S b3 L'.F.length d3 b4 L'.N.length d4 b5 L'.Y.length d5 b6 L'.E.length d6, .slice az zs.length cz] W (RunRP L' us W)) := fun W hW => HRL.out L' us b3 b4 b5 b6 d3 d4 d5 d6 (HK.out.read HLt.out) (by have := HK.out.n6; omega) hus hl h60u W (grown_trans G1.out (grown_trans G3.out hW)) (HTL.out W hW)
        have HSe : Hid (saysT L' us = saysT x us) := HK.out.says us hl
        have bb := BX.out w9 G8.out
        have x0 := bb.b0
        have x1 := bb.b1
        have x2 := bb.b2
        have x3 := bb.b3
        have x4 := bb.b4
        have x5 := bb.b5
        have x6 := bb.b6
        rw [hm]
        clear hm hus hl' hl h60 h60u HRR HRL HMy HCR HLR bb
        go_wp2_with fail
        clear x0 x1 x2 x3 x4 x5 x6
        refine (HR2.out w9 (grown_trans G1.out G8.out)).mono ?_
        rintro E wa ⟨aa, ca, rfl, hia, hga, _⟩
        have HIa : Hid (Ints wa aa (saysT x us)) := hia
        have G3a : Hid (W3.grownBy wa none) := grown_trans G38.out hga
        have Ga : Hid (W1.grownBy wa none) := grown_trans G8.out hga
        have bz := HB5.out wa G3a.out
        have x0 := bz.b0
        have x1 := bz.b1
        have x2 := bz.b2
        have x3 := bz.b3
        have x4 := bz.b4
        have x5 := bz.b5
        have x6 := bz.b6
        clear hia hga bz
        go_wp2_with fail
        clear x0 x1 x2 x3 x4 x5 x6
        refine (HR3.out wa G3a.out).mono ?_
        rintro E wb ⟨ab, cb, rfl, hib, hgb, _⟩
        rw [HSe.out] at hib ⊢
        have Gb : Hid (W1.grownBy wb none) := grown_trans Ga.out hgb
        have HWo : Hid (Calls Try.prog 12 #[.slice aa (saysT x us).length ca, .slice ab (saysT x us).length cb] wb (TellsB (SameW (saysT x us) (saysT x us)) wb)) :=
          wordsR_any aa ab ca cb _ _ wb (HIa.out.grown hgb) hib (by have := HLn.out; unfold maxLen; omega) (by have := HLn.out; unfold maxLen; omega)
        clear hib hgb
        go_wp2_with fail
        refine HWo.out.mono ?_
        rintro E wc ⟨bb, rfl, hbb, hgc⟩
        obtain rfl : bb = true := hbb.2 rfl
        have GF : Hid (w.grownBy wc none) := grown_trans G1.out (grown_trans Gb.out hgc)
        clear hbb hgc
        go_wp2_with fail
        go_ret
        exact ⟨rfl, GF.out⟩
      · have d2 : (mayF x.I zs != 0) = true := by simpa using hm
        have GF : Hid (w.grownBy w9 none) := grown_trans G1.out G8.out
        clear hm HRR HRL HMy HCR HLR
        go_wp2_with fail
        go_ret
        exact ⟨rfl, GF.out⟩
  · have HL : Hid (Calls Try.prog 4 #[tnV x.I x.O x.S a3 x.F.length c3 a4 x.N.length c4 a5 x.Y.length c5 a6 x.E.length c6] W1 (LeastBP x W1)) := leastE_bad x a3 a4 a5 a6 c3 c4 c5 c6 W1 (h.grown g1) hG
    clear hW1 g1 s1 bx h hk hz hmz HMy hG
    go_enter Try.func3, Try.ntmps3
    go_wp2_with fail
    rw [← HW1.out]
    clear x0 x1 x2 x3 x4 x5 x6
    refine HL.out.mono ?_
    rintro E w2 ⟨z, rfl, hz, hz0, hg2⟩
    have G2 : Hid (W1.grownBy w2 none) := hg2
    have HZ : Hid (ChkIs x z) := hz
    obtain ⟨W3, hW3, g3, s3, b3x⟩ := box7_new w2 0 0 0 none 0 0 none 0 0 none 0 0 none 0 0
    have G3 : Hid (W1.grownBy W3 none) := grown_trans G2.out g3
    have HW3 : Hid (W3 = _) := hW3
    have HB5 : Hid (∀ W, W3.grownBy W none → Box7 W w2.heap.size 0 0 0 none 0 0 none 0 0 none 0 0 none 0 0) := fun W hW => b3x.grown hW
    have bb := BX.out W3 G3.out
    have x0 := bb.b0
    have x1 := bb.b1
    have x2 := bb.b2
    have x3 := bb.b3
    have x4 := bb.b4
    have x5 := bb.b5
    have x6 := bb.b6
    rw [hW3] at x0 x1 x2 x3 x4 x5 x6
    clear hz hg2 hW3 g3 s3 b3x bb HL
    go_wp2_with fail
    rw [← HW3.out]
    clear x0 x1 x2 x3 x4 x5 x6
    refine (HCR.out W3 (grown_trans G1.out G3.out)).mono ?_
    rintro E w4 ⟨z2, rfl, hz2, hg4⟩
    obtain rfl : z2 = z := (hz2.all HZ.out).1
    have G4 : Hid (W1.grownBy w4 none) := grown_trans G3.out hg4
    have bz := HB5.out w4 hg4
    have x0 := bz.b0
    have x1 := bz.b1
    have x2 := bz.b2
    have x3 := bz.b3
    have x4 := bz.b4
    have x5 := bz.b5
    have x6 := bz.b6
    have HNo : Hid (Calls Try.prog 9 #[tnZ] w4 (Says (.bool true) w4)) := noTrans_zero w4
    have d1 : (z2 == 0) = false := by simpa using hz0
    have d2 : (z2 != 0) = true := by simpa using hz0
    have d3 : (z2 == z2) = true := by simp
    clear hz2 hg4 hz0 bz HCR
    go_wp2_with fail
    clear x0 x1 x2 x3 x4 x5 x6
    refine HNo.out.mono ?_
    rintro E w8 ⟨rfl, hg8⟩
    have GF : Hid (w.grownBy w8 none) := grown_trans G1.out (grown_trans G4.out hg8)
    clear hg8
    go_wp2_with fail
    go_ret
    exact ⟨rfl, GF.out⟩

theorem tleast_own : ownKnob Try.prog.godebug = none := by kernel_rfl

set_option maxRecDepth 100000 in
theorem tleast_lifted (os : Os) (started : os.Started) (H : Type) (enc : TypeId × Value → H) :
    ReturnsInHanded {} Try.checked os 3 .any (Rows.transLeastSpec.pre6 enc Try.prog Try.f3 Rows.transLeastRow.domain false) (Rows.transLeastSpec.post enc Try.prog Try.f3 false true false false) := by
  refine returnsInHanded_of_change_sized (C := Try.checked) tleast_own started (by kernel_rfl) Try.func3
    (ChangeSpec.witness6 (enc := enc) (C := Try.checked) false ⟨#[], #[.agg #[.int .i64 0, .int .i64 0, .int .i64 0, .slice none 0 0, .slice none 0 0, .slice none 0 0, .slice none 0 0], .slice none 0 0], []⟩ 8 (by kernel_rfl) (by kernel_rfl) (by kernel_rfl) (by kernel_rfl)) ?_
  intro W base args ds gs before hval0 hW hcnd hsz0 _
  have hval : ∀ (j : Nat) t v, Try.f3.params[j]? = some t → args[j]? = some v → Value.okWide Try.prog W .any base t v := hval0
  have hW' := hW
  obtain ⟨p, q, hA0, hV, rfl, hfz, hnd⟩ := hW
  have hA : DataW.TrodAll enc Try.prog W 0 (fun _ => true) true Try.f3.params.toList args.toList ds p := hA0
  rw [Try.params3] at hA hval
  obtain ⟨v0, vs0, d0, ds0, p0, q0, hargs, rfl, rfl, h0, r0⟩ := trodAll_cons hA
  obtain ⟨v1, vs1, d1, ds1, p1, q1, rfl, rfl, rfl, h1, r1⟩ := trodAll_cons r0
  obtain ⟨rfl, rfl, rfl⟩ := trodAll_nil r1
  obtain rfl : args = #[v0, v1] := by cases args; simp_all
  obtain ⟨rfl, rfl⟩ := trodVars_none hV
  have lt0 : ∀ x ∈ p0, x.block < W.heap.size := by obtain ⟨m, hm⟩ := h0; exact DataW.trod_lt m _ _ _ hm
  have lt1 : ∀ x ∈ p1, x.block < W.heap.size := by obtain ⟨m, hm⟩ := h1; exact DataW.trod_lt m _ _ _ hm
  obtain ⟨x, a3, a4, a5, a6, c3, c4, c5, c6, rfl, hD, _, _, _, hKC⟩ := tnC_of_trod (hval 0 26 v0 rfl rfl) h0
  obtain ⟨az, cz, zs, rfl, hz, hmz⟩ := slice_of_trod (hval 1 22 v1 rfl rfl) h1
  clear hA0 hval0 hsz0
  refine (tleast_walk x a3 a4 a5 a6 c3 c4 c5 c6 zs az cz W hD hKC hz hmz).mono fun E W' ⟨he, hg⟩ => ?_
  subst he
  have bel : Below W.heap.size W W' := below_of_grown hg
  exact ⟨_, rfl, _, _, _, [], _, [], hW', trodAll_mk1 (shut_bool Try.underlying4 _), (trodAll_cons_mk (Below.trod Try.laidOut (by kernel_rfl) (of_decide_eq_true (by kernel_rfl)) h0 bel lt0) (trodAll_cons_mk (Below.trod Try.laidOut (by kernel_rfl) (of_decide_eq_true (by kernel_rfl)) h1 bel lt1) trodAll_mk0)), rfl, bel.frame _, fun h => by cases h⟩

theorem transLeast_holds : Rows.TransLeastSaid :=
  OpenClaim.holds_of_wide 3 Try.f3 rfl rfl rfl rfl rfl rfl rfl ⟨rfl, rfl, rfl, rfl, rfl⟩ rfl rfl rfl rfl rfl (by kernel_rfl) Try.func3 (by kernel_rfl)
    (of_decide_eq_true (by kernel_rfl)) (by unfold Func.isWrapper; first | (rw [if_pos (by decide +kernel)]; kernel_rfl) | (rw [if_neg (by decide +kernel)]; exact ⟨rfl, rfl⟩))
    (fun os started H enc _ => tleast_lifted os started H enc)
#print axioms transLeast_holds
end Go.Proofs.Ytkcbdfgbmaeodaa
