/- Whether two transducers are the same: the reference's Same, of two that are one. -/
import Derived.Test.YtodcmlcpicabaaaTnRefA
import Derived.Deep.RegionHeld3
import Derived.Test.YtodcmlcpicabaaaRWord1
namespace Go.Proofs.Ytodcmlcpicabaaa
open Go.RowKit
set_option linter.unusedVariables false
set_option linter.unusedSimpArgs false

def SS8 (ba oa bb ob i : Nat) (v1 v2 : Value) (W : World) : Prop := W.cell? ⟨ba, oa + i, none⟩ = some v1 ∧ W.cell? ⟨bb, ob + i, none⟩ = some v2
theorem SS8.kept {ba oa bb ob i : Nat} {v1 v2 : Value} {W W' : World} (h : SS8 ba oa bb ob i v1 v2 W) (k : W.grownBy W' none) : SS8 ba oa bb ob i v1 v2 W' := ⟨k.cell h.1 (by simp), k.cell h.2 (by simp)⟩
def SS14 (bt bu : Nat) (v4 w4 : Value) (b4 o4 d4 p4 q : Nat) (v1 v2 : Value) (W : World) : Prop := W.cell? ⟨bt, 4, none⟩ = some v4 ∧ W.cell? ⟨bu, 4, none⟩ = some w4 ∧ W.cell? ⟨b4, o4 + q, none⟩ = some v1 ∧ W.cell? ⟨d4, p4 + q, none⟩ = some v2
theorem SS14.kept {bt bu : Nat} {v4 w4 : Value} {b4 o4 d4 p4 q : Nat} {v1 v2 : Value} {W W' : World} (h : SS14 bt bu v4 w4 b4 o4 d4 p4 q v1 v2 W) (k : W.grownBy W' none) : SS14 bt bu v4 w4 b4 o4 d4 p4 q v1 v2 W' := ⟨k.cell h.1 (by simp), k.cell h.2.1 (by simp), k.cell h.2.2.1 (by simp), k.cell h.2.2.2 (by simp)⟩

set_option maxHeartbeats 3200000 in
set_option maxRecDepth 100000 in
theorem sameR16_any (x : TrI) (a3 a4 a5 a6 b3 b4 b5 b6 : Option Addr) (c3 c4 c5 c6 e3 e4 e5 e6 : Nat) (w : World) (h : TnAt w x a3 a4 a5 a6) (h' : TnAt w x b3 b4 b5 b6) (hl : (sayR x).length ≤ 1000) (hN : x.N.length ≤ 1000) (hy : x.Y.length = x.N.length) (he : x.E.length = x.N.length) :
    Calls Try.prog 10 #[tnV x.I x.O x.S a3 x.F.length c3 a4 x.N.length c4 a5 x.Y.length c5 a6 x.E.length c6, tnV x.I x.O x.S b3 x.F.length e3 b4 x.N.length e4 b5 x.Y.length e5 b6 x.E.length e6] w (Says (.bool true) w) := by
  obtain ⟨W0, hW0, g0, s0, bx⟩ := box7_new w x.I x.O x.S a3 x.F.length c3 a4 x.N.length c4 a5 x.Y.length c5 a6 x.E.length c6
  obtain ⟨W1, hW1, g1, s1, bx'⟩ := box7_new W0 x.I x.O x.S b3 x.F.length e3 b4 x.N.length e4 b5 x.Y.length e5 b6 x.E.length e6
  rw [s0] at bx'
  have HW1 : Hid (W1 = (w.alloc (tnO x.I x.O x.S a3 x.F.length c3 a4 x.N.length c4 a5 x.Y.length c5 a6 x.E.length c6)).alloc (tnO x.I x.O x.S b3 x.F.length e3 b4 x.N.length e4 b5 x.Y.length e5 b6 x.E.length e6)) := by show _ = _; rw [hW1, hW0]
  have G1 : Hid (w.grownBy W1 none) := grown_trans g0 g1
  have HX1 : Hid (∀ W, W1.grownBy W none → Box7 W w.heap.size x.I x.O x.S a3 x.F.length c3 a4 x.N.length c4 a5 x.Y.length c5 a6 x.E.length c6) := fun W hW => bx.grown (grown_trans g1 hW)
  have HX2 : Hid (∀ W, W1.grownBy W none → Box7 W (w.heap.size + 1) x.I x.O x.S b3 x.F.length e3 b4 x.N.length e4 b5 x.Y.length e5 b6 x.E.length e6) := fun W hW => bx'.grown hW
  have HT1 : Hid (∀ W, W1.grownBy W none → TnAt W x a3 a4 a5 a6) := fun W hW => h.grown (grown_trans G1.out hW)
  have HT2 : Hid (∀ W, W1.grownBy W none → TnAt W x b3 b4 b5 b6) := fun W hW => h'.grown (grown_trans G1.out hW)
  have HC1 : Hid (Calls Try.prog 22 #[tnV x.I x.O x.S a3 x.F.length c3 a4 x.N.length c4 a5 x.Y.length c5 a6 x.E.length c6] W1 (WordsRP x W1)) := wordsR16_any x a3 a4 a5 a6 c3 c4 c5 c6 W1 (HT1.out W1 (grown_refl _ _)) hl
  have HC2 : Hid (∀ W, W1.grownBy W none → Calls Try.prog 22 #[tnV x.I x.O x.S b3 x.F.length e3 b4 x.N.length e4 b5 x.Y.length e5 b6 x.E.length e6] W (WordsRP x W)) := fun W hW => wordsR16_any x b3 b4 b5 b6 e3 e4 e5 e6 W (HT2.out W hW) hl
  have HL : Hid (x.Y.length = x.N.length ∧ x.E.length = x.N.length) := ⟨hy, he⟩
  have b1 := bx.grown g1
  have x0 := b1.b0
  have x1 := b1.b1
  have x2 := b1.b2
  have x3 := b1.b3
  have x4 := b1.b4
  have x5 := b1.b5
  have x6 := b1.b6
  rw [HW1.out] at x0 x1 x2 x3 x4 x5 x6
  clear hW0 hW1 g0 g1 s0 s1 bx bx' h h' b1 hy he
  go_enter Try.func10, Try.ntmps10
  go_wp2_with fail
  rw [← HW1.out]
  clear x0 x1 x2 x3 x4 x5 x6
  refine HC1.out.mono ?_
  rintro E w2 ⟨aw, cw, rfl, hrw, hg2, _⟩
  have G2 : Hid (W1.grownBy w2 none) := hg2
  have RW1 : Hid (∀ W, w2.grownBy W none → RowsAt W aw (sayR x)) := fun W hW => hrw.grown hW
  have b2 := HX2.out w2 hg2
  have x0 := b2.b0
  have x1 := b2.b1
  have x2 := b2.b2
  have x3 := b2.b3
  have x4 := b2.b4
  have x5 := b2.b5
  have x6 := b2.b6
  clear hrw hg2 b2 HC1
  go_wp2_with fail
  clear x0 x1 x2 x3 x4 x5 x6
  refine (HC2.out w2 G2.out).mono ?_
  rintro E w3 ⟨au, cu, rfl, hru, hg3, _⟩
  have G3 : Hid (W1.grownBy w3 none) := grown_trans G2.out hg3
  have RW : Hid (RowsAt w3 aw (sayR x) ∧ RowsAt w3 au (sayR x)) := ⟨RW1.out w3 hg3, hru⟩
  obtain ⟨L, hL⟩ : ∃ L, sayR x = L := ⟨_, rfl⟩
  rw [hL] at RW hl ⊢
  have b1 := HX1.out w3 G3.out
  have b2 := HX2.out w3 G3.out
  have x0 := b1.b0
  have x1 := b1.b1
  have x2 := b1.b2
  have x4 := b1.b4
  have x5 := b1.b5
  have x6 := b1.b6
  have y0 := b2.b0
  have y1 := b2.b1
  have y2 := b2.b2
  have y4 := b2.b4
  have y5 := b2.b5
  have y6 := b2.b6
  have hs0 : (x.I != x.I) = false := by simp
  have hs1 : (x.O != x.O) = false := by simp
  have hs2 : (x.S != x.S) = false := by simp
  have hs4 : ((x.N.length : Int) != (x.N.length : Int)) = false := by simp
  have hs5 : ((x.Y.length : Int) != (x.Y.length : Int)) = false := by simp
  have hs6 : ((x.E.length : Int) != (x.E.length : Int)) = false := by simp
  have hs7 : ((L.length : Int) != (L.length : Int)) = false := by simp
  clear hru hg3 b1 b2 hL RW1 HC2
  go_wp2_with fail
  clear x0 x1 x2 x4 x5 x6 y0 y1 y2 y4 y5 y6 hs0 hs1 hs2 hs4 hs5 hs6 hs7
  go_loopw [7] (fun v W => ∃ i : Nat, v = .int .i64 (i : Int) ∧ i ≤ L.length ∧ w3.grownBy W none) (fun v _ => L.length - (intOf v).toNat)
  case atStart => exact ⟨0, rfl, Nat.zero_le _, grown_refl _ _⟩
  case round =>
    obtain ⟨i, rfl, hi, hg⟩ := hrel
    have HG3 : Hid (w3.grownBy wr none) := hg
    clear hg
    by_cases hil : i < L.length
    · have ii : (i : Int) < (L.length : Int) := by omega
      obtain ⟨ba, oa, rfl, hca⟩ := (RW.out.1.grown HG3.out).at hil
      obtain ⟨bb, ob, rfl, hcb⟩ := (RW.out.2.grown HG3.out).at hil
      obtain ⟨r1, k1, c1, i1, m1⟩ := hca i hil
      obtain ⟨r2, k2, c2, i2, m2⟩ := hcb i hil
      have CE0 : ∀ W, wr.grownBy W none → Calls Try.prog 14 #[.slice r1 (L.getD i []).length k1, .slice r2 (L.getD i []).length k2] W (TellsB (SameW (L.getD i []) (L.getD i [])) W) := fun W hW => wordsR_any _ _ _ _ _ _ W (i1.grown hW) (i2.grown hW) m1 m2
      obtain ⟨u, hu⟩ : ∃ u, L.getD i [] = u := ⟨_, rfl⟩
      rw [hu] at CE0 c1 c2
      obtain ⟨nu, hnu⟩ : ∃ n, u.length = n := ⟨_, rfl⟩
      rw [hnu] at CE0 c1 c2
      have CE : Hid (∀ W, wr.grownBy W none → Calls Try.prog 14 #[.slice r1 nu k1, .slice r2 nu k2] W (TellsB (SameW u u) W)) := CE0
      have HG : Hid (w3.grownBy wr none) := HG3.out
      have S0 : Hid (SS8 ba oa bb ob i (.slice r1 nu k1) (.slice r2 nu k2) wr.drew) := ⟨c1, c2⟩
      clear hca hcb c1 c2 i1 i2 m1 m2 CE0 hu hnu
      go_wp2_with fail
      refine wp_region_held_drew (S := SS8 ba oa bb ob i (.slice r1 nu k1) (.slice r2 nu k2)) (by kernel_rfl) (S0.out) (fun hHeld => ?_)
      refine wpAnyH_take (i := 0) (v := ?_) rfl (by kernel_rfl) (by kernel_rfl) (by kernel_rfl) (fun _ _ _ h => h) (Or.inl ⟨by rfl, ?_⟩) (by assumption) ?_
      rotate_left
      · intro W hSw
        obtain ⟨q0, q1⟩ := hSw
        go_simp
        with_reducible rfl
      try simp only [Act.put, List.getElem_toArray, List.getElem_cons_succ, List.getElem_cons_zero, List.setIfInBounds_toArray, List.set_cons_zero, List.set_cons_succ]
      refine wpAnyH_take (i := 1) (v := ?_) rfl (by kernel_rfl) (by kernel_rfl) (by kernel_rfl) (fun _ _ _ h => h) (Or.inl ⟨by rfl, ?_⟩) (by assumption) ?_
      rotate_left
      · intro W hSw
        obtain ⟨q0, q1⟩ := hSw
        go_simp
        with_reducible rfl
      try simp only [Act.put, List.getElem_toArray, List.getElem_cons_succ, List.getElem_cons_zero, List.setIfInBounds_toArray, List.set_cons_zero, List.set_cons_succ]
      refine wpAnyH_take (i := 2) (v := ?_) rfl (by kernel_rfl) (by kernel_rfl) (by kernel_rfl) (fun _ _ _ h => h) (Or.inl ⟨by rfl, ?_⟩) (by assumption) ?_
      rotate_left
      · intro W hSw
        obtain ⟨q0, q1⟩ := hSw
        go_simp
        with_reducible rfl
      try simp only [Act.put, List.getElem_toArray, List.getElem_cons_succ, List.getElem_cons_zero, List.setIfInBounds_toArray, List.set_cons_zero, List.set_cons_succ]
      refine wpAnyH_take (i := 3) (v := ?_) rfl (by kernel_rfl) (by kernel_rfl) (by kernel_rfl) (fun _ _ _ h => h) (Or.inl ⟨by rfl, ?_⟩) (by assumption) ?_
      rotate_left
      · intro W hSw
        obtain ⟨q0, q1⟩ := hSw
        go_simp
        with_reducible rfl
      try simp only [Act.put, List.getElem_toArray, List.getElem_cons_succ, List.getElem_cons_zero, List.setIfInBounds_toArray, List.set_cons_zero, List.set_cons_succ]
      refine wpAnyH_take (i := 4) (v := ?_) rfl (by kernel_rfl) (by kernel_rfl) (by kernel_rfl) (fun _ _ _ h => h) (Or.inl ⟨by rfl, ?_⟩) (by assumption) ?_
      rotate_left
      · intro W hSw
        obtain ⟨q0, q1⟩ := hSw
        go_simp
        with_reducible rfl
      try simp only [Act.put, List.getElem_toArray, List.getElem_cons_succ, List.getElem_cons_zero, List.setIfInBounds_toArray, List.set_cons_zero, List.set_cons_succ]
      refine wpAnyH_take (i := 5) (v := ?_) rfl (by kernel_rfl) (by kernel_rfl) (by kernel_rfl) (fun _ _ _ h => h) (Or.inl ⟨by rfl, ?_⟩) (by assumption) ?_
      rotate_left
      · intro W hSw
        obtain ⟨q0, q1⟩ := hSw
        go_simp
        with_reducible rfl
      try simp only [Act.put, List.getElem_toArray, List.getElem_cons_succ, List.getElem_cons_zero, List.setIfInBounds_toArray, List.set_cons_zero, List.set_cons_succ]
      refine wpAnyH_take (i := 6) (v := ?_) rfl (by kernel_rfl) (by kernel_rfl) (by kernel_rfl) (fun _ _ _ h => h) (Or.inl ⟨by rfl, ?_⟩) (by assumption) ?_
      rotate_left
      · intro W hSw
        obtain ⟨q0, q1⟩ := hSw
        go_simp
        with_reducible rfl
      try simp only [Act.put, List.getElem_toArray, List.getElem_cons_succ, List.getElem_cons_zero, List.setIfInBounds_toArray, List.set_cons_zero, List.set_cons_succ]
      refine wpAnyH_take (i := 7) (v := ?_) rfl (by kernel_rfl) (by kernel_rfl) (by kernel_rfl) (fun _ _ _ h => h) (Or.inl ⟨by rfl, ?_⟩) (by assumption) ?_
      rotate_left
      · intro W hSw
        obtain ⟨q0, q1⟩ := hSw
        go_simp
        with_reducible rfl
      try simp only [Act.put, List.getElem_toArray, List.getElem_cons_succ, List.getElem_cons_zero, List.setIfInBounds_toArray, List.set_cons_zero, List.set_cons_succ]
      refine wpAnyH_ready (rs := [8]) (by kernel_rfl) (by simp) ?_
      refine AllReadyH.cons (o := _) rfl (fun K' hK => ?_) ?_
      · go_simp
        refine (CE.out _ (grown_drew (grown_refl _ _))).mono ?_
        rintro E w6 ⟨bb, rfl, hbb, hg6⟩
        obtain rfl : bb = true := hbb.2 rfl
        have G6 : Hid (w3.grownBy w6 none) := grown_trans HG.out (grown_trans (grown_drew (grown_refl _ _)) hg6)
        clear hbb
        go_wp2_with fail
        refine hK.out _ _ (hHeld.kept hg6) (fun hHeld => ?_)
        clear hK K'
        try simp only [Act.put, List.getElem_toArray, List.getElem_cons_succ, List.getElem_cons_zero, List.setIfInBounds_toArray, List.set_cons_zero, List.set_cons_succ]
        refine wpAnyH_ready (rs := [9]) (by kernel_rfl) (by simp) ?_
        refine AllReadyH.cons (o := _) rfl (fun K' hK => ?_) ?_
        · go_simp
          refine hK.out _ _ (by assumption) (fun hHeld => ?_)
          clear hK K'
          try simp only [Act.put, List.getElem_toArray, List.getElem_cons_succ, List.getElem_cons_zero, List.setIfInBounds_toArray, List.set_cons_zero, List.set_cons_succ]
          refine wpAnyH_done (by kernel_rfl) ?_ _
          clear S0 CE
          go_wp2_with fail
          go_roundw
          case rel => exact ⟨i + 1, by go_num, by omega, G6.out⟩
          case measure => simp [intOf]; omega
        exact AllReadyH.nil
      exact AllReadyH.nil
    · have ii : ¬ (i : Int) < (L.length : Int) := by omega
      have y4 := (HX1.out wr (grown_trans G3.out HG3.out)).b4
      have GW : Hid (W1.grownBy wr none) := grown_trans G3.out HG3.out
      clear HG3 RW hil
      go_wp2_with fail
      clear y4
      go_loopw [9] (fun v W => ∃ q : Nat, v = .int .i64 (q : Int) ∧ q ≤ x.N.length ∧ W1.grownBy W none) (fun v _ => x.N.length - (intOf v).toNat)
      case atStart => exact ⟨0, rfl, Nat.zero_le _, GW.out⟩
      case round =>
        clear GW
        obtain ⟨q, rfl, hq, hg⟩ := hrel
        have HG : Hid (W1.grownBy wr none) := hg
        have z4 := (HX1.out wr hg).b4
        clear hg
        by_cases hqn : q < x.N.length
        · have iq : (q : Int) < (x.N.length : Int) := by omega
          have iq5 : (q : Int) < (x.Y.length : Int) := by rw [HL.out.1]; exact iq
          have hq5 : q < x.Y.length := by rw [HL.out.1]; exact hqn
          obtain ⟨b4', o4, e4a, hca⟩ := ((HT1.out wr HG.out).next).at hqn
          obtain ⟨d4', p4, e4b, hcb⟩ := ((HT2.out wr HG.out).next).at hqn
          obtain ⟨r1, k1, c1, i1, m1⟩ := hca q hqn
          obtain ⟨r2, k2, c2, i2, m2⟩ := hcb q hqn
          obtain ⟨b5', o5, e5a, hcy⟩ := ((HT1.out W1 (grown_refl _ _)).says).at hq5
          obtain ⟨d5', p5, e5b, hcz⟩ := ((HT2.out W1 (grown_refl _ _)).says).at hq5
          obtain ⟨s1, j1, cy1, _, _⟩ := hcy q hq5
          obtain ⟨s2, j2, cy2, _, _⟩ := hcz q hq5
          have CE0 : ∀ W, wr.grownBy W none → Calls Try.prog 14 #[.slice r1 (x.N.getD q []).length k1, .slice r2 (x.N.getD q []).length k2] W (TellsB (SameW (x.N.getD q []) (x.N.getD q [])) W) := fun W hW => wordsR_any _ _ _ _ _ _ W (i1.grown hW) (i2.grown hW) m1 m2
          obtain ⟨u, hu⟩ : ∃ u, x.N.getD q [] = u := ⟨_, rfl⟩
          rw [hu] at CE0 c1 c2
          obtain ⟨nu, hnu⟩ : ∃ n, u.length = n := ⟨_, rfl⟩
          rw [hnu] at CE0 c1 c2
          obtain ⟨nr, hnr⟩ : ∃ n, (x.Y.getD q []).length = n := ⟨_, rfl⟩
          rw [hnr] at cy1 cy2
          subst e4a e4b e5a e5b
          have CE : Hid (∀ W, wr.grownBy W none → Calls Try.prog 14 #[.slice r1 nu k1, .slice r2 nu k2] W (TellsB (SameW u u) W)) := CE0
          have HY1 : Hid (∀ W, W1.grownBy W none → W.cell? ⟨b5', o5 + q, none⟩ = some (.slice s1 nr j1) ∧ W.cell? ⟨d5', p5 + q, none⟩ = some (.slice s2 nr j2)) := fun W hW => ⟨hW.cell cy1 (by simp), hW.cell cy2 (by simp)⟩
          have S0 : Hid (SS14 w.heap.size (w.heap.size + 1) (.slice (some ⟨b4', o4, none⟩) x.N.length c4) (.slice (some ⟨d4', p4, none⟩) x.N.length e4) b4' o4 d4' p4 q (.slice r1 nu k1) (.slice r2 nu k2) wr.drew) := ⟨(HX1.out wr HG.out).b4, (HX2.out wr HG.out).b4, c1, c2⟩
          clear hca hcb c1 c2 i1 i2 m1 m2 CE0 hu hnu hcy hcz cy1 cy2 hnr
          go_wp2_with fail
          clear z4
          refine wp_region_held_drew (S := SS14 w.heap.size (w.heap.size + 1) (.slice (some ⟨b4', o4, none⟩) x.N.length c4) (.slice (some ⟨d4', p4, none⟩) x.N.length e4) b4' o4 d4' p4 q (.slice r1 nu k1) (.slice r2 nu k2)) (by kernel_rfl) (S0.out) (fun hHeld => ?_)
          refine wpAnyH_take (i := 0) (v := ?_) rfl (by kernel_rfl) (by kernel_rfl) (by kernel_rfl) (fun _ _ _ h => h) (Or.inl ⟨by rfl, ?_⟩) (by assumption) ?_
          rotate_left
          · intro W hSw
            obtain ⟨q0, q1, q2, q3⟩ := hSw
            go_simp
            with_reducible rfl
          try simp only [Act.put, List.getElem_toArray, List.getElem_cons_succ, List.getElem_cons_zero, List.setIfInBounds_toArray, List.set_cons_zero, List.set_cons_succ]
          refine wpAnyH_take (i := 1) (v := ?_) rfl (by kernel_rfl) (by kernel_rfl) (by kernel_rfl) (fun _ _ _ h => h) (Or.inl ⟨by rfl, ?_⟩) (by assumption) ?_
          rotate_left
          · intro W hSw
            obtain ⟨q0, q1, q2, q3⟩ := hSw
            go_simp
            with_reducible rfl
          try simp only [Act.put, List.getElem_toArray, List.getElem_cons_succ, List.getElem_cons_zero, List.setIfInBounds_toArray, List.set_cons_zero, List.set_cons_succ]
          refine wpAnyH_take (i := 2) (v := ?_) rfl (by kernel_rfl) (by kernel_rfl) (by kernel_rfl) (fun _ _ _ h => h) (Or.inl ⟨by rfl, ?_⟩) (by assumption) ?_
          rotate_left
          · intro W hSw
            obtain ⟨q0, q1, q2, q3⟩ := hSw
            go_simp
            with_reducible rfl
          try simp only [Act.put, List.getElem_toArray, List.getElem_cons_succ, List.getElem_cons_zero, List.setIfInBounds_toArray, List.set_cons_zero, List.set_cons_succ]
          refine wpAnyH_take (i := 3) (v := ?_) rfl (by kernel_rfl) (by kernel_rfl) (by kernel_rfl) (fun _ _ _ h => h) (Or.inl ⟨by rfl, ?_⟩) (by assumption) ?_
          rotate_left
          · intro W hSw
            obtain ⟨q0, q1, q2, q3⟩ := hSw
            go_simp
            with_reducible rfl
          try simp only [Act.put, List.getElem_toArray, List.getElem_cons_succ, List.getElem_cons_zero, List.setIfInBounds_toArray, List.set_cons_zero, List.set_cons_succ]
          refine wpAnyH_take (i := 4) (v := ?_) rfl (by kernel_rfl) (by kernel_rfl) (by kernel_rfl) (fun _ _ _ h => h) (Or.inl ⟨by rfl, ?_⟩) (by assumption) ?_
          rotate_left
          · intro W hSw
            obtain ⟨q0, q1, q2, q3⟩ := hSw
            go_simp
            with_reducible rfl
          try simp only [Act.put, List.getElem_toArray, List.getElem_cons_succ, List.getElem_cons_zero, List.setIfInBounds_toArray, List.set_cons_zero, List.set_cons_succ]
          refine wpAnyH_take (i := 5) (v := ?_) rfl (by kernel_rfl) (by kernel_rfl) (by kernel_rfl) (fun _ _ _ h => h) (Or.inl ⟨by rfl, ?_⟩) (by assumption) ?_
          rotate_left
          · intro W hSw
            obtain ⟨q0, q1, q2, q3⟩ := hSw
            go_simp
            with_reducible rfl
          try simp only [Act.put, List.getElem_toArray, List.getElem_cons_succ, List.getElem_cons_zero, List.setIfInBounds_toArray, List.set_cons_zero, List.set_cons_succ]
          refine wpAnyH_take (i := 6) (v := ?_) rfl (by kernel_rfl) (by kernel_rfl) (by kernel_rfl) (fun _ _ _ h => h) (Or.inl ⟨by rfl, ?_⟩) (by assumption) ?_
          rotate_left
          · intro W hSw
            obtain ⟨q0, q1, q2, q3⟩ := hSw
            go_simp
            with_reducible rfl
          try simp only [Act.put, List.getElem_toArray, List.getElem_cons_succ, List.getElem_cons_zero, List.setIfInBounds_toArray, List.set_cons_zero, List.set_cons_succ]
          refine wpAnyH_take (i := 7) (v := ?_) rfl (by kernel_rfl) (by kernel_rfl) (by kernel_rfl) (fun _ _ _ h => h) (Or.inl ⟨by rfl, ?_⟩) (by assumption) ?_
          rotate_left
          · intro W hSw
            obtain ⟨q0, q1, q2, q3⟩ := hSw
            go_simp
            with_reducible rfl
          try simp only [Act.put, List.getElem_toArray, List.getElem_cons_succ, List.getElem_cons_zero, List.setIfInBounds_toArray, List.set_cons_zero, List.set_cons_succ]
          refine wpAnyH_take (i := 8) (v := ?_) rfl (by kernel_rfl) (by kernel_rfl) (by kernel_rfl) (fun _ _ _ h => h) (Or.inl ⟨by rfl, ?_⟩) (by assumption) ?_
          rotate_left
          · intro W hSw
            obtain ⟨q0, q1, q2, q3⟩ := hSw
            go_simp
            with_reducible rfl
          try simp only [Act.put, List.getElem_toArray, List.getElem_cons_succ, List.getElem_cons_zero, List.setIfInBounds_toArray, List.set_cons_zero, List.set_cons_succ]
          refine wpAnyH_take (i := 9) (v := ?_) rfl (by kernel_rfl) (by kernel_rfl) (by kernel_rfl) (fun _ _ _ h => h) (Or.inl ⟨by rfl, ?_⟩) (by assumption) ?_
          rotate_left
          · intro W hSw
            obtain ⟨q0, q1, q2, q3⟩ := hSw
            go_simp
            with_reducible rfl
          try simp only [Act.put, List.getElem_toArray, List.getElem_cons_succ, List.getElem_cons_zero, List.setIfInBounds_toArray, List.set_cons_zero, List.set_cons_succ]
          refine wpAnyH_ready (rs := [10]) (by kernel_rfl) (by simp) ?_
          refine AllReadyH.cons (o := _) rfl (fun K' hK => ?_) ?_
          · go_simp
            refine (CE.out _ (grown_drew (grown_refl _ _))).mono ?_
            rintro E w6 ⟨bb, rfl, hbb, hg6⟩
            obtain rfl : bb = true := hbb.2 rfl
            have G6 : Hid (W1.grownBy w6 none) := grown_trans HG.out (grown_trans (grown_drew (grown_refl _ _)) hg6)
            clear hbb
            go_wp2_with fail
            refine hK.out _ _ (hHeld.kept hg6) (fun hHeld => ?_)
            clear hK K'
            try simp only [Act.put, List.getElem_toArray, List.getElem_cons_succ, List.getElem_cons_zero, List.setIfInBounds_toArray, List.set_cons_zero, List.set_cons_succ]
            refine wpAnyH_ready (rs := [11]) (by kernel_rfl) (by simp) ?_
            refine AllReadyH.cons (o := _) rfl (fun K' hK => ?_) ?_
            · go_simp
              refine hK.out _ _ (by assumption) (fun hHeld => ?_)
              clear hK K'
              try simp only [Act.put, List.getElem_toArray, List.getElem_cons_succ, List.getElem_cons_zero, List.setIfInBounds_toArray, List.set_cons_zero, List.set_cons_succ]
              refine wpAnyH_done (by kernel_rfl) ?_ _
              clear S0 CE
              obtain ⟨m1, m2⟩ := HY1.out w6 G6.out
              have y5 := (HX1.out w6 G6.out).b5
              have y5' := (HX2.out w6 G6.out).b5
              have hself : ((nr : Int) != (nr : Int)) = false := by simp
              go_wp2_with fail
              go_quiet (fail)
              go_wp2_with fail
              go_roundw
              case rel => exact ⟨q + 1, by go_num, by omega, grown_drewN G6.out _⟩
              case measure => simp [intOf]; omega
            exact AllReadyH.nil
          exact AllReadyH.nil
        · have iq : ¬ (q : Int) < (x.N.length : Int) := by omega
          have GF : Hid (w.grownBy wr none) := grown_trans G1.out HG.out
          go_wp2_with fail
          first | exact ⟨rfl, GF.out⟩ | (go_ret; exact ⟨rfl, GF.out⟩)

end Go.Proofs.Ytodcmlcpicabaaa
