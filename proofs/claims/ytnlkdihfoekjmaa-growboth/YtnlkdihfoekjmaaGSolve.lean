/- The solver's solve (McNaughton, Zielonka). -/
import Derived.Test.YtnlkdihfoekjmaaGSt
namespace Go.Proofs.Ytnlkdihfoekjmaa
open Go.RowKit
set_option linter.unusedVariables false

set_option maxHeartbeats 6400000 in
set_option maxRecDepth 100000 in
theorem solve_step (N : Nat) (ih : SolveC N) : SolveC (N + 1) := by
  intro G fr B g c P W M w hG hF hcn hSt hP hS
  have IH : Hid (SolveC N) := ih
  have GD : Hid (GoodG G) := hG
  have FO : Hid (FrOk G fr) := hF
  have S0 : Hid (St G fr B w W M) := hSt
  have P0 : Hid (SetR B G.n w g c P) := hP
  have L0 : Hid (Lp G P W M P W M) := Lp.start hS W M
  have hn := hG.n60
  have HCn : Hid (cntL P (List.range G.n) < N + 1) := hcn
  obtain ⟨Po, hPo⟩ : ∃ Po, Po = SolveQ G fr B P W M w := ⟨_, rfl⟩
  have HPo : Hid (Po = SolveQ G fr B P W M w) := hPo
  rw [← hPo]
  obtain ⟨n, hnn⟩ : ∃ n, G.n = n := ⟨_, rfl⟩
  have HN : Hid (G.n = n) := hnn
  rw [hnn] at hn ⊢
  clear ih hG hF hcn hSt hP hS hPo hnn
  go_enter Try.func29, Try.ntmps29
  go_wp2_with fail
  go_loopw [1] (fun u wr => ∃ (g c : Nat) (Q : Nat → Bool) (Wc Mc : Nat → Int), u = .slice (some ⟨g, 0, none⟩) n c ∧ SetR B n wr g c Q ∧ St G fr B wr Wc Mc ∧ Turn (WM B) w wr ∧ Lp G P W M Q Wc Mc ∧ cntL Q (List.range n) < N + 1) (fun u wr => cntW u wr)
  case atStart => exact ⟨g, c, P, W, M, rfl, HN.out ▸ P0.out, S0.out, Turn.refl _ _, L0.out, HN.out ▸ HCn.out⟩
  case round =>
    clear P0 S0 L0 HCn
    obtain ⟨g, c, Q, Wc, Mc, rfl, hq, hst, ht, hl, hcn⟩ := hrel
    have QS : Hid (SetR B n wr g c Q) := hq
    have ST : Hid (St G fr B wr Wc Mc) := hst
    have TT : Hid (Turn (WM B) w wr) := ht
    have LP : Hid (Lp G P W M Q Wc Mc) := hl
    have HCn : Hid (cntL Q (List.range n) < N + 1) := hcn
    have HCW : Hid (cntW (.slice (some ⟨g, 0, none⟩) n c) wr = cntL Q (List.range n)) := cntW_eq hq.row
    have CE : Hid (Calls Try.prog 35 #[.slice (some ⟨g, 0, none⟩) n c] wr fun e w' => e = .returned (.bool (!anyB n Q)) ∧ w' = wr) := isEmpty_any n g c Q wr hq.row hn
    obtain ⟨b, hb⟩ : ∃ b, anyB n Q = b := ⟨_, rfl⟩
    have HB : Hid (anyB n Q = b) := hb
    rw [hb] at CE
    clear hq hst ht hl hcn hb
    go_wp2_with fail
    refine CE.out.mono ?_
    rintro E w2 ⟨rfl, rfl⟩
    clear CE
    cases b with
    | false =>
      have HE : Hid (∀ p, Q p = false) := fun p => by
        cases e : Q p with
        | false => rfl
        | true =>
          have h1 := (LP.out.sub p e).1
          rw [HN.out] at h1
          have := (anyB_no.1 HB.out) p h1
          rw [e] at this; cases this
      go_wp2_with fail
      go_end0
      rw [HPo.out]
      exact ⟨Wc, Mc, rfl, ST.out, LP.out.out, LP.out.fin Wc Mc (fun _ _ => ⟨rfl, rfl⟩) (Solved.none HE.out _ _), TT.out⟩
    | true =>
      have CL : Hid (Calls Try.prog 36 #[.pointer (some ⟨B.s, 0, none⟩), .slice (some ⟨g, 0, none⟩) n c] w2 (LowPost G Q w2)) := by
        have := leastMark_any G fr B g c Q w2 ST.out.ready (by rw [HN.out]; exact QS.out.row) (by rw [HN.out]; exact hn)
        rwa [HN.out] at this
      go_wp2_with fail
      refine CL.out.mono ?_
      rintro E w3 ⟨y, rfl, hlow, hg3⟩
      have T3 : Hid (Turn (WM B) w2 w3) := Turn.of hg3
      have S3 : Hid (St G fr B w3 Wc Mc) := ST.out.grown hg3
      have Q3 : Hid (SetR B n w3 g c Q) := QS.out.turn T3.out
      obtain ⟨p0, hp0n, hp0⟩ := anyB_iff.1 HB.out
      -- the least mark is the mark of some place
      have HLow : Hid (∀ p, Q p = true → y ≤ G.mark p) := fun p hp => hlow.1 p (plcs_mem.2 ⟨(LP.out.sub p hp).1, hp⟩)
      have HBst : Hid (∃ p, p < n ∧ Q p = true ∧ G.mark p = y) := by
        rcases hlow.2 with e | ⟨p, hp, e⟩
        · have h1 := HLow.out p0 hp0
          have h2 := (GD.out.mark p0 (by rw [HN.out]; exact hp0n)).2
          exact ⟨p0, hp0n, hp0, by omega⟩
        · have := plcs_mem.1 hp
          exact ⟨p, by rw [← HN.out]; exact this.1, this.2, e⟩
      have hy : 0 ≤ y ∧ y ≤ 9 := by
        obtain ⟨p, hp, _, e⟩ := HBst.out
        have := GD.out.mark p (by rw [HN.out]; exact hp)
        omega
      obtain ⟨i, hti, hmi, hi01⟩ := tmod2 hy.1
      have HMi : Hid (y % 2 = i) := hmi
      have hi : 0 ≤ i ∧ i ≤ 1 := by omega
      have HI : Hid ((i = 0 ∧ (1 - i) = 1) ∨ (i = 1 ∧ (1 - i) = 0)) := by rcases hi01 with rfl | rfl <;> simp [Hid]
      have HOwn : Hid (∀ p, Q p = true → G.own p = i ∨ G.own p = 1 - i) := fun p hp => by
        have h1 := GD.out.own p (LP.out.sub p hp).1
        rcases hi01 with rfl | rfl
        · rcases h1 with e | e <;> simp [e]
        · rcases h1 with e | e <;> simp [e]
      have CM : Hid (Calls Try.prog 37 #[.pointer (some ⟨B.s, 0, none⟩), .int .i64 y, .slice (some ⟨g, 0, none⟩) n c] w3 (SetQ G fr B Wc Mc (fun p => Q p && decide (G.mark p = y)) w3)) := by
        have := marked_any G fr B g c y Q w3 S3.out.ready (by rw [HN.out]; exact Q3.out.row) (by rw [HN.out]; exact hn)
        rw [HN.out] at this
        exact this.mono fun E w' h => S3.out.setq (by rw [HN.out]; exact h)
      clear hlow hg3 hp0 hp0n hmi CL hi01
      go_wp2_with fail
      refine CM.out.mono ?_
      rintro E w4 ⟨gb, cb, rfl, hb4, hs4, ht4⟩
      rw [HN.out] at hb4 ⊢
      have S4 : Hid (St G fr B w4 Wc Mc) := hs4
      have B4 : Hid (SetR B n w4 gb cb (fun p => Q p && decide (G.mark p = y))) := hb4
      have T4 : Hid (Turn (WM B) w w4) := (TT.out.trans T3.out (fun _ e => .inl e)).trans ht4 (fun _ e => .inl e)
      have Q4 : Hid (SetR B n w4 g c Q) := Q3.out.turn ht4
      have CD : Hid (Calls Try.prog 39 #[.pointer (some ⟨B.s, 0, none⟩), .int .i64 i, .slice (some ⟨gb, 0, none⟩) n cb, .slice (some ⟨g, 0, none⟩) n c] w4 (DrawQ G fr B i (fun p => Q p && decide (G.mark p = y)) Q Wc Mc w4)) := by
        have := drawn_any G fr B gb cb g c i (fun p => Q p && decide (G.mark p = y)) Q Mc w4 S4.out.ready (by rw [HN.out]; exact B4.out.row) (by rw [HN.out]; exact Q4.out.row) S4.out.mov GD.out FO.out LP.out.sub (fun q hq => by simp at hq; exact hq.1)
        rw [HN.out] at this
        exact this.mono fun E w' h => S4.out.drawq h
      clear CM hb4 hs4 ht4 T3 S3 Q3 TT ST QS
      go_wp2_with fail
      refine CD.out.mono ?_
      rintro E w5 ⟨ga, ca, aa, M1, ρ1, rfl, ha5, hs5, hd5, ht5⟩
      rw [HN.out] at ha5 ⊢
      have S5 : Hid (St G fr B w5 Wc M1) := hs5
      have A5 : Hid (SetR B n w5 ga ca aa) := ha5
      have DA : Hid (Drawn G i (fun p => Q p && decide (G.mark p = y)) Q aa Mc M1 ρ1) := hd5
      have T5 : Hid (Turn (WM B) w w5) := T4.out.trans ht5 (fun _ e => .inl e)
      have Q5 : Hid (SetR B n w5 g c Q) := Q4.out.turn ht5
      have B5 : Hid (SetR B n w5 gb cb (fun p => Q p && decide (G.mark p = y))) := B4.out.turn ht5
      have CW : Hid (Calls Try.prog 38 #[.slice (some ⟨g, 0, none⟩) n c, .slice (some ⟨ga, 0, none⟩) n ca] w5 (SetQ G fr B Wc M1 (less Q aa) w5)) := by
        have := without_any n g c ga ca Q aa w5 Q5.out.row A5.out.row (by rw [← HN.out]; exact GD.out.n1) hn
        exact this.mono fun E w' h => S5.out.setq (by rw [HN.out]; exact h)
      clear CD ha5 hs5 hd5 ht5 T4 S4 Q4 B4
      go_wp2_with fail
      refine CW.out.mono ?_
      rintro E w6 ⟨gl, cl, rfl, hl6, hs6, ht6⟩
      rw [HN.out] at hl6 ⊢
      have S6 : Hid (St G fr B w6 Wc M1) := hs6
      have L6 : Hid (SetR B n w6 gl cl (less Q aa)) := hl6
      have T6 : Hid (Turn (WM B) w w6) := T5.out.trans ht6 (fun _ e => .inl e)
      have Q6 : Hid (SetR B n w6 g c Q) := Q5.out.turn ht6
      have B6 : Hid (SetR B n w6 gb cb (fun p => Q p && decide (G.mark p = y))) := B5.out.turn ht6
      have CS : Hid (Calls Try.prog 29 #[.pointer (some ⟨B.s, 0, none⟩), .slice (some ⟨gl, 0, none⟩) n cl] w6 (SolveQ G fr B (less Q aa) Wc M1 w6)) := by
        have hlt : cntL (less Q aa) (List.range G.n) < N := by
          obtain ⟨p, hp, hqp, e⟩ := HBst.out
          have h1 := cntL_less (n := n) (a := aa) hp hqp (DA.out.sub p (by simp [hqp, e]))
          have h2 := HCn.out
          rw [HN.out]
          omega
        have := IH.out G fr B gl cl (less Q aa) Wc M1 w6 GD.out FO.out hlt S6.out (by rw [HN.out]; exact L6.out) (DA.out.rest LP.out.sub)
        rwa [HN.out] at this
      clear CW hl6 hs6 ht6 T5 S5 Q5 B5 A5
      go_wp2_with fail
      refine CS.out.mono ?_
      rintro E w7 ⟨W1, M1', rfl, hs7, hsame, hsol, ht7⟩
      have S7 : Hid (St G fr B w7 W1 M1') := hs7
      have HSa : Hid (∀ p, less Q aa p = false → W1 p = Wc p ∧ M1' p = M1 p) := hsame
      have HSo : Hid (Solved G (less Q aa) W1 M1') := hsol
      have T7 : Hid (Turn (WM B) w w7) := T6.out.trans ht7 (fun _ e => .inl e)
      have Q7 : Hid (SetR B n w7 g c Q) := Q6.out.turn ht7
      have B7 : Hid (SetR B n w7 gb cb (fun p => Q p && decide (G.mark p = y))) := B6.out.turn ht7
      have L7 : Hid (SetR B n w7 gl cl (less Q aa)) := L6.out.turn ht7
      have CB : Hid (Calls Try.prog 40 #[.pointer (some ⟨B.s, 0, none⟩), .int .i64 (1 - i), .slice (some ⟨gl, 0, none⟩) n cl] w7 (SetQ G fr B W1 M1' (fun p => less Q aa p && decide (W1 p = 1 - i)) w7)) := by
        have := wonBy_any G fr B gl cl (1 - i) (less Q aa) W1 w7 S7.out.ready (by rw [HN.out]; exact L7.out.row) S7.out.won (by rw [HN.out]; exact hn)
        rw [HN.out] at this
        exact this.mono fun E w' h => S7.out.setq (by rw [HN.out]; exact h)
      clear CS hs7 hsame hsol ht7 T6 S6 Q6 B6 L6
      go_wp2_with fail
      refine CB.out.mono ?_
      rintro E w8 ⟨gt, ct, rfl, hl8, hs8, ht8⟩
      rw [HN.out] at hl8 ⊢
      have S8 : Hid (St G fr B w8 W1 M1') := hs8
      have X8 : Hid (SetR B n w8 gt ct (fun p => less Q aa p && decide (W1 p = 1 - i))) := hl8
      have T8 : Hid (Turn (WM B) w w8) := T7.out.trans ht8 (fun _ e => .inl e)
      have Q8 : Hid (SetR B n w8 g c Q) := Q7.out.turn ht8
      have B8 : Hid (SetR B n w8 gb cb (fun p => Q p && decide (G.mark p = y))) := B7.out.turn ht8
      have CT : Hid (Calls Try.prog 39 #[.pointer (some ⟨B.s, 0, none⟩), .int .i64 (1 - i), .slice (some ⟨gt, 0, none⟩) n ct, .slice (some ⟨g, 0, none⟩) n c] w8 (DrawQ G fr B (1 - i) (fun p => less Q aa p && decide (W1 p = 1 - i)) Q W1 M1' w8)) := by
        have := drawn_any G fr B gt ct g c (1 - i) (fun p => less Q aa p && decide (W1 p = 1 - i)) Q M1' w8 S8.out.ready (by rw [HN.out]; exact X8.out.row) (by rw [HN.out]; exact Q8.out.row) S8.out.mov GD.out FO.out LP.out.sub (fun q hq => by simp at hq; exact (less_iff.1 hq.1).1)
        rw [HN.out] at this
        exact this.mono fun E w' h => S8.out.drawq h
      clear CB hl8 hs8 ht8 T7 S7 Q7 B7 L7
      go_wp2_with fail
      refine CT.out.mono ?_
      rintro E w9 ⟨gk, ck, taken, M2, ρ2, rfl, hk9, hs9, hd9, ht9⟩
      rw [HN.out] at hk9 ⊢
      have S9 : Hid (St G fr B w9 W1 M2) := hs9
      have K9 : Hid (SetR B n w9 gk ck taken) := hk9
      have RD : Hid (Rd G Q Wc Mc y i (1 - i) aa M1 ρ1 W1 M1' taken M2 ρ2) := ⟨HI.out, HMi.out, HLow.out, HOwn.out, DA.out, HSa.out, HSo.out, hd9⟩
      have T9 : Hid (Turn (WM B) w w9) := T8.out.trans ht9 (fun _ e => .inl e)
      have Q9 : Hid (SetR B n w9 g c Q) := Q8.out.turn ht9
      have B9 : Hid (SetR B n w9 gb cb (fun p => Q p && decide (G.mark p = y))) := B8.out.turn ht9
      have X9 : Hid (SetR B n w9 gt ct (fun p => less Q aa p && decide (W1 p = 1 - i))) := X8.out.turn ht9
      have CG : Hid (Calls Try.prog 41 #[.pointer (some ⟨B.s, 0, none⟩), .int .i64 (1 - i), .slice (some ⟨gk, 0, none⟩) n ck] w9 (StQ G fr B (giveF taken (1 - i) W1) M2 w9)) := by
        have := give_any G fr B gk ck (1 - i) taken W1 w9 S9.out.ready (by rw [HN.out]; exact K9.out.row) S9.out.won (by rw [HN.out]; exact hn)
        rw [HN.out] at this
        exact this.mono fun E w' h => S9.out.giveq h
      clear CT hk9 hs9 hd9 ht9 T8 S8 Q8 B8 X8
      go_wp2_with fail
      refine CG.out.mono ?_
      rintro E w10 ⟨rfl, hs10, ht10⟩
      have S10 : Hid (St G fr B w10 (giveF taken (1 - i) W1) M2) := hs10
      have K10 : Hid (SetR B n w10 gk ck taken) := K9.out.turn ht10
      have T10 : Hid (Turn (WM B) w w10) := T9.out.trans ht10 (fun _ e => .inl e)
      have Q10 : Hid (SetR B n w10 g c Q) := Q9.out.turn ht10
      have B10 : Hid (SetR B n w10 gb cb (fun p => Q p && decide (G.mark p = y))) := B9.out.turn ht10
      have X10 : Hid (SetR B n w10 gt ct (fun p => less Q aa p && decide (W1 p = 1 - i))) := X9.out.turn ht10
      have CW : Hid (Calls Try.prog 38 #[.slice (some ⟨g, 0, none⟩) n c, .slice (some ⟨gk, 0, none⟩) n ck] w10 (SetQ G fr B (giveF taken (1 - i) W1) M2 (less Q taken) w10)) := by
        have := without_any n g c gk ck Q taken w10 Q10.out.row K10.out.row (by rw [← HN.out]; exact GD.out.n1) hn
        exact this.mono fun E w' h => S10.out.setq (by rw [HN.out]; exact h)
      clear CG hs10 ht10 T9 S9 Q9 B9 X9 K9
      go_wp2_with fail
      refine CW.out.mono ?_
      rintro E w11 ⟨gr, cr, rfl, hr11, hs11, ht11⟩
      rw [HN.out] at hr11 ⊢
      have S11 : Hid (St G fr B w11 (giveF taken (1 - i) W1) M2) := hs11
      have R11 : Hid (SetR B n w11 gr cr (less Q taken)) := hr11
      have K11 : Hid (SetR B n w11 gk ck taken) := K10.out.turn ht11
      have T11 : Hid (Turn (WM B) w w11) := T10.out.trans ht11 (fun _ e => .inl e)
      have B11 : Hid (SetR B n w11 gb cb (fun p => Q p && decide (G.mark p = y))) := B10.out.turn ht11
      have X11 : Hid (SetR B n w11 gt ct (fun p => less Q aa p && decide (W1 p = 1 - i))) := X10.out.turn ht11
      have CQ : Hid (Calls Try.prog 42 #[.slice (some ⟨gk, 0, none⟩) n ck, .slice (some ⟨gt, 0, none⟩) n ct] w11 fun e w' => e = .returned (.bool (eqB n taken (fun p => less Q aa p && decide (W1 p = 1 - i)))) ∧ w11.grownBy w' none) := equal_any n gk ck gt ct taken _ w11 K11.out.row X11.out.row hn
      clear CW hr11 hs11 ht11 T10 S10 Q10 B10 X10 K10
      obtain ⟨be, hbe⟩ : ∃ be, eqB n taken (fun p => less Q aa p && decide (W1 p = 1 - i)) = be := ⟨_, rfl⟩
      have HBe : Hid (eqB n taken (fun p => less Q aa p && decide (W1 p = 1 - i)) = be) := hbe
      rw [hbe] at CQ
      clear hbe
      go_wp2_with fail
      refine CQ.out.mono ?_
      rintro E w12 ⟨rfl, hg12⟩
      have ht12 : Turn (WM B) w11 w12 := Turn.of hg12
      have S12 : Hid (St G fr B w12 (giveF taken (1 - i) W1) M2) := S11.out.grown hg12
      have R12 : Hid (SetR B n w12 gr cr (less Q taken)) := R11.out.turn ht12
      have B12 : Hid (SetR B n w12 gb cb (fun p => Q p && decide (G.mark p = y))) := B11.out.turn ht12
      have T12 : Hid (Turn (WM B) w w12) := T11.out.trans ht12 (fun _ e => .inl e)
      clear CQ hg12 ht12 T11 S11 R11 B11 X11 K11
      cases be with
      | true =>
        have HT : Hid (∀ p, taken p = (less Q aa p && decide (W1 p = 1 - i))) := fun p => by
          by_cases hp : p < n
          · exact eqB_iff.1 HBe.out p hp
          · have hq : Q p = false := by
              cases e : Q p with
              | false => rfl
              | true => have := (LP.out.sub p e).1; rw [HN.out] at this; omega
            rw [(RD.out.outside hq).1]
            simp [less, hq]
        have CG2 : Hid (Calls Try.prog 41 #[.pointer (some ⟨B.s, 0, none⟩), .int .i64 i, .slice (some ⟨gr, 0, none⟩) n cr] w12 (StQ G fr B (giveF (less Q taken) i (giveF taken (1 - i) W1)) M2 w12)) := by
          have := give_any G fr B gr cr i (less Q taken) (giveF taken (1 - i) W1) w12 S12.out.ready (by rw [HN.out]; exact R12.out.row) S12.out.won (by rw [HN.out]; exact hn)
          rw [HN.out] at this
          exact this.mono fun E w' h => S12.out.giveq h
        go_wp2_with fail
        refine CG2.out.mono ?_
        rintro E w13 ⟨rfl, hs13, ht13⟩
        have S13 : Hid (St G fr B w13 (giveF (less Q taken) i (giveF taken (1 - i) W1)) M2) := hs13
        have R13 : Hid (SetR B n w13 gr cr (less Q taken)) := R12.out.turn ht13
        have B13 : Hid (SetR B n w13 gb cb (fun p => Q p && decide (G.mark p = y))) := B12.out.turn ht13
        have T13 : Hid (Turn (WM B) w w13) := T12.out.trans ht13 (fun _ e => .inl e)
        have CY : Hid (Calls Try.prog 43 #[.pointer (some ⟨B.s, 0, none⟩), .slice (some ⟨gb, 0, none⟩) n cb, .slice (some ⟨gr, 0, none⟩) n cr] w13 (StQ G fr B (giveF (less Q taken) i (giveF taken (1 - i) W1)) (stayF G (fun p => Q p && decide (G.mark p = y)) (less Q taken) M2) w13)) := by
          have := stay_any G fr B gb cb gr cr (fun p => Q p && decide (G.mark p = y)) (less Q taken) M2 w13 S13.out.ready (by rw [HN.out]; exact B13.out.row) (by rw [HN.out]; exact R13.out.row) R13.out.nm S13.out.mov GD.out
          rw [HN.out] at this
          exact this.mono fun E w' h => S13.out.moveq h
        clear CG2 hs13 ht13 T12 S12 R12 B12
        go_wp2_with fail
        refine CY.out.mono ?_
        rintro E w14 ⟨rfl, hs14, ht14⟩
        have S14 : Hid (St G fr B w14 (giveF (less Q taken) i (giveF taken (1 - i) W1)) (stayF G (fun p => Q p && decide (G.mark p = y)) (less Q taken) M2)) := hs14
        have T14 : Hid (Turn (WM B) w w14) := T13.out.trans ht14 (fun _ e => .inl e)
        have FI : Hid _ := RD.out.finish LP.out HT.out
        clear CY hs14 ht14
        go_wp2_with fail
        first | go_end0 | refine bodyPost_ret (results_none rfl _ _ _) rfl ?_
        rw [HPo.out]
        exact ⟨_, _, rfl, S14.out, FI.out.1, FI.out.2, T14.out⟩
      | false =>
        have LN : Hid (Lp G P W M (less Q taken) (giveF taken (1 - i) W1) M2) := RD.out.again LP.out
        -- something was taken
        have HSm : Hid (∃ p, p < n ∧ Q p = true ∧ taken p = true) := by
          refine Classical.byContradiction fun hno => ?_
          have h1 : ∀ p, p < n → taken p = false := fun p hp => by
            cases e : taken p with
            | false => rfl
            | true => exact absurd ⟨p, hp, RD.out.dT.within p e, e⟩ hno
          have h2 : eqB n taken (fun p => less Q aa p && decide (W1 p = 1 - i)) = true := eqB_iff.2 fun p hp => by
            rw [h1 p hp]
            cases e : (less Q aa p && decide (W1 p = 1 - i)) with
            | false => rfl
            | true => have := RD.out.dT.sub p e; rw [h1 p hp] at this; cases this
          rw [HBe.out] at h2
          cases h2
        go_wp2_with fail
        go_roundw
        case rel =>
          obtain ⟨p, hp, h1, h2⟩ := HSm.out
          have h3 := cntL_less (n := n) (a := taken) hp h1 h2
          have h4 := HCn.out
          exact ⟨gr, cr, less Q taken, _, _, rfl, R12.out, S12.out, T12.out, LN.out, by omega⟩
        case measure =>
          obtain ⟨p, hp, h1, h2⟩ := HSm.out
          rw [cntW_eq R12.out.row, HCW.out]
          exact cntL_less (n := n) (a := taken) hp h1 h2

theorem solve_all : ∀ N, SolveC N := by
  intro N
  induction N with
  | zero => intro G fr B g c P W M w _ _ h; omega
  | succ N ih => exact solve_step N ih

end Go.Proofs.Ytnlkdihfoekjmaa
