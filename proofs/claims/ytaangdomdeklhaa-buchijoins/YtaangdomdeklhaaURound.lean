/- The reference's Round: does a state come round to itself over a final one? -/
import Derived.Test.YtaangdomdeklhaaURoundD
namespace Go.Proofs.Ytaangdomdeklhaa
open Go.RowKit
set_option linter.unusedVariables false
attribute [local go_sem ↓] app_fold

def againN (v : Value) : Nat := match v with
  | .bool true => 1
  | _ => 0

theorem ag_step {pl gd p g k : Nat} {ag b1 b2 b3 b4 : Bool} (h1 : pl.testBit k = b1) (h2 : p.testBit k = b2) (h3 : gd.testBit k = b3) (h4 : g.testBit k = b4) (ha : ag = true ↔ (pl ||| p % 2 ^ k ≠ pl ∨ gd ||| g % 2 ^ k ≠ gd)) :
    (ag || (b2 && !b1) || (b4 && !b3)) = true ↔ (pl ||| p % 2 ^ (k + 1) ≠ pl ∨ gd ||| g % 2 ^ (k + 1) ≠ gd) := by
  rw [orm_ne, orm_ne, h1, h2, h3, h4]
  simp only [Bool.or_eq_true, ha, Bool.and_eq_true, Bool.not_eq_true']
  constructor
  · rintro (((h | h) | h) | h)
    · exact .inl (.inl h)
    · exact .inr (.inl h)
    · exact .inl (.inr h)
    · exact .inr (.inr h)
  · rintro ((h | h) | (h | h))
    · exact .inl (.inl (.inl h))
    · exact .inl (.inr h)
    · exact .inl (.inl (.inr h))
    · exact .inr h
theorem or_grows {s t : Nat} (h : s ||| t ≠ s) : s < s ||| t := Nat.lt_of_le_of_ne (or_ge s t) (Ne.symm h)

set_option maxHeartbeats 12800000 in
set_option maxRecDepth 100000 in
theorem roundR_any (x : Aut) (l nS : Nat) (hL : x.L = l) (hN : x.N = nS) (hG : GoodA x) (a b e az : Option Addr) (c d f cz gf cf fs q : Nat) (lp : List Nat) (w : World) (h : AutAt w x a b e) (hz : Ints w az (natInts lp)) (hzl : lp.length ≤ 1000) (hlet : ∀ k, k < lp.length → lp.getD k 0 < l) (hf : SetAt9 w gf nS fs) (hfs : fs < 2 ^ nS) (hq : q < nS) :
    Calls Try.prog 33 #[autV l nS a x.S.length c b x.T.length d e x.F.length f, .slice az lp.length cz, .slice (some ⟨gf, 0, none⟩) nS cf, .int .i64 (q : Nat)] w (TellsB (RoundP x.T fs lp q) w) := by
  have hn3 : nS ≤ 300 := by have := hG.n3; omega
  have HT : Hid (InT x.T x.L nS) := hN ▸ hG.t
  have HBy : Hid (∀ W g c9 s lt, w.grownBy W none → SetAt9 W g nS s → lt < l → Calls Try.prog 32 #[autV l nS a x.S.length c b x.T.length d e x.F.length f, .slice (some ⟨g, 0, none⟩) nS c9, .int .i64 (lt : Nat)] W (ByPost nS (dset x.T s lt) W)) := fun W g c9 s lt hW hs hl => byR_any x l nS hL hN hG a b e c d f g c9 s lt W (h.grown hW) hs hl
  have HFin : Hid (∀ W, w.grownBy W none → SetAt9 W gf nS fs) := fun W hW => hf.grown hW
  have HZ : Hid (∀ W k, w.grownBy W none → k < lp.length → ∃ bz oz, az = some ⟨bz, oz, none⟩ ∧ W.cell? ⟨bz, oz + k, none⟩ = some (.int .i64 ((lp.getD k 0 : Nat) : Int))) := fun W k hW hk => by
    obtain ⟨bz, oz, haz, hc⟩ := (hz.grown hW).at (k := k) (by simpa using hk)
    refine ⟨bz, oz, haz, ?_⟩
    rw [hc k (by simpa using hk)]
    simp [List.getD, hk]
  have HLt : Hid (∀ k, k < lp.length → lp.getD k 0 < l) := hlet
  clear h hz hf hG hL hN hlet
  obtain ⟨L, N, S, T, F⟩ := x
  simp only at *
  generalize S.length = mS at *
  generalize T.length = mT at *
  generalize F.length = mF at *
  obtain ⟨W1, hW1, g1, s1, bx1⟩ := boxA_new w l nS a mS c b mT d e mF f
  have HW1 : Hid (W1 = _) := hW1
  have G1 : Hid (w.grownBy W1 none) := g1
  have BX : Hid (∀ W', W1.grownBy W' none → W'.cell? ⟨w.heap.size, 0, none⟩ = some (.int .i64 l) ∧ W'.cell? ⟨w.heap.size, 1, none⟩ = some (.int .i64 nS) ∧ W'.cell? ⟨w.heap.size, 2, none⟩ = some (.slice a mS c) ∧ W'.cell? ⟨w.heap.size, 3, none⟩ = some (.slice b mT d) ∧ W'.cell? ⟨w.heap.size, 4, none⟩ = some (.slice e mF f)) := bx1
  obtain ⟨W2, hmk, ho2, g2, s2⟩ := bools_new (Owns.no W1.heap.size W1) (Nat.le_refl _) nS (by omega)
  obtain ⟨W3, hmk2, ho3, g3, s3⟩ := bools_new ho2 g2.size nS (by omega)
  have hcq := own_bit (at_2 ho3) hq
  have hfq := (at_2 ho3).fz q
  rw [s1] at s2
  have O4 : Hid (Owns W1.heap.size (W3.setCell ⟨w.heap.size + 1, q, none⟩ (.bool true)) [bIt (w.heap.size + 1) nS nS (2 ^ q), bIt (w.heap.size + 1 + 1) nS nS 0]) := by
    have h1 := own_put (at_2 ho3) hq (s' := 2 ^ q) (b := true) (by simp) (fun k hk => by rw [Nat.testBit_two_pow]; simp; omega)
    rw [s2, s1] at h1
    rw [s1]
    exact h1
  have G4 : Hid (W1.grownBy (W3.setCell ⟨w.heap.size + 1, q, none⟩ (.bool true)) none) := grown_new (grown_trans g2 g3) (grown_set _ _ _) (by rw [s1]; exact Nat.le_refl _)
  obtain ⟨x0, x1, x2, x3, x4⟩ := BX.out W1 (grown_refl _ _)
  obtain ⟨y0, y1, y2, y3, y4⟩ := BX.out W2 g2
  rw [s1] at hmk hcq hfq
  rw [s2] at hmk2
  rw [hW1] at hmk x0 x1 x2 x3 x4
  have HS1 : Hid (W1.heap.size = w.heap.size + 1) := s1
  clear ho2 ho3 g2 g3 s2 s3 bx1 hW1 g1 s1
  obtain ⟨RP, hRP⟩ : ∃ RP, RoundP T fs lp q = RP := ⟨_, rfl⟩
  rw [hRP]
  have HRP : Hid (RoundP T fs lp q = RP) := hRP
  clear hRP
  go_enter Try.func33, Try.ntmps33
  go_wp2_with fail
  clear hmk hmk2 x0 x1 x2 x3 x4 y0 y1 y2 y3 y4 hcq hfq
  generalize w.heap.size + 1 + 1 = gg at *
  generalize hgp : w.heap.size + 1 = gp at *
  go_loopw [11] (fun v wr => ∃ (pl gd : Nat) (ag : Bool), v = .bool ag ∧ pl < 2 ^ nS ∧ gd < 2 ^ nS ∧ RndAt T fs lp q pl gd ∧ (ag = false → pl ||| (goG T fs (pl, gd) lp).1 = pl ∧ gd ||| (goG T fs (pl, gd) lp).2 = gd) ∧ Owns W1.heap.size wr [bIt gp nS nS pl, bIt gg nS nS gd] ∧ W1.grownBy wr none) (fun v wr => 2 * ((2 ^ nS - rdSet wr gp nS) + (2 ^ nS - rdSet wr gg nS)) + againN v)
  case atStart => exact ⟨2 ^ q, 0, true, rfl, Nat.pow_lt_pow_right (by omega) hq, Nat.two_pow_pos _, RndAt.start, (fun e => by cases e), O4.out, G4.out⟩
  case round =>
    clear O4 G4
    obtain ⟨pl, gd, ag, rfl, hpl, hgd, hR, hcl, ho, hg⟩ := hrel
    have O : Hid (Owns W1.heap.size wr [bIt gp nS nS pl, bIt gg nS nS gd]) := ho
    have G : Hid (W1.grownBy wr none) := hg
    have R : Hid (RndAt T fs lp q pl gd) := hR
    have HP2 : Hid (pl < 2 ^ nS) := hpl
    have HG2 : Hid (gd < 2 ^ nS) := hgd
    have HM0 : Hid (rdSet wr gp nS = pl ∧ rdSet wr gg nS = gd) := ⟨rdSet_eq (own_at9 ho) hpl, rdSet_eq (own_at9 (at_2 ho)) hgd⟩
    cases ag with
    | false =>
      have HNo : Hid (¬ RP) := by rw [← HRP.out]; exact hR.none (hcl rfl).1 (hcl rfl).2
      clear ho hg hR hpl hgd hcl
      go_wp2_with fail
      go_ret
      exact tellsB false rfl ⟨(fun e => by cases e), fun e => absurd e HNo.out⟩ (grown_trans G1.out G.out)
    | true =>
      clear ho hg hR hpl hgd hcl
      have hn1 : 1 ≤ nS := by omega
      obtain ⟨g5, c5, w5, run5, ho5, k5⟩ := own_copy O.out G.out.size (own_at9 O.out) (c' := nS) hn1 (by omega) rfl
      have G5 : Hid (W1.grownBy w5 none) := k5 W1 (Nat.le_refl _) G.out
      obtain ⟨g6, c6, w6, run6, ho6, k6⟩ := own_copy ho5 G5.out.size (own_at9 (at_3 ho5)) (c' := nS) hn1 (by omega) rfl
      have G6 : Hid (W1.grownBy w6 none) := k6 W1 (Nat.le_refl _) G5.out
      have O6 : Hid (Owns W1.heap.size w6 [bIt g6 nS c6 gd, bIt g5 nS c5 pl, bIt gp nS nS pl, bIt gg nS nS gd]) := ho6
      clear ho5 k5 k6 ho6
      go_wp2_with fail
      clear run5 run6
      go_loopw [12, 13, 14] (fun vp vg vi wi => ∃ (i p g g5 c5 g6 c6 : Nat), vp = .slice (some ⟨g5, 0, none⟩) nS c5 ∧ vg = .slice (some ⟨g6, 0, none⟩) nS c6 ∧ vi = .int .i64 i ∧ i ≤ lp.length ∧ goG T fs (pl, gd) (lp.take i) = (p, g) ∧ Owns W1.heap.size wi [bIt g6 nS c6 g, bIt g5 nS c5 p, bIt gp nS nS pl, bIt gg nS nS gd] ∧ W1.grownBy wi none) (fun _ _ vi _ => lp.length - (intOf vi).toNat)
      case atStart => exact ⟨0, pl, gd, g5, c5, g6, c6, rfl, rfl, rfl, by omega, rfl, O6.out, G6.out⟩
      case round =>
        clear O6 G6 G5
        rename World => wi
        obtain ⟨i, p, g, g5, c5, g6, c6, rfl, rfl, rfl, hi, hpg, ho, hg⟩ := hrel
        have O7 : Hid (Owns W1.heap.size wi [bIt g6 nS c6 g, bIt g5 nS c5 p, bIt gp nS nS pl, bIt gg nS nS gd]) := ho
        have G7 : Hid (W1.grownBy wi none) := hg
        have HPG : Hid (goG T fs (pl, gd) (lp.take i) = (p, g)) := hpg
        have HPl : Hid (p < 2 ^ nS ∧ g < 2 ^ nS) := by
          have h1 := goG_ltn (fs := fs) HT.out (pg := (pl, gd)) HP2.out HG2.out (lp.take i)
          rw [hpg] at h1
          exact h1
        clear ho hg hpg
        by_cases hil : i < lp.length
        · have hii : (i : Int) < (lp.length : Int) := by omega
          obtain ⟨lt, hlt⟩ : ∃ lt, lp.getD i 0 = lt := ⟨_, rfl⟩
          have hltl : lt < l := hlt ▸ HLt.out i hil
          have HZc : Hid (∀ W, w.grownBy W none → ∃ bz oz, az = some ⟨bz, oz, none⟩ ∧ W.cell? ⟨bz, oz + i, none⟩ = some (.int .i64 (lt : Int))) := fun W hW => by
            have h1 := HZ.out W i hW hil
            rw [hlt] at h1
            exact h1
          have HPG2 : Hid (goG T fs (pl, gd) (lp.take (i + 1)) = (dset T p lt, dset T (g ||| (p &&& fs)) lt)) := by
            show _ = _
            rw [List.take_add_one, List.getElem?_eq_getElem hil, Option.toList_some, goG_snoc, HPG.out]
            have : lp[i] = lt := by rw [← hlt]; simp [List.getD, hil]
            rw [this]
          clear hlt
          go_wp2_with fail
          go_loopw [15] (fun vk wk => ∃ k : Nat, vk = .int .i64 k ∧ k ≤ nS ∧ Owns W1.heap.size wk [bIt g6 nS c6 (g ||| (p &&& fs) % 2 ^ k), bIt g5 nS c5 p, bIt gp nS nS pl, bIt gg nS nS gd] ∧ W1.grownBy wk none) (fun vk _ => nS - (intOf vk).toNat)
          case atStart => exact ⟨0, rfl, by omega, by rw [orm_zero]; exact O7.out, G7.out⟩
          case round =>
            clear O7 G7
            rename World => wk
            obtain ⟨k, rfl, hk, ho, hg⟩ := hrel
            have O8 : Hid (Owns W1.heap.size wk [bIt g6 nS c6 (g ||| (p &&& fs) % 2 ^ k), bIt g5 nS c5 p, bIt gp nS nS pl, bIt gg nS nS gd]) := ho
            have G8 : Hid (W1.grownBy wk none) := hg
            obtain ⟨_, x1, _, _, _⟩ := BX.out wk hg
            clear ho hg
            by_cases hkl : k < nS
            · have hki : (k : Int) < (nS : Int) := by omega
              have hc1 := own_bit O8.out hkl
              rw [orm_bit] at hc1
              have hc2 := own_bit (at_2 O8.out) hkl
              have hc3 := HFin.out wk (grown_trans G1.out G8.out) k hkl
              have hz1 := O8.out.fz k
              have HO9 : Hid (∀ bb, (g.testBit k || (p &&& fs).testBit k) = bb → Owns W1.heap.size (wk.setCell ⟨g6, k, none⟩ (.bool bb)) [bIt g6 nS c6 (g ||| (p &&& fs) % 2 ^ (k + 1)), bIt g5 nS c5 p, bIt gp nS nS pl, bIt gg nS nS gd] ∧ W1.grownBy (wk.setCell ⟨g6, k, none⟩ (.bool bb)) none) := fun bb hbb => ⟨own_put O8.out hkl (orm_succ.1.trans hbb) (fun j hj => orm_succ.2 j hj), grown_new G8.out (grown_set _ _ _) O8.out.ge.1⟩
              have HAnd : Hid ((p &&& fs).testBit k = (p.testBit k && fs.testBit k)) := Nat.testBit_and _ _ _
              rw [HAnd.out] at HO9
              generalize g.testBit k = b1 at hc1 HO9
              generalize p.testBit k = b2 at hc2 HO9
              generalize fs.testBit k = b3 at hc3 HO9
              clear HAnd O8
              cases b1 <;> cases b2 <;> cases b3
              all_goals
                go_wp2_with fail
                go_roundw
                case rel => exact ⟨k + 1, by go_num, by omega, (HO9.out _ rfl).1, (HO9.out _ rfl).2⟩
                case measure => simp [intOf]; omega
            · have hki : ¬ (k : Int) < (nS : Int) := by omega
              have hke : k = nS := by omega
              have O9 : Hid (Owns W1.heap.size wk [bIt g6 nS c6 (g ||| (p &&& fs)), bIt g5 nS c5 p, bIt gp nS nS pl, bIt gg nS nS gd]) := by
                have h1 := O8.out
                rw [hke, orm_end (Nat.lt_of_le_of_lt Nat.and_le_left HPl.out.1)] at h1
                exact h1
              obtain ⟨y0, y1, y2, y3, y4⟩ := BX.out wk G8.out
              obtain ⟨bz, oz, rfl, hzc⟩ := HZc.out wk (grown_trans G1.out G8.out)
              have HC1 : Hid (∀ W, wk.grownBy W none → Calls Try.prog 32 #[autV l nS a mS c b mT d e mF f, .slice (some ⟨g5, 0, none⟩) nS c5, .int .i64 (lt : Nat)] W (ByPost nS (dset T p lt) W)) := fun W hW => HBy.out W g5 c5 p lt (grown_trans G1.out (grown_trans G8.out hW)) ((own_at9 (at_2 O9.out)).grown hW) hltl
              have HC2 : Hid (∀ W, wk.grownBy W none → Calls Try.prog 32 #[autV l nS a mS c b mT d e mF f, .slice (some ⟨g6, 0, none⟩) nS c6, .int .i64 (lt : Nat)] W (ByPost nS (dset T (g ||| (p &&& fs)) lt) W)) := fun W hW => HBy.out W g6 c6 _ lt (grown_trans G1.out (grown_trans G8.out hW)) ((own_at9 O9.out).grown hW) hltl
              clear x1 O8
              go_wp2_with fail
              go_region_with (go_at_call 32; refine (HC1.out _ (grown_drew (grown_refl _ _))).mono ?_; rintro E w9 ⟨g9, rfl, hb9, hg9⟩; have K9 : Hid (wk.grownBy w9 none) := grown_trans (grown_drew (grown_refl _ _)) hg9; have B9 : Hid (BsetAt wk.heap.size w9 g9 nS (dset T p lt) []) := hb9)
              all_goals
                obtain ⟨y0, y1, y2, y3, y4⟩ := BX.out w9 (grown_trans G8.out K9.out)
                obtain ⟨bz2, oz2, hz2, hzc⟩ := HZc.out w9 (grown_trans G1.out (grown_trans G8.out K9.out))
                cases hz2
                clear hg9 hb9
                go_wp2_with fail
                go_region_with (go_at_call 32; refine (HC2.out _ (grown_drew K9.out)).mono ?_; rintro E w10 ⟨g10, rfl, hb10, hg10⟩; have K10 : Hid (w9.grownBy w10 none) := grown_trans (grown_drew (grown_refl _ _)) hg10; have B10 : Hid (BsetAt w9.heap.size w10 g10 nS (dset T (g ||| (p &&& fs)) lt) []) := hb10)
                all_goals
                  have O10 : Hid (Owns W1.heap.size w10 [bIt g10 nS nS (dset T (g ||| (p &&& fs)) lt), bIt g9 nS nS (dset T p lt), bIt gp nS nS pl, bIt gg nS nS gd]) := by
                    have h1 : Owns W1.heap.size wk [bIt gp nS nS pl, bIt gg nS nS gd] := O9.out.tail.tail
                    have h2 := h1.join K9.out B9.out.own G8.out.size
                    exact h2.join K10.out B10.out.own (Nat.le_trans G8.out.size K9.out.size)
                  have G10 : Hid (W1.grownBy w10 none) := grown_trans G8.out (grown_trans K9.out K10.out)
                  clear hg10 hb10 y0 y1 y2 y3 y4 hzc
                  go_wp2_with fail
                  go_roundw
                  case rel => exact ⟨i + 1, _, _, g9, nS, g10, nS, rfl, rfl, by go_num, by omega, HPG2.out, O10.out, G10.out⟩
                  case measure => simp [intOf]; omega
        · have hii : ¬ (i : Int) < (lp.length : Int) := by omega
          have HPG3 : Hid (goG T fs (pl, gd) lp = (p, g)) := by
            show _ = _
            rw [← HPG.out, List.take_of_length_le (by omega)]
          have hcq := own_bit O7.out hq
          clear HPG
          cases hbq : g.testBit q with
          | true =>
            have HY : Hid RP := by rw [← HRP.out]; exact R.out.found (r := q) (by rw [HPG3.out]; exact hbq)
            rw [hbq] at hcq
            clear hbq
            go_wp2_with fail
            go_ret
            exact tellsB true rfl ⟨fun _ => HY.out, fun _ => rfl⟩ (grown_trans G1.out G7.out)
          | false =>
            have R2 : Hid (RndAt T fs lp q (pl ||| p) (gd ||| g)) := by
              have h1 := R.out.more (by rw [HPG3.out]; exact hbq)
              rw [HPG3.out] at h1
              exact h1
            rw [hbq] at hcq
            clear hbq
            have O8 : Hid (Owns W1.heap.size wi [bIt gp nS nS pl, bIt gg nS nS gd, bIt g6 nS c6 g, bIt g5 nS c5 p]) := O7.out.perm (List.perm_append_comm (l₁ := [bIt g6 nS c6 g, bIt g5 nS c5 p]) (l₂ := [bIt gp nS nS pl, bIt gg nS nS gd]))
            go_wp2_with fail
            clear hcq
            go_loopw [11, 16] (fun va vk wk => ∃ (k : Nat) (ag : Bool), va = .bool ag ∧ vk = .int .i64 k ∧ k ≤ nS ∧ (ag = true ↔ (pl ||| p % 2 ^ k ≠ pl ∨ gd ||| g % 2 ^ k ≠ gd)) ∧ Owns W1.heap.size wk [bIt gp nS nS (pl ||| p % 2 ^ k), bIt gg nS nS (gd ||| g % 2 ^ k), bIt g6 nS c6 g, bIt g5 nS c5 p] ∧ W1.grownBy wk none) (fun _ vk _ => nS - (intOf vk).toNat)
            case atStart => exact ⟨0, false, rfl, rfl, by omega, by rw [orm_zero, orm_zero]; simp, by rw [orm_zero, orm_zero]; exact O8.out, G7.out⟩
            case round =>
              clear O8
              rename World => wk
              obtain ⟨k, ag, rfl, rfl, hk, hag, ho, hg⟩ := hrel
              have O8 : Hid (Owns W1.heap.size wk [bIt gp nS nS (pl ||| p % 2 ^ k), bIt gg nS nS (gd ||| g % 2 ^ k), bIt g6 nS c6 g, bIt g5 nS c5 p]) := ho
              have G8 : Hid (W1.grownBy wk none) := hg
              have HAg : Hid (ag = true ↔ (pl ||| p % 2 ^ k ≠ pl ∨ gd ||| g % 2 ^ k ≠ gd)) := hag
              obtain ⟨_, x1, _, _, _⟩ := BX.out wk hg
              clear ho hg hag
              by_cases hkl : k < nS
              · have hki : (k : Int) < (nS : Int) := by omega
                have hc1 := own_bit O8.out hkl
                rw [orm_bit] at hc1
                have hc2 := own_bit (at_2 O8.out) hkl
                rw [orm_bit] at hc2
                have hc3 := own_bit (at_3 O8.out) hkl
                have hc4 := own_bit (at_4 O8.out) hkl
                have hz1 := O8.out.fz k
                have HO9 : Hid (∀ b5, (pl.testBit k || p.testBit k) = b5 → Owns W1.heap.size (wk.setCell ⟨gp, k, none⟩ (.bool b5)) [bIt gp nS nS (pl ||| p % 2 ^ (k + 1)), bIt gg nS nS (gd ||| g % 2 ^ k), bIt g6 nS c6 g, bIt g5 nS c5 p]) := fun b5 hb5 => own_put O8.out hkl (orm_succ.1.trans hb5) (fun j hj => orm_succ.2 j hj)
                have HF9 : Hid (∀ b5, (pl.testBit k || p.testBit k) = b5 → (wk.setCell ⟨gp, k, none⟩ (.bool b5)).cell? ⟨gg, k, none⟩ = some (.bool (gd.testBit k)) ∧ (wk.setCell ⟨gp, k, none⟩ (.bool b5)).cell? ⟨g6, k, none⟩ = some (.bool (g.testBit k)) ∧ (wk.setCell ⟨gp, k, none⟩ (.bool b5)).frozen? ⟨gg, k, none⟩ = false) := fun b5 hb5 => by
                  have h1 := HO9.out b5 hb5
                  refine ⟨?_, own_bit (at_3 h1) hkl, (at_2 h1).fz k⟩
                  have h2 := own_bit (at_2 h1) hkl
                  rw [orm_bit] at h2
                  exact h2
                have HO10 : Hid (∀ b5 b6, (pl.testBit k || p.testBit k) = b5 → (gd.testBit k || g.testBit k) = b6 → Owns W1.heap.size ((wk.setCell ⟨gp, k, none⟩ (.bool b5)).setCell ⟨gg, k, none⟩ (.bool b6)) [bIt gp nS nS (pl ||| p % 2 ^ (k + 1)), bIt gg nS nS (gd ||| g % 2 ^ (k + 1)), bIt g6 nS c6 g, bIt g5 nS c5 p] ∧ W1.grownBy ((wk.setCell ⟨gp, k, none⟩ (.bool b5)).setCell ⟨gg, k, none⟩ (.bool b6)) none) := fun b5 b6 hb5 hb6 => by
                  have h1 := HO9.out b5 hb5
                  have h2 := own_put (at_2 h1) hkl (orm_succ.1.trans hb6) (fun j hj => orm_succ.2 j hj)
                  exact ⟨to_2 h2, grown_new (grown_new G8.out (grown_set _ _ _) O8.out.ge.1) (grown_set _ _ _) (at_2 O8.out).ge.1⟩
                have HAS : Hid ((ag || (p.testBit k && !pl.testBit k) || (g.testBit k && !gd.testBit k)) = true ↔ (pl ||| p % 2 ^ (k + 1) ≠ pl ∨ gd ||| g % 2 ^ (k + 1) ≠ gd)) := ag_step rfl rfl rfl rfl HAg.out
                generalize pl.testBit k = b1 at hc1 HO9 HF9 HO10 HAS
                generalize gd.testBit k = b3 at hc2 HF9 HO10 HAS
                generalize g.testBit k = b4 at hc3 HF9 HO10 HAS
                generalize p.testBit k = b2 at hc4 HO9 HF9 HO10 HAS
                clear HAg O8 HO9
                cases ag <;> cases b1 <;> cases b2 <;> cases b3 <;> cases b4
                all_goals
                  first
                  | have ff := HF9.out true rfl
                  | have ff := HF9.out false rfl
                  obtain ⟨f1, f2, f3⟩ := ff
                  go_wp2_with fail
                  go_roundw
                  case rel => exact ⟨k + 1, _, rfl, by go_num, by omega, HAS.out, (HO10.out _ _ rfl rfl).1, (HO10.out _ _ rfl rfl).2⟩
                  case measure => simp [intOf]; omega
              · have hki : ¬ (k : Int) < (nS : Int) := by omega
                have hke : k = nS := by omega
                have O9 : Hid (Owns W1.heap.size wk [bIt gp nS nS (pl ||| p), bIt gg nS nS (gd ||| g)]) := by
                  have h1 := O8.out
                  rw [hke, orm_end HPl.out.1, orm_end HPl.out.2] at h1
                  exact ⟨fun it hm => h1.1 it (List.mem_cons.2 ((List.mem_cons.1 hm).imp id fun h => List.mem_cons.2 (.inl (List.mem_singleton.1 h)))), h1.2.sublist (by simp)⟩
                have HAg2 : Hid (ag = true ↔ (pl ||| p ≠ pl ∨ gd ||| g ≠ gd)) := by
                  have h1 := HAg.out
                  rw [hke, orm_end HPl.out.1, orm_end HPl.out.2] at h1
                  exact h1
                have L1 : Hid (pl ||| p < 2 ^ nS) := or_lt HP2.out HPl.out.1
                have L2 : Hid (gd ||| g < 2 ^ nS) := or_lt HG2.out HPl.out.2
                clear HAg O8
                go_wp2_with fail
                go_roundw
                case rel =>
                  refine ⟨pl ||| p, gd ||| g, ag, rfl, L1.out, L2.out, R2.out, fun hag => ?_, O9.out, G8.out⟩
                  have h1 : ¬ (pl ||| p ≠ pl ∨ gd ||| g ≠ gd) := fun h2 => by have := HAg2.out.2 h2; rw [hag] at this; cases this
                  have h2 : pl ||| p = pl := Classical.byContradiction fun h3 => h1 (.inl h3)
                  have h4 : gd ||| g = gd := Classical.byContradiction fun h3 => h1 (.inr h3)
                  rw [h2, h4, HPG3.out]
                  exact ⟨h2, h4⟩
                case measure =>
                  have m1 := rdSet_eq (own_at9 O9.out) L1.out
                  have m2 := rdSet_eq (own_at9 (at_2 O9.out)) L2.out
                  have l1 := L1.out
                  have l2 := L2.out
                  have g1 := or_ge pl p
                  have g2 := or_ge gd g
                  rw [m1, m2, HM0.out.1, HM0.out.2]
                  cases ag with
                  | false => simp only [againN]; omega
                  | true =>
                    simp only [againN]
                    rcases HAg2.out.1 rfl with h3 | h3
                    · have := or_grows h3; omega
                    · have := or_grows h3; omega

end Go.Proofs.Ytaangdomdeklhaa
