/- The reference's Accepts: is a lasso's infinite word accepted? -/
import Derived.Test.YtaangdomdeklhaaURound
import Derived.Test.YtaangdomdeklhaaULasV
namespace Go.Proofs.Ytaangdomdeklhaa
open Go.RowKit
set_option linter.unusedVariables false
attribute [local go_sem ↓] app_fold

theorem ag_step1 {s y k : Nat} {ag b1 b2 : Bool} (h1 : s.testBit k = b1) (h2 : y.testBit k = b2) (ha : ag = true ↔ s ||| y % 2 ^ k ≠ s) : (ag || (b2 && !b1)) = true ↔ s ||| y % 2 ^ (k + 1) ≠ s := by
  rw [orm_ne, h1, h2]
  simp only [Bool.or_eq_true, ha, Bool.and_eq_true, Bool.not_eq_true']
theorem goS_take {T : List StepI} {s : Nat} {z : List Nat} {k lt : Nat} (hk : k < z.length) (hl : z.getD k 0 = lt) : goS T s (z.take (k + 1)) = dset T (goS T s (z.take k)) lt := by
  rw [goS_snoc hk, hl]

set_option maxHeartbeats 12800000 in
set_option maxRecDepth 100000 in
theorem accR_any (x : Aut) (l nS : Nat) (hL : x.L = l) (hN : x.N = nS) (hG : GoodA x) (a b e ah al : Option Addr) (c d f ch cl : Nat) (hd lp : List Nat) (w : World) (h : AutAt w x a b e) (hh : Ints w ah (natInts hd)) (hp : Ints w al (natInts lp)) (hhl : hd.length ≤ 1000) (hpl : lp.length ≤ 1000) (hlp1 : 1 ≤ lp.length) (hleh : ∀ k, k < hd.length → hd.getD k 0 < l) (hlep : ∀ k, k < lp.length → lp.getD k 0 < l) :
    Calls Try.prog 19 #[autV l nS a x.S.length c b x.T.length d e x.F.length f, lasV ah hd.length ch al lp.length cl] w (TellsB (AccL x.T (setOf x.S) (setOf x.F) hd lp) w) := by
  have hn3 : nS ≤ 300 := by have := hG.n3; omega
  have hn1 : 1 ≤ nS := by have := hG.n1; omega
  have HT : Hid (InT x.T x.L nS) := hN ▸ hG.t
  have HSi : Hid (InR x.S nS) := hN ▸ hG.s
  have HFi : Hid (InR x.F nS) := hN ▸ hG.f
  have HBy : Hid (∀ W g c9 s lt, w.grownBy W none → SetAt9 W g nS s → lt < l → Calls Try.prog 32 #[autV l nS a x.S.length c b x.T.length d e x.F.length f, .slice (some ⟨g, 0, none⟩) nS c9, .int .i64 (lt : Nat)] W (ByPost nS (dset x.T s lt) W)) := fun W g c9 s lt hW hs hl => byR_any x l nS hL hN hG a b e c d f g c9 s lt W (h.grown hW) hs hl
  have HRd : Hid (∀ W gf cf q, w.grownBy W none → SetAt9 W gf nS (setOf x.F) → q < nS → Calls Try.prog 33 #[autV l nS a x.S.length c b x.T.length d e x.F.length f, .slice al lp.length cl, .slice (some ⟨gf, 0, none⟩) nS cf, .int .i64 (q : Nat)] W (TellsB (RoundP x.T (setOf x.F) lp q) W)) := fun W gf cf q hW hs hq => roundR_any x l nS hL hN hG a b e al c d f cl gf cf (setOf x.F) q lp W (h.grown hW) (hp.grown hW) hpl hlep hs (setOf_ltn HFi.out) hq
  have HSta : Hid (∀ W, w.grownBy W none → Ints W a x.S) := fun W hW => h.start.grown hW
  have HFin : Hid (∀ W, w.grownBy W none → Ints W e x.F) := fun W hW => h.final.grown hW
  have key : ∀ (az : Option Addr) (zz : List Nat), Ints w az (natInts zz) → ∀ W k, w.grownBy W none → k < zz.length → ∃ bz oz, az = some ⟨bz, oz, none⟩ ∧ W.cell? ⟨bz, oz + k, none⟩ = some (.int .i64 ((zz.getD k 0 : Nat) : Int)) := fun az zz hz W k hW hk => by
    obtain ⟨bz, oz, haz, hc⟩ := (hz.grown hW).at (k := k) (by simpa using hk)
    refine ⟨bz, oz, haz, ?_⟩
    rw [hc k (by simpa using hk)]
    simp [List.getD, hk]
  have HZh : Hid (∀ W k, w.grownBy W none → k < hd.length → ∃ bz oz, ah = some ⟨bz, oz, none⟩ ∧ W.cell? ⟨bz, oz + k, none⟩ = some (.int .i64 ((hd.getD k 0 : Nat) : Int))) := key ah hd hh
  have HZp : Hid (∀ W k, w.grownBy W none → k < lp.length → ∃ bz oz, al = some ⟨bz, oz, none⟩ ∧ W.cell? ⟨bz, oz + k, none⟩ = some (.int .i64 ((lp.getD k 0 : Nat) : Int))) := key al lp hp
  have HLh : Hid (∀ k, k < hd.length → hd.getD k 0 < l) := hleh
  have HLp : Hid (∀ k, k < lp.length → lp.getD k 0 < l) := hlep
  have hms := h.ms
  have hmf := h.mf
  unfold maxLen at hms hmf
  clear h hh hp hG hL hN hleh hlep key
  obtain ⟨L, N, S, T, F⟩ := x
  simp only at *
  generalize T.length = mT at *
  obtain ⟨W0, hW0, g0, s0, bx0⟩ := boxA_new w l nS a S.length c b mT d e F.length f
  obtain ⟨W1, hW1, g1, s1, bx1⟩ := boxL_new W0 ah hd.length ch al lp.length cl
  rw [s0] at s1 bx1
  have HW1 : Hid (W1 = (w.alloc (.cells #[.int .i64 l, .int .i64 nS, .slice a S.length c, .slice b mT d, .slice e F.length f] 25)).alloc (.cells #[.slice ah hd.length ch, .slice al lp.length cl] 42)) := by show _ = _; rw [hW1, hW0]
  have G1 : Hid (w.grownBy W1 none) := grown_trans g0 g1
  have BX : Hid (∀ W', W1.grownBy W' none → W'.cell? ⟨w.heap.size, 0, none⟩ = some (.int .i64 l) ∧ W'.cell? ⟨w.heap.size, 1, none⟩ = some (.int .i64 nS) ∧ W'.cell? ⟨w.heap.size, 2, none⟩ = some (.slice a S.length c) ∧ W'.cell? ⟨w.heap.size, 3, none⟩ = some (.slice b mT d) ∧ W'.cell? ⟨w.heap.size, 4, none⟩ = some (.slice e F.length f)) := fun W' hW' => bx0 W' (grown_trans g1 hW')
  have BL : Hid (∀ W', W1.grownBy W' none → W'.cell? ⟨w.heap.size + 1, 0, none⟩ = some (.slice ah hd.length ch) ∧ W'.cell? ⟨w.heap.size + 1, 1, none⟩ = some (.slice al lp.length cl)) := bx1
  obtain ⟨W2, hmk, ho2, g2, s2⟩ := bools_new (Owns.no W1.heap.size W1) (Nat.le_refl _) nS (by omega)
  have O2 : Hid (Owns W1.heap.size W2 [bIt W1.heap.size nS nS 0]) := ho2
  have G2 : Hid (W1.grownBy W2 none) := g2
  obtain ⟨x0, x1, x2, x3, x4⟩ := BX.out W1 (grown_refl _ _)
  have HS1 : Hid (W1.heap.size = w.heap.size + 1 + 1) := s1
  rw [s1] at hmk
  rw [hW1, hW0] at hmk x0 x1 x2 x3 x4
  clear hW0 hW1 g0 g1 s0 bx0 bx1 ho2 g2 s2
  obtain ⟨AP, hAP⟩ : ∃ AP, AccL T (setOf S) (setOf F) hd lp = AP := ⟨_, rfl⟩
  rw [hAP]
  have HAP : Hid (AccL T (setOf S) (setOf F) hd lp = AP) := hAP
  clear hAP
  go_enter Try.func19, Try.ntmps19
  go_wp2_with fail
  clear hmk x0 x1 x2 x3 x4
  have O2 : Hid (Owns W1.heap.size W2 [bIt (w.heap.size + 1 + 1) nS nS 0]) := by
    have h1 := O2.out
    show Owns _ _ _
    rw [← s1]
    exact h1
  clear s1
  generalize w.heap.size + 1 + 1 = gf0 at *
  go_loopw [6] (fun v wr => ∃ k s : Nat, k ≤ S.length ∧ v = .int .i64 k ∧ s = setOf (S.take k) ∧ Owns W1.heap.size wr [bIt gf0 nS nS s] ∧ W1.grownBy wr none) (fun v _ => S.length - (intOf v).toNat)
  case atStart => exact ⟨0, 0, by omega, rfl, rfl, O2.out, G2.out⟩
  case round =>
    clear O2 G2
    obtain ⟨k, s, hk, rfl, hs, ho, hg⟩ := hrel
    have O : Hid (Owns W1.heap.size wr [bIt gf0 nS nS s]) := ho
    have G : Hid (W1.grownBy wr none) := hg
    have HS : Hid (s = setOf (S.take k)) := hs
    obtain ⟨x0, x1, x2, x3, x4⟩ := BX.out wr hg
    clear hs ho hg
    by_cases hlt : k < S.length
    · have hki : (k : Int) < (S.length : Int) := by omega
      obtain ⟨bb, off, hab, hc⟩ := (HSta.out wr (grown_trans G1.out G.out)).at hlt
      rw [hab] at x2
      have hck := hc k hlt
      have hin := HSi.out k hlt
      obtain ⟨q, hq⟩ : ∃ q : Nat, S.getD k 0 = q := ⟨(S.getD k 0).toNat, by omega⟩
      have HS2 : Hid (s ||| 2 ^ q = setOf (S.take (k + 1))) := by show _ = _; rw [setOf_snoc hlt, hq, HS.out]; simp
      rw [hq] at hck hin
      have hqn : q < nS := by omega
      have hcl := own_bit O.out hqn
      have hfz := O.out.fz q
      have O3 : Hid (Owns W1.heap.size (wr.setCell ⟨gf0, q, none⟩ (.bool true)) [bIt gf0 nS nS (s ||| 2 ^ q)]) := own_put O.out hqn (by rw [Nat.testBit_or]; simp) (fun j hj => by
        rw [Nat.testBit_or, Nat.testBit_two_pow]
        have : decide (q = j) = false := by simp; omega
        rw [this, Bool.or_false])
      have G3 : Hid (W1.grownBy (wr.setCell ⟨gf0, q, none⟩ (.bool true)) none) := grown_new G.out (grown_set _ _ _) O.out.ge.1
      clear hc hab hq hin x0 x1 x3 x4
      go_wp2_with fail
      go_roundw
      case rel => exact ⟨k + 1, _, by omega, by go_num, HS2.out, O3.out, G3.out⟩
      case measure => simp [intOf]; omega
    · have hki : ¬ (k : Int) < (S.length : Int) := by omega
      have HS2 : Hid (s = goS T (setOf S) (hd.take 0)) := by show _ = _; rw [HS.out, List.take_of_length_le (by omega)]; rfl
      clear HS
      go_wp2_with fail
      clear x0 x1 x2 x3 x4 hki hk hlt
      go_loopw [5, 7] (fun v5 v wr => ∃ (k s g c9 : Nat), k ≤ hd.length ∧ v5 = .slice (some ⟨g, 0, none⟩) nS c9 ∧ v = .int .i64 k ∧ s = goS T (setOf S) (hd.take k) ∧ Owns W1.heap.size wr [bIt g nS c9 s] ∧ W1.grownBy wr none) (fun _ v _ => hd.length - (intOf v).toNat)
      case atStart => exact ⟨0, s, gf0, nS, by omega, rfl, rfl, HS2.out, O.out, G.out⟩
      case round =>
        clear O G HS2
        rename World => wq
        obtain ⟨k, s, g, c9, hk, rfl, rfl, hs, ho, hg⟩ := hrel
        have O : Hid (Owns W1.heap.size wq [bIt g nS c9 s]) := ho
        have G : Hid (W1.grownBy wq none) := hg
        have HS : Hid (s = goS T (setOf S) (hd.take k)) := hs
        obtain ⟨x0, x1, x2, x3, x4⟩ := BX.out wq hg
        obtain ⟨z0, z1⟩ := BL.out wq hg
        clear hs ho hg
        by_cases hlt : k < hd.length
        · have hki : (k : Int) < (hd.length : Int) := by omega
          obtain ⟨lt, hlt2⟩ : ∃ lt, hd.getD k 0 = lt := ⟨_, rfl⟩
          have hltl : lt < l := hlt2 ▸ HLh.out k hlt
          have HS2 : Hid (goS T (setOf S) (hd.take (k + 1)) = dset T s lt) := by show _ = _; rw [goS_take hlt hlt2, ← HS.out]
          obtain ⟨bz, oz, hbz, hzc⟩ := HZh.out wq k (grown_trans G1.out G.out) hlt
          rw [hlt2] at hzc
          rw [hbz] at z0
          have HC1 : Hid (∀ W, wq.grownBy W none → Calls Try.prog 32 #[autV l nS a S.length c b mT d e F.length f, .slice (some ⟨g, 0, none⟩) nS c9, .int .i64 (lt : Nat)] W (ByPost nS (dset T s lt) W)) := fun W hW => HBy.out W g c9 s lt (grown_trans G1.out (grown_trans G.out hW)) ((own_at9 O.out).grown hW) hltl
          clear hlt2 hbz
          go_wp2_with fail
          go_region_with (go_at_call 32; refine (HC1.out _ (grown_drew (grown_refl _ _))).mono ?_; rintro E w9 ⟨g9, rfl, hb9, hg9⟩; have K9 : Hid (wq.grownBy w9 none) := grown_trans (grown_drew (grown_refl _ _)) hg9; have B9 : Hid (BsetAt wq.heap.size w9 g9 nS (dset T s lt) []) := hb9)
          all_goals
            have O9 : Hid (Owns W1.heap.size w9 [bIt g9 nS nS (dset T s lt)]) := B9.out.own.base G.out.size
            have G9 : Hid (W1.grownBy w9 none) := grown_trans G.out K9.out
            clear hg9 hb9
            go_wp2_with fail
            go_roundw
            case rel => exact ⟨k + 1, _, g9, nS, by omega, rfl, by go_num, HS2.out.symm, O9.out, G9.out⟩
            case measure => simp [intOf]; omega
        · have hki : ¬ (k : Int) < (hd.length : Int) := by omega
          have HS3 : Hid (s = goS T (setOf S) hd) := by show _ = _; rw [HS.out, List.take_of_length_le (by omega)]
          clear HS
          go_wp2_with fail
          clear x0 x1 x2 x3 x4 z0 z1 hki hk hlt
          go_loopw [8] (fun v wr => ∃ (s : Nat) (ag : Bool), v = .bool ag ∧ s < 2 ^ nS ∧ FarAt T (setOf S) hd lp s ∧ (ag = false → s ||| goS T s lp = s) ∧ Owns W1.heap.size wr [bIt g nS c9 s] ∧ W1.grownBy wr none) (fun v wr => 2 * (2 ^ nS - rdSet wr g nS) + againN v)
          case atStart => exact ⟨s, true, rfl, by rw [HS3.out]; exact goS_ltn HT.out (setOf_ltn HSi.out) _, by rw [HS3.out]; exact FarAt.start, (fun e => by cases e), O.out, G.out⟩
          case round =>
            clear O G HS3
            rename World => wo
            obtain ⟨s, ag, rfl, hs2, hF, hcl, ho, hg⟩ := hrel
            have O : Hid (Owns W1.heap.size wo [bIt g nS c9 s]) := ho
            have G : Hid (W1.grownBy wo none) := hg
            have FA : Hid (FarAt T (setOf S) hd lp s) := hF
            have HL2 : Hid (s < 2 ^ nS) := hs2
            have HM0 : Hid (rdSet wo g nS = s) := rdSet_eq (own_at9 ho) hs2
            have HCl : Hid (ag = false → s ||| goS T s lp = s) := hcl
            clear hs2 hF hcl ho hg
            cases ag with
            | true =>
              clear HCl
              go_wp2_with fail
              go_loopw [9, 10] (fun v9 v10 wi => ∃ (i y g9 d9 : Nat), v9 = .slice (some ⟨g9, 0, none⟩) nS d9 ∧ v10 = .int .i64 i ∧ i ≤ lp.length ∧ y = goS T s (lp.take i) ∧ SetAt9 wi g9 nS y ∧ Owns W1.heap.size wi [bIt g nS c9 s] ∧ (0 < i → Owns W1.heap.size wi [bIt g9 nS d9 y, bIt g nS c9 s]) ∧ W1.grownBy wi none) (fun _ v _ => lp.length - (intOf v).toNat)
              case atStart => exact ⟨0, s, g, c9, rfl, rfl, by omega, rfl, own_at9 O.out, O.out, (fun h => by omega), G.out⟩
              case round =>
                clear O G
                rename World => wi
                obtain ⟨i, y, g9, d9, rfl, rfl, hi, hy, hs9, ho, ho2, hg⟩ := hrel
                have O : Hid (Owns W1.heap.size wi [bIt g nS c9 s]) := ho
                have OO : Hid (0 < i → Owns W1.heap.size wi [bIt g9 nS d9 y, bIt g nS c9 s]) := ho2
                have A9 : Hid (SetAt9 wi g9 nS y) := hs9
                have G : Hid (W1.grownBy wi none) := hg
                have HY : Hid (y = goS T s (lp.take i)) := hy
                obtain ⟨x0, x1, x2, x3, x4⟩ := BX.out wi hg
                obtain ⟨z0, z1⟩ := BL.out wi hg
                clear hy hs9 ho ho2 hg
                by_cases hil : i < lp.length
                · have hii : (i : Int) < (lp.length : Int) := by omega
                  obtain ⟨lt, hlt2⟩ : ∃ lt, lp.getD i 0 = lt := ⟨_, rfl⟩
                  have hltl : lt < l := hlt2 ▸ HLp.out i hil
                  have HY2 : Hid (goS T s (lp.take (i + 1)) = dset T y lt) := by show _ = _; rw [goS_take hil hlt2, ← HY.out]
                  obtain ⟨bz, oz, hbz, hzc⟩ := HZp.out wi i (grown_trans G1.out G.out) hil
                  rw [hlt2] at hzc
                  rw [hbz] at z1
                  have HC1 : Hid (∀ W, wi.grownBy W none → Calls Try.prog 32 #[autV l nS a S.length c b mT d e F.length f, .slice (some ⟨g9, 0, none⟩) nS d9, .int .i64 (lt : Nat)] W (ByPost nS (dset T y lt) W)) := fun W hW => HBy.out W g9 d9 y lt (grown_trans G1.out (grown_trans G.out hW)) (A9.out.grown hW) hltl
                  clear hlt2 hbz
                  go_wp2_with fail
                  go_region_with (go_at_call 32; refine (HC1.out _ (grown_drew (grown_refl _ _))).mono ?_; rintro E w9 ⟨g7, rfl, hb9, hg9⟩; have K9 : Hid (wi.grownBy w9 none) := grown_trans (grown_drew (grown_refl _ _)) hg9; have B9 : Hid (BsetAt wi.heap.size w9 g7 nS (dset T y lt) []) := hb9)
                  all_goals
                    have O9 : Hid (Owns W1.heap.size w9 [bIt g7 nS nS (dset T y lt), bIt g nS c9 s]) := O.out.join K9.out B9.out.own G.out.size
                    have G9 : Hid (W1.grownBy w9 none) := grown_trans G.out K9.out
                    clear hg9 hb9
                    go_wp2_with fail
                    go_roundw
                    case rel => exact ⟨i + 1, _, g7, nS, rfl, by go_num, by omega, HY2.out.symm, own_at9 O9.out, O9.out.tail, fun _ => O9.out, G9.out⟩
                    case measure => simp [intOf]; omega
                · have hii : ¬ (i : Int) < (lp.length : Int) := by omega
                  have HY3 : Hid (y = goS T s lp) := by show _ = _; rw [HY.out, List.take_of_length_le (by omega)]
                  have O7 : Hid (Owns W1.heap.size wi [bIt g nS c9 s, bIt g9 nS d9 y]) := at_2 (OO.out (by omega))
                  have HYl : Hid (y < 2 ^ nS) := by rw [HY3.out]; exact goS_ltn HT.out HL2.out _
                  clear HY OO A9 O
                  go_wp2_with fail
                  clear x0 x1 x2 x3 x4 z0 z1
                  go_loopw [8, 11] (fun va vk wk => ∃ (k : Nat) (ag : Bool), va = .bool ag ∧ vk = .int .i64 k ∧ k ≤ nS ∧ (ag = true ↔ s ||| y % 2 ^ k ≠ s) ∧ Owns W1.heap.size wk [bIt g nS c9 (s ||| y % 2 ^ k), bIt g9 nS d9 y] ∧ W1.grownBy wk none) (fun _ vk _ => nS - (intOf vk).toNat)
                  case atStart => exact ⟨0, false, rfl, rfl, by omega, by rw [orm_zero]; simp, by rw [orm_zero]; exact O7.out, G.out⟩
                  case round =>
                    clear O7
                    rename World => wk
                    obtain ⟨k, ag, rfl, rfl, hk, hag, ho, hg⟩ := hrel
                    have O8 : Hid (Owns W1.heap.size wk [bIt g nS c9 (s ||| y % 2 ^ k), bIt g9 nS d9 y]) := ho
                    have G8 : Hid (W1.grownBy wk none) := hg
                    have HAg : Hid (ag = true ↔ s ||| y % 2 ^ k ≠ s) := hag
                    obtain ⟨_, x1, _, _, _⟩ := BX.out wk hg
                    clear ho hg hag
                    by_cases hkl : k < nS
                    · have hki : (k : Int) < (nS : Int) := by omega
                      have hc1 := own_bit O8.out hkl
                      rw [orm_bit] at hc1
                      have hc2 := own_bit (at_2 O8.out) hkl
                      have hz1 := O8.out.fz k
                      have HO9 : Hid (∀ b5, (s.testBit k || y.testBit k) = b5 → Owns W1.heap.size (wk.setCell ⟨g, k, none⟩ (.bool b5)) [bIt g nS c9 (s ||| y % 2 ^ (k + 1)), bIt g9 nS d9 y] ∧ W1.grownBy (wk.setCell ⟨g, k, none⟩ (.bool b5)) none) := fun b5 hb5 => ⟨own_put O8.out hkl (orm_succ.1.trans hb5) (fun j hj => orm_succ.2 j hj), grown_new G8.out (grown_set _ _ _) O8.out.ge.1⟩
                      have HAS : Hid ((ag || (y.testBit k && !s.testBit k)) = true ↔ s ||| y % 2 ^ (k + 1) ≠ s) := ag_step1 rfl rfl HAg.out
                      generalize s.testBit k = b1 at hc1 HO9 HAS
                      generalize y.testBit k = b2 at hc2 HO9 HAS
                      clear HAg O8
                      cases ag <;> cases b1 <;> cases b2
                      all_goals
                        go_wp2_with fail
                        go_roundw
                        case rel => exact ⟨k + 1, _, rfl, by go_num, by omega, HAS.out, (HO9.out _ rfl).1, (HO9.out _ rfl).2⟩
                        case measure => simp [intOf]; omega
                    · have hki : ¬ (k : Int) < (nS : Int) := by omega
                      have hke : k = nS := by omega
                      have O9 : Hid (Owns W1.heap.size wk [bIt g nS c9 (s ||| y)]) := by
                        have h1 := O8.out
                        rw [hke, orm_end HYl.out] at h1
                        exact h1.sub1
                      have HAg2 : Hid (ag = true ↔ s ||| y ≠ s) := by
                        have h1 := HAg.out
                        rw [hke, orm_end HYl.out] at h1
                        exact h1
                      have L1 : Hid (s ||| y < 2 ^ nS) := or_lt HL2.out HYl.out
                      clear HAg O8
                      go_wp2_with fail
                      go_roundw
                      case rel =>
                        refine ⟨s ||| y, ag, rfl, L1.out, by rw [HY3.out]; exact FA.out.more, fun hag => ?_, O9.out, G8.out⟩
                        have h2 : s ||| y = s := Classical.byContradiction fun h3 => by have := HAg2.out.2 h3; rw [hag] at this; cases this
                        rw [h2, ← HY3.out]
                        exact h2
                      case measure =>
                        have m1 := rdSet_eq (own_at9 O9.out) L1.out
                        have l1 := L1.out
                        have g1 := or_ge s y
                        rw [m1, HM0.out]
                        cases ag with
                        | false => simp only [againN]; omega
                        | true =>
                          simp only [againN]
                          have := or_grows (HAg2.out.1 rfl); omega
            | false =>
              have HCl2 : Hid (s ||| goS T s lp = s) := HCl.out rfl
              clear HCl
              obtain ⟨x0, x1, x2, x3, x4⟩ := BX.out wo G.out
              obtain ⟨W6, hmk6, ho6, g6, s6⟩ := bools_new O.out G.out.size nS (by omega)
              have O6 : Hid (Owns W1.heap.size W6 [bIt wo.heap.size nS nS 0, bIt g nS c9 s]) := ho6
              have G6 : Hid (W1.grownBy W6 none) := grown_trans G.out g6
              clear ho6 g6 s6 O G x0 x2 x3 x4
              go_wp2_with fail
              clear hmk6 x1
              generalize wo.heap.size = gn at *
              go_loopw [13] (fun v wr => ∃ k y : Nat, k ≤ F.length ∧ v = .int .i64 k ∧ y = setOf (F.take k) ∧ Owns W1.heap.size wr [bIt gn nS nS y, bIt g nS c9 s] ∧ W1.grownBy wr none) (fun v _ => F.length - (intOf v).toNat)
              case atStart => exact ⟨0, 0, by omega, rfl, rfl, O6.out, G6.out⟩
              case round =>
                clear O6 G6
                rename World => wf
                obtain ⟨k, y, hk, rfl, hy, ho, hg⟩ := hrel
                have O : Hid (Owns W1.heap.size wf [bIt gn nS nS y, bIt g nS c9 s]) := ho
                have G : Hid (W1.grownBy wf none) := hg
                have HY : Hid (y = setOf (F.take k)) := hy
                obtain ⟨x0, x1, x2, x3, x4⟩ := BX.out wf hg
                clear hy ho hg
                by_cases hlt : k < F.length
                · have hki : (k : Int) < (F.length : Int) := by omega
                  obtain ⟨bb, off, hab, hc⟩ := (HFin.out wf (grown_trans G1.out G.out)).at hlt
                  rw [hab] at x4
                  have hck := hc k hlt
                  have hin := HFi.out k hlt
                  obtain ⟨q, hq⟩ : ∃ q : Nat, F.getD k 0 = q := ⟨(F.getD k 0).toNat, by omega⟩
                  have HS2 : Hid (y ||| 2 ^ q = setOf (F.take (k + 1))) := by show _ = _; rw [setOf_snoc hlt, hq, HY.out]; simp
                  rw [hq] at hck hin
                  have hqn : q < nS := by omega
                  have hcl := own_bit O.out hqn
                  have hfz := O.out.fz q
                  have O3 : Hid (Owns W1.heap.size (wf.setCell ⟨gn, q, none⟩ (.bool true)) [bIt gn nS nS (y ||| 2 ^ q), bIt g nS c9 s]) := own_put O.out hqn (by rw [Nat.testBit_or]; simp) (fun j hj => by
                    rw [Nat.testBit_or, Nat.testBit_two_pow]
                    have : decide (q = j) = false := by simp; omega
                    rw [this, Bool.or_false])
                  have G3 : Hid (W1.grownBy (wf.setCell ⟨gn, q, none⟩ (.bool true)) none) := grown_new G.out (grown_set _ _ _) O.out.ge.1
                  clear hc hab hq hin x0 x1 x2 x3
                  go_wp2_with fail
                  go_roundw
                  case rel => exact ⟨k + 1, _, by omega, by go_num, HS2.out, O3.out, G3.out⟩
                  case measure => simp [intOf]; omega
                · have hki : ¬ (k : Int) < (F.length : Int) := by omega
                  have O7 : Hid (Owns W1.heap.size wf [bIt gn nS nS (setOf F), bIt g nS c9 s]) := by
                    have h1 := O.out
                    rw [HY.out, List.take_of_length_le (by omega)] at h1
                    exact h1
                  clear HY O
                  go_wp2_with fail
                  clear x0 x1 x2 x3 x4 hki hk hlt
                  go_loopw [14] (fun v wr => ∃ k : Nat, k ≤ nS ∧ v = .int .i64 k ∧ (∀ j, j < k → s.testBit j = true → ¬ RoundP T (setOf F) lp j) ∧ wf.grownBy wr none) (fun v _ => nS - (intOf v).toNat)
                  case atStart => exact ⟨0, by omega, rfl, (fun j hj => by omega), grown_refl _ _⟩
                  case round =>
                    rename World => wl
                    obtain ⟨k, hk, rfl, hj, hg⟩ := hrel
                    have HJ : Hid (∀ j, j < k → s.testBit j = true → ¬ RoundP T (setOf F) lp j) := hj
                    have K : Hid (wf.grownBy wl none) := hg
                    obtain ⟨x0, x1, x2, x3, x4⟩ := BX.out wl (grown_trans G.out hg)
                    obtain ⟨z0, z1⟩ := BL.out wl (grown_trans G.out hg)
                    have O8 : Hid (Owns W1.heap.size wl [bIt gn nS nS (setOf F), bIt g nS c9 s]) := O7.out.kept hg
                    clear hj hg
                    by_cases hkl : k < nS
                    · have hki : (k : Int) < (nS : Int) := by omega
                      have hc := own_bit (at_2 O8.out) hkl
                      cases hb : s.testBit k with
                      | false =>
                        rw [hb] at hc
                        have HJ2 : Hid (∀ j, j < k + 1 → s.testBit j = true → ¬ RoundP T (setOf F) lp j) := fun j hj hs => by
                          by_cases e : j = k
                          · subst e; rw [hb] at hs; cases hs
                          · exact HJ.out j (by omega) hs
                        clear hb
                        go_wp2_with fail
                        go_roundw
                        case rel => exact ⟨k + 1, by omega, by go_num, HJ2.out, K.out⟩
                        case measure => simp [intOf]; omega
                      | true =>
                        rw [hb] at hc
                        have HR : Hid (∀ W, wl.grownBy W none → Calls Try.prog 33 #[autV l nS a S.length c b mT d e F.length f, .slice al lp.length cl, .slice (some ⟨gn, 0, none⟩) nS nS, .int .i64 (k : Nat)] W (TellsB (RoundP T (setOf F) lp k) W)) := fun W hW => HRd.out W gn nS k (grown_trans G1.out (grown_trans G.out (grown_trans K.out hW))) ((own_at9 O8.out).grown hW) hkl
                        have HB : Hid (s.testBit k = true) := hb
                        clear hb
                        go_wp2_with fail
                        refine (HR.out _ (grown_refl _ _)).mono ?_
                        rintro E w9 ⟨b9, rfl, hb9, hg9⟩
                        have K9 : Hid (wf.grownBy w9 none) := grown_trans K.out hg9
                        clear hg9 x0 x1 x2 x3 x4 z0 z1
                        cases b9 with
                        | true =>
                          have HY : Hid AP := by
                            rw [← HAP.out, acc_iff]
                            exact ⟨k, FA.out.come k HB.out, hb9.1 rfl⟩
                          clear hb9
                          go_wp2_with fail
                          go_ret
                          exact tellsB true rfl ⟨fun _ => HY.out, fun _ => rfl⟩ (grown_trans G1.out (grown_trans G.out K9.out))
                        | false =>
                          have HJ2 : Hid (∀ j, j < k + 1 → s.testBit j = true → ¬ RoundP T (setOf F) lp j) := fun j hj hs => by
                            by_cases e : j = k
                            · subst e; intro hr; have := hb9.2 hr; cases this
                            · exact HJ.out j (by omega) hs
                          clear hb9
                          go_wp2_with fail
                          go_roundw
                          case rel => exact ⟨k + 1, by omega, by go_num, HJ2.out, K9.out⟩
                          case measure => simp [intOf]; omega
                    · have hki : ¬ (k : Int) < (nS : Int) := by omega
                      have HNo : Hid (¬ AP) := by
                        rw [← HAP.out, acc_iff]
                        rintro ⟨q, ⟨i, q0, h1, h2⟩, h3⟩
                        have h4 := FA.out.all HCl2.out h1 h2
                        have h5 : q < nS := by
                          rcases Nat.lt_or_ge q nS with h6 | h6
                          · exact h6
                          · have h7 : s.testBit q = false := Nat.testBit_lt_two_pow (Nat.lt_of_lt_of_le HL2.out (Nat.pow_le_pow_right (by omega) h6))
                            rw [h7] at h4; cases h4
                        exact HJ.out q (by omega) h4 h3
                      clear x0 x1 x2 x3 x4 z0 z1
                      obtain ⟨x0, x1, x2, x3, x4⟩ := BX.out wl (grown_trans G.out K.out)
                      go_wp2_with fail
                      go_ret
                      exact tellsB false rfl ⟨(fun e => by cases e), fun e => absurd e HNo.out⟩ (grown_trans G1.out (grown_trans G.out K.out))

end Go.Proofs.Ytaangdomdeklhaa
