/- Which trees are accepted: the reference's Accepts. -/
import Derived.Test.YtofjmakmbmndoaaTrAccD
namespace Go.Proofs.Ytofjmakmbmndoaa
open Go.RowKit
set_option linter.unusedVariables false

attribute [local go_sem ↓] app_fold in
set_option maxHeartbeats 6400000 in
set_option maxRecDepth 100000 in
theorem acceptsR_any (x : Trs) (b e a : Option Addr) (d f c : Nat) (T : List NodeI) (w : World) (h : TrsAt w x b e) (hT : NodesAt w a T) (hx : GoodT x) (hG : GoodNd x.L T) :
    Calls Try.prog 11 #[trsV x.L x.N b x.R.length d x.S e x.M.length f, treeV a T.length c] w (Says (.bool (accTB x T)) w) := by
  have HR : Hid (∀ W, w.grownBy W none → RulesAt W b x.R) := fun W hW => (h.grown hW).rules
  have HM : Hid (∀ W, w.grownBy W none → Ints W e x.M) := fun W hW => (h.grown hW).marks
  have HT : Hid (∀ W, w.grownBy W none → NodesAt W a T) := fun W hW => hT.grown hW
  have HRu : Hid (∀ i, i < x.R.length → RuIn x.L x.N (x.R.getD i ru0)) := hx.ru
  have HNo : Hid (∀ i, i < T.length → NodeOk x.L i (T.getD i no0)) := hG.ok
  have HRow : Hid (∀ k, k < T.length → ∀ q, givB x.R T k q = ownB (givB x.R T) (T.getD k no0) x.R x.R.length q) := fun k hk q => givB_row hG.ok hk q
  have hn1 := hG.n1
  have hn6 := hG.n6
  have hr4 := hx.r4
  have hN1 := hx.n1
  have hN3 := hx.n3
  have hML := hx.m
  obtain ⟨z, hz⟩ : ∃ z, accTB x T = z := ⟨_, rfl⟩
  have HZ : Hid (rootB (givB x.R T (T.length - 1)) x.M x.M.length = z) := hz
  rw [hz]
  obtain ⟨L, N, R, S0, M⟩ := x
  simp only at *
  obtain ⟨nN, rfl⟩ : ∃ n : Nat, N = n := ⟨N.toNat, by omega⟩
  have HML : Hid (M.length = nN) := by show _ = _; omega
  generalize hSS : givB R T = S at *
  obtain ⟨n, hn⟩ : ∃ n, T.length = n := ⟨_, rfl⟩
  obtain ⟨nR, hnR⟩ : ∃ n, R.length = n := ⟨_, rfl⟩
  obtain ⟨nM, hnM⟩ : ∃ n, M.length = n := ⟨_, rfl⟩
  have Hn : Hid (T.length = n) := hn
  have HnR : Hid (R.length = nR) := hnR
  have HnM : Hid (M.length = nM) := hnM
  rw [hn, hnR, hnM]
  rw [hn] at hn1 hn6
  rw [hnR] at hr4
  obtain ⟨W0, hW0, g0, s0, bx0⟩ := box5_new w (.int .i64 L) (.int .i64 (nN : Int)) (.slice b nR d) (.int .i64 S0) (.slice e nM f) 25
  obtain ⟨W1, hW1, g1, s1, bx1⟩ := box1_new W0 (.slice a n c) 28
  have HW1 : Hid (W1 = (w.alloc (.cells #[.int .i64 L, .int .i64 (nN : Int), .slice b nR d, .int .i64 S0, .slice e nM f] 25)).alloc (.cells #[.slice a n c] 28)) := by show _ = _; rw [hW1, hW0]
  have G1 : Hid (w.grownBy W1 none) := grown_trans g0 g1
  rw [s0] at bx1
  have B1 : Hid (∀ W', W1.grownBy W' none → W'.cell? ⟨w.heap.size + 1, 0, none⟩ = some (.slice a n c)) := bx1
  have B0 : Hid (∀ W', W1.grownBy W' none → W'.cell? ⟨w.heap.size, 0, none⟩ = some (.int .i64 L) ∧ W'.cell? ⟨w.heap.size, 1, none⟩ = some (.int .i64 (nN : Int)) ∧ W'.cell? ⟨w.heap.size, 2, none⟩ = some (.slice b nR d) ∧ W'.cell? ⟨w.heap.size, 3, none⟩ = some (.int .i64 S0) ∧ W'.cell? ⟨w.heap.size, 4, none⟩ = some (.slice e nM f)) := fun W' hW' => bx0 W' (grown_trans g1 hW')
  clear h hT hx hG hz hn hnR hnM hW0 hW1 g0 g1 s0 s1 bx0 bx1 hML hSS
  go_enter Try.func11, Try.ntmps11
  go_wp2_with fail
  rw [← HW1.out]
  go_loopw [5, 6] (fun v5 v6 wr => ∃ (k c : Nat) (a : Option Addr), v5 = .slice a k c ∧ v6 = .int .i64 (k : Int) ∧ k ≤ n ∧ RowSt W1 wr (.slice a k c) k nN S) (fun _ v6 _ => n - (intOf v6).toNat)
  case atStart => exact ⟨0, 0, none, rfl, rfl, by omega, rowSt_nil _ _ _⟩
  case round =>
    obtain ⟨k, cc, ac, rfl, rfl, hk, hst⟩ := hrel
    have ST : Hid (RowSt W1 wr (.slice ac k cc) k nN S) := hst
    have GR : Hid (W1.grownBy wr none) := hst.grown
    clear hst
    have x0 := B1.out wr GR.out
    by_cases hkn : k < n
    · have qk : (k : Int) < (n : Int) := by omega
      obtain ⟨bb, off, ha, hc⟩ := (HT.out wr (grown_trans G1.out GR.out)).at (k := k) (by rw [Hn.out]; exact hkn)
      subst ha
      obtain ⟨y0, y1, y2⟩ := hc k (by rw [Hn.out]; exact hkn)
      have NOK : Hid (NodeOk L k (T.getD k no0)) := HNo.out k (by rw [Hn.out]; exact hkn)
      have ROW : Hid (∀ q, S k q = ownB S (T.getD k no0) R nR q) := fun q => by rw [HRow.out k (by rw [Hn.out]; exact hkn) q, HnR.out]
      clear hc
      generalize T.getD k no0 = x at *
      obtain ⟨xl, xa, xb⟩ := x
      simp only at y0 y1 y2
      obtain ⟨WA, hWA, gA, sA, bxA⟩ := box3_new wr (.int .i64 xl) (.int .i64 xa) (.int .i64 xb) 50
      have x1 : WA.cell? ⟨w.heap.size, 1, none⟩ = some (.int .i64 (nN : Int)) := (B0.out WA (grown_trans GR.out gA)).2.1
      obtain ⟨W5, hmk, hrow, g5, s5⟩ := bools_make WA nN (by omega)
      obtain ⟨go, hgo⟩ : ∃ go, WA.heap.size = go := ⟨_, rfl⟩
      rw [hgo] at hmk hrow s5
      have S5 : Hid (∀ wq, W5.grownBy wq (some go) → wr.grownBy wq none) := fun wq h => grown_trans gA (grown_new g5 h (by omega))
      have R0 : Hid (BRow W5 go nN (ownB S (xl, xa, xb) R 0)) := own_zero hrow
      have BA : Hid (∀ W', W5.grownBy W' (some go) → W'.cell? ⟨wr.heap.size, 0, none⟩ = some (.int .i64 xl) ∧ W'.cell? ⟨wr.heap.size, 1, none⟩ = some (.int .i64 xa) ∧ W'.cell? ⟨wr.heap.size, 2, none⟩ = some (.int .i64 xb)) := fun W' hW' => bxA (some go) W' (grown_trans (grown_some g5) hW') (by simp; omega)
      rw [hWA] at hmk x1
      clear hrow g5 s5 hgo hWA gA sA bxA
      go_wp2_with fail
      clear hmk x0 x1 y0 y1 y2
      go_loopw [9] (fun v9 wq => ∃ j : Nat, v9 = .int .i64 (j : Int) ∧ j ≤ nR ∧ BRow wq go nN (ownB S (xl, xa, xb) R j) ∧ W5.grownBy wq (some go)) (fun v9 _ => nR - (intOf v9).toNat)
      case atStart => exact ⟨0, rfl, by omega, R0.out, grown_refl _ _⟩
      case round =>
        rename World => wq
        clear R0
        obtain ⟨j, rfl, hj, hrw, hg⟩ := hrel
        have RR : Hid (BRow wq go nN (ownB S (xl, xa, xb) R j)) := hrw
        have GG : Hid (W5.grownBy wq (some go)) := hg
        have SQ : Hid (RowSt W1 wq (.slice ac k cc) k nN S) := ST.out.kept (S5.out wq hg)
        have GQ : Hid (W1.grownBy wq none) := SQ.out.grown
        obtain ⟨_, _, x2, _, _⟩ := B0.out wq GQ.out
        clear hrw hg
        by_cases hjn : j < nR
        · have qj : (j : Int) < (nR : Int) := by omega
          obtain ⟨b2, off2, hb2, hc⟩ := (HR.out wq (grown_trans G1.out GQ.out)).at (k := j) (by rw [HnR.out]; exact hjn)
          subst hb2
          obtain ⟨y0, y1, y2, y3⟩ := hc j (by rw [HnR.out]; exact hjn)
          have ROK : Hid (RuIn L nN (R.getD j ru0)) := HRu.out j (by rw [HnR.out]; exact hjn)
          have HSk : Hid (∀ W, BRow W go nN (ownB S (xl, xa, xb) R j) → hitB S (xl, xa, xb) (R.getD j ru0) = false → BRow W go nN (ownB S (xl, xa, xb) R (j + 1))) := fun W hW hh => own_skip hW (by rw [HnR.out]; exact hjn) hh
          have HPt : Hid (∀ W t, BRow W go nN (ownB S (xl, xa, xb) R j) → hitB S (xl, xa, xb) (R.getD j ru0) = true → (R.getD j ru0).2.2.2 = ((t : Nat) : Int) → t < nN → BRow (W.setCell ⟨go, t, none⟩ (.bool true)) go nN (ownB S (xl, xa, xb) R (j + 1))) := fun W t hW hh ht htn => own_put hW (by rw [HnR.out]; exact hjn) hh ht htn
          clear hc
          generalize R.getD j ru0 = r at *
          obtain ⟨r0, r1, r2, r3⟩ := r
          simp only at y0 y1 y2 y3
          obtain ⟨t, ht⟩ : ∃ t : Nat, r3 = t := ⟨r3.toNat, by have := ROK.out.2.1.1; simp only at this; omega⟩
          subst ht
          have htn : t < nN := by have := ROK.out.2.1.2; simp only at this; omega
          have htz : (t : Int) < (nN : Int) := by omega
          obtain ⟨WR, hWR⟩ : ∃ WR, WR = wq.alloc (.cells #[.int .i64 r0, .int .i64 r1, .int .i64 r2, .int .i64 (t : Int)] 46) := ⟨_, rfl⟩
          have HWR : Hid (WR = _) := hWR
          have gR : wq.grownBy WR none := by rw [hWR]; exact grown_alloc _ _
          have GGR : Hid (W5.grownBy WR (some go)) := grown_trans GG.out (grown_some gR)
          obtain ⟨n0, n1, n2⟩ := BA.out WR GGR.out
          have hrb := heap_alloc_new wq (.cells #[.int .i64 r0, .int .i64 r1, .int .i64 r2, .int .i64 (t : Int)] 46)
          rw [← hWR] at hrb
          have u1 : WR.cell? ⟨wq.heap.size, 1, none⟩ = some (.int .i64 r1) := by rw [cell_of_row _ _ 1 _ _ (0, 0) hrb]; rfl
          have u2 : WR.cell? ⟨wq.heap.size, 2, none⟩ = some (.int .i64 r2) := by rw [cell_of_row _ _ 2 _ _ (0, 0) hrb]; rfl
          have u3 : WR.cell? ⟨wq.heap.size, 3, none⟩ = some (.int .i64 (t : Int)) := by rw [cell_of_row _ _ 3 _ _ (0, 0) hrb]; rfl
          have RRR : Hid (BRow WR go nN (ownB S (xl, xa, xb) R j)) := RR.out.kept gR
          have SR : Hid (RowSt W1 WR (.slice ac k cc) k nN S) := SQ.out.kept gR
          have ft := RRR.out.frozen t
          have xt := RRR.out.cell htn
          have GSt : Hid (W5.grownBy (WR.setCell ⟨go, t, none⟩ (.bool true)) (some go)) := grown_trans GGR.out (grown_set _ _ _)
          have m0 := n0
          have m1' := n1
          rw [hWR] at m0 m1'
          clear hrb gR hWR
          by_cases e1 : r0 = xl
          case neg =>
            have d1 : (r0 != xl) = true := by simpa using e1
            have HN : Hid _ := HSk.out WR RRR.out (hitB_let e1)
            clear HSk HPt
            go_wp2_with fail
            rw [← HWR.out]
            go_roundw
            case rel => exact ⟨j + 1, by go_num, by omega, HN.out, GGR.out⟩
            case measure => simp [intOf]; omega
          have d1 : (r0 != xl) = false := by simpa using e1
          have He1 : Hid (r0 = xl) := e1
          obtain ⟨k1, hk1⟩ : ∃ m, (r1 == -1) = m := ⟨_, rfl⟩
          obtain ⟨k2, hk2⟩ : ∃ m, (xa == -1) = m := ⟨_, rfl⟩
          have HK1 : Hid ((r1 == -1) = k1) := hk1
          have HK2 : Hid ((xa == -1) = k2) := hk2
          clear e1
          cases k1 <;> cases k2
          case false.true =>
            have HN : Hid _ := HSk.out WR RRR.out (hitB_kid (by simp only; rw [HK1.out, HK2.out]; simp))
            clear HSk HPt
            go_wp2_with fail
            rw [← HWR.out]
            go_roundw
            case rel => exact ⟨j + 1, by go_num, by omega, HN.out, GGR.out⟩
            case measure => simp [intOf]; omega
          case true.false =>
            have HN : Hid _ := HSk.out WR RRR.out (hitB_kid (by simp only; rw [HK1.out, HK2.out]; simp))
            clear HSk HPt
            go_wp2_with fail
            rw [← HWR.out]
            go_roundw
            case rel => exact ⟨j + 1, by go_num, by omega, HN.out, GGR.out⟩
            case measure => simp [intOf]; omega
          case true.true =>
            have HN : Hid _ := HPt.out WR t RRR.out (hitB_leaf He1.out HK1.out HK2.out) rfl htn
            clear HSk HPt
            go_wp2_with fail
            rw [← HWR.out]
            go_quiet (fail)
            go_wp2_with fail
            go_roundw
            case rel => exact ⟨j + 1, by go_num, by omega, HN.out, by first | exact GSt.out | exact grown_drewN GSt.out _ | exact grown_drew GSt.out⟩
            case measure => simp [intOf]; omega
          case false.false =>
            have hxa : ¬ xa = -1 := by simpa using HK2.out
            have hr1 : ¬ r1 = -1 := by simpa using HK1.out
            obtain ⟨ca, hca0⟩ : ∃ ca : Nat, xa = ca := ⟨xa.toNat, by have := NOK.out.2; simp only at this; omega⟩
            obtain ⟨cb, hcb0⟩ : ∃ cb : Nat, xb = cb := ⟨xb.toNat, by have := NOK.out.2; simp only at this; omega⟩
            obtain ⟨p, hp0⟩ : ∃ p : Nat, r1 = p := ⟨r1.toNat, by have := ROK.out.2.2; simp only at this; omega⟩
            obtain ⟨q, hq0⟩ : ∃ q : Nat, r2 = q := ⟨r2.toNat, by have := ROK.out.2.2; simp only at this; omega⟩
            subst hca0 hcb0 hp0 hq0
            have hcak : ca < k := by have := NOK.out.2; simp only at this; omega
            have hcbk : cb < k := by have := NOK.out.2; simp only at this; omega
            have hpN : p < nN := by have := ROK.out.2.2; simp only at this; omega
            have hqN : q < nN := by have := ROK.out.2.2; simp only at this; omega
            obtain ⟨gc, gj, eac, z1, hb1⟩ := SR.out.row hcak
            subst eac
            obtain ⟨gc', gj', eac', z2, hb2⟩ := SR.out.row hcbk
            cases eac'
            have z3 := hb1.cell hpN
            have z4 := hb2.cell hqN
            have i1 : (ca : Int) < (k : Int) := by omega
            have i2 : (cb : Int) < (k : Int) := by omega
            have i3 : (p : Int) < (nN : Int) := by omega
            have i4 : (q : Int) < (nN : Int) := by omega
            have HHit : Hid (hitB S (xl, (ca : Int), (cb : Int)) (r0, (p : Int), (q : Int), (t : Int)) = (S ca p && S cb q)) := hitB_both He1.out
            obtain ⟨v1, hv1⟩ : ∃ v, S ca p = v := ⟨_, rfl⟩
            obtain ⟨v2, hv2⟩ : ∃ v, S cb q = v := ⟨_, rfl⟩
            rw [hv1] at z3 HHit
            rw [hv2] at z4 HHit
            clear hv1 hv2 hb1 hb2 hxa hr1
            cases v1
            · have HN : Hid _ := HSk.out WR RRR.out HHit.out
              clear HSk HPt
              go_wp2_with fail
              rw [← HWR.out]
              go_quiet (fail)
              go_wp2_with fail
              go_roundw
              case rel => exact ⟨j + 1, by go_num, by omega, HN.out, by first | exact GGR.out | exact grown_drewN GGR.out _ | exact grown_drew GGR.out⟩
              case measure => simp [intOf]; omega
            · cases v2
              · have HN : Hid _ := HSk.out WR RRR.out HHit.out
                clear HSk HPt
                go_wp2_with fail
                rw [← HWR.out]
                go_quiet (fail)
                go_wp2_with fail
                go_roundw
                case rel => exact ⟨j + 1, by go_num, by omega, HN.out, by first | exact GGR.out | exact grown_drewN GGR.out _ | exact grown_drew GGR.out⟩
                case measure => simp [intOf]; omega
              · have HN : Hid _ := HPt.out WR t RRR.out HHit.out rfl htn
                clear HSk HPt
                go_wp2_with fail
                rw [← HWR.out]
                go_quiet (fail)
                go_wp2_with fail
                go_roundw
                case rel => exact ⟨j + 1, by go_num, by omega, HN.out, by first | exact GSt.out | exact grown_drewN GSt.out _ | exact grown_drew GSt.out⟩
                case measure => simp [intOf]; omega
        · have qj : ¬ (j : Int) < (nR : Int) := by omega
          obtain rfl : j = nR := by omega
          have RF : BRow wq go nN (S k) := RR.out.congr fun i hi => (ROW.out i).symm
          obtain ⟨gA, cA, wA, hrun, hst2⟩ := SQ.out.app RF (by omega)
          have STA : Hid (RowSt W1 wA (.slice (some ⟨gA, 0, none⟩) (k + 1) cA) (k + 1) nN S) := hst2
          clear hst2 RF
          go_wp2_with fail
          go_roundw
          case rel => exact ⟨k + 1, cA, some ⟨gA, 0, none⟩, rfl, by go_num, by omega, STA.out⟩
          case measure => simp [intOf]; omega
    · have qk : ¬ (k : Int) < (n : Int) := by omega
      obtain rfl : k = n := by omega
      obtain ⟨p, hp⟩ : ∃ p, k - 1 = p := ⟨_, rfl⟩
      have hwp : IntKind.i64.wrap ((k : Int) - 1) = (p : Int) := by rw [IntKind.wrap_i64]; omega
      obtain ⟨gs, gj, ea, z1, hb⟩ := ST.out.row (j := p) (by omega)
      subst ea
      have RB : Hid (BRow wr gj nN (S p)) := hb
      have hpk : (p : Int) < (k : Int) := by omega
      have GF : Hid (w.grownBy wr none) := grown_trans G1.out GR.out
      have HZ2 : Hid (rootB (S p) M nN = z) := by
        show _ = _
        rw [← HZ.out, HML.out, Hn.out, hp]
      have HMN : Hid (nM = nN) := by show _ = _; rw [← HnM.out, HML.out]
      have IM : Hid (Ints wr e M) := HM.out wr GF.out
      clear hb hp HR HM HT HRu HNo HRow HZ ST
      go_wp2_with fail
      go_loop [12] (fun v => ∃ q : Nat, q ≤ nN ∧ v = .int .i64 q ∧ rootB (S p) M q = false) (fun v => nN - (intOf v).toNat)
      case atStart => exact ⟨0, by omega, rfl, rootB_zero _ _⟩
      case round =>
        obtain ⟨q, hq, rfl, hroot⟩ := hrel
        have RO : Hid (rootB (S p) M q = false) := hroot
        clear hroot
        obtain ⟨_, x1, _, _, x4⟩ := B0.out wr GR.out
        by_cases hqn : q < nN
        · have qq : (q : Int) < (nN : Int) := by omega
          have qM : (q : Int) < (nM : Int) := by have := HMN.out; omega
          obtain ⟨be, offe, he, hc⟩ := IM.out.at (k := q) (by rw [HML.out]; exact hqn)
          subst he
          have y4 := hc q (by rw [HML.out]; exact hqn)
          have y5 := RB.out.cell hqn
          have HSu : Hid (rootB (S p) M (q + 1) = (M.getD q 0 == 1 && S p q)) := by show _ = _; rw [rootB_succ, RO.out]; simp
          have HHi : Hid ((M.getD q 0 == 1 && S p q) = true → z = true) := fun hh => by rw [← HZ2.out]; exact rootB_hit hqn hh
          generalize S p q = sv at *
          generalize M.getD q 0 = mv at *
          clear hc
          cases sv
          · have HN : Hid (rootB (S p) M (q + 1) = false) := by show _ = _; rw [HSu.out]; simp
            clear HSu HHi
            go_wp2_with fail
            go_round
            case rel => exact ⟨q + 1, by omega, by go_num, HN.out⟩
            case measure => simp [intOf]; omega
          · obtain ⟨mb, hmb⟩ : ∃ m, (mv == 1) = m := ⟨_, rfl⟩
            rw [hmb] at HSu HHi
            cases mb
            · have HN : Hid (rootB (S p) M (q + 1) = false) := HSu.out
              clear HSu HHi
              go_wp2_with fail
              go_round
              case rel => exact ⟨q + 1, by omega, by go_num, HN.out⟩
              case measure => simp [intOf]; omega
            · have Hz : Hid (z = true) := HHi.out rfl
              clear HSu HHi
              go_wp2_with fail
              go_ret
              exact ⟨ret_bool Hz.out.symm, GF.out⟩
        · have qq : ¬ (q : Int) < (nN : Int) := by omega
          obtain rfl : q = nN := by omega
          have Hz : Hid (z = false) := by show _ = _; rw [← HZ2.out, RO.out]
          go_wp2_with fail
          go_ret
          exact ⟨ret_bool Hz.out.symm, GF.out⟩

end Go.Proofs.Ytofjmakmbmndoaa
