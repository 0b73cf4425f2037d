/- How many nodes a least tree has: the reference's Least, walked. -/
import Derived.Test.YtofjmakmbmndoaaTrLeast
namespace Go.Proofs.Ytofjmakmbmndoaa
open Go.RowKit
set_option linter.unusedVariables false

theorem nowB_leaf {G : Nat → Nat} {n : Nat} {r0 r1 r2 : Int} {t : Nat} (h : r1 < 0) : nowB G n (r0, r1, r2, (t : Int)) = ((n == 1) && G t == 0) := by
  unfold nowB isN
  simp [h]
theorem nowB_node {G : Nat → Nat} {n : Nat} {r0 : Int} {p s t : Nat} : nowB G n (r0, (p : Int), (s : Int), (t : Int)) = (((decide (0 < G p) && decide (0 < G s)) && (G p + G s + 1 == n)) && G t == 0) := by
  unfold nowB isN
  have : ¬ ((p : Int) < 0) := by omega
  simp [this]

/-- While the rules are looked at for trees with n nodes. -/
structure LoI (B : Nat) (W wq : World) (R : List RuleI) (G : Nat → Nat) (n j : Nat) (a : Option Addr) (c : Nat) : Prop where
  now : NowS B wq a c (nowL G n R j)
  bel : Below B W wq
theorem LoI.skip {B : Nat} {W wq w' : World} {R : List RuleI} {G : Nat → Nat} {n j : Nat} {a : Option Addr} {c : Nat} (h : LoI B W wq R G n j a c) (hj : j < R.length) (hn : nowB G n (R.getD j ru0) = false) (hg : wq.grownBy w' none) (hB : B ≤ wq.heap.size) : LoI B W w' R G n (j + 1) a c ∧ (nowL G n R (j + 1)).length = (nowL G n R j).length := by
  have e : nowL G n R (j + 1) = nowL G n R j := by rw [nowL_succ hj, if_neg (by rw [hn]; simp)]
  exact ⟨⟨by rw [e]; exact h.now.kept hg, h.bel.trans (Below.mono (below_of_grown hg) hB)⟩, by rw [e]⟩

theorem LoI.put {B : Nat} {W wq w' : World} {R : List RuleI} {G : Nat → Nat} {n j : Nat} {a : Option Addr} {c : Nat} {a' : Option Addr} {c' : Nat} (h : LoI B W wq R G n j a c) (hj : j < R.length) (hn : nowB G n (R.getD j ru0) = true) (h1 : NowS B w' a' c' (nowL G n R j ++ [(R.getD j ru0).2.2.2])) (h2 : Below B wq w') : LoI B W w' R G n (j + 1) a' c' ∧ (nowL G n R (j + 1)).length = (nowL G n R j).length + 1 := by
  have e : nowL G n R (j + 1) = nowL G n R j ++ [(R.getD j ru0).2.2.2] := by rw [nowL_succ hj, if_pos hn]
  exact ⟨⟨by rw [e]; exact h1, h.bel.trans h2⟩, by rw [e]; simp⟩
theorem nowL_len (G : Nat → Nat) (n : Nat) (R : List RuleI) (j : Nat) : (nowL G n R j).length ≤ R.length := by
  unfold nowL
  rw [List.length_map]
  refine Nat.le_trans (List.length_filter_le _ _) ?_
  rw [List.length_take]; omega
def LeastPost (x : Trs) (w : World) (E : Ending) (w' : World) : Prop := ∃ r : Nat, E = .returned (.int .i64 (r : Int)) ∧ LeastIs x.R x.M r ∧ w.grownBy w' none

attribute [local go_sem ↓] app_fold in
set_option maxHeartbeats 12800000 in
set_option maxRecDepth 100000 in
theorem least_any (x : Trs) (b e : Option Addr) (d f : Nat) (w : World) (h : TrsAt w x b e) (hx : GoodT x) :
    Calls Try.prog 14 #[trsV x.L x.N b x.R.length d x.S e x.M.length f] w (LeastPost x w) := by
  have HR : Hid (∀ W, w.grownBy W none → RulesAt W b x.R) := fun W hW => (h.grown hW).rules
  have HM : Hid (∀ W, w.grownBy W none → Ints W e x.M) := fun W hW => (h.grown hW).marks
  have HRu : Hid (InRu x.R x.L x.N) := hx.ru
  have hr4 := hx.r4
  have hN1 := hx.n1
  have hN3 := hx.n3
  have hML := hx.m
  have HPost : Hid (∀ (r : Nat) (W : World), LeastIs x.R x.M r → w.grownBy W none → LeastPost x w (.returned (.int .i64 (r : Int))) W) := fun r W h1 h2 => ⟨r, rfl, h1, h2⟩
  obtain ⟨P, hP⟩ : ∃ P, P = LeastPost x w := ⟨_, rfl⟩
  rw [← hP] at HPost ⊢
  obtain ⟨L, N, R, S0, M⟩ := x
  simp only at *
  obtain ⟨nN, rfl⟩ : ∃ n : Nat, N = n := ⟨N.toNat, by omega⟩
  have HML : Hid (M.length = nN) := by show _ = _; omega
  obtain ⟨nR, hnR⟩ : ∃ n, R.length = n := ⟨_, rfl⟩
  obtain ⟨nM, hnM⟩ : ∃ n, M.length = n := ⟨_, rfl⟩
  have HnR : Hid (R.length = nR) := hnR
  have HnM : Hid (M.length = nM) := hnM
  have HMN : Hid (nM = nN) := by show _ = _; omega
  rw [hnR, hnM]
  rw [hnR] at hr4
  have hnN3 : nN ≤ 300 := by omega
  obtain ⟨W1, hW1, g1, s1, bx1⟩ := box5_new w (.int .i64 L) (.int .i64 (nN : Int)) (.slice b nR d) (.int .i64 S0) (.slice e nM f) 25
  have HW1 : Hid (W1 = _) := hW1
  have G1 : Hid (w.grownBy W1 none) := g1
  have B0 : Hid (∀ W', W1.grownBy W' none → W'.cell? ⟨w.heap.size, 2, none⟩ = some (.slice b nR d) ∧ W'.cell? ⟨w.heap.size, 4, none⟩ = some (.slice e nM f)) := fun W' hW' => ⟨(bx1 W' hW').2.2.1, (bx1 W' hW').2.2.2.2⟩
  obtain ⟨W2, hmk, hrow, g2, s2⟩ := nums_make W1 nN (by omega)
  obtain ⟨gs, hgs⟩ : ∃ gs, W1.heap.size = gs := ⟨_, rfl⟩
  rw [hgs] at hmk hrow s2
  rw [hW1] at hmk
  have S2 : Hid (∀ wq, W2.grownBy wq (some gs) → W1.grownBy wq none) := fun wq hh => grown_new g2 hh (by omega)
  have HB : Hid (W2.heap.size = gs + 1) := s2
  have R0 : Hid (IRow W2 gs nN (fun _ => 0)) := hrow
  clear h hx hnR hnM hW1 g1 s1 bx1 hrow g2 s2 hgs hML hN1 hN3 hP
  go_enter Try.func14, Try.ntmps14
  go_wp2_with fail
  clear hmk
  go_loopw [4] (fun v4 wr => ∃ (n : Nat) (G : Nat → Nat), v4 = .int .i64 (n : Int) ∧ 1 ≤ n ∧ n ≤ 61 ∧ IRow wr gs nN G ∧ SizI R nN n G ∧ NoSiz M nN G ∧ W2.grownBy wr (some gs)) (fun v4 _ => 61 - (intOf v4).toNat)
  case atStart => exact ⟨1, _, rfl, Nat.le_refl _, by omega, R0.out, SizI.start R nN, fun q _ _ => rfl, grown_refl _ _⟩
  case round =>
    obtain ⟨n, G, rfl, hn1, hn61, hrow, hsiz, hnos, hgw⟩ := hrel
    have RW : Hid (IRow wr gs nN G) := hrow
    have SZ : Hid (SizI R nN n G) := hsiz
    have NZ : Hid (NoSiz M nN G) := hnos
    have GW : Hid (W2.grownBy wr (some gs)) := hgw
    have GR : Hid (W1.grownBy wr none) := S2.out wr hgw
    clear hrow hsiz hnos hgw R0
    by_cases hn60 : n ≤ 60
    case neg =>
      have SZ61 : SizI R nN 61 G := by
        have e61 : n = 61 := by omega
        rw [← e61]; exact SZ.out
      have d1 : decide ((n : Int) ≤ 60) = false := by simp; omega
      have d2 : ¬ (n : Int) ≤ 60 := by omega
      have Fin : Hid (P (.returned (.int .i64 0)) wr) := HPost.out 0 wr (least_no HML.out SZ61 NZ.out) (grown_trans G1.out GR.out)
      go_wp2_with fail
      exact Fin.out
    have d1 : decide ((n : Int) ≤ 60) = true := by simp; omega
    have d2 : (n : Int) ≤ 60 := by omega
    have I0 : Hid (LoI W2.heap.size wr wr R G n 0 none 0) := ⟨by
      have : nowL G n R 0 = [] := by simp [nowL]
      rw [this]; exact World.ownsRow_nil _ _ _ _, Below.refl _ _⟩
    have HBw : Hid (W2.heap.size ≤ wr.heap.size) := GW.out.size
    go_wp2_with fail
    go_loopw [5, 6] (fun v5 v6 wq => ∃ (j len c : Nat) (a : Option Addr), v5 = .slice a len c ∧ v6 = .int .i64 (j : Int) ∧ j ≤ nR ∧ (nowL G n R j).length = len ∧ LoI W2.heap.size wr wq R G n j a c) (fun _ v6 _ => nR - (intOf v6).toNat)
    case atStart => exact ⟨0, 0, 0, none, rfl, rfl, by omega, by simp [nowL], I0.out⟩
    case round =>
      rename World => wq
      clear I0
      obtain ⟨j, len, c, a, rfl, rfl, hj, hlen, hI⟩ := hrel
      have LI : Hid (LoI W2.heap.size wr wq R G n j a c) := hI
      have HLn : Hid ((nowL G n R j).length = len) := hlen
      have hl4 : len ≤ 40000 := by have := nowL_len G n R j; have := HnR.out; omega
      have RQ : Hid (IRow wq gs nN G) := RW.out.block (hI.bel.block gs (by have := HB.out; omega))
      have GQ : Hid (W2.grownBy wq (some gs)) := ⟨hI.bel.os.trans GW.out.os, hI.bel.tape.trans GW.out.tape, hI.bel.output.trans GW.out.output, Nat.le_trans GW.out.size hI.bel.size, fun i hi hr => (hI.bel.block i hi).trans (GW.out.block i hi hr)⟩
      have GQ1 : Hid (W1.grownBy wq none) := S2.out wq GQ.out
      have HBq : Hid (W2.heap.size ≤ wq.heap.size) := GQ.out.size
      obtain ⟨x2, x4⟩ := B0.out wq GQ1.out
      clear hI hlen
      by_cases hjn : j < nR
      · have qj : (j : Int) < (nR : Int) := by omega
        obtain ⟨b2, off2, hb2, hc⟩ := (HR.out wq (grown_trans G1.out GQ1.out)).at (k := j) (by rw [HnR.out]; exact hjn)
        subst hb2
        obtain ⟨y0, y1, y2, y3⟩ := hc j (by rw [HnR.out]; exact hjn)
        have hin : RuIn L nN (R.getD j ru0) := HRu.out j (by rw [HnR.out]; exact hjn)
        have HSk : Hid (∀ W, wq.grownBy W none → nowB G n (R.getD j ru0) = false → LoI W2.heap.size wr W R G n (j + 1) a c ∧ (nowL G n R (j + 1)).length = len) := fun W hW hh => by
          have := LI.out.skip (by rw [HnR.out]; exact hjn) hh hW HBq.out
          rwa [HLn.out] at this
        have HPt : Hid (∀ (W : World), wq.grownBy W none → nowB G n (R.getD j ru0) = true → ∃ g c' w2, (AppS #[23, 23] 23 #[.slice a len c, .slice (some ⟨W.heap.size, 0, none⟩) 1 1]).run Try.prog (W.alloc (.cells #[.int .i64 (R.getD j ru0).2.2.2] 3)) = .ok (.slice (some ⟨g, 0, none⟩) (len + 1) c') w2 ∧ LoI W2.heap.size wr w2 R G n (j + 1) (some ⟨g, 0, none⟩) c' ∧ (nowL G n R (j + 1)).length = len + 1) := fun W hW hh => by
          obtain ⟨g, c', w2, hr, h1, h2⟩ := (LI.out.now.kept hW).app (Nat.le_trans HBq.out hW.size) (R.getD j ru0).2.2.2 (by rw [HLn.out]; omega)
          rw [HLn.out] at hr
          obtain ⟨h3, h4⟩ := LI.out.put (by rw [HnR.out]; exact hjn) hh h1 ((Below.mono (below_of_grown hW) HBq.out).trans h2)
          rw [HLn.out] at h4
          exact ⟨g, c', w2, hr, h3, h4⟩
        unfold RuIn at hin
        clear hc
        generalize R.getD j ru0 = r at *
        obtain ⟨r0, r1, r2, r3⟩ := r
        simp only at y0 y1 y2 y3 hin HPt
        obtain ⟨t, ht⟩ : ∃ t : Nat, r3 = t := ⟨r3.toNat, by omega⟩
        subst ht
        have htn : t < nN := by omega
        have itn : (t : Int) < (nN : Int) := by omega
        obtain ⟨WR, hWR⟩ : ∃ WR, WR = wq.alloc (.cells #[.int .i64 r0, .int .i64 r1, .int .i64 r2, .int .i64 (t : Int)] 46) := ⟨_, rfl⟩
        have HWR : Hid (WR = _) := hWR
        have gR : wq.grownBy WR none := by rw [hWR]; exact grown_alloc _ _
        have sR : WR.heap.size = wq.heap.size + 1 := by rw [hWR, World.size_alloc]
        have hrb := heap_alloc_new wq (.cells #[.int .i64 r0, .int .i64 r1, .int .i64 r2, .int .i64 (t : Int)] 46)
        rw [← hWR] at hrb
        have u1 : WR.cell? ⟨wq.heap.size, 1, none⟩ = some (.int .i64 r1) := by rw [cell_of_row _ _ 1 _ _ (0, 0) hrb]; rfl
        have u2 : WR.cell? ⟨wq.heap.size, 2, none⟩ = some (.int .i64 r2) := by rw [cell_of_row _ _ 2 _ _ (0, 0) hrb]; rfl
        have u3 : WR.cell? ⟨wq.heap.size, 3, none⟩ = some (.int .i64 (t : Int)) := by rw [cell_of_row _ _ 3 _ _ (0, 0) hrb]; rfl
        have RR : Hid (IRow WR gs nN G) := RQ.out.block (gR.block gs RQ.out.lt (by simp))
        have ct := RR.out.cell htn
        have GRR : Hid (wq.grownBy WR none) := gR
        have et : ((G t : Int) == 0) = (G t == 0) := by
          by_cases e0 : G t = 0
          · rw [e0]; rfl
          · have e1 : (G t == 0) = false := by simpa using e0
            rw [e1, beq_eq_false_iff_ne]; omega
        clear hrb gR
        by_cases hl : r1 < 0
        · have hl0 : decide (0 ≤ r1) = false := by simp; omega
          have hl1 : ¬ (0 ≤ r1) := by omega
          have HNw : Hid (nowB G n (r0, r1, r2, (t : Int)) = ((n == 1) && G t == 0)) := nowB_leaf hl
          have en : ((n : Int) == 1) = (n == 1) := by
            by_cases e0 : n = 1
            · rw [e0]; rfl
            · have e1 : (n == 1) = false := by simpa using e0
              rw [e1, beq_eq_false_iff_ne]; omega
          generalize (n == 1) = bn at *
          generalize (G t == 0) = bt at *
          rw [hWR] at ct u1 u3
          clear hin hl
          cases bn
          · obtain ⟨HN1, HN2⟩ := HSk.out WR GRR.out HNw.out
            have HN : Hid _ := HN1
            have HL : Hid _ := HN2
            clear HSk HPt HN1 HN2 hWR sR
            go_wp2_with fail
            rw [← HWR.out]
            go_roundw
            case rel => exact ⟨j + 1, len, c, a, rfl, by go_num, by omega, HL.out, HN.out⟩
            case measure => simp [intOf]; omega
          · cases bt
            · obtain ⟨HN1, HN2⟩ := HSk.out WR GRR.out HNw.out
              have HN : Hid _ := HN1
              have HL : Hid _ := HN2
              clear HSk HPt HN1 HN2 hWR sR
              go_wp2_with fail
              rw [← HWR.out]
              go_roundw
              case rel => exact ⟨j + 1, len, c, a, rfl, by go_num, by omega, HL.out, HN.out⟩
              case measure => simp [intOf]; omega
            · obtain ⟨g, c', w3, hrun, HN1, HN2⟩ := HPt.out WR GRR.out HNw.out
              have HN : Hid _ := HN1
              have HL : Hid _ := HN2
              rw [sR, hWR] at hrun
              clear HSk HPt HN1 HN2 hWR sR
              go_wp2_with fail
              go_roundw
              case rel => exact ⟨j + 1, len + 1, c', _, rfl, by go_num, by omega, HL.out, HN.out⟩
              case measure => simp [intOf]; omega
        · obtain ⟨p, hp⟩ : ∃ p : Nat, r1 = p := ⟨r1.toNat, by omega⟩
          obtain ⟨s, hs⟩ : ∃ s : Nat, r2 = s := ⟨r2.toNat, by omega⟩
          subst hp hs
          have hpn : p < nN := by omega
          have hsn : s < nN := by omega
          have ipn : (p : Int) < (nN : Int) := by omega
          have isn : (s : Int) < (nN : Int) := by omega
          have ip0 : (0 : Int) ≤ (p : Int) := by omega
          have cp := RR.out.cell hpn
          have cs := RR.out.cell hsn
          have HNw : Hid (nowB G n (r0, (p : Int), (s : Int), (t : Int)) = (((decide (0 < G p) && decide (0 < G s)) && (G p + G s + 1 == n)) && G t == 0)) := nowB_node
          have bp : G p ≤ 60 := by by_cases e0 : G p = 0
                                   · omega
                                   · have := ((SZ.out p hpn).1 e0).2; omega
          have bs : G s ≤ 60 := by by_cases e0 : G s = 0
                                   · omega
                                   · have := ((SZ.out s hsn).1 e0).2; omega
          have ep : decide (0 < (G p : Int)) = decide (0 < G p) := by rw [decide_eq_decide]; omega
          have es : decide (0 < (G s : Int)) = decide (0 < G s) := by rw [decide_eq_decide]; omega
          have eq : (((G p : Int) + (G s : Int) + 1) == (n : Int)) = (G p + G s + 1 == n) := by
            by_cases e0 : G p + G s + 1 = n
            · have e1 : (G p + G s + 1 == n) = true := by simpa using e0
              rw [e1, beq_iff_eq]; omega
            · have e1 : (G p + G s + 1 == n) = false := by simpa using e0
              rw [e1, beq_eq_false_iff_ne]; omega
          generalize hbe : (G p + G s + 1 == n) = be at *
          generalize hbt : (G t == 0) = bt at *
          generalize hdp : decide (0 < G p) = dp at *
          generalize hds : decide (0 < G s) = ds at *
          generalize G p = vp at *
          generalize G s = vs at *
          generalize G t = vt at *
          have HSk2 : Hid (nowB G n (r0, (p : Int), (s : Int), (t : Int)) = false → ∀ nq, LoI W2.heap.size wr (WR.drewN nq) R G n (j + 1) a c ∧ (nowL G n R (j + 1)).length = len) := fun hh nq => HSk.out _ (grown_drewN GRR.out nq) hh
          have m1 := u1
          rw [hWR] at m1
          clear hin hl HSk hWR
          cases dp
          · go_wp2_with fail
            rw [← HWR.out]
            go_quiet (fail)
            obtain ⟨HN1, HN2⟩ := HSk2.out HNw.out nq
            have HN : Hid (LoI W2.heap.size wr (WR.drewN nq) R G n (j + 1) a c) := HN1
            have HL : Hid ((nowL G n R (j + 1)).length = len) := HN2
            clear HN1 HN2
            go_wp2_with fail
            go_roundw
            case rel => exact ⟨j + 1, len, c, a, rfl, by go_num, by omega, HL.out, HN.out⟩
            case measure => simp [intOf]; omega
          · cases ds
            · go_wp2_with fail
              rw [← HWR.out]
              go_quiet (fail)
              obtain ⟨HN1, HN2⟩ := HSk2.out HNw.out nq
              have HN : Hid (LoI W2.heap.size wr (WR.drewN nq) R G n (j + 1) a c) := HN1
              have HL : Hid ((nowL G n R (j + 1)).length = len) := HN2
              clear HN1 HN2
              go_wp2_with fail
              go_roundw
              case rel => exact ⟨j + 1, len, c, a, rfl, by go_num, by omega, HL.out, HN.out⟩
              case measure => simp [intOf]; omega
            · cases be
              · go_wp2_with fail
                rw [← HWR.out]
                go_quiet (fail)
                obtain ⟨HN1, HN2⟩ := HSk2.out HNw.out nq
                have HN : Hid (LoI W2.heap.size wr (WR.drewN nq) R G n (j + 1) a c) := HN1
                have HL : Hid ((nowL G n R (j + 1)).length = len) := HN2
                clear HN1 HN2
                go_wp2_with fail
                go_roundw
                case rel => exact ⟨j + 1, len, c, a, rfl, by go_num, by omega, HL.out, HN.out⟩
                case measure => simp [intOf]; omega
              · go_wp2_with fail
                rw [← HWR.out]
                go_quiet (fail)
                cases bt
                · obtain ⟨HN1, HN2⟩ := HSk2.out HNw.out nq
                  have HN : Hid (LoI W2.heap.size wr (WR.drewN nq) R G n (j + 1) a c) := HN1
                  have HL : Hid ((nowL G n R (j + 1)).length = len) := HN2
                  clear HN1 HN2
                  go_wp2_with fail
                  go_roundw
                  case rel => exact ⟨j + 1, len, c, a, rfl, by go_num, by omega, HL.out, HN.out⟩
                  case measure => simp [intOf]; omega
                · obtain ⟨g, c', w3, hrun, HN1, HN2⟩ := HPt.out (WR.drewN nq) (grown_drewN GRR.out nq) HNw.out
                  have HN : Hid (LoI W2.heap.size wr w3 R G n (j + 1) (some ⟨g, 0, none⟩) c') := HN1
                  have HL : Hid ((nowL G n R (j + 1)).length = len + 1) := HN2
                  obtain ⟨WD, hWD⟩ : ∃ WD, WD = WR.drewN nq := ⟨_, rfl⟩
                  have u3D : WD.cell? ⟨wq.heap.size, 3, none⟩ = some (.int .i64 (t : Int)) := by rw [hWD]; exact u3
                  have ctD : WD.cell? ⟨gs, t, none⟩ = some (.int .i64 (vt : Int)) := by rw [hWD]; exact ct
                  rw [← hWD] at hrun ⊢
                  clear HN1 HN2 hWD u1 u2 u3 cp cs ct HSk2 HPt
                  go_wp2_with fail
                  go_roundw
                  case rel => exact ⟨j + 1, len + 1, c', _, rfl, by go_num, by omega, HL.out, HN.out⟩
                  case measure => simp [intOf]; omega
      · have qj : ¬ (j : Int) < (nR : Int) := by omega
        obtain rfl : j = nR := by omega
        obtain ⟨zs, hzs⟩ : ∃ zs, nowL G n R j = zs := ⟨_, rfl⟩
        have NW : Hid (NowS W2.heap.size wq a c zs) := hzs ▸ LI.out.now
        have HZl : Hid (zs.length = len) := hzs ▸ HLn.out
        have HZm : Hid (∀ i, i < len → ∃ q : Nat, zs.getD i 0 = q ∧ q < nN ∧ Der R q n) := fun i hi => by
          have hi2 : i < zs.length := by rw [HZl.out]; exact hi
          have hm : zs.getD i 0 ∈ nowL G n R j := by rw [hzs, getD_lt hi2]; exact List.getElem_mem hi2
          obtain ⟨q, h1, h2, h3, _⟩ := now_mem HRu.out SZ.out hn1 hm
          exact ⟨q, h1, h2, h3⟩
        have HNx : Hid (SizI R nN (n + 1) (setL G n zs)) := by
          have := SizI.next HRu.out SZ.out hn1
          rwa [HnR.out, hzs] at this
        have RQ0 : Hid (IRow wq gs nN (setL G n (zs.take 0))) := RQ.out.congr fun i hi => (setL_zero G n zs i).symm
        clear hzs LI HLn RQ x4
        go_wp2_with fail
        clear x2
        go_loopw [9] (fun v9 wp => ∃ i : Nat, v9 = .int .i64 (i : Int) ∧ i ≤ len ∧ IRow wp gs nN (setL G n (zs.take i)) ∧ (∀ k, k < i → M.getD (zs.getD k 0).toNat 0 ≠ 1) ∧ NowS W2.heap.size wp a c zs ∧ W2.grownBy wp (some gs)) (fun v9 _ => len - (intOf v9).toNat)
        case atStart => exact ⟨0, rfl, by omega, RQ0.out, fun k hk => by omega, NW.out, GQ.out⟩
        case round =>
          rename World => wp
          clear RQ0 NW
          obtain ⟨i, rfl, hi, hrow, hnm, hnow, hgp⟩ := hrel
          have RP : Hid (IRow wp gs nN (setL G n (zs.take i))) := hrow
          have NM : Hid (∀ k, k < i → M.getD (zs.getD k 0).toNat 0 ≠ 1) := hnm
          have NP : Hid (NowS W2.heap.size wp a c zs) := hnow
          have GP : Hid (W2.grownBy wp (some gs)) := hgp
          clear hrow hnm hnow hgp
          by_cases hil : i < len
          · have qi : (i : Int) < (len : Int) := by omega
            obtain ⟨q, hq1, hq2, hq3⟩ := HZm.out i hil
            have hi2 : i < zs.length := by rw [HZl.out]; exact hil
            obtain ⟨ga, ea, ca⟩ := NP.out.cell hi2
            subst ea
            rw [hq1] at ca
            have iq : (q : Int) < (nN : Int) := by omega
            have iqM : (q : Int) < (nM : Int) := by have := HMN.out; omega
            have cq := RP.out.cell hq2
            have fq := RP.out.frozen q
            have hgab : W2.heap.size ≤ ga := by
              have := (World.ownsRow.lt NP.out ga rfl).1
              exact this
            have HGab : Hid (W2.heap.size ≤ ga) := hgab
            have HMk : Hid (∀ W, W2.grownBy W (some gs) → ∃ be oe, e = some ⟨be, oe, none⟩ ∧ W.cell? ⟨be, oe + q, none⟩ = some (.int .i64 (M.getD q 0)) ∧ W.cell? ⟨w.heap.size, 4, none⟩ = some (.slice e nM f)) := fun W hW => by
              have h1 := S2.out W hW
              obtain ⟨be, oe, he, hc⟩ := (HM.out W (grown_trans G1.out h1)).at (k := q) (by rw [HML.out]; exact hq2)
              exact ⟨be, oe, he, hc q (by rw [HML.out]; exact hq2), (B0.out W h1).2⟩
            have HYes : Hid (M.getD q 0 = 1 → ∀ W, W2.grownBy W (some gs) → P (.returned (.int .i64 (n : Int))) W) := fun hm W hW => HPost.out n W (least_hit HML.out SZ.out NZ.out hn1 hn60 hq2 hm hq3) (grown_trans G1.out (S2.out W hW))
            have HNm : Hid (M.getD q 0 ≠ 1 → ∀ k, k < i + 1 → M.getD (zs.getD k 0).toNat 0 ≠ 1) := fun hm k hk => by
              by_cases ek : k = i
              · subst ek; rw [hq1]; simpa using hm
              · exact NM.out k (by omega)
            have HSt : Hid (setL G n (zs.take i) q = 0 → IRow (wp.setCell ⟨gs, q, none⟩ (.int .i64 (n : Int))) gs nN (setL G n (zs.take (i + 1)))) := fun h0 => (RP.out.set hq2 n).congr fun k hk => setL_succ hi2 hq1 h0 k
            have HSs : Hid (setL G n (zs.take i) q ≠ 0 → IRow wp gs nN (setL G n (zs.take (i + 1)))) := fun h0 => RP.out.congr fun k hk => setL_skip hi2 hq1 h0 k
            clear hq1 hq3 hi2 hgab NM HZm
            obtain ⟨sv, hsv⟩ : ∃ v, setL G n (zs.take i) q = v := ⟨_, rfl⟩
            rw [hsv] at cq HSt HSs
            obtain ⟨mv, hmv⟩ : ∃ v, M.getD q 0 = v := ⟨_, rfl⟩
            rw [hmv] at HMk HYes HNm
            clear hsv hmv
            by_cases h0 : sv = 0
            · have d0 : ((sv : Int) == 0) = true := by rw [h0]; rfl
              have d0' : (sv == 0) = true := by rw [h0]; rfl
              have R2 : Hid (IRow (wp.setCell ⟨gs, q, none⟩ (.int .i64 (n : Int))) gs nN (setL G n (zs.take (i + 1)))) := HSt.out h0
              obtain ⟨WS, hWS⟩ : ∃ WS, WS = wp.setCell ⟨gs, q, none⟩ (.int .i64 (n : Int)) := ⟨_, rfl⟩
              have HWS : Hid (WS = _) := hWS
              have gS : wp.grownBy WS (some gs) := by rw [hWS]; exact grown_set _ _ _
              have GS : Hid (W2.grownBy WS (some gs)) := grown_trans GP.out gS
              have NS : Hid (NowS W2.heap.size WS (some ⟨ga, 0, none⟩) c zs) := NP.out.far gS (by have := HB.out; omega)
              have R3 : Hid (IRow WS gs nN (setL G n (zs.take (i + 1)))) := hWS ▸ R2.out
              have caS : WS.cell? ⟨ga, i, none⟩ = some (.int .i64 (q : Int)) := gS.cell ca (by simp; have := HB.out; have := HGab.out; omega)
              obtain ⟨be, oe, he, mc, x4⟩ := HMk.out WS GS.out
              subst he
              clear hWS gS R2 HSt HSs h0 HMk
              go_wp2_with fail
              rw [← HWS.out]
              by_cases hm : mv = 1
              · have dm : (mv == 1) = true := by simpa using hm
                have Fin : Hid (∀ nq, P (.returned (.int .i64 (n : Int))) (WS.drewN nq)) := fun nq => HYes.out hm _ (grown_drewN GS.out nq)
                clear hm HYes HNm
                go_quiet (fail)
                go_wp2_with fail
                exact Fin.out _
              · have dm : (mv == 1) = false := by simpa using hm
                have HN : Hid _ := HNm.out hm
                clear hm HYes HNm
                go_quiet (fail)
                go_wp2_with fail
                go_roundw
                case rel => exact ⟨i + 1, by go_num, by omega, R3.out.block rfl, HN.out, NS.out.kept (grown_drewN (grown_refl _ _) _), grown_drewN GS.out _⟩
                case measure => simp [intOf]; omega
            · have d0 : ((sv : Int) == 0) = false := by rw [beq_eq_false_iff_ne]; omega
              have d0' : (sv == 0) = false := by simpa using h0
              have R2 : Hid (IRow wp gs nN (setL G n (zs.take (i + 1)))) := HSs.out h0
              obtain ⟨be, oe, he, mc, x4⟩ := HMk.out wp GP.out
              subst he
              clear HSt HSs h0 HMk
              go_wp2_with fail
              by_cases hm : mv = 1
              · have dm : (mv == 1) = true := by simpa using hm
                have Fin : Hid (∀ nq, P (.returned (.int .i64 (n : Int))) (wp.drewN nq)) := fun nq => HYes.out hm _ (grown_drewN GP.out nq)
                clear hm HYes HNm
                go_quiet (fail)
                go_wp2_with fail
                exact Fin.out _
              · have dm : (mv == 1) = false := by simpa using hm
                have HN : Hid _ := HNm.out hm
                clear hm HYes HNm
                go_quiet (fail)
                go_wp2_with fail
                go_roundw
                case rel => exact ⟨i + 1, by go_num, by omega, R2.out.block rfl, HN.out, NP.out.kept (grown_drewN (grown_refl _ _) _), grown_drewN GP.out _⟩
                case measure => simp [intOf]; omega
          · have qi : ¬ (i : Int) < (len : Int) := by omega
            obtain rfl : i = len := by omega
            have HT : Hid (zs.take i = zs) := by show _ = _; rw [← HZl.out, List.take_length]
            have RF : Hid (IRow wp gs nN (setL G n zs)) := by
              have := RP.out
              rw [HT.out] at this
              exact this
            have NF : Hid (NoSiz M nN (setL G n zs)) := noSiz_next NZ.out (fun k hk => NM.out k (by rw [← HZl.out]; exact hk))
            go_wp2_with fail
            go_roundw
            case rel => exact ⟨n + 1, _, by go_num, by omega, by omega, RF.out, HNx.out, NF.out, GP.out⟩
            case measure => simp [intOf]; omega

end Go.Proofs.Ytofjmakmbmndoaa
