/- The reference's Grows: what is grown is an accepted tree. (Written by wip/tools/gwgws.py.) -/
import Derived.Test.YtnlkdihfoekjmaaGwGwsD
namespace Go.Proofs.Ytnlkdihfoekjmaa
open Go.RowKit
set_option linter.unusedVariables false
set_option linter.unusedSimpArgs false
attribute [local go_sem ↓] app_fold

theorem box4_newG (w : World) (v0 v1 v2 v3 : Value) (t : TypeId) : ∃ W, W = w.alloc (.cells #[v0, v1, v2, v3] t) ∧ w.grownBy W none ∧ W.heap.size = w.heap.size + 1 ∧ ∀ W', W.grownBy W' none → W'.cell? ⟨w.heap.size, 0, none⟩ = some v0 ∧ W'.cell? ⟨w.heap.size, 1, none⟩ = some v1 ∧ W'.cell? ⟨w.heap.size, 2, none⟩ = some v2 ∧ W'.cell? ⟨w.heap.size, 3, none⟩ = some v3 := by
  refine ⟨_, rfl, grown_alloc _ _, by simp, fun W' h => ?_⟩
  have hb := heap_alloc_new w (.cells #[v0, v1, v2, v3] t)
  have hc : ∀ k v, #[v0, v1, v2, v3][k]? = some v → W'.cell? ⟨w.heap.size, k, none⟩ = some v := fun k v hv => h.cell (by rw [cell_of_row _ _ k _ _ (0, 0) hb]; exact hv) (by simp)
  exact ⟨hc 0 _ rfl, hc 1 _ rfl, hc 2 _ rfl, hc 3 _ rfl⟩
def mfW (x : Trs) (X : List Nat) (p : Nat) : Int := x.M.getD (X.getD p 0) 0
def nfW (Lf Rg : List Nat) (p : Nat) : List Nat := [Lf.getD p 0, Rg.getD p 0]
theorem two_row (w : World) (a b : Nat) : Owns w.heap.size (w.alloc (.cells #[.int .i64 (a : Int), .int .i64 (b : Int)] 3)) [(3, .slice (some ⟨w.heap.size, 0, none⟩) 2 2, nvals [a, b])] :=
  (Owns.no w.heap.size w).made (arr := #[.int .i64 (a : Int), .int .i64 (b : Int)]) (n := 2) (Nat.le_refl _) 3 rfl (by unfold maxLen; omega)

set_option maxHeartbeats 25600000 in
set_option maxRecDepth 100000 in
theorem growsR_any (x : Trs) (b e a0 a1 a2 a3 : Option Addr) (d f N c0 c1 c2 c3 : Nat) (W M : Nat → Int) (X : List Nat) (Lt : List Int) (Lf Rg : List Nat) (w : World) (h : TrsAt w x b e) (hG : GoodW x) (hN : x.N = N) (hs : GwS x N W M) (hI : GrwI x N W M X Lt Lf Rg X.length) (i0 : Ints w a0 Lt) (i1 : Ints w a1 (castN X)) (i2 : Ints w a2 (castN Lf)) (i3 : Ints w a3 (castN Rg)) :
    Calls Try.prog 9 #[trsV x.L x.N b x.R.length d x.S e x.M.length f, grnV a0 a1 a2 a3 X.length X.length X.length X.length c0 c1 c2 c3] w (Says (.bool true) w) := by
  have h6 := hG.n6
  have hr6 := hG.r6
  have hst := hG.st
  have hXN := hI.len
  have hpos := hI.pos
  have hm := hG.m
  have HG : Hid (GoodW x) := hG
  have HNx : Hid (x.N = N) := hN
  have HI : Hid (GrwI x N W M X Lt Lf Rg X.length) := hI
  obtain ⟨n, hn⟩ : ∃ n, X.length = n := ⟨_, rfl⟩
  have HEv : Hid (∀ p, p < n → decide (p < n) = true → mfW x X p % 2 ≠ 0 → ¬ Pt (OddE (nfW Lf Rg) (fun q => decide (q < n)) (mfW x X) p) p p) := fun p hp _ hmm hpt => by
    have h1 := hI.even hG hN hs (p := p) (by rw [hn]; exact hp) hmm
    exact h1 (hpt.mono fun a b e => ⟨e.1, e.2.2.2.1, e.2.2.2.2⟩)
  have hLl := hI.l1
  have hFl := hI.l2
  have hRl := hI.l3
  rw [hn] at hLl hFl hRl
  -- what lies where
  obtain ⟨B1, O1, rfl, k1⟩ := i1.at (k := 0) (by rw [castN_len]; omega)
  obtain ⟨B0, O0, rfl, k0⟩ := i0.at (k := 0) (by omega)
  obtain ⟨B2, O2, rfl, k2⟩ := i2.at (k := 0) (by rw [castN_len]; omega)
  obtain ⟨B3, O3, rfl, k3⟩ := i3.at (k := 0) (by rw [castN_len]; omega)
  obtain ⟨i00, hi00, _⟩ := hI.rl 0 (by omega)
  obtain ⟨BR, OR, rfl, kR⟩ := h.rules.at hi00
  obtain ⟨BM, OM, rfl, kM⟩ := h.marks.at (k := 0) (by omega)
  have C0 : Hid (∀ V, w.grownBy V none → ∀ p, p < n → V.cell? ⟨B0, O0 + p, none⟩ = some (.int .i64 (Lt.getD p 0))) := fun V hV p hp => hV.cell (k0 p (by omega)) (by simp)
  have C1 : Hid (∀ V, w.grownBy V none → ∀ p, p < n → V.cell? ⟨B1, O1 + p, none⟩ = some (.int .i64 ((X.getD p 0 : Nat) : Int))) := fun V hV p hp => by
    have := k1 p (by rw [castN_len]; omega)
    rw [castN_get (by omega)] at this
    exact hV.cell this (by simp)
  have C2 : Hid (∀ V, w.grownBy V none → ∀ p, p < n → V.cell? ⟨B2, O2 + p, none⟩ = some (.int .i64 ((Lf.getD p 0 : Nat) : Int))) := fun V hV p hp => by
    have := k2 p (by rw [castN_len]; omega)
    rw [castN_get (by omega)] at this
    exact hV.cell this (by simp)
  have C3 : Hid (∀ V, w.grownBy V none → ∀ p, p < n → V.cell? ⟨B3, O3 + p, none⟩ = some (.int .i64 ((Rg.getD p 0 : Nat) : Int))) := fun V hV p hp => by
    have := k3 p (by rw [castN_len]; omega)
    rw [castN_get (by omega)] at this
    exact hV.cell this (by simp)
  have CR : Hid (∀ V, w.grownBy V none → ∀ k, k < x.R.length → Rule4 V BR (OR + k * 4) (x.R.getD k ru0)) := fun V hV k hk => (kR k hk).grown hV
  have CM : Hid (∀ V, w.grownBy V none → ∀ p, p < x.M.length → V.cell? ⟨BM, OM + p, none⟩ = some (.int .i64 (x.M.getD p 0))) := fun V hV p hp => hV.cell (kM p hp) (by simp)
  have HPl : Hid (∀ p, p < n → PlcW x N M X p (Lt.getD p 0) (Lf.getD p 0) (Rg.getD p 0) ∧ X.getD p 0 < N ∧ Lf.getD p 0 < n ∧ Rg.getD p 0 < n) := fun p hp => by
    have h1 := hI.rl p (by omega)
    have h2 := (hI.lt _ (getD_memW (show p < X.length by omega))).1
    obtain ⟨i, _, _, _, _, ⟨h3, _⟩, h4, _⟩ := id h1
    exact ⟨h1, h2, by omega, by omega⟩
  have hS0 : x.S = ((X.getD 0 0 : Nat) : Int) := by have := hI.st; omega
  rw [hN] at h6 hst hm ⊢
  rw [hS0, hn]
  have hnM : x.M.length = N := by omega
  have HnM : Hid (x.M.length = N) := hnM
  rw [hnM]
  obtain ⟨nR, hnR⟩ : ∃ nR, x.R.length = nR := ⟨_, rfl⟩
  have HnR : Hid (x.R.length = nR) := hnR
  rw [hnR] at hr6 ⊢
  obtain ⟨s0, hs0⟩ : ∃ s0, X.getD 0 0 = s0 := ⟨_, rfl⟩
  have HS0 : Hid (X.getD 0 0 = s0) := hs0
  rw [hs0]
  obtain ⟨Wa, hWa, ga, sa, bxa⟩ := box5_new w (.int .i64 x.L) (.int .i64 (N : Int)) (.slice (some ⟨BR, OR, none⟩) nR d) (.int .i64 (s0 : Int)) (.slice (some ⟨BM, OM, none⟩) N f) 25
  obtain ⟨Wb, hWb, gb, sb, bxb⟩ := box4_newG Wa (.slice (some ⟨B0, O0, none⟩) n c0) (.slice (some ⟨B1, O1, none⟩) n c1) (.slice (some ⟨B2, O2, none⟩) n c2) (.slice (some ⟨B3, O3, none⟩) n c3) 28
  rw [sa] at bxb
  have BX : Hid (∀ V, Wb.grownBy V none → (V.cell? ⟨w.heap.size, 0, none⟩ = some (.int .i64 x.L) ∧ V.cell? ⟨w.heap.size, 1, none⟩ = some (.int .i64 (N : Int)) ∧ V.cell? ⟨w.heap.size, 2, none⟩ = some (.slice (some ⟨BR, OR, none⟩) nR d) ∧ V.cell? ⟨w.heap.size, 3, none⟩ = some (.int .i64 (s0 : Int)) ∧ V.cell? ⟨w.heap.size, 4, none⟩ = some (.slice (some ⟨BM, OM, none⟩) N f)) ∧ V.cell? ⟨w.heap.size + 1, 0, none⟩ = some (.slice (some ⟨B0, O0, none⟩) n c0) ∧ V.cell? ⟨w.heap.size + 1, 1, none⟩ = some (.slice (some ⟨B1, O1, none⟩) n c1) ∧ V.cell? ⟨w.heap.size + 1, 2, none⟩ = some (.slice (some ⟨B2, O2, none⟩) n c2) ∧ V.cell? ⟨w.heap.size + 1, 3, none⟩ = some (.slice (some ⟨B3, O3, none⟩) n c3)) := fun V hV => ⟨bxa V (grown_trans gb hV), bxb V hV⟩
  have GW : Hid (w.grownBy Wb none) := grown_trans ga gb
  rw [hWa] at hWb
  have HWb : Hid (Wb = _) := hWb
  obtain ⟨⟨x0, x1, x2, x3, x4⟩, y0, y1, y2, y3⟩ := BX.out Wb (grown_refl _ _)
  have hXs := C1.out Wb GW.out 0 (by omega)
  rw [HS0.out, Nat.add_zero] at hXs
  have dn1 : decide ((n : Int) < 1) = false := by simp; omega
  have dn2 : decide ((60 : Int) < (n : Int)) = false := by simp; omega
  have dn3 : ((n : Int) != (n : Int)) = false := by simp
  have dn4 : ((s0 : Int) != (s0 : Int)) = false := by simp
  have hn0 : (0 : Int) < (n : Int) := by omega
  rw [hn] at hXN hpos HI
  clear h hG hN hs hI i0 i1 i2 i3 k0 k1 k2 k3 kR kM hm hst hS0 hnM hnR hs0 hWa hWb ga gb sa sb bxa bxb hLl hFl hRl hi00 hn
  generalize hk0 : w.heap.size = k0 at *
  go_enter Try.func9, Try.ntmps9
  go_wp2_with fail
  rw [← HWb.out]
  go_wp2_with fail
  go_quiet (fail)
  obtain ⟨Wq, hWq⟩ : ∃ Wq, Wq = Wb.drewN nq := ⟨_, rfl⟩
  have GQ : Hid (Wb.grownBy Wq none) := by rw [hWq]; exact grown_drewN (grown_refl _ _) _
  rw [← hWq]
  obtain ⟨Wi, hmk, ri, gi, si⟩ := bools40 Wq n (by omega)
  have GI : Hid (Wb.grownBy Wi none) := grown_trans GQ.out gi
  have D0 : Hid (GsB Wq Wi.heap.size Wq.heap.size n 0 (.slice none 0 0) (.slice none 0 0) [] [] Wi) := by
    refine ⟨?_, ri.congr (fun q _ => by simp), gi, by omega, Nat.le_refl _, Nat.le_refl _⟩
    exact ((Owns.no _ _).empty _).empty _
  clear hWq x0 x1 x2 x3 x4 y0 y1 y2 y3 hXs dn1 dn2 dn3 dn4 ri gi si
  go_wp2_with fail
  clear hmk
  generalize hgi : Wq.heap.size = gi at *
  generalize hB : Wi.heap.size = B at *
  go_loopw [9] (fun v wr => ∃ p : Nat, v = .int .i64 p ∧ p ≤ n ∧ Wi.grownBy wr none) (fun v _ => n - (intOf v).toNat)
  case atStart => exact ⟨0, rfl, by omega, grown_refl _ _⟩
  case round =>
    obtain ⟨p, rfl, hp, hg⟩ := hrel
    have GG : Hid (Wi.grownBy wr none) := hg
    clear hg
    by_cases hpn : p < n
    · have hpi : (p : Int) < (n : Int) := by omega
      have gw : w.grownBy wr none := grown_trans GW.out (grown_trans GI.out GG.out)
      obtain ⟨⟨x0, x1, x2, x3, x4⟩, y0, y1, y2, y3⟩ := BX.out wr (grown_trans GI.out GG.out)
      have z1 := C1.out wr gw p hpn
      have z2 := C2.out wr gw p hpn
      have z3 := C3.out wr gw p hpn
      obtain ⟨_, q1, q2, q3⟩ := HPl.out p hpn
      generalize X.getD p 0 = sx at *
      generalize Lf.getD p 0 = lf at *
      generalize Rg.getD p 0 = rg at *
      have e1 : decide ((lf : Int) < 0) = false := by simp
      have e2 : decide ((n : Int) ≤ (lf : Int)) = false := by simp; omega
      have e3 : decide ((rg : Int) < 0) = false := by simp
      have e4 : decide ((n : Int) ≤ (rg : Int)) = false := by simp; omega
      have e5 : decide ((sx : Int) < 0) = false := by simp
      have e6 : decide ((N : Int) ≤ (sx : Int)) = false := by simp; omega
      have e2' : decide (n ≤ lf) = false := by simp; omega
      have e4' : decide (n ≤ rg) = false := by simp; omega
      have e6' : decide (N ≤ sx) = false := by simp; omega
      clear gw q1 q2 q3
      go_wp2_with fail
      go_quiet (fail)
      go_wp2_with fail
      go_roundw
      case rel => exact ⟨p + 1, by go_num, by omega, grown_drewN GG.out _⟩
      case measure => simp [intOf]; omega
    · have hpi : ¬ (p : Int) < (n : Int) := by omega
      have D1 : Hid (GsB Wq B gi n 0 (.slice none 0 0) (.slice none 0 0) [] [] wr) := D0.out.kept GG.out
      clear D0
      go_wp2_with fail
      go_loopw [6, 7, 10] (fun s6 s7 v wr => ∃ (p : Nat) (rs : List (Value × List Nat)) (um un : Value), um = s6 ∧ un = s7 ∧ v = .int .i64 p ∧ p ≤ n ∧ GsB Wq B gi n p um un (lstW (mfW x X) p) rs wr ∧ rs.map (·.2) = lstW (nfW Lf Rg) p) (fun _ _ v _ => n - (intOf v).toNat)
      case atStart => exact ⟨0, [], _, _, rfl, rfl, rfl, by omega, D1.out, rfl⟩
      case round =>
        clear D1 GG hp hpn hpi
        obtain ⟨p, rs, um, un, rfl, rfl, rfl, hp, hgs, hrs⟩ := hrel
        have GS : Hid (GsB Wq B gi n p um un (lstW (mfW x X) p) rs wr) := hgs
        have HRs : Hid (rs.map (·.2) = lstW (nfW Lf Rg) p) := hrs
        clear hgs hrs
        by_cases hpn : p < n
        · have hpi : (p : Int) < (n : Int) := by omega
          obtain ⟨hpl, q1, q2, q3⟩ := HPl.out p hpn
          obtain ⟨i, i1, i2, i3, i4, ⟨i5, i6⟩, i7, i8⟩ := hpl
          have HRi : Hid (i < nR ∧ x.R.getD i ru0 = (Lt.getD p 0, ((X.getD (Lf.getD p 0) 0 : Nat) : Int), ((X.getD (Rg.getD p 0) 0 : Nat) : Int), ((X.getD p 0 : Nat) : Int))) := by
            obtain ⟨_, _, _, f4, f5, f6⟩ := HG.out.rule HNx.out i1
            refine ⟨by rw [← HnR.out]; exact i1, ?_⟩
            rw [i6, i8, ← i2, i4, ← f4, ← f5, ← f6]
          clear i1 i2 i3 i4 i5 i6 i7 i8
          have z0 : Hid (∀ V, w.grownBy V none → V.cell? ⟨B0, O0 + p, none⟩ = some (.int .i64 (Lt.getD p 0))) := fun V hV => C0.out V hV p hpn
          have z1 : Hid (∀ V, w.grownBy V none → V.cell? ⟨B1, O1 + p, none⟩ = some (.int .i64 ((X.getD p 0 : Nat) : Int))) := fun V hV => C1.out V hV p hpn
          have z2 : Hid (∀ V, w.grownBy V none → V.cell? ⟨B2, O2 + p, none⟩ = some (.int .i64 ((Lf.getD p 0 : Nat) : Int)) ∧ V.cell? ⟨B1, O1 + Lf.getD p 0, none⟩ = some (.int .i64 ((X.getD (Lf.getD p 0) 0 : Nat) : Int))) := fun V hV => ⟨C2.out V hV p hpn, C1.out V hV _ q2⟩
          have z3 : Hid (∀ V, w.grownBy V none → V.cell? ⟨B3, O3 + p, none⟩ = some (.int .i64 ((Rg.getD p 0 : Nat) : Int)) ∧ V.cell? ⟨B1, O1 + Rg.getD p 0, none⟩ = some (.int .i64 ((X.getD (Rg.getD p 0) 0 : Nat) : Int))) := fun V hV => ⟨C3.out V hV p hpn, C1.out V hV _ q3⟩
          have z4 : Hid (∀ V, w.grownBy V none → V.cell? ⟨BM, OM + X.getD p 0, none⟩ = some (.int .i64 (mfW x X p))) := fun V hV => CM.out V hV _ (by rw [HnM.out]; exact q1)
          have HNf : Hid (nfW Lf Rg p = [Lf.getD p 0, Rg.getD p 0]) := rfl
          generalize X.getD (Lf.getD p 0) 0 = xl at *
          generalize X.getD (Rg.getD p 0) 0 = xr at *
          generalize X.getD p 0 = sx at *
          generalize Lf.getD p 0 = lf at *
          generalize Rg.getD p 0 = rg at *
          generalize Lt.getD p 0 = lt at *
          have hli : (lf : Int) < (n : Int) := by omega
          have hri : (rg : Int) < (n : Int) := by omega
          have hsi : (sx : Int) < (N : Int) := by omega
          go_wp2_with fail
          go_loopw [11, 12] (fun th v wk => ∃ (k : Nat) (t : Bool), v = .int .i64 k ∧ th = .bool t ∧ k ≤ nR ∧ (i < k → t = true) ∧ wr.grownBy wk none) (fun _ v _ => nR - (intOf v).toNat)
          case atStart => exact ⟨0, false, rfl, rfl, by omega, fun hh => by omega, grown_refl _ _⟩
          case round =>
            rename World => wk
            obtain ⟨k, t, rfl, rfl, hk, hit, hgk⟩ := hrel
            have HIt : Hid (i < k → t = true) := hit
            have GK : Hid (wr.grownBy wk none) := hgk
            have GBk : Hid (Wb.grownBy wk none) := grown_trans GQ.out (grown_trans GS.out.gr hgk)
            clear hit hgk
            by_cases hkR : k < nR
            · have hki : (k : Int) < (nR : Int) := by omega
              obtain ⟨r0, r1, r2, r3⟩ := CR.out wk (grown_trans GW.out GBk.out) k (by rw [HnR.out]; exact hkR)
              have HRk : Hid (i = k → x.R.getD k ru0 = (lt, (xl : Int), (xr : Int), (sx : Int))) := fun hik => by rw [← hik]; exact HRi.out.2
              generalize x.R.getD k ru0 = rk at *
              obtain ⟨k0', k1', k2', k3'⟩ := rk
              simp only at r0 r1 r2 r3
              have HRk2 : Hid (i = k → k0' = lt ∧ k1' = (xl : Int) ∧ k2' = (xr : Int) ∧ k3' = (sx : Int)) := fun hik => by have := HRk.out hik; simpa using this
              clear HRk
              obtain ⟨Wr, hWr, gr, sr, bxr⟩ := box4_newG wk (.int .i64 k0') (.int .i64 k1') (.int .i64 k2') (.int .i64 k3') 47
              obtain ⟨v0, v1, v2, v3⟩ := bxr Wr (grown_refl _ _)
              have HWr : Hid (Wr = _) := hWr
              have GR : Hid (Wb.grownBy Wr none) := grown_trans GBk.out gr
              have GKr : Hid (wr.grownBy Wr none) := grown_trans GK.out gr
              obtain ⟨⟨x0, x1, x2, x3, x4⟩, y0, y1, y2, y3⟩ := BX.out wk GBk.out
              have BXr : Hid _ := (BX.out Wr GR.out).2
              have zz0 := z0.out Wr (grown_trans GW.out GR.out)
              have zz1 := z1.out Wr (grown_trans GW.out GR.out)
              have zz2 := z2.out Wr (grown_trans GW.out GR.out)
              have zz3 := z3.out Wr (grown_trans GW.out GR.out)
              clear hWr gr sr bxr
              go_wp2_with fail
              rw [← HWr.out]
              clear x0 x1 x2 x3 x4 y0 y1 y2 y3 r0 r1 r2 r3
              obtain ⟨y0, y1, y2, y3⟩ := BXr.out
              obtain ⟨zz2, zz2'⟩ := zz2
              obtain ⟨zz3, zz3'⟩ := zz3
              cases t with
              | true =>
                go_wp2_with fail
                go_quiet (fail)
                go_wp2_with fail
                go_roundw
                case rel => exact ⟨k + 1, true, by go_num, rfl, by omega, fun _ => rfl, grown_drewN GKr.out _⟩
                case measure => simp [intOf]; omega
              | false =>
                have HNk : Hid (¬ i < k) := fun hh => by have := HIt.out hh; cases this
                by_cases e1 : k0' = lt
                case neg =>
                  have de1 : (k0' == lt) = false := by simpa using e1
                  have HT : Hid (i < k + 1 → false = true) := fun hh => absurd ((HRk2.out (by have := HNk.out; omega)).1) e1
                  clear e1 HRk2
                  go_wp2_with fail
                  go_quiet (fail)
                  go_wp2_with fail
                  go_roundw
                  case rel => exact ⟨k + 1, false, by go_num, rfl, by omega, HT.out, grown_drewN GKr.out _⟩
                  case measure => simp [intOf]; omega
                have de1 : (k0' == lt) = true := by simpa using e1
                by_cases e2 : k3' = (sx : Int)
                case neg =>
                  have de2 : (k3' == (sx : Int)) = false := by simpa using e2
                  have HT : Hid (i < k + 1 → false = true) := fun hh => absurd ((HRk2.out (by have := HNk.out; omega)).2.2.2) e2
                  clear e2 HRk2
                  go_wp2_with fail
                  go_quiet (fail)
                  go_wp2_with fail
                  go_roundw
                  case rel => exact ⟨k + 1, false, by go_num, rfl, by omega, HT.out, grown_drewN GKr.out _⟩
                  case measure => simp [intOf]; omega
                have de2 : (k3' == (sx : Int)) = true := by simpa using e2
                by_cases e3 : k1' = (xl : Int)
                case neg =>
                  have de3 : (k1' == (xl : Int)) = false := by simpa using e3
                  have HT : Hid (i < k + 1 → false = true) := fun hh => absurd ((HRk2.out (by have := HNk.out; omega)).2.1) e3
                  clear e3 HRk2
                  go_wp2_with fail
                  go_quiet (fail)
                  go_wp2_with fail
                  go_roundw
                  case rel => exact ⟨k + 1, false, by go_num, rfl, by omega, HT.out, grown_drewN GKr.out _⟩
                  case measure => simp [intOf]; omega
                have de3 : (k1' == (xl : Int)) = true := by simpa using e3
                by_cases e4 : k2' = (xr : Int)
                case neg =>
                  have de4 : (k2' == (xr : Int)) = false := by simpa using e4
                  have HT : Hid (i < k + 1 → false = true) := fun hh => absurd ((HRk2.out (by have := HNk.out; omega)).2.2.1) e4
                  clear e4 HRk2
                  go_wp2_with fail
                  go_quiet (fail)
                  go_wp2_with fail
                  go_roundw
                  case rel => exact ⟨k + 1, false, by go_num, rfl, by omega, HT.out, grown_drewN GKr.out _⟩
                  case measure => simp [intOf]; omega
                have de4 : (k2' == (xr : Int)) = true := by simpa using e4
                clear e1 e2 e3 e4 HRk2
                go_wp2_with fail
                go_quiet (fail)
                go_wp2_with fail
                go_roundw
                case rel => exact ⟨k + 1, true, by go_num, rfl, by omega, fun _ => rfl, grown_drewN GKr.out _⟩
                case measure => simp [intOf]; omega
            · have hki : ¬ (k : Int) < (nR : Int) := by omega
              have ht : t = true := HIt.out (by have := HRi.out.1; omega)
              subst ht
              obtain ⟨⟨x0, x1, x2, x3, x4⟩, y0, y1, y2, y3⟩ := BX.out wk GBk.out
              have GSk := GS.out.kept GK.out
              -- the mark
              have zm := z4.out wk (grown_trans GW.out GBk.out)
              have zs := z1.out wk (grown_trans GW.out GBk.out)
              have zl := (z2.out wk (grown_trans GW.out GBk.out)).1
              obtain ⟨mm, hmm⟩ : ∃ mm, mfW x X p = mm := ⟨_, rfl⟩
              rw [hmm] at zm
              obtain ⟨q1', q2', q3'⟩ := one_drew wk (.int .i64 mm) 3
              obtain ⟨g5, c5, w5, r5, M5⟩ := GSk.pushM q1' GSk.l3 q2' q3' (by rw [lstW_len]; omega)
              rw [lstW_len] at r5 M5
              rw [← hmm, lstW_snoc] at M5
              have GS5 : Hid (GsB Wq B gi n p (.slice (some ⟨g5, 0, none⟩) (p + 1) c5) un (lstW (mfW x X) (p + 1)) rs w5) := M5
              have HRl : Hid (rs.length = p) := by have := congrArg List.length HRs.out; show _ = _; simpa [lstW] using this
              clear M5 q1' q2' q3' GSk hmm
              go_wp2_with fail
              go_region
              all_goals
                clear x0 x1 x2 x3 x4 y0 y1 y2 y3 zm zs zl r5
                -- the moves
                have GB5 : Hid (Wb.grownBy w5 none) := grown_trans GQ.out GS5.out.gr
                obtain ⟨⟨x0, x1, x2, x3, x4⟩, y0, y1, y2, y3⟩ := BX.out w5 GB5.out
                have zl := (z2.out w5 (grown_trans GW.out GB5.out)).1
                have zr := (z3.out w5 (grown_trans GW.out GB5.out)).1
                have o6 := GS5.out.own.join (grown_alloc w5 (.cells #[.int .i64 (lf : Int), .int .i64 (rg : Int)] 3)) (two_row w5 lf rg) GS5.out.l3
                obtain ⟨q1', q2', q3'⟩ := one_drew (w5.alloc (.cells #[.int .i64 (lf : Int), .int .i64 (rg : Int)] 3)) (.slice (some ⟨w5.heap.size, 0, none⟩) 2 2) 23
                rw [World.size_alloc] at q2' q3'
                obtain ⟨g6, c6, w6, r6, M6⟩ := GS5.out.pushN (l := [lf, rg]) (grown_trans (grown_alloc _ _) q1') (o6.kept q1') (by have := GS5.out.l3; omega) q2' q3' (by rw [HRl.out]; omega)
                rw [HRl.out] at r6 M6
                have HR6 : Hid ((rs ++ [((Value.slice (some ⟨w5.heap.size, 0, none⟩) 2 2, [lf, rg]) : Value × List Nat)]).map (·.2) = lstW (nfW Lf Rg) (p + 1)) := by
                  show _ = _
                  rw [List.map_append, HRs.out, ← lstW_snoc, HNf.out]; rfl
                have ci := M6.inn.cell hpn
                have cf := M6.inn.frozen p
                have GS7 : Hid _ := M6.put hpn
                clear o6 q1' q2' q3' M6
                go_wp2_with fail
                go_region
                all_goals
                  go_wp2_with fail
                  go_roundw
                  case rel => exact ⟨p + 1, _, _, _, rfl, rfl, by go_num, by omega, GS7.out, HR6.out⟩
                  case measure => simp [intOf]; omega
        · have hpi : ¬ (p : Int) < (n : Int) := by omega
          have hpe : p = n := by omega
          have h1 := GS.out
          have h2 := HRs.out
          rw [hpe] at h1 h2
          obtain ⟨bk, ck, bx, cx, xa, xd, rfl, rfl, hod⟩ := h1.odd hpos rfl h2
          have CO : Hid (Calls Try.prog 20 #[.slice (some ⟨bk, 0, none⟩) n ck, .slice (some ⟨bx, 0, none⟩) n cx, .slice (some ⟨gi, 0, none⟩) n n, .int .i64 0] wr (Says (.bool false) wr)) := by
            refine odd_any n (mfW x X) (nfW Lf Rg) (fun q => decide (q < n)) bk 0 ck bx 0 cx gi xa xd 0 wr hod (by omega) (fun q hq => ?_) (fun q hq z hz => ?_) (fun q hq => by simp [nfW]) HEv.out
            · exact HG.out.mks _ (by rw [HnM.out]; exact (HPl.out q hq).2.1)
            · simp only [nfW, List.mem_cons, List.not_mem_nil, or_false] at hz
              obtain ⟨_, _, q2, q3⟩ := HPl.out q hq
              rcases hz with rfl | rfl
              · exact q2
              · exact q3
          have GF : Hid (w.grownBy wr none) := grown_trans GW.out (grown_trans GQ.out GS.out.gr)
          clear hpe h1 h2 hod GS HRs
          go_wp2_with fail
          refine CO.out.mono ?_
          rintro E w8 ⟨rfl, hg8⟩
          have GF8 : Hid (w.grownBy w8 none) := grown_trans GF.out hg8
          clear hg8
          go_wp2_with fail
          go_ret
          exact ⟨rfl, GF8.out⟩

end Go.Proofs.Ytnlkdihfoekjmaa
