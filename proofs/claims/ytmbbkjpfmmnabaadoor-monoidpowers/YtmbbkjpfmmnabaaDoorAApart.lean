/- det.apart: the first word that tells two states apart. -/
import Derived.Test.YtmbbkjpfmmnabaaDoorAStep
import Derived.Test.YtmbbkjpfmmnabaaDoorDFit
import Derived.Lib.AppendZeros
namespace Go.Proofs.YtmbbkjpfmmnabaaDoor
open Go.RowKit
set_option linter.unusedVariables false
attribute [local go_sem ↓] app_fold

set_option maxHeartbeats 1600000 in
set_option maxRecDepth 100000 in
theorem apartP_any (L S : Int) (R : List (List Int)) (M : List Int) (a a' : Option Addr) (c c' p q : Nat) (w : World) (h : DetAt w ⟨L, S, R, M⟩ a a') (hG : Fit ⟨L, S, R, M⟩) (hp : p < R.length) (hq : q < R.length) :
    Calls Tryd.prog 39 #[.agg #[.int .i64 L, .int .i64 S, .slice a R.length c, .slice a' M.length c'], .int .i64 (p : Nat), .int .i64 (q : Nat)] w (ApartPost (tellT (Dfa.nx ⟨L, S, R, M⟩) (Dfa.mk1 ⟨L, S, R, M⟩) p q) L.toNat w) := by
  have hn1 : 1 ≤ R.length := hG.n1
  have hn3 : R.length ≤ 6000 := hG.n6
  have hL4 : 1 ≤ L ∧ L ≤ 4 := ⟨hG.l1, hG.l4⟩
  have HML : Hid (M.length = R.length) := hG.ml
  obtain ⟨l, hl⟩ : ∃ l : Nat, L = l := ⟨L.toNat, by omega⟩
  subst hl
  simp only [Int.toNat_natCast]
  have H : Hid (DetAt w ⟨l, S, R, M⟩ a a') := h
  have GD : Hid (Fit ⟨l, S, R, M⟩) := hG
  obtain ⟨δ, hδ⟩ : ∃ δ, Dfa.nx ⟨l, S, R, M⟩ = δ := ⟨_, rfl⟩
  obtain ⟨mk, hmk⟩ : ∃ mk, Dfa.mk1 ⟨l, S, R, M⟩ = mk := ⟨_, rfl⟩
  obtain ⟨n, hnR⟩ : ∃ n, R.length = n := ⟨_, rfl⟩
  have HDl : Hid (Dfa.nx ⟨l, S, R, M⟩ = δ) := hδ
  have HMk : Hid (Dfa.mk1 ⟨l, S, R, M⟩ = mk) := hmk
  have HRn : Hid (R.length = n) := hnR
  have HD : Hid (∀ s b, s < n → b < l → δ s b < n) := fun s b hs hb => by
    have := hG.nx_lt (s := s) (a := b) (by rw [HRn.out]; exact hs) (by simp; exact hb)
    rwa [HRn.out, HDl.out] at this
  have hL1 : 1 ≤ l := by omega
  have hpn : p < n := by omega
  have hqn : q < n := by omega
  have hn3' : n ≤ 6000 := by omega
  obtain ⟨W1, hW1⟩ : ∃ W1, W1 = w.alloc (.cells #[.int .i64 l, .int .i64 S, .slice a R.length c, .slice a' M.length c'] 25) := ⟨_, rfl⟩
  have Box : Hid (∀ W, W1.grownBy W none → w.grownBy W none ∧ W.cell? ⟨w.heap.size, 0, none⟩ = some (.int .i64 l) ∧ W.cell? ⟨w.heap.size, 1, none⟩ = some (.int .i64 S) ∧ W.cell? ⟨w.heap.size, 2, none⟩ = some (.slice a R.length c) ∧ W.cell? ⟨w.heap.size, 3, none⟩ = some (.slice a' M.length c')) := fun W hW => by
    exact ⟨grown_trans (hW1 ▸ grown_alloc _ _) hW, box4 (w := w) (hW1 ▸ hW)⟩
  have HS1 : Hid (W1.heap.size = w.heap.size + 1) := by show _ = _; rw [hW1]; simp
  have HSt : Hid (Calls Tryd.prog 72 #[.int .i64 (R.length : Int)] W1 (StrPost n W1)) := by
    have := strangers_any R.length W1 hn1 (by omega)
    rw [HRn.out] at this ⊢
    exact this
  have HJ : Hid (∀ B W gk ck k hd rk Bk x y, Owns B W [(3, .slice (some ⟨gk, 0, none⟩) n ck, fvals n k)] → Kin n k hd rk Bk → x < n → y < n → Calls Tryd.prog 73 #[.slice (some ⟨gk, 0, none⟩) n ck, .int .i64 ((x : Nat) : Int), .int .i64 ((y : Nat) : Int)] W (JoinPost B n (.slice (some ⟨gk, 0, none⟩) n ck) k hd x y [] W)) := fun B W gk ck k hd rk Bk x y hO hK hx hy => join_any B n gk ck k hd rk Bk x y [] W hO hK hx hy (by omega)
  clear h hG hδ hmk hnR
  go_enter Tryd.func39, Tryd.ntmps39
  go_wp2_with fail
  rw [← hW1]
  clear hW1
  refine HSt.out.mono ?_
  rintro E w2 ⟨gk, rfl, ho2, hg2⟩
  have O2 : Hid (Owns W1.heap.size w2 [(3, .slice (some ⟨gk, 0, none⟩) n n, fvals n id)]) := ho2
  have G2 : Hid (W1.grownBy w2 none) := hg2
  clear ho2 hg2 HSt
  go_wp2_with fail
  refine (HJ.out _ _ _ _ _ id _ _ p q O2.out (Kin.start n) hpn hqn).mono ?_
  rintro E w3 ⟨k3, hd3, rk3, Bk3, rfl, ho3, hk3, hg3, hcase⟩
  have O3 : Hid (Owns W1.heap.size w3 [(3, .slice (some ⟨gk, 0, none⟩) n n, fvals n k3)]) := ho3
  have K3 : Hid (Kin n k3 hd3 rk3 Bk3) := hk3
  have G3 : Hid (W1.grownBy w3 none) := grown_new G2.out hg3 O2.out.ge.1
  have L3 : Hid (Links n [(p, q)] hd3) := by
    rcases hcase with ⟨e1, rfl, _⟩ | ⟨_, rfl, _⟩
    · exact (links_start n).mono (qs := [(p, q)])
    · exact (links_start n).join hpn hqn
  have HE3 : Hid (heads n k3 ≤ n) := by
    show _ ≤ _
    rcases hcase with ⟨_, _, e1⟩ | ⟨_, _, e1⟩
    · rw [e1, heads_id]; exact Nat.le_refl _
    · rw [heads_id] at e1; omega
  clear ho3 hk3 hg3 hcase O2 G2
  generalize decide (id p ≠ id q) = bj
  go_wp2_with fail
  obtain ⟨T, hT⟩ : ∃ T, tellT δ mk p q = T := ⟨_, rfl⟩
  have HT : Hid (tellT δ mk p q = T) := hT
  clear hT
  have HA : Hid (∃ gm, gm = w3.heap.size ∧ OutSt δ p q n l T gk W1 (w3.alloc (.cells #[.int .i64 (p : Int), .int .i64 (q : Int), .int .i64 (-1), .int .i64 0] 134)) 1 gm 1 0) := by
    refine ⟨w3.heap.size, rfl, [[]], k3, hd3, rk3, Bk3, (fun _ => -1), (fun _ => 0), rfl, ⟨O3.out.kept (grown_alloc _ _), ?_, ?_⟩, ⟨fun i hi => .inl ⟨by simp at hi; omega, rfl, by simp at hi; subst hi; rfl⟩, K3.out, L3.out, by have := HE3.out; simp; omega⟩, grown_trans G3.out (grown_alloc _ _), .inl ⟨by omega, Walk.start T l⟩⟩
    · exact ⟨by simp [metL_len], .inr ⟨w3.heap.size, 1, _, rfl, G3.out.size, heap_alloc_new _ _, by omega, by unfold maxLen; omega, by simp, by simp [metL]⟩⟩
    · have := O3.out.ge.2
      omega
  obtain ⟨gm, hgm, hA⟩ := HA.out
  have A3 : Hid _ := hA
  rw [← hgm]
  clear hA HA hgm O3 K3 L3 HE3 G3
  go_loopw [9, 10] (fun v9 v10 wr => ∃ (N gm cm i : Nat), v9 = .slice (some ⟨gm, 0, none⟩) N cm ∧ v10 = .int .i64 i ∧ OutSt δ p q n l T gk W1 wr N gm cm i) (fun _ v10 _ => n - (intOf v10).toNat)
  case atStart => exact ⟨1, gm, 1, 0, rfl, rfl, A3.out⟩
  case round =>
    clear A3
    obtain ⟨N, gm, cm, i, rfl, rfl, hO⟩ := hrel
    obtain ⟨hiN, hNn, hg⟩ := hO.le (by omega)
    obtain ⟨hgw, b0, b1, b2, b3⟩ := Box.out wr hg
    have HGw : Hid (w.grownBy wr none) := hgw
    rcases hO.reads hL1 hpn hqn hn3' HD.out with ⟨hi, u, x, y, hX, hY, hxn, hyn, c0, c1, hin, hfirst, hul, hword⟩ | ⟨hi, hnone⟩
    · have hii : (i : Int) < (N : Int) := by omega
      have HX : Hid (u.foldl δ p = x) := hX
      have HY : Hid (u.foldl δ q = y) := hY
      have IN : Hid (InSt δ p q n l T gk W1 i u wr N gm cm 0) := hin
      have HFi : Hid (T u = true → FirstOf T l u true) := hfirst
      have HWd : Hid (∀ W, wr.grownBy W none → Calls Tryd.prog 74 #[.slice (some ⟨gm, 0, none⟩) N cm, .int .i64 (i : Int)] W (WordPost u W)) := hword
      have HUL : Hid (u.length ≤ 6000) := hul
      obtain ⟨bm, om, ham, m1⟩ := fit_mark (H.out.grown hgw) GD.out (show x < R.length by rw [HRn.out]; exact hxn)
      subst ham
      obtain ⟨bm', om', ham, m2⟩ := fit_mark (H.out.grown hgw) GD.out (show y < R.length by rw [HRn.out]; exact hyn)
      simp only [Option.some.injEq, Addr.mk.injEq, and_true] at ham
      obtain ⟨rfl, rfl⟩ := ham
      have HTu : Hid (T u = (M.getD x 0 != M.getD y 0)) := by
        show _ = _
        have h1 := GD.out.m x (by show x < M.length; rw [HML.out, HRn.out]; exact hxn)
        have h2 := GD.out.m y (by show y < M.length; rw [HML.out, HRn.out]; exact hyn)
        have h3 : M.getD x 0 = 0 ∨ M.getD x 0 = 1 := h1
        have h4 : M.getD y 0 = 0 ∨ M.getD y 0 = 1 := h2
        have e1 : mk x = decide (M.getD x 0 = 1) := by rw [← HMk.out]; rfl
        have e2 : mk y = decide (M.getD y 0 = 1) := by rw [← HMk.out]; rfl
        rw [← HT.out]
        unfold tellT
        rw [HX.out, HY.out, e1, e2]
        rcases h3 with h3 | h3 <;> rcases h4 with h4 | h4 <;> rw [h3, h4] <;> rfl
      have hxm : (x : Int) < (M.length : Int) := by rw [HML.out, HRn.out]; omega
      have hym : (y : Int) < (M.length : Int) := by rw [HML.out, HRn.out]; omega
      generalize M.getD x 0 = mx at m1 HTu
      generalize M.getD y 0 = my at m2 HTu
      clear hX hY hin hfirst hul hword hgw hg hO hiN
      by_cases hmm : mx = my
      · have hmi : (mx != my) = false := by simpa using hmm
        have HT0 : Hid (T u = false) := by show _ = _; rw [HTu.out]; exact hmi
        clear hmm HTu HFi HWd HUL
        go_wp2_with fail
        go_region
        all_goals
          go_wp2_with fail
          go_region
          all_goals
            go_wp2_with fail
            clear b0 b1 b2 b3 c0 c1 m1 m2 hxm hym hmi
            go_loopw [9, 62] (fun v9 v62 wr => ∃ (N gm cm b : Nat), v9 = .slice (some ⟨gm, 0, none⟩) N cm ∧ v62 = .int .i64 b ∧ b ≤ l ∧ InSt δ p q n l T gk W1 i u wr N gm cm b) (fun _ v62 _ => l - (intOf v62).toNat)
            case atStart => exact ⟨N, gm, cm, 0, rfl, rfl, by omega, IN.out.kept (grown_drew (grown_drew (grown_refl _ _)))⟩
            case round =>
              clear IN hi hii hNn HGw
              obtain ⟨N, gm, cm, b, rfl, rfl, hb, hin⟩ := hrel
              obtain ⟨hiN, hNn, hg⟩ := hin.le (by omega)
              have IN : Hid (InSt δ p q n l T gk W1 i u wr N gm cm b) := hin
              by_cases hbl : b < l
              · have hbi : (b : Int) < (l : Int) := by omega
                obtain ⟨hgw, b0, b1, b2, b3⟩ := Box.out wr hg
                obtain ⟨bR, oR, bx, ox, cx, haR, r1, r2⟩ := fit_reads (l := b) (H.out.grown hgw) GD.out (show x < R.length by rw [HRn.out]; exact hxn) hbi
                subst haR
                obtain ⟨bR', oR', bY, oY, cY, eR, r3, r4⟩ := fit_reads (l := b) (H.out.grown hgw) GD.out (show y < R.length by rw [HRn.out]; exact hyn) hbi
                simp only [Option.some.injEq, Addr.mk.injEq, and_true] at eR
                obtain ⟨rfl, rfl⟩ := eR
                rw [HDl.out] at r2 r4
                simp only [Int.toNat_natCast] at r1 r3
                have hdx := HD.out x b hxn hbl
                have hdy := HD.out y b hyn hbl
                obtain ⟨dx, hdxe⟩ : ∃ dx, δ x b = dx := ⟨_, rfl⟩
                obtain ⟨dy, hdye⟩ : ∃ dy, δ y b = dy := ⟨_, rfl⟩
                rw [hdxe] at hdx r2
                rw [hdye] at hdy r4
                have HJ : Hid (Calls Tryd.prog 73 #[.slice (some ⟨gk, 0, none⟩) n n, .int .i64 ((dx : Nat) : Int), .int .i64 ((dy : Nat) : Int)] (wr.alloc (.cells #[.int .i64 (dx : Int), .int .i64 (dy : Int)] 118)).drew (StepPost δ p q n l T gk W1 i u N gm cm b dx dy wr.heap.size)) := hin.join HT.out (by omega) hn3' hbl HX.out HY.out hdxe hdye hdx hdy
                have b2' := fun ob => (grown_alloc wr ob).cell b2 (by simp)
                have r1' := fun ob => (grown_alloc wr ob).cell r1 (by simp)
                have r2' := fun ob => (grown_alloc wr ob).cell r2 (by simp)
                have r3' := fun ob => (grown_alloc wr ob).cell r3 (by simp)
                have r4' := fun ob => (grown_alloc wr ob).cell r4 (by simp)
                have hxR : (x : Int) < (R.length : Int) := by rw [HRn.out]; omega
                have hyR : (y : Int) < (R.length : Int) := by rw [HRn.out]; omega
                clear b0 b1 b3 hgw hin hg hdxe hdye IN
                go_wp2_with fail
                go_region
                all_goals
                  clear b2 b2' r1 r1' r2 r2' r3 r3' r4 r4' hxR hyR
                  go_wp2_with fail
                  refine HJ.out.mono ?_
                  rintro E w6 ⟨z0, z1, ⟨rfl, hin⟩ | ⟨rfl, g7, c7, w7, hrun, hin⟩⟩
                  · have IN : Hid (InSt δ p q n l T gk W1 i u w6 N gm cm (b + 1)) := hin
                    clear hin z0 z1 HJ
                    go_wp2_with fail
                    go_roundw
                    case rel => exact ⟨N, gm, cm, b + 1, rfl, by go_num, by omega, IN.out⟩
                    case measure => simp [intOf]; omega
                  · have IN : Hid (InSt δ p q n l T gk W1 i u w7 (N + 1) g7 c7 (b + 1)) := hin
                    clear hin HJ
                    go_wp2_with (at_builtin; refine Go.Lib.wpList_append_run _ rfl _ _ _ _ rfl _ _ rfl rfl _ _ hrun ?_)
                    go_roundw
                    case rel => exact ⟨N + 1, g7, c7, b + 1, rfl, by go_num, by omega, IN.out⟩
                    case measure => simp [intOf]; omega
              · have hbi : ¬ (b : Int) < (l : Int) := by omega
                have hbe : l = b := by omega
                subst hbe
                have ON : Hid (OutSt δ p q n l T gk W1 wr N gm cm (i + 1)) := hin.next hL1 HT0.out
                clear hin IN hg
                go_wp2_with fail
                go_roundw
                case rel => exact ⟨N, gm, cm, i + 1, rfl, by go_num, ON.out⟩
                case measure => simp [intOf]; omega
      · have hmi : (mx != my) = true := by simpa using hmm
        have HF : Hid (FirstOf T l u true) := HFi.out (by rw [HTu.out]; exact hmi)
        clear hmm HTu HFi IN
        go_wp2_with fail
        go_region
        all_goals
          go_wp2_with fail
          go_region
          all_goals
            clear b0 b1 b2 b3 c0 c1 m1 m2
            go_wp2_with fail
            refine (HWd.out _ (grown_drew (grown_drew (grown_refl _ _)))).mono ?_
            rintro E w5 ⟨a5, c5, rfl, ho5, hg5⟩
            have O5 : Hid (Owns w.heap.size w5 [(3, .slice a5 u.length c5, vals (natInts u))]) := ho5.base (grown_drew (grown_drew HGw.out)).size
            have G5 : Hid (w.grownBy w5 none) := grown_trans (grown_drew (grown_drew HGw.out)) hg5
            clear ho5 hg5
            go_wp2_with fail
            go_ret2
            exact ⟨u, true, a5, c5, rfl, by rw [HDl.out, HMk.out, HT.out]; exact HF.out, by have := HUL.out; omega, O5.out, G5.out⟩
    · have hii : ¬ (i : Int) < (N : Int) := by omega
      have HF : Hid (FirstOf T l [] false) := hnone
      clear hnone hO hg hgw b0 b1 b2 b3 hi
      go_wp2_with fail
      go_ret2
      exact ⟨[], false, none, 0, rfl, by rw [HDl.out, HMk.out, HT.out]; exact HF.out, by simp, (Owns.no _ _).empty 3, HGw.out⟩

end Go.Proofs.YtmbbkjpfmmnabaaDoor
