/- Whether two automata are the same, number by number, as the reference tells it. -/
import Derived.Test.YticmfgclkepgoaaTls
import Derived.Test.YticmfgclkepgoaaJoins
namespace Go.Proofs.Yticmfgclkepgoaa
open Go.RowKit
set_option linter.unusedVariables false

def SameD (d d' : Dfa) : Prop := d = d'
set_option maxHeartbeats 6400000 in
set_option maxRecDepth 100000 in
theorem same_any (L S L2 S2 : Int) (R R2 : List (List Int)) (M M2 : List Int) (a a' b b' : Option Addr) (c c' d d' : Nat) (w : World) (h : DetAt w ⟨L, S, R, M⟩ a a') (h2 : DetAt w ⟨L2, S2, R2, M2⟩ b b') :
    Calls Try.prog 6 #[.agg #[.int .i64 L, .int .i64 S, .slice a R.length c, .slice a' M.length c'], .agg #[.int .i64 L2, .int .i64 S2, .slice b R2.length d, .slice b' M2.length d']] w (TellsB (SameD ⟨L, S, R, M⟩ ⟨L2, S2, R2, M2⟩) w) := by
  have hm := h.rm
  have hm' := h.mm
  have hm2 := h2.rm
  have hm2' := h2.mm
  unfold maxLen at hm hm' hm2 hm2'
  simp only at hm hm' hm2 hm2'
  have H1 : Hid (DetAt w ⟨L, S, R, M⟩ a a') := h
  have H2 : Hid (DetAt w ⟨L2, S2, R2, M2⟩ b b') := h2
  clear h h2
  obtain ⟨W0, hW0⟩ : ∃ W0, W0 = w.alloc (.cells #[.int .i64 L, .int .i64 S, .slice a R.length c, .slice a' M.length c'] 25) := ⟨_, rfl⟩
  obtain ⟨W1, hW1⟩ : ∃ W1, W1 = W0.alloc (.cells #[.int .i64 L2, .int .i64 S2, .slice b R2.length d, .slice b' M2.length d'] 25) := ⟨_, rfl⟩
  have hs0 : W0.heap.size = w.heap.size + 1 := by rw [hW0]; simp
  have Box : Hid (∀ W, W1.grownBy W none → w.grownBy W none ∧ (W.cell? ⟨w.heap.size, 0, none⟩ = some (.int .i64 L) ∧ W.cell? ⟨w.heap.size, 1, none⟩ = some (.int .i64 S) ∧ W.cell? ⟨w.heap.size, 2, none⟩ = some (.slice a R.length c) ∧ W.cell? ⟨w.heap.size, 3, none⟩ = some (.slice a' M.length c'))
      ∧ W.cell? ⟨w.heap.size + 1, 0, none⟩ = some (.int .i64 L2) ∧ W.cell? ⟨w.heap.size + 1, 1, none⟩ = some (.int .i64 S2) ∧ W.cell? ⟨w.heap.size + 1, 2, none⟩ = some (.slice b R2.length d) ∧ W.cell? ⟨w.heap.size + 1, 3, none⟩ = some (.slice b' M2.length d')) := fun W hW => by
    have g1 : W0.grownBy W none := grown_trans (hW1 ▸ grown_alloc _ _) hW
    have k1 := box4 (w := w) (hW0 ▸ g1)
    have k2 := box4 (w := W0) (hW1 ▸ hW)
    rw [hs0] at k2
    exact ⟨grown_trans (hW0 ▸ grown_alloc _ _) g1, k1, k2⟩
  have HG : Hid (w.grownBy W1 none) := (Box.out W1 (grown_refl _ _)).1
  have HE : Hid (W1 = (w.alloc (.cells #[.int .i64 L, .int .i64 S, .slice a R.length c, .slice a' M.length c'] 25)).alloc (.cells #[.int .i64 L2, .int .i64 S2, .slice b R2.length d, .slice b' M2.length d'] 25)) := by show _ = _; rw [hW1, hW0]
  clear hW0 hW1 hs0
  by_cases e1 : ¬ L = L2
  · have e1' : (L != L2) = true := by simpa using e1
    go_enter Try.func6, Try.ntmps6
    go_wp2_with fail
    go_ret
    exact tellsB false rfl ⟨(fun e => by cases e), fun e => absurd (by simpa [SameD] using congrArg Dfa.L e) e1⟩ (by rw [← HE.out]; exact HG.out)
  by_cases e2 : ¬ S = S2
  · have e1' : (L != L2) = false := by simpa using e1
    have e2' : (S != S2) = true := by simpa using e2
    go_enter Try.func6, Try.ntmps6
    go_wp2_with fail
    go_ret
    exact tellsB false rfl ⟨(fun e => by cases e), fun e => absurd (by simpa [SameD] using congrArg Dfa.S e) e2⟩ (by rw [← HE.out]; exact HG.out)
  by_cases e3 : ¬ R.length = R2.length
  · have e1' : (L != L2) = false := by simpa using e1
    have e2' : (S != S2) = false := by simpa using e2
    have e3' : ((R.length : Int) != (R2.length : Int)) = true := by simp; omega
    go_enter Try.func6, Try.ntmps6
    go_wp2_with fail
    go_ret
    exact tellsB false rfl ⟨(fun e => by cases e), fun e => absurd (congrArg (fun x => x.R.length) e) e3⟩ (by rw [← HE.out]; exact HG.out)
  by_cases e4 : ¬ M.length = M2.length
  · have e1' : (L != L2) = false := by simpa using e1
    have e2' : (S != S2) = false := by simpa using e2
    have e3' : ((R.length : Int) != (R2.length : Int)) = false := by simp; omega
    have e4' : ((M.length : Int) != (M2.length : Int)) = true := by simp; omega
    have HE3 : Hid (¬¬ R.length = R2.length) := e3
    clear e3
    go_enter Try.func6, Try.ntmps6
    go_wp2_with fail
    go_ret
    exact tellsB false rfl ⟨(fun e => by cases e), fun e => absurd (congrArg (fun x => x.M.length) e) e4⟩ (by rw [← HE.out]; exact HG.out)
  have e1' : (L != L2) = false := by simpa using e1
  have e2' : (S != S2) = false := by simpa using e2
  have e3' : ((R.length : Int) != (R2.length : Int)) = false := by simp; omega
  have e4' : ((M.length : Int) != (M2.length : Int)) = false := by simp; omega
  have E12 : Hid (L = L2 ∧ S = S2) := by show _ ∧ _; omega
  have E3 : Hid (R.length = R2.length) := by show _ = _; omega
  have E4 : Hid (M.length = M2.length) := by show _ = _; omega
  clear e1 e2 e3 e4
  go_enter Try.func6, Try.ntmps6
  go_wp2_with fail
  rw [← HE.out]
  go_loopw [5] (fun v wr => ∃ k : Nat, v = .int .i64 k ∧ k ≤ M.length ∧ W1.grownBy wr none ∧ ∀ j, j < k → M.getD j 0 = M2.getD j 0) (fun v _ => M.length - (intOf v).toNat)
  case atStart => exact ⟨0, rfl, by omega, grown_refl _ _, fun j hj => by omega⟩
  case round =>
    obtain ⟨k, rfl, hk, hg, hl⟩ := hrel
    have G : Hid (W1.grownBy wr none) := hg
    have HJ : Hid (∀ j, j < k → M.getD j 0 = M2.getD j 0) := hl
    obtain ⟨hgw, ⟨b0, b1, b2, b3⟩, d0, d1, d2, d3⟩ := Box.out wr hg
    have HGw : Hid (w.grownBy wr none) := hgw
    clear hg hl
    by_cases hlt : k < M.length
    · have hlt2 : k < M2.length := by rw [← E4.out]; exact hlt
      obtain ⟨bm, om, rfl, hc⟩ := H1.out.marks.at hlt
      obtain ⟨bn, on, rfl, hc2⟩ := H2.out.marks.at hlt2
      have hck : wr.cell? ⟨bm, om + k, none⟩ = some (.int .i64 (M.getD k 0)) := HGw.out.cell (hc k hlt) (by simp)
      have hck2 : wr.cell? ⟨bn, on + k, none⟩ = some (.int .i64 (M2.getD k 0)) := HGw.out.cell (hc2 k hlt2) (by simp)
      clear hc hc2
      generalize hx : M.getD k 0 = x at hck
      generalize hy : M2.getD k 0 = y at hck2
      have HX : Hid (M.getD k 0 = x) := hx
      have HY : Hid (M2.getD k 0 = y) := hy
      clear hx hy
      have hl1 : (k : Int) < (M.length : Int) := by omega
      have hl2 : (k : Int) < (M2.length : Int) := by omega
      by_cases hxy : x = y
      · have hxy' : (x != y) = false := by simpa using hxy
        go_wp2_with fail
        go_quiet (fail)
        go_wp2_with fail
        go_roundw
        case rel =>
          refine ⟨k + 1, by go_num, by omega, grown_drewN G.out _, fun j hj => ?_⟩
          by_cases e : j = k
          · subst e; rw [HX.out, HY.out]; exact hxy
          · exact HJ.out j (by omega)
        case measure => simp [intOf]; omega
      · have hxy' : (x != y) = true := by simpa using hxy
        go_wp2_with fail
        go_quiet (fail)
        go_wp2_with fail
        go_ret
        exact tellsB false rfl ⟨(fun e => by cases e), fun e => absurd (by rw [← HX.out, ← HY.out]; exact congrArg (fun q => q.M.getD k 0) e) hxy⟩ (grown_drewN HGw.out _)
    · have EM : Hid (M = M2) := getD_ext E4.out (fun i hi => HJ.out i (by omega))
      clear HJ
      go_wp2_with fail
      clear b0 b1 b2 b3 d0 d1 d2 d3
      go_loopw [6] (fun v wr => ∃ k : Nat, v = .int .i64 k ∧ k ≤ R.length ∧ W1.grownBy wr none ∧ ∀ j, j < k → R.getD j [] = R2.getD j []) (fun v _ => R.length - (intOf v).toNat)
      case atStart => exact ⟨0, rfl, by omega, G.out, fun j hj => by omega⟩
      case round =>
        clear G HGw hgw
        obtain ⟨i, rfl, hi, hg, hl⟩ := hrel
        have G : Hid (W1.grownBy wr none) := hg
        have HJ : Hid (∀ j, j < i → R.getD j [] = R2.getD j []) := hl
        obtain ⟨hgw, ⟨b0, b1, b2, b3⟩, d0, d1, d2, d3⟩ := Box.out wr hg
        have HGw : Hid (w.grownBy wr none) := hgw
        clear hg hl
        by_cases hlt : i < R.length
        · have hlt2 : i < R2.length := by rw [← E3.out]; exact hlt
          obtain ⟨br, or1, rfl, hc⟩ := H1.out.rows.at hlt
          obtain ⟨bs, os1, rfl, hc2⟩ := H2.out.rows.at hlt2
          obtain ⟨x, cx, hx1, hx2, hx3⟩ := hc i hlt
          obtain ⟨y, cy, hy1, hy2, hy3⟩ := hc2 i hlt2
          simp only at hx1 hx2 hx3 hy1 hy2 hy3
          have HX1 : Hid (w.cell? ⟨br, or1 + i, none⟩ = some (.slice x (R.getD i []).length cx)) := hx1
          have HY1 : Hid (w.cell? ⟨bs, os1 + i, none⟩ = some (.slice y (R2.getD i []).length cy)) := hy1
          have HX2 : Hid (Ints w x (R.getD i [])) := hx2
          have HY2 : Hid (Ints w y (R2.getD i [])) := hy2
          unfold maxLen at hx3 hy3
          clear hc hc2 hx1 hy1 hx2 hy2
          generalize hzs : R.getD i [] = zs at HX1 HX2 hx3
          generalize hzt : R2.getD i [] = zt at HY1 HY2 hy3
          have HZ : Hid (R.getD i [] = zs) := hzs
          have HT : Hid (R2.getD i [] = zt) := hzt
          clear hzs hzt
          have c1 : wr.cell? ⟨br, or1 + i, none⟩ = some (.slice x zs.length cx) := HGw.out.cell HX1.out (by simp)
          have c2 : wr.cell? ⟨bs, os1 + i, none⟩ = some (.slice y zt.length cy) := HGw.out.cell HY1.out (by simp)
          have hl1 : (i : Int) < (R.length : Int) := by omega
          have hl2 : (i : Int) < (R2.length : Int) := by omega
          by_cases hne : ¬ zs.length = zt.length
          · have hne' : ((zs.length : Int) != (zt.length : Int)) = true := by simp; omega
            go_wp2_with fail
            go_quiet (fail)
            go_wp2_with fail
            go_ret
            exact tellsB false rfl ⟨(fun e => by cases e), fun e => absurd (by rw [← HZ.out, ← HT.out]; exact congrArg (fun q => (q.R.getD i []).length) e) hne⟩ (grown_drewN HGw.out _)
          have hne' : ((zs.length : Int) != (zt.length : Int)) = false := by simp; omega
          have HLn : Hid (zs.length = zt.length) := by show _ = _; omega
          clear hne
          go_wp2_with fail
          go_quiet (fail)
          go_wp2_with fail
          clear b0 b1 b2 b3 d0 d1 d2 d3 c1 c2
          go_loopw [7] (fun v wr => ∃ k : Nat, v = .int .i64 k ∧ k ≤ zs.length ∧ W1.grownBy wr none ∧ ∀ j, j < k → zs.getD j 0 = zt.getD j 0) (fun v _ => zs.length - (intOf v).toNat)
          case atStart => exact ⟨0, rfl, by omega, grown_drewN G.out _, fun j hj => by omega⟩
          case round =>
            clear G HGw hgw
            obtain ⟨k, rfl, hk, hg, hl⟩ := hrel
            have G : Hid (W1.grownBy wr none) := hg
            have HK : Hid (∀ j, j < k → zs.getD j 0 = zt.getD j 0) := hl
            obtain ⟨hgw, ⟨b0, b1, b2, b3⟩, d0, d1, d2, d3⟩ := Box.out wr hg
            have HGw : Hid (w.grownBy wr none) := hgw
            have c1 : wr.cell? ⟨br, or1 + i, none⟩ = some (.slice x zs.length cx) := HGw.out.cell HX1.out (by simp)
            have c2 : wr.cell? ⟨bs, os1 + i, none⟩ = some (.slice y zt.length cy) := HGw.out.cell HY1.out (by simp)
            clear hg hl hgw
            by_cases hkl : k < zs.length
            · have hkl2 : k < zt.length := by rw [← HLn.out]; exact hkl
              obtain ⟨bx, ox, rfl, hcx⟩ := HX2.out.at hkl
              obtain ⟨bY, oY, rfl, hcy⟩ := HY2.out.at hkl2
              have c3 : wr.cell? ⟨bx, ox + k, none⟩ = some (.int .i64 (zs.getD k 0)) := HGw.out.cell (hcx k hkl) (by simp)
              have c4 : wr.cell? ⟨bY, oY + k, none⟩ = some (.int .i64 (zt.getD k 0)) := HGw.out.cell (hcy k hkl2) (by simp)
              clear hcx hcy
              generalize hu : zs.getD k 0 = u at c3
              generalize hv : zt.getD k 0 = v at c4
              have HU : Hid (zs.getD k 0 = u) := hu
              have HV : Hid (zt.getD k 0 = v) := hv
              clear hu hv
              have hk1 : (k : Int) < (zs.length : Int) := by omega
              have hk2 : (k : Int) < (zt.length : Int) := by omega
              by_cases huv : u = v
              · have huv' : (u != v) = false := by simpa using huv
                go_wp2_with fail
                go_quiet (fail)
                go_wp2_with fail
                go_roundw
                case rel =>
                  refine ⟨k + 1, by go_num, by omega, grown_drewN G.out _, fun j hj => ?_⟩
                  by_cases e : j = k
                  · subst e; rw [HU.out, HV.out]; exact huv
                  · exact HK.out j (by omega)
                case measure => simp [intOf]; omega
              · have huv' : (u != v) = true := by simpa using huv
                go_wp2_with fail
                go_quiet (fail)
                go_wp2_with fail
                go_ret
                exact tellsB false rfl ⟨(fun e => by cases e), fun e => absurd (by rw [← HU.out, ← HV.out, ← HZ.out, ← HT.out]; exact congrArg (fun q => (q.R.getD i []).getD k 0) e) huv⟩ (grown_drewN HGw.out _)
            · have hkl' : ¬ (k : Int) < (zs.length : Int) := by omega
              have EZ : Hid (zs = zt) := getD_ext HLn.out (fun j hj => HK.out j (by omega))
              clear HK
              go_wp2_with fail
              go_roundw
              case rel =>
                refine ⟨i + 1, by go_num, by omega, G.out, fun j hj => ?_⟩
                by_cases e : j = i
                · subst e; rw [HZ.out, HT.out]; exact EZ.out
                · exact HJ.out j (by omega)
              case measure => simp [intOf]; omega
        · have ER : Hid (R = R2) := getD_ext E3.out (fun j hj => HJ.out j (by omega))
          have hlt' : ¬ (i : Int) < (R.length : Int) := by omega
          clear HJ
          go_wp2_with fail
          go_ret
          exact tellsB true rfl ⟨fun _ => by unfold SameD; rw [E12.out.1, E12.out.2, ER.out, EM.out], fun _ => rfl⟩ HGw.out

end Go.Proofs.Yticmfgclkepgoaa
