/- Nothing that an automaton could be. -/
/- Whether two automata are the same, number by number, as the reference tells it. -/
/- Whether a word may be. -/
/- Whether a word may be: the reference's function answers mayF, too. -/
/- Whether a word is accepted: the reference's After and Accepts. -/
import Derived.Test.YtkkmdcnbifepjaaDoorTls
import Derived.Test.YtkkmdcnbifepjaaDoorJoins
import Derived.Test.YtkkmdcnbifepjaaDoorGrow
import Derived.Test.YtkkmdcnbifepjaaDoorDRead
namespace Go.Proofs.YtkkmdcnbifepjaaDoor
open Go.RowKit
set_option linter.unusedVariables false

def NoD (L S : Int) (n k : Nat) : Prop := L = 0 ∧ S = 0 ∧ n + k = 0

set_option maxHeartbeats 1600000 in
theorem noDet_any (L S : Int) (n k : Nat) (a a' : Option Addr) (c c' : Nat) (w : World) (hn : n ≤ 4611686018427387903) (hk : k ≤ 4611686018427387903) :
    Calls Tryd.prog 6 #[.agg #[.int .i64 L, .int .i64 S, .slice a n c, .slice a' k c']] w (TellsB (NoD L S n k) w) := by
  have HG : Hid (∀ o, w.grownBy (w.alloc o) none) := fun o => grown_alloc w o
  by_cases h1 : L = 0
  · by_cases h2 : S = 0
    · by_cases h3 : n + k = 0
      · have h3' : (((n : Int) + (k : Int)) == 0) = true := by simp; omega
        subst h1 h2
        go_enter Tryd.func6, Tryd.ntmps6
        go_wp2_with fail
        go_ret
        exact tellsB true rfl ⟨fun _ => ⟨rfl, rfl, h3⟩, fun _ => rfl⟩ (HG.out _)
      · have h3' : (((n : Int) + (k : Int)) == 0) = false := by simp; omega
        subst h1 h2
        go_enter Tryd.func6, Tryd.ntmps6
        go_wp2_with fail
        go_ret
        exact tellsB false rfl ⟨(fun e => by cases e), fun e => absurd e.2.2 h3⟩ (HG.out _)
    · have h2' : (S == 0) = false := by simpa using h2
      subst h1
      go_enter Tryd.func6, Tryd.ntmps6
      go_wp2_with fail
      go_ret
      exact tellsB false rfl ⟨(fun e => by cases e), fun e => absurd e.2.1 h2⟩ (HG.out _)
  · have h1' : (L == 0) = false := by simpa using h1
    go_enter Tryd.func6, Tryd.ntmps6
    go_wp2_with fail
    go_ret
    exact tellsB false rfl ⟨(fun e => by cases e), fun e => absurd e.1 h1⟩ (HG.out _)

end Go.Proofs.YtkkmdcnbifepjaaDoor

namespace Go.Proofs.YtkkmdcnbifepjaaDoor
open Go.RowKit
set_option linter.unusedVariables false

def SameD (d d' : Dfa) : Prop := d = d'
set_option maxHeartbeats 6400000 in
set_option maxRecDepth 100000 in
theorem same_any (L S L2 S2 : Int) (R R2 : List (List Int)) (M M2 : List Int) (a a' b b' : Option Addr) (c c' d d' : Nat) (w : World) (h : DetAt w ⟨L, S, R, M⟩ a a') (h2 : DetAt w ⟨L2, S2, R2, M2⟩ b b') :
    Calls Tryd.prog 9 #[.agg #[.int .i64 L, .int .i64 S, .slice a R.length c, .slice a' M.length c'], .agg #[.int .i64 L2, .int .i64 S2, .slice b R2.length d, .slice b' M2.length d']] w (TellsB (SameD ⟨L, S, R, M⟩ ⟨L2, S2, R2, M2⟩) w) := by
  have hm := h.rm
  have hm' := h.mm
  have hm2 := h2.rm
  have hm2' := h2.mm
  unfold maxLen at hm hm' hm2 hm2'
  simp only at hm hm' hm2 hm2'
  have H1 : Hid (DetAt w ⟨L, S, R, M⟩ a a') := h
  have H2 : Hid (DetAt w ⟨L2, S2, R2, M2⟩ b b') := h2
  clear h h2
  obtain ⟨W0, hW0⟩ : ∃ W0, W0 = w.alloc (.cells #[.int .i64 L, .int .i64 S, .slice a R.length c, .slice a' M.length c'] 25) := ⟨_, rfl⟩
  obtain ⟨W1, hW1⟩ : ∃ W1, W1 = W0.alloc (.cells #[.int .i64 L2, .int .i64 S2, .slice b R2.length d, .slice b' M2.length d'] 25) := ⟨_, rfl⟩
  have hs0 : W0.heap.size = w.heap.size + 1 := by rw [hW0]; simp
  have Box : Hid (∀ W, W1.grownBy W none → w.grownBy W none ∧ (W.cell? ⟨w.heap.size, 0, none⟩ = some (.int .i64 L) ∧ W.cell? ⟨w.heap.size, 1, none⟩ = some (.int .i64 S) ∧ W.cell? ⟨w.heap.size, 2, none⟩ = some (.slice a R.length c) ∧ W.cell? ⟨w.heap.size, 3, none⟩ = some (.slice a' M.length c'))
      ∧ W.cell? ⟨w.heap.size + 1, 0, none⟩ = some (.int .i64 L2) ∧ W.cell? ⟨w.heap.size + 1, 1, none⟩ = some (.int .i64 S2) ∧ W.cell? ⟨w.heap.size + 1, 2, none⟩ = some (.slice b R2.length d) ∧ W.cell? ⟨w.heap.size + 1, 3, none⟩ = some (.slice b' M2.length d')) := fun W hW => by
    have g1 : W0.grownBy W none := grown_trans (hW1 ▸ grown_alloc _ _) hW
    have k1 := box4 (w := w) (hW0 ▸ g1)
    have k2 := box4 (w := W0) (hW1 ▸ hW)
    rw [hs0] at k2
    exact ⟨grown_trans (hW0 ▸ grown_alloc _ _) g1, k1, k2⟩
  have HG : Hid (w.grownBy W1 none) := (Box.out W1 (grown_refl _ _)).1
  have HE : Hid (W1 = (w.alloc (.cells #[.int .i64 L, .int .i64 S, .slice a R.length c, .slice a' M.length c'] 25)).alloc (.cells #[.int .i64 L2, .int .i64 S2, .slice b R2.length d, .slice b' M2.length d'] 25)) := by show _ = _; rw [hW1, hW0]
  clear hW0 hW1 hs0
  by_cases e1 : ¬ L = L2
  · have e1' : (L != L2) = true := by simpa using e1
    go_enter Tryd.func9, Tryd.ntmps9
    go_wp2_with fail
    go_ret
    exact tellsB false rfl ⟨(fun e => by cases e), fun e => absurd (by simpa [SameD] using congrArg Dfa.L e) e1⟩ (by rw [← HE.out]; exact HG.out)
  by_cases e2 : ¬ S = S2
  · have e1' : (L != L2) = false := by simpa using e1
    have e2' : (S != S2) = true := by simpa using e2
    go_enter Tryd.func9, Tryd.ntmps9
    go_wp2_with fail
    go_ret
    exact tellsB false rfl ⟨(fun e => by cases e), fun e => absurd (by simpa [SameD] using congrArg Dfa.S e) e2⟩ (by rw [← HE.out]; exact HG.out)
  by_cases e3 : ¬ R.length = R2.length
  · have e1' : (L != L2) = false := by simpa using e1
    have e2' : (S != S2) = false := by simpa using e2
    have e3' : ((R.length : Int) != (R2.length : Int)) = true := by simp; omega
    go_enter Tryd.func9, Tryd.ntmps9
    go_wp2_with fail
    go_ret
    exact tellsB false rfl ⟨(fun e => by cases e), fun e => absurd (congrArg (fun x => x.R.length) e) e3⟩ (by rw [← HE.out]; exact HG.out)
  by_cases e4 : ¬ M.length = M2.length
  · have e1' : (L != L2) = false := by simpa using e1
    have e2' : (S != S2) = false := by simpa using e2
    have e3' : ((R.length : Int) != (R2.length : Int)) = false := by simp; omega
    have e4' : ((M.length : Int) != (M2.length : Int)) = true := by simp; omega
    have HE3 : Hid (¬¬ R.length = R2.length) := e3
    clear e3
    go_enter Tryd.func9, Tryd.ntmps9
    go_wp2_with fail
    go_ret
    exact tellsB false rfl ⟨(fun e => by cases e), fun e => absurd (congrArg (fun x => x.M.length) e) e4⟩ (by rw [← HE.out]; exact HG.out)
  have e1' : (L != L2) = false := by simpa using e1
  have e2' : (S != S2) = false := by simpa using e2
  have e3' : ((R.length : Int) != (R2.length : Int)) = false := by simp; omega
  have e4' : ((M.length : Int) != (M2.length : Int)) = false := by simp; omega
  have E12 : Hid (L = L2 ∧ S = S2) := by show _ ∧ _; omega
  have E3 : Hid (R.length = R2.length) := by show _ = _; omega
  have E4 : Hid (M.length = M2.length) := by show _ = _; omega
  clear e1 e2 e3 e4
  go_enter Tryd.func9, Tryd.ntmps9
  go_wp2_with fail
  rw [← HE.out]
  go_loopw [5] (fun v wr => ∃ k : Nat, v = .int .i64 k ∧ k ≤ M.length ∧ W1.grownBy wr none ∧ ∀ j, j < k → M.getD j 0 = M2.getD j 0) (fun v _ => M.length - (intOf v).toNat)
  case atStart => exact ⟨0, rfl, by omega, grown_refl _ _, fun j hj => by omega⟩
  case round =>
    obtain ⟨k, rfl, hk, hg, hl⟩ := hrel
    have G : Hid (W1.grownBy wr none) := hg
    have HJ : Hid (∀ j, j < k → M.getD j 0 = M2.getD j 0) := hl
    obtain ⟨hgw, ⟨b0, b1, b2, b3⟩, d0, d1, d2, d3⟩ := Box.out wr hg
    have HGw : Hid (w.grownBy wr none) := hgw
    clear hg hl
    by_cases hlt : k < M.length
    · have hlt2 : k < M2.length := by rw [← E4.out]; exact hlt
      obtain ⟨bm, om, rfl, hc⟩ := H1.out.marks.at hlt
      obtain ⟨bn, on, rfl, hc2⟩ := H2.out.marks.at hlt2
      have hck : wr.cell? ⟨bm, om + k, none⟩ = some (.int .i64 (M.getD k 0)) := HGw.out.cell (hc k hlt) (by simp)
      have hck2 : wr.cell? ⟨bn, on + k, none⟩ = some (.int .i64 (M2.getD k 0)) := HGw.out.cell (hc2 k hlt2) (by simp)
      clear hc hc2
      generalize hx : M.getD k 0 = x at hck
      generalize hy : M2.getD k 0 = y at hck2
      have HX : Hid (M.getD k 0 = x) := hx
      have HY : Hid (M2.getD k 0 = y) := hy
      clear hx hy
      have hl1 : (k : Int) < (M.length : Int) := by omega
      have hl2 : (k : Int) < (M2.length : Int) := by omega
      by_cases hxy : x = y
      · have hxy' : (x != y) = false := by simpa using hxy
        go_wp2_with fail
        go_quiet (fail)
        go_wp2_with fail
        go_roundw
        case rel =>
          refine ⟨k + 1, by go_num, by omega, grown_drewN G.out _, fun j hj => ?_⟩
          by_cases e : j = k
          · subst e; rw [HX.out, HY.out]; exact hxy
          · exact HJ.out j (by omega)
        case measure => simp [intOf]; omega
      · have hxy' : (x != y) = true := by simpa using hxy
        go_wp2_with fail
        go_quiet (fail)
        go_wp2_with fail
        go_ret
        exact tellsB false rfl ⟨(fun e => by cases e), fun e => absurd (by rw [← HX.out, ← HY.out]; exact congrArg (fun q => q.M.getD k 0) e) hxy⟩ (grown_drewN HGw.out _)
    · have EM : Hid (M = M2) := getD_ext E4.out (fun i hi => HJ.out i (by omega))
      clear HJ
      go_wp2_with fail
      clear b0 b1 b2 b3 d0 d1 d2 d3
      go_loopw [6] (fun v wr => ∃ k : Nat, v = .int .i64 k ∧ k ≤ R.length ∧ W1.grownBy wr none ∧ ∀ j, j < k → R.getD j [] = R2.getD j []) (fun v _ => R.length - (intOf v).toNat)
      case atStart => exact ⟨0, rfl, by omega, G.out, fun j hj => by omega⟩
      case round =>
        clear G HGw hgw
        obtain ⟨i, rfl, hi, hg, hl⟩ := hrel
        have G : Hid (W1.grownBy wr none) := hg
        have HJ : Hid (∀ j, j < i → R.getD j [] = R2.getD j []) := hl
        obtain ⟨hgw, ⟨b0, b1, b2, b3⟩, d0, d1, d2, d3⟩ := Box.out wr hg
        have HGw : Hid (w.grownBy wr none) := hgw
        clear hg hl
        by_cases hlt : i < R.length
        · have hlt2 : i < R2.length := by rw [← E3.out]; exact hlt
          obtain ⟨br, or1, rfl, hc⟩ := H1.out.rows.at hlt
          obtain ⟨bs, os1, rfl, hc2⟩ := H2.out.rows.at hlt2
          obtain ⟨x, cx, hx1, hx2, hx3⟩ := hc i hlt
          obtain ⟨y, cy, hy1, hy2, hy3⟩ := hc2 i hlt2
          simp only at hx1 hx2 hx3 hy1 hy2 hy3
          have HX1 : Hid (w.cell? ⟨br, or1 + i, none⟩ = some (.slice x (R.getD i []).length cx)) := hx1
          have HY1 : Hid (w.cell? ⟨bs, os1 + i, none⟩ = some (.slice y (R2.getD i []).length cy)) := hy1
          have HX2 : Hid (Ints w x (R.getD i [])) := hx2
          have HY2 : Hid (Ints w y (R2.getD i [])) := hy2
          unfold maxLen at hx3 hy3
          clear hc hc2 hx1 hy1 hx2 hy2
          generalize hzs : R.getD i [] = zs at HX1 HX2 hx3
          generalize hzt : R2.getD i [] = zt at HY1 HY2 hy3
          have HZ : Hid (R.getD i [] = zs) := hzs
          have HT : Hid (R2.getD i [] = zt) := hzt
          clear hzs hzt
          have c1 : wr.cell? ⟨br, or1 + i, none⟩ = some (.slice x zs.length cx) := HGw.out.cell HX1.out (by simp)
          have c2 : wr.cell? ⟨bs, os1 + i, none⟩ = some (.slice y zt.length cy) := HGw.out.cell HY1.out (by simp)
          have hl1 : (i : Int) < (R.length : Int) := by omega
          have hl2 : (i : Int) < (R2.length : Int) := by omega
          by_cases hne : ¬ zs.length = zt.length
          · have hne' : ((zs.length : Int) != (zt.length : Int)) = true := by simp; omega
            go_wp2_with fail
            go_quiet (fail)
            go_wp2_with fail
            go_ret
            exact tellsB false rfl ⟨(fun e => by cases e), fun e => absurd (by rw [← HZ.out, ← HT.out]; exact congrArg (fun q => (q.R.getD i []).length) e) hne⟩ (grown_drewN HGw.out _)
          have hne' : ((zs.length : Int) != (zt.length : Int)) = false := by simp; omega
          have HLn : Hid (zs.length = zt.length) := by show _ = _; omega
          clear hne
          go_wp2_with fail
          go_quiet (fail)
          go_wp2_with fail
          clear b0 b1 b2 b3 d0 d1 d2 d3 c1 c2
          go_loopw [7] (fun v wr => ∃ k : Nat, v = .int .i64 k ∧ k ≤ zs.length ∧ W1.grownBy wr none ∧ ∀ j, j < k → zs.getD j 0 = zt.getD j 0) (fun v _ => zs.length - (intOf v).toNat)
          case atStart => exact ⟨0, rfl, by omega, grown_drewN G.out _, fun j hj => by omega⟩
          case round =>
            clear G HGw hgw
            obtain ⟨k, rfl, hk, hg, hl⟩ := hrel
            have G : Hid (W1.grownBy wr none) := hg
            have HK : Hid (∀ j, j < k → zs.getD j 0 = zt.getD j 0) := hl
            obtain ⟨hgw, ⟨b0, b1, b2, b3⟩, d0, d1, d2, d3⟩ := Box.out wr hg
            have HGw : Hid (w.grownBy wr none) := hgw
            have c1 : wr.cell? ⟨br, or1 + i, none⟩ = some (.slice x zs.length cx) := HGw.out.cell HX1.out (by simp)
            have c2 : wr.cell? ⟨bs, os1 + i, none⟩ = some (.slice y zt.length cy) := HGw.out.cell HY1.out (by simp)
            clear hg hl hgw
            by_cases hkl : k < zs.length
            · have hkl2 : k < zt.length := by rw [← HLn.out]; exact hkl
              obtain ⟨bx, ox, rfl, hcx⟩ := HX2.out.at hkl
              obtain ⟨bY, oY, rfl, hcy⟩ := HY2.out.at hkl2
              have c3 : wr.cell? ⟨bx, ox + k, none⟩ = some (.int .i64 (zs.getD k 0)) := HGw.out.cell (hcx k hkl) (by simp)
              have c4 : wr.cell? ⟨bY, oY + k, none⟩ = some (.int .i64 (zt.getD k 0)) := HGw.out.cell (hcy k hkl2) (by simp)
              clear hcx hcy
              generalize hu : zs.getD k 0 = u at c3
              generalize hv : zt.getD k 0 = v at c4
              have HU : Hid (zs.getD k 0 = u) := hu
              have HV : Hid (zt.getD k 0 = v) := hv
              clear hu hv
              have hk1 : (k : Int) < (zs.length : Int) := by omega
              have hk2 : (k : Int) < (zt.length : Int) := by omega
              by_cases huv : u = v
              · have huv' : (u != v) = false := by simpa using huv
                go_wp2_with fail
                go_quiet (fail)
                go_wp2_with fail
                go_roundw
                case rel =>
                  refine ⟨k + 1, by go_num, by omega, grown_drewN G.out _, fun j hj => ?_⟩
                  by_cases e : j = k
                  · subst e; rw [HU.out, HV.out]; exact huv
                  · exact HK.out j (by omega)
                case measure => simp [intOf]; omega
              · have huv' : (u != v) = true := by simpa using huv
                go_wp2_with fail
                go_quiet (fail)
                go_wp2_with fail
                go_ret
                exact tellsB false rfl ⟨(fun e => by cases e), fun e => absurd (by rw [← HU.out, ← HV.out, ← HZ.out, ← HT.out]; exact congrArg (fun q => (q.R.getD i []).getD k 0) e) huv⟩ (grown_drewN HGw.out _)
            · have hkl' : ¬ (k : Int) < (zs.length : Int) := by omega
              have EZ : Hid (zs = zt) := getD_ext HLn.out (fun j hj => HK.out j (by omega))
              clear HK
              go_wp2_with fail
              go_roundw
              case rel =>
                refine ⟨i + 1, by go_num, by omega, G.out, fun j hj => ?_⟩
                by_cases e : j = i
                · subst e; rw [HZ.out, HT.out]; exact EZ.out
                · exact HJ.out j (by omega)
              case measure => simp [intOf]; omega
        · have ER : Hid (R = R2) := getD_ext E3.out (fun j hj => HJ.out j (by omega))
          have hlt' : ¬ (i : Int) < (R.length : Int) := by omega
          clear HJ
          go_wp2_with fail
          go_ret
          exact tellsB true rfl ⟨fun _ => by unfold SameD; rw [E12.out.1, E12.out.2, ER.out, EM.out], fun _ => rfl⟩ HGw.out

end Go.Proofs.YtkkmdcnbifepjaaDoor

namespace Go.Proofs.YtkkmdcnbifepjaaDoor
open Go.RowKit
set_option linter.unusedVariables false

/-- What a function on words answers of one: 0, 1 (too long), 2 (a letter, or how many there are). -/
def mayF (n : Int) (zs : List Int) : Int :=
  if n < 1 ∨ 4 < n then 2 else if 60 < zs.length then 1 else if zs.all (fun x => decide (0 ≤ x) && decide (x < n)) then 0 else 2

theorem mayF_bad {n : Int} {zs : List Int} {k : Nat} (h1 : 1 ≤ n) (h2 : n ≤ 4) (h3 : zs.length ≤ 60) (hk : k < zs.length) (h : zs.getD k 0 < 0 ∨ n ≤ zs.getD k 0) : mayF n zs = 2 := by
  unfold mayF
  rw [if_neg (by omega), if_neg (by omega), if_neg]
  intro ha
  have := List.all_eq_true.1 ha (zs.getD k 0) (by rw [getD_lt hk]; exact List.getElem_mem hk)
  simp at this
  simp at h
  omega

theorem mayF_good {n : Int} {zs : List Int} (h1 : 1 ≤ n) (h2 : n ≤ 4) (h3 : zs.length ≤ 60) (h : ∀ k, k < zs.length → 0 ≤ zs.getD k 0 ∧ zs.getD k 0 < n) : mayF n zs = 0 := by
  unfold mayF
  rw [if_neg (by omega), if_neg (by omega), if_pos]
  refine List.all_eq_true.2 fun x hx => ?_
  obtain ⟨k, hk, rfl⟩ := List.getElem_of_mem hx
  have := h k hk
  rw [getD_lt hk] at this
  simp [this]

end Go.Proofs.YtkkmdcnbifepjaaDoor

namespace Go.Proofs.YtkkmdcnbifepjaaDoor
open Go.RowKit
set_option linter.unusedVariables false

set_option maxHeartbeats 400000 in
theorem mayR_any (n : Int) (a : Option Addr) (c : Nat) (zs : List Int) (w : World) (h : Ints w a zs) (hm : zs.length ≤ maxLen) :
    Calls Tryd.prog 10 #[.int .i64 n, .slice a zs.length c] w fun e w' => e = .returned (.int .i64 (mayF n zs)) ∧ w' = w := by
  unfold maxLen at hm
  by_cases h1 : n < 1
  · have hd : decide (n < 1) = true := by simpa using h1
    go_enter Tryd.func10, Tryd.ntmps10
    go_wp2
    go_ret
    exact ⟨ret_int (by unfold mayF; rw [if_pos (by omega)]), rfl⟩
  · by_cases h2 : 4 < n
    · have hd : decide (n < 1) = false := by simpa using h1
      go_enter Tryd.func10, Tryd.ntmps10
      go_wp2
      go_ret
      exact ⟨ret_int (by unfold mayF; rw [if_pos (by omega)]), rfl⟩
    · by_cases h3 : 60 < zs.length
      · have h3' : (60 : Int) < (zs.length : Int) := by omega
        go_enter Tryd.func10, Tryd.ntmps10
        go_wp2
        go_ret
        exact ⟨ret_int (by unfold mayF; rw [if_neg (by omega), if_pos (by omega)]), rfl⟩
      · have h3' : ¬ (60 : Int) < (zs.length : Int) := by omega
        go_enter Tryd.func10, Tryd.ntmps10
        go_wp2
        go_loop [5] (fun i => ∃ k : Nat, k ≤ zs.length ∧ i = .int .i64 k ∧ ∀ j, j < k → 0 ≤ zs.getD j 0 ∧ zs.getD j 0 < n) (fun i => zs.length - (intOf i).toNat)
        case atStart => exact ⟨0, Nat.zero_le _, rfl, fun j hj => by omega⟩
        case round =>
          obtain ⟨k, hk, rfl, hg⟩ := hrel
          have HG : Hid (∀ j, j < k → 0 ≤ zs.getD j 0 ∧ zs.getD j 0 < n) := hg
          clear hg
          by_cases hlt : k < zs.length
          · obtain ⟨b, off, rfl, hc⟩ := h.at hlt
            have hck := hc k hlt
            clear hc h
            generalize hx : zs.getD k 0 = x at hck
            have HX : Hid (zs.getD k 0 = x) := hx
            clear hx
            by_cases g1 : x < 0
            · have hd : decide (x < 0) = true := by simpa using g1
              go_wp2
              go_ret
              exact ⟨ret_int (mayF_bad (by omega) (by omega) (by omega) hlt (by rw [HX.out]; omega)).symm, rfl⟩
            · have hd : decide (x < 0) = false := by simpa using g1
              by_cases g2 : n ≤ x
              · go_wp2
                go_ret
                exact ⟨ret_int (mayF_bad (by omega) (by omega) (by omega) hlt (by rw [HX.out]; omega)).symm, rfl⟩
              · go_wp2
                go_round
                case rel =>
                  refine ⟨k + 1, by omega, by go_num, fun j hj => ?_⟩
                  by_cases hjk : j = k
                  · subst hjk; rw [HX.out]; omega
                  · exact HG.out j (by omega)
                case measure => simp [intOf]; omega
          · go_wp2
            go_ret
            exact ⟨ret_int (mayF_good (by omega) (by omega) (by omega) (fun j hj => HG.out j (by omega))).symm, rfl⟩

end Go.Proofs.YtkkmdcnbifepjaaDoor

namespace Go.Proofs.YtkkmdcnbifepjaaDoor
open Go.RowKit
set_option linter.unusedVariables false

theorem mayF_letters {n : Int} {zs : List Int} (h : mayF n zs = 0) : zs.length ≤ 60 ∧ ∀ k, k < zs.length → 0 ≤ zs.getD k 0 ∧ zs.getD k 0 < n := by
  unfold mayF at h
  split at h
  · cases h
  · split at h
    · cases h
    · split at h
      · next h1 =>
        refine ⟨by omega, fun k hk => ?_⟩
        have := List.all_eq_true.1 h1 (zs.getD k 0) (by rw [getD_lt hk]; exact List.getElem_mem hk)
        simpa using this
      · cases h

theorem go_take (d : Dfa) (s : Nat) (z : List Int) {k : Nat} (hk : k < z.length) : d.go s (z.take (k + 1)) = d.nx (d.go s (z.take k)) (z.getD k 0).toNat := by
  unfold Dfa.go
  rw [List.take_add_one, List.foldl_append, getD_lt hk]
  simp [hk]

theorem go_take_lt {d : Dfa} (hG : Good d) {s : Nat} (hs : s < d.R.length) {z : List Int} (hz : ∀ k, k < z.length → 0 ≤ z.getD k 0 ∧ z.getD k 0 < d.L) (k : Nat) : d.go s (z.take k) < d.R.length := by
  refine hG.go_lt hs _ fun x hx => ?_
  obtain ⟨i, hi, rfl⟩ := List.getElem_of_mem (List.mem_of_mem_take hx)
  have := hz i hi
  rwa [getD_lt hi] at this

def accB (d : Dfa) (z : List Int) : Bool := d.mk1 (d.go d.S.toNat z)

set_option maxHeartbeats 1600000 in
set_option maxRecDepth 100000 in
theorem after_any (L S : Int) (q : Nat) (R : List (List Int)) (M : List Int) (a a' az : Option Addr) (c c' cz : Nat) (z : List Int) (w : World) (h : DetAt w ⟨L, S, R, M⟩ a a') (hG : Good ⟨L, S, R, M⟩) (hz : Ints w az z) (hzm : z.length ≤ maxLen)
    (hlet : ∀ k, k < z.length → 0 ≤ z.getD k 0 ∧ z.getD k 0 < L) (hq : q < R.length) :
    Calls Tryd.prog 28 #[.agg #[.int .i64 L, .int .i64 S, .slice a R.length c, .slice a' M.length c'], .int .i64 q, .slice az z.length cz] w fun e w' => e = .returned (.int .i64 ((Dfa.go ⟨L, S, R, M⟩ q z : Nat) : Int)) ∧ w.grownBy w' none := by
  have HG : Hid (∀ o, w.grownBy (w.alloc o) none) := fun o => grown_alloc w o
  have H : Hid (DetAt w ⟨L, S, R, M⟩ a a') := h
  have HZ : Hid (Ints w az z) := hz
  have GD : Hid (Good ⟨L, S, R, M⟩) := hG
  have HL : Hid (∀ k, k < z.length → 0 ≤ z.getD k 0 ∧ z.getD k 0 < L) := hlet
  have hn3 : R.length ≤ 3000 := hG.n3
  have hL4 : 1 ≤ L ∧ L ≤ 4 := ⟨hG.l1, hG.l4⟩
  unfold maxLen at hzm
  clear h hz hG hlet
  obtain ⟨y, hy⟩ : ∃ y, Dfa.go ⟨L, S, R, M⟩ q z = y := ⟨_, rfl⟩
  rw [hy]
  have HY : Hid (Dfa.go ⟨L, S, R, M⟩ q z = y) := hy
  clear hy
  go_enter Tryd.func28, Tryd.ntmps28
  go_wp2_with fail
  generalize hO : Obj.cells #[Value.int IntKind.i64 L, Value.int IntKind.i64 S, Value.slice a R.length c, Value.slice a' M.length c'] 25 = O
  have HO : Hid (Obj.cells #[Value.int IntKind.i64 L, Value.int IntKind.i64 S, Value.slice a R.length c, Value.slice a' M.length c'] 25 = O) := hO
  clear hO
  go_loopw [1, 7] (fun v i wr => ∃ k : Nat, k ≤ z.length ∧ i = .int .i64 k ∧ v = .int .i64 ((Dfa.go ⟨L, S, R, M⟩ q (z.take k) : Nat) : Int) ∧ (w.alloc O).grownBy wr none) (fun _ i _ => z.length - (intOf i).toNat)
  case atStart => exact ⟨0, Nat.zero_le _, rfl, by simp [Dfa.go], grown_refl _ _⟩
  case round =>
    obtain ⟨k, hk, rfl, rfl, hg⟩ := hrel
    have hgl : Dfa.go ⟨L, S, R, M⟩ q (z.take k) < R.length := go_take_lt GD.out (by simp only; omega) HL.out k
    have G : Hid ((w.alloc O).grownBy wr none) := hg
    have G2 : Hid (w.grownBy wr none) := grown_trans (HG.out _) hg
    obtain ⟨b0, b1, b2, b3⟩ := box4 (HO.out ▸ hg)
    clear hg
    by_cases hlt : k < z.length
    · obtain ⟨hx0, hx1⟩ := HL.out k hlt
      have HT : Hid (_ = _) := go_take ⟨L, S, R, M⟩ q z hlt
      obtain ⟨bz, oz, rfl, hcz⟩ := HZ.out.at hlt
      have hcz' : wr.cell? ⟨bz, oz + k, none⟩ = some (.int .i64 (z.getD k 0)) := G2.out.cell (hcz k hlt) (by simp)
      obtain ⟨b, off, bx, ox, cx, rfl, hr1, hr2⟩ := step_reads (l := (z.getD k 0).toNat) (H.out.grown G2.out) GD.out hgl (by omega)
      clear hcz
      generalize hgk : Dfa.go ⟨L, S, R, M⟩ q (z.take k) = s at *
      have ht0 : (z.getD k 0) = ((z.getD k 0).toNat : Int) := by omega
      generalize hlk : (z.getD k 0).toNat = l at *
      rw [ht0] at hcz' hx1 hx0
      have hnx : Dfa.nx ⟨L, S, R, M⟩ s l < R.length := GD.out.nx_lt hgl (by simp only; omega)
      generalize hn' : Dfa.nx ⟨L, S, R, M⟩ s l = t at *
      have hLt : (L.toNat : Int) = L := by omega
      have hlL : (l : Int) < (L.toNat : Int) := by omega
      clear hn' hgk ht0 hlk
      go_wp2_with fail
      go_quiet (fail)
      go_wp2_with fail
      go_roundw
      case rel => exact ⟨k + 1, by omega, by go_num, by rw [HT.out], grown_drewN G.out _⟩
      case measure => simp [intOf]; omega
    · have hkz : k = z.length := by omega
      subst hkz
      rw [List.take_length, HY.out]
      go_wp2_with fail
      go_ret
      exact ⟨rfl, G2.out⟩

set_option maxHeartbeats 1600000 in
set_option maxRecDepth 100000 in
theorem acceptsR_any (L S : Int) (R : List (List Int)) (M : List Int) (a a' az : Option Addr) (c c' cz : Nat) (z : List Int) (w : World) (h : DetAt w ⟨L, S, R, M⟩ a a') (hG : Good ⟨L, S, R, M⟩) (hz : Ints w az z) (hzm : z.length ≤ maxLen)
    (hlet : ∀ k, k < z.length → 0 ≤ z.getD k 0 ∧ z.getD k 0 < L) :
    Calls Tryd.prog 11 #[.agg #[.int .i64 L, .int .i64 S, .slice a R.length c, .slice a' M.length c'], .slice az z.length cz] w fun e w' => e = .returned (.bool (accB ⟨L, S, R, M⟩ z)) ∧ w.grownBy w' none := by
  have HG : Hid (∀ o, w.grownBy (w.alloc o) none) := fun o => grown_alloc w o
  have hS : 0 ≤ S ∧ S < R.length := hG.s
  have hn3 : R.length ≤ 3000 := hG.n3
  have hgl : Dfa.go ⟨L, S, R, M⟩ S.toNat z < R.length := by have := go_take_lt hG (s := S.toNat) (by simp only; omega) hlet z.length; rwa [List.take_length] at this
  have HA : Hid (∀ W, w.grownBy W none → Calls Tryd.prog 28 #[.agg #[.int .i64 L, .int .i64 S, .slice a R.length c, .slice a' M.length c'], .int .i64 S, .slice az z.length cz] W fun e w' => e = .returned (.int .i64 ((Dfa.go ⟨L, S, R, M⟩ S.toNat z : Nat) : Int)) ∧ W.grownBy w' none) := fun W hW => by
    have := after_any L S S.toNat R M a a' az c c' cz z W (h.grown hW) hG (hz.grown hW) hzm hlet (by omega)
    rwa [Int.toNat_of_nonneg hS.1] at this
  obtain ⟨b, off, rfl, hm⟩ := mark_reads h hG hgl
  have HM : Hid (w.cell? ⟨b, off + Dfa.go ⟨L, S, R, M⟩ S.toNat z, none⟩ = some (.int .i64 (M.getD (Dfa.go ⟨L, S, R, M⟩ S.toNat z) 0))) := hm
  have hsM : Dfa.go ⟨L, S, R, M⟩ S.toNat z < M.length := by have := hG.ml; simp only at this; rw [this]; exact hgl
  have hbd : ((M.getD (Dfa.go ⟨L, S, R, M⟩ S.toNat z) 0) == 1) = accB ⟨L, S, R, M⟩ z := by simp [accB, Dfa.mk1]; rfl
  generalize accB ⟨L, S, R, M⟩ z = bb at *
  generalize Dfa.go ⟨L, S, R, M⟩ S.toNat z = s at *
  generalize M.getD s 0 = x at *
  have hsM' : (s : Int) < (M.length : Int) := by omega
  clear h hG hz hlet hm
  unfold maxLen at hzm
  go_enter Tryd.func11, Tryd.ntmps11
  go_wp2_with fail
  refine (HA.out _ (HG.out _)).mono ?_
  rintro e w2 ⟨rfl, hg2⟩
  obtain ⟨b0, b1, b2, b3⟩ := box4 hg2
  have G2 : Hid (w.grownBy w2 none) := grown_trans (HG.out _) hg2
  have hm2 : w2.cell? ⟨b, off + s, none⟩ = some (.int .i64 x) := G2.out.cell HM.out (by simp)
  clear hg2
  go_wp2_with fail
  go_ret
  exact ⟨by simp, G2.out⟩

end Go.Proofs.YtkkmdcnbifepjaaDoor
