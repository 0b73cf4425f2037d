/- What is the same is told to be alike. -/
import Derived.Test.YtkkmdcnbifepjaaDoorTls
import Derived.Test.YtkkmdcnbifepjaaDoorJoins
import Derived.BigRegion
import Derived.Deep.RegionWith
namespace Go.Proofs.YtkkmdcnbifepjaaDoor
open Go.RowKit
set_option linter.unusedVariables false

set_option maxHeartbeats 1600000 in
set_option maxRecDepth 100000 in
theorem sameWords_same (a b : Option Addr) (c d : Nat) (zs : List Int) (w : World) (hz : Ints w a zs) (ht : Ints w b zs) (hm : zs.length ≤ maxLen) :
    Calls Tryd.prog 32 #[.slice a zs.length c, .slice b zs.length d] w (Says (.bool true) w) := by
  unfold maxLen at hm
  have HZ : Hid (Ints w a zs) := hz
  have HT : Hid (Ints w b zs) := ht
  clear hz ht
  have hne' : ((zs.length : Int) != (zs.length : Int)) = false := by simp
  go_enter Tryd.func32, Tryd.ntmps32
  go_wp2_with fail
  go_loopw [5] (fun v wr => ∃ k : Nat, v = .int .i64 k ∧ k ≤ zs.length ∧ w.grownBy wr none) (fun v _ => zs.length - (intOf v).toNat)
  case atStart => exact ⟨0, rfl, by omega, grown_refl _ _⟩
  case round =>
    obtain ⟨k, rfl, hk, hg⟩ := hrel
    have G : Hid (w.grownBy wr none) := hg
    clear hg
    by_cases hkl : k < zs.length
    · obtain ⟨bx, ox, rfl, hcx⟩ := HZ.out.at hkl
      obtain ⟨bY, oY, rfl, hcy⟩ := HT.out.at hkl
      have c3 : wr.cell? ⟨bx, ox + k, none⟩ = some (.int .i64 (zs.getD k 0)) := G.out.cell (hcx k hkl) (by simp)
      have c4 : wr.cell? ⟨bY, oY + k, none⟩ = some (.int .i64 (zs.getD k 0)) := G.out.cell (hcy k hkl) (by simp)
      clear hcx hcy
      generalize zs.getD k 0 = u at c3 c4
      have hk1 : (k : Int) < (zs.length : Int) := by omega
      have huv' : (u != u) = false := by simp
      go_wp2_with fail
      go_quiet (fail)
      go_wp2_with fail
      go_roundw
      case rel => exact ⟨k + 1, by go_num, by omega, grown_drewN G.out _⟩
      case measure => simp [intOf]; omega
    · have hki : ¬ (k : Int) < (zs.length : Int) := by omega
      go_wp2_with fail
      go_ret
      exact ⟨rfl, G.out⟩

set_option maxHeartbeats 3200000 in
set_option maxRecDepth 100000 in
theorem alike_same (L S : Int) (R : List (List Int)) (M : List Int) (a a' b b' : Option Addr) (c c' d d' : Nat) (w : World) (h : DetAt w ⟨L, S, R, M⟩ a a') (h2 : DetAt w ⟨L, S, R, M⟩ b b') :
    Calls Tryd.prog 15 #[detV L S a R.length c a' M.length c', detV L S b R.length d b' M.length d'] w (Says (.bool true) w) := by
  have hm := h.rm
  have hm' := h.mm
  unfold maxLen at hm hm'
  simp only at hm hm'
  have HM : Hid (∀ W, w.grownBy W none → Calls Tryd.prog 32 #[.slice a' M.length c', .slice b' M.length d'] W (Says (.bool true) W)) := fun W hW => sameWords_same a' b' c' d' M W (h.marks.grown hW) (h2.marks.grown hW) h.mm
  have H1 : Hid (DetAt w ⟨L, S, R, M⟩ a a') := h
  have H2 : Hid (DetAt w ⟨L, S, R, M⟩ b b') := h2
  obtain ⟨W0, hW0, g0, s0, bx0⟩ := box_new w (.int .i64 L) (.int .i64 S) (.slice a R.length c) (.slice a' M.length c') 25
  obtain ⟨W1, hW1, g1, s1, bx1⟩ := box_new W0 (.int .i64 L) (.int .i64 S) (.slice b R.length d) (.slice b' M.length d') 25
  rw [s0] at bx1
  have HW1 : Hid (W1 = (w.alloc (.cells #[.int .i64 L, .int .i64 S, .slice a R.length c, .slice a' M.length c'] 25)).alloc (.cells #[.int .i64 L, .int .i64 S, .slice b R.length d, .slice b' M.length d'] 25)) := by show _ = _; rw [hW1, hW0]
  have G1 : Hid (w.grownBy W1 none) := grown_trans g0 g1
  have Ba : Hid (∀ W', W1.grownBy W' none → W'.cell? ⟨w.heap.size, 0, none⟩ = some (.int .i64 L) ∧ W'.cell? ⟨w.heap.size, 1, none⟩ = some (.int .i64 S) ∧ W'.cell? ⟨w.heap.size, 2, none⟩ = some (.slice a R.length c) ∧ W'.cell? ⟨w.heap.size, 3, none⟩ = some (.slice a' M.length c')) := fun W' hW' => bx0 W' (grown_trans g1 hW')
  have Bb : Hid (∀ W', W1.grownBy W' none → W'.cell? ⟨w.heap.size + 1, 0, none⟩ = some (.int .i64 L) ∧ W'.cell? ⟨w.heap.size + 1, 1, none⟩ = some (.int .i64 S) ∧ W'.cell? ⟨w.heap.size + 1, 2, none⟩ = some (.slice b R.length d) ∧ W'.cell? ⟨w.heap.size + 1, 3, none⟩ = some (.slice b' M.length d')) := bx1
  obtain ⟨a0, a1, a2, a3⟩ := Ba.out W1 (grown_refl _ _)
  obtain ⟨e0, e1, e2, e3⟩ := Bb.out W1 (grown_refl _ _)
  rw [HW1.out] at a0 a1 a2 a3 e0 e1 e2 e3
  clear hW0 hW1 g0 g1 s0 s1 bx0 bx1 h h2
  have e1' : (L != L) = false := by simp
  have e2' : (S != S) = false := by simp
  have e3' : ((R.length : Int) != (R.length : Int)) = false := by simp
  go_enter Tryd.func15, Tryd.ntmps15
  go_wp2_with fail
  rw [← HW1.out]
  refine (HM.out _ G1.out).mono ?_
  rintro E w2 ⟨rfl, hg2⟩
  have G2 : Hid (W1.grownBy w2 none) := hg2
  clear hg2 a0 a1 a2 a3 e0 e1 e2 e3 HW1
  go_wp2_with fail
  go_loopw [5, 6] (fun u v wr => ∃ k : Nat, u = .bool true ∧ v = .int .i64 k ∧ k ≤ R.length ∧ W1.grownBy wr none) (fun _ v _ => R.length - (intOf v).toNat)
  case atStart => exact ⟨0, rfl, rfl, by omega, G2.out⟩
  case round =>
    obtain ⟨i, rfl, rfl, hi, hg⟩ := hrel
    have G : Hid (W1.grownBy wr none) := hg
    obtain ⟨a0, a1, a2, a3⟩ := Ba.out wr hg
    obtain ⟨e0, e1, e2, e3⟩ := Bb.out wr hg
    clear hg
    by_cases hlt : i < R.length
    · obtain ⟨br, or1, rfl, hc⟩ := H1.out.rows.at hlt
      obtain ⟨bs, os1, rfl, hc2⟩ := H2.out.rows.at hlt
      obtain ⟨x, cx, hx1, hx2, hx3⟩ := hc i hlt
      obtain ⟨y, cy, hy1, hy2, hy3⟩ := hc2 i hlt
      simp only at hx1 hx2 hx3 hy1 hy2 hy3
      have c1 : wr.cell? ⟨br, or1 + i, none⟩ = some (.slice x (R.getD i []).length cx) := (grown_trans G1.out G.out).cell hx1 (by simp)
      have c2 : wr.cell? ⟨bs, os1 + i, none⟩ = some (.slice y (R.getD i []).length cy) := (grown_trans G1.out G.out).cell hy1 (by simp)
      have HC : Hid (∀ W, wr.grownBy W none → Calls Tryd.prog 32 #[.slice x (R.getD i []).length cx, .slice y (R.getD i []).length cy] W (Says (.bool true) W)) := fun W hW => sameWords_same x y cx cy _ W (hx2.grown (grown_trans (grown_trans G1.out G.out) hW)) (hy2.grown (grown_trans (grown_trans G1.out G.out) hW)) hx3
      clear hc hc2 hx1 hy1 hx2 hy2 hx3 hy3
      generalize (R.getD i []).length = zl at *
      have hl1 : (i : Int) < (R.length : Int) := by omega
      go_wp2_with fail
      go_region_with (go_at_call 32; refine (HC.out _ (by first | exact grown_refl _ _ | exact grown_drew (grown_refl _ _) | exact grown_drewN (grown_refl _ _) _)).mono ?_; rintro E w5 ⟨rfl, hg5⟩; have G5 : Hid (W1.grownBy w5 none) := (grown_trans G.out (grown_trans (by first | exact grown_refl _ _ | exact grown_drew (grown_refl _ _) | exact grown_drewN (grown_refl _ _) _) hg5)); clear hg5)
      all_goals
        go_wp2_with fail
        go_roundw
        case rel => exact ⟨i + 1, rfl, by go_num, by omega, by first | exact G5.out | exact grown_drew G5.out | exact grown_drewN G5.out _⟩
        case measure => simp [intOf]; omega
    · have hki : ¬ (i : Int) < (R.length : Int) := by omega
      go_wp2_with fail
      go_ret
      exact ⟨rfl, grown_trans G1.out G.out⟩

end Go.Proofs.YtkkmdcnbifepjaaDoor
