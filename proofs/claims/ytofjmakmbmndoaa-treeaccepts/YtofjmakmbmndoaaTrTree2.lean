/- What is wrong with a tree: the program's Tree. -/
import Derived.Test.YtofjmakmbmndoaaTrTree
namespace Go.Proofs.Ytofjmakmbmndoaa
open Go.RowKit
set_option linter.unusedVariables false

theorem letB_iff (l : Int) : letB l = true ↔ ¬ (l < 1 ∨ 4 < l) := by simp [letB]
set_option maxHeartbeats 3200000 in
set_option maxRecDepth 100000 in
theorem treeP_any (l : Int) (T : List NodeI) (a : Option Addr) (c : Nat) (w : World) (h : NodesAt w a T) (hm : T.length ≤ maxLen) :
    Calls Try.prog 8 #[.int .i64 l, treeV a T.length c] w (Says (.int .i64 (treeF l T)) w) := by
  unfold maxLen at hm
  have HL1 : Hid (∀ W, Calls Try.prog 16 #[.int .i64 l] W fun e w' => e = .returned (.bool (letB l)) ∧ w' = W) := fun W => isLetters_any _ _
  have HOf : Hid (∀ x n W, Calls Try.prog 21 #[.int .i64 x, .int .i64 n] W fun e w' => e = .returned (.bool (ofB x n)) ∧ w' = W) := fun x n W => isOf_any x n W
  have HTk : Hid (∀ (g n i : Nat) (s : Nat → Bool) (x : NodeI) (w : World), BRow w g n s → i ≤ n → n ≤ 1000 → Calls Try.prog 22 #[.slice (some ⟨g, 0, none⟩) i n, nodeV x] w (TakePost g n (takeS i s x.2.1 x.2.2) w)) := fun g n i s x w h1 h2 h3 => take_any g n i s x w h1 h2 h3
  have HN : Hid (∀ W, w.grownBy W none → NodesAt W a T) := fun W hW => h.grown hW
  obtain ⟨n, hn⟩ : ∃ n, T.length = n := ⟨_, rfl⟩
  have Hn : Hid (T.length = n) := hn
  rw [hn] at hm ⊢
  obtain ⟨W1, hW1, g1, s1, bx1⟩ := box1_new w (.slice a n c) 28
  have HW1 : Hid (W1 = _) := hW1
  have G1 : Hid (w.grownBy W1 none) := g1
  have B1 : Hid (∀ W', W1.grownBy W' none → W'.cell? ⟨w.heap.size, 0, none⟩ = some (.slice a n c)) := bx1
  have x0 := bx1 W1 (grown_refl _ _)
  rw [hW1] at x0
  obtain ⟨z, hz⟩ : ∃ z, treeF l T = z := ⟨_, rfl⟩
  rw [hz]
  have HZ : Hid (treeF l T = z) := hz
  clear h hW1 g1 s1 bx1 hz hn
  obtain ⟨lb, hlb⟩ : ∃ b, letB l = b := ⟨_, rfl⟩
  have HLB : Hid (letB l = lb) := hlb
  rw [hlb] at HL1
  clear hlb
  cases lb with
  | false =>
    have Hz : Hid (z = 2) := by
      show _ = _
      rw [← HZ.out]
      exact treeF_range (Classical.byContradiction fun hh => by have := (letB_iff l).2 hh; rw [HLB.out] at this; cases this)
    go_enter Try.func8, Try.ntmps8
    go_wp2_with fail
    refine (HL1.out _).mono ?_
    rintro E w2 ⟨rfl, rfl⟩
    go_wp2_with fail
    rw [← HW1.out]
    go_ret
    exact ⟨ret_int Hz.out.symm, G1.out⟩
  | true =>
  have HL : Hid (¬ (l < 1 ∨ 4 < l)) := (letB_iff l).1 HLB.out
  go_enter Try.func8, Try.ntmps8
  go_wp2_with fail
  refine (HL1.out _).mono ?_
  rintro E w2 ⟨rfl, rfl⟩
  by_cases c1 : n < 1
  · have d1 : decide ((n : Int) < 1) = true := by simp; omega
    have Hz : Hid (z = 1) := by show _ = _; rw [← HZ.out]; exact treeF_size HL.out (by rw [Hn.out]; omega)
    go_wp2_with fail
    rw [← HW1.out]
    go_ret
    exact ⟨ret_int Hz.out.symm, G1.out⟩
  have d1 : decide ((n : Int) < 1) = false := by simp; omega
  by_cases c2 : 60 < n
  · have d2 : decide ((60 : Int) < (n : Int)) = true := by simp; omega
    have Hz : Hid (z = 1) := by show _ = _; rw [← HZ.out]; exact treeF_size HL.out (by rw [Hn.out]; omega)
    go_wp2_with fail
    rw [← HW1.out]
    go_ret
    exact ⟨ret_int Hz.out.symm, G1.out⟩
  have d2 : decide ((60 : Int) < (n : Int)) = false := by simp; omega
  have HS : Hid (¬ (T.length < 1 ∨ 60 < T.length)) := by show ¬ _; rw [Hn.out]; omega
  obtain ⟨W5, hmk, hrow, g5, s5⟩ := bools_make W1 n (by omega)
  have x5 := B1.out W5 g5
  obtain ⟨go, hgo⟩ : ∃ go, W1.heap.size = go := ⟨_, rfl⟩
  rw [hgo] at hmk hrow s5
  have S5 : Hid (∀ wq, W5.grownBy wq (some go) → W1.grownBy wq none) := fun wq h => grown_new g5 h (by omega)
  have R0 : Hid (BRow W5 go n (scanF l T 0).2) := hrow
  rw [HW1.out] at hmk
  clear hrow g5 s5 hgo
  go_wp2_with fail
  clear hmk x0 x5
  go_loopw [30] (fun v wr => ∃ k : Nat, k ≤ n ∧ v = .int .i64 k ∧ (scanF l T k).1 = 0 ∧ BRow wr go n (scanF l T k).2 ∧ W5.grownBy wr (some go)) (fun v _ => n - (intOf v).toNat)
  case atStart => exact ⟨0, by omega, rfl, rfl, R0.out, grown_refl _ _⟩
  case round =>
    obtain ⟨k, hk, rfl, hsc, hrow, hgw⟩ := hrel
    have SC : Hid ((scanF l T k).1 = 0) := hsc
    have RW : Hid (BRow wr go n (scanF l T k).2) := hrow
    have GW : Hid (W5.grownBy wr (some go)) := hgw
    have GR : Hid (w.grownBy wr none) := grown_trans G1.out (S5.out wr hgw)
    clear hsc hrow hgw R0
    by_cases hlt : k < n
    · obtain ⟨bb, off, rfl, hc⟩ := (HN.out wr GR.out).at (k := k) (by rw [Hn.out]; exact hlt)
      obtain ⟨y0, y1, y2⟩ := hc k (by rw [Hn.out]; exact hlt)
      have hki : (k : Int) < (n : Int) := by omega
      have HAt : Hid (∀ cc ss, nodeF l k (scanF l T k).2 (T.getD k no0) = (cc, ss) → cc ≠ 0 → z = cc) := fun cc ss e1 e2 => by rw [← HZ.out]; exact treeF_at HL.out HS.out (by rw [Hn.out]; exact hlt) SC.out e1 e2
      have HSu : Hid (∀ ss, nodeF l k (scanF l T k).2 (T.getD k no0) = (0, ss) → (scanF l T (k + 1)).1 = 0 ∧ (scanF l T (k + 1)).2 = ss) := fun ss e1 => by rw [scanF, if_pos SC.out, e1]; exact ⟨rfl, rfl⟩
      clear hc SC
      generalize (scanF l T k).2 = s at *
      generalize T.getD k no0 = x at *
      obtain ⟨xl, xa, xb⟩ := x
      simp only at y0 y1 y2
      obtain ⟨o, ho⟩ : ∃ o, ofB xl l = o := ⟨_, rfl⟩
      have HO : Hid (ofB xl l = o) := ho
      have HC : Hid (∀ W, Calls Try.prog 21 #[.int .i64 xl, .int .i64 l] W fun e w' => e = .returned (.bool o) ∧ w' = W) := fun W => ho ▸ HOf.out xl l W
      clear ho
      have GA : Hid (∀ ob, w.grownBy (wr.alloc ob) none) := fun ob => grown_trans GR.out (grown_alloc _ _)
      cases o
      · have Hz : Hid (z = 2) := HAt.out 2 s (by
          unfold nodeF
          rw [if_pos]
          have := HO.out
          unfold ofB at this
          rw [decide_eq_false_iff_not] at this
          simp only
          omega) (by omega)
        clear HAt HSu
        go_wp2_with fail
        refine (HC.out _).mono ?_
        rintro E w2 ⟨rfl, rfl⟩
        go_wp2_with fail
        go_ret
        exact ⟨ret_int Hz.out.symm, GA.out _⟩
      · have HLt : Hid (¬ (xl < 0 ∨ l ≤ xl)) := by
          show ¬ _
          have := (ofB_iff _ _).1 HO.out
          omega
        have HT2 : Hid (∀ W, BRow W go n s → Calls Try.prog 22 #[.slice (some ⟨go, 0, none⟩) k n, .agg #[.int .i64 xl, .int .i64 xa, .int .i64 xb]] W (TakePost go n (takeS k s xa xb) W)) := fun W hW => HTk.out go n k s (xl, xa, xb) W hW (by omega) (by omega)
        have HND : Hid (nodeF l k s (xl, xa, xb) = if (takeS k s xa xb).1 = true then (0, (takeS k s xa xb).2) else (3, s)) := nodeF_take HLt.out
        obtain ⟨qb, qs, hqq⟩ : ∃ qb qs, takeS k s xa xb = (qb, qs) := ⟨_, _, rfl⟩
        rw [hqq] at HT2 HND
        have kc : (0 : Int) ≤ (k : Int) := by omega
        have RA : Hid (∀ ob, BRow (wr.alloc ob) go n s) := fun ob => RW.out.kept (grown_alloc _ _)
        have GWA : Hid (∀ ob w3, (wr.alloc ob).grownBy w3 (some go) → W5.grownBy w3 (some go)) := fun ob w3 hh => grown_trans GW.out (grown_trans (grown_some (grown_alloc _ _)) hh)
        clear hqq
        cases qb
        · have Hz : Hid (z = 3) := HAt.out 3 s (by rw [HND.out]; rfl) (by omega)
          clear HAt HSu HND
          go_wp2_with fail
          refine (HC.out _).mono ?_
          rintro E w2 ⟨rfl, rfl⟩
          go_wp2_with fail
          go_region_with (go_at_call 22; refine (HT2.out _ (by first | exact RA.out _ | exact (RA.out _).kept (grown_drew (grown_refl _ _)) | exact (RA.out _).kept (grown_drewN (grown_refl _ _) _))).mono ?_; rintro E w3 ⟨rfl, hr3, hg3⟩; have R3 : Hid (BRow w3 go n qs) := hr3; have G3 : Hid (W5.grownBy w3 (some go)) := (by first | exact GWA.out _ _ hg3 | exact GWA.out _ _ (grown_trans (grown_drew (grown_refl _ _)) hg3)); clear hr3 hg3)
          all_goals
            go_wp2_with fail
            go_ret
            exact ⟨ret_int Hz.out.symm, grown_trans G1.out (S5.out _ G3.out)⟩
        · have HN2 : Hid _ := HSu.out qs (by rw [HND.out]; rfl)
          clear HAt HSu HND
          go_wp2_with fail
          refine (HC.out _).mono ?_
          rintro E w2 ⟨rfl, rfl⟩
          go_wp2_with fail
          go_region_with (go_at_call 22; refine (HT2.out _ (by first | exact RA.out _ | exact (RA.out _).kept (grown_drew (grown_refl _ _)) | exact (RA.out _).kept (grown_drewN (grown_refl _ _) _))).mono ?_; rintro E w3 ⟨rfl, hr3, hg3⟩; have R3 : Hid (BRow w3 go n qs) := hr3; have G3 : Hid (W5.grownBy w3 (some go)) := (by first | exact GWA.out _ _ hg3 | exact GWA.out _ _ (grown_trans (grown_drew (grown_refl _ _)) hg3)); clear hr3 hg3)
          all_goals
            go_wp2_with fail
            go_roundw
            case rel => exact ⟨k + 1, by omega, by go_num, HN2.out.1, by rw [HN2.out.2]; exact R3.out, G3.out⟩
            case measure => simp [intOf]; omega
    · obtain rfl : k = n := by omega
      have hki : ¬ (k : Int) < (k : Int) := by omega
      obtain ⟨p, hp⟩ : ∃ p, k - 1 = p := ⟨_, rfl⟩
      have HP : Hid (k - 1 = p) := hp
      have hwp : IntKind.i64.wrap ((k : Int) - 1) = (p : Int) := by rw [IntKind.wrap_i64]; omega
      have hpk : (p : Int) ≤ (k : Int) := by omega
      have hp0 : (0 : Int) ≤ (p : Int) := by omega
      have HE : Hid (z = if allTaken (scanF l T k).2 p = true then 0 else 3) := by
        show _ = _
        rw [← HZ.out, treeF_end HL.out HS.out (by rw [Hn.out]; exact SC.out), Hn.out, HP.out]
      clear hp HOf HTk HL1
      generalize (scanF l T k).2 = s at *
      go_wp2_with fail
      go_loop [53] (fun v => ∃ j : Nat, j ≤ p ∧ v = .int .i64 j ∧ ∀ i, i < j → s i = true) (fun v => p - (intOf v).toNat)
      case atStart => exact ⟨0, by omega, rfl, fun i hi => by omega⟩
      case round =>
        obtain ⟨j, hj, rfl, hg⟩ := hrel
        have HJ : Hid (∀ i, i < j → s i = true) := hg
        clear hg
        by_cases hjp : j < p
        · have hji : (j : Int) < (p : Int) := by omega
          have hx := RW.out.cell (i := j) (by omega)
          obtain ⟨t, ht⟩ : ∃ t, s j = t := ⟨_, rfl⟩
          rw [ht] at hx
          have HT : Hid (s j = t) := ht
          clear ht
          cases t
          · have Hz : Hid (z = 3) := by show _ = _; rw [HE.out, allTaken_no hjp HT.out]; rfl
            go_wp2_with fail
            go_ret
            exact ⟨ret_int Hz.out.symm, GR.out⟩
          · go_wp2_with fail
            go_round
            case rel => exact ⟨j + 1, by omega, by go_num, fun i hi => by
              by_cases e : i = j
              · subst e; exact HT.out
              · exact HJ.out i (by omega)⟩
            case measure => simp [intOf]; omega
        · have hji : ¬ (j : Int) < (p : Int) := by omega
          have Hz : Hid (z = 0) := by show _ = _; rw [HE.out, allTaken_yes (fun i hi => HJ.out i (by omega))]; rfl
          go_wp2_with fail
          go_ret
          exact ⟨ret_int Hz.out.symm, GR.out⟩

end Go.Proofs.Ytofjmakmbmndoaa
