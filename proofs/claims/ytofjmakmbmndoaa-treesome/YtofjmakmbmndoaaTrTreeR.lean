/- What is wrong with a tree: the reference's Tree. -/
import Derived.Test.YtofjmakmbmndoaaTrTreeD
namespace Go.Proofs.Ytofjmakmbmndoaa
open Go.RowKit
set_option linter.unusedVariables false

theorem nodeF_let {l : Int} {i : Nat} {s : Nat → Bool} {a b c : Int} (h : a < 0 ∨ l ≤ a) : nodeF l i s (a, b, c) = (2, s) := by unfold nodeF; rw [if_pos h]
theorem nodeF_leaf {l : Int} {i : Nat} {s : Nat → Bool} {a b c : Int} (h : ¬ (a < 0 ∨ l ≤ a)) (h2 : b = -1 ∧ c = -1) : nodeF l i s (a, b, c) = (0, s) := by unfold nodeF; rw [if_neg h, if_pos h2]
theorem nodeF_left {l : Int} {i : Nat} {s : Nat → Bool} {a b c : Int} (h : ¬ (a < 0 ∨ l ≤ a)) (h2 : ¬ (b = -1 ∧ c = -1)) (h3 : canTake i s b = false) : nodeF l i s (a, b, c) = (3, s) := by unfold nodeF; rw [if_neg h, if_neg h2, if_pos h3]
theorem nodeF_right {l : Int} {i : Nat} {s : Nat → Bool} {a b c : Int} (h : ¬ (a < 0 ∨ l ≤ a)) (h2 : ¬ (b = -1 ∧ c = -1)) (h3 : canTake i s b = true) (h4 : canTake i (setB s b.toNat) c = false) : nodeF l i s (a, b, c) = (3, s) := by unfold nodeF; rw [if_neg h, if_neg h2, if_neg (by simp only [h3]; simp), if_pos h4]
theorem nodeF_both {l : Int} {i : Nat} {s : Nat → Bool} {a b c : Int} (h : ¬ (a < 0 ∨ l ≤ a)) (h2 : ¬ (b = -1 ∧ c = -1)) (h3 : canTake i s b = true) (h4 : canTake i (setB s b.toNat) c = true) : nodeF l i s (a, b, c) = (0, setB (setB s b.toNat) c.toNat) := by unfold nodeF; rw [if_neg h, if_neg h2, if_neg (by simp only [h3]; simp), if_neg (by simp only [h4]; simp)]
theorem canTake_out {i : Nat} {s : Nat → Bool} {c : Int} (h : c < 0 ∨ (i : Int) ≤ c) : canTake i s c = false := by
  unfold canTake
  rw [decide_eq_false (by omega)]; rfl
theorem canTake_at {i c : Nat} {s : Nat → Bool} (h : c < i) : canTake i s (c : Int) = !s c := by
  unfold canTake
  rw [decide_eq_true (by omega)]; simp

set_option maxHeartbeats 6400000 in
set_option maxRecDepth 100000 in
theorem treeR_any (l : Int) (T : List NodeI) (a : Option Addr) (c : Nat) (w : World) (h : NodesAt w a T) (hm : T.length ≤ maxLen) :
    Calls Try.prog 9 #[.int .i64 l, treeV a T.length c] w (Says (.int .i64 (treeF l T)) w) := by
  unfold maxLen at hm
  have HN : Hid (∀ W, w.grownBy W none → NodesAt W a T) := fun W hW => h.grown hW
  obtain ⟨n, hn⟩ : ∃ n, T.length = n := ⟨_, rfl⟩
  have Hn : Hid (T.length = n) := hn
  rw [hn] at hm ⊢
  obtain ⟨W1, hW1, g1, s1, bx1⟩ := box1_new w (.slice a n c) 28
  have HW1 : Hid (W1 = _) := hW1
  have G1 : Hid (w.grownBy W1 none) := g1
  have B1 : Hid (∀ W', W1.grownBy W' none → W'.cell? ⟨w.heap.size, 0, none⟩ = some (.slice a n c)) := bx1
  have x0 := bx1 W1 (grown_refl _ _)
  rw [hW1] at x0
  obtain ⟨z, hz⟩ : ∃ z, treeF l T = z := ⟨_, rfl⟩
  rw [hz]
  have HZ : Hid (treeF l T = z) := hz
  clear h hW1 g1 s1 bx1 hz hn
  by_cases c0 : l < 1
  · have d0 : decide (l < 1) = true := by simpa using c0
    have Hz : Hid (z = 2) := by show _ = _; rw [← HZ.out]; exact treeF_range (.inl c0)
    go_enter Try.func9, Try.ntmps9
    go_wp2_with fail
    rw [← HW1.out]
    go_ret
    exact ⟨ret_int Hz.out.symm, G1.out⟩
  have d0 : decide (l < 1) = false := by simpa using c0
  by_cases c00 : 4 < l
  · have d00 : decide (4 < l) = true := by simpa using c00
    have Hz : Hid (z = 2) := by show _ = _; rw [← HZ.out]; exact treeF_range (.inr c00)
    go_enter Try.func9, Try.ntmps9
    go_wp2_with fail
    rw [← HW1.out]
    go_ret
    exact ⟨ret_int Hz.out.symm, G1.out⟩
  have d00 : decide (4 < l) = false := by simpa using c00
  have HL : Hid (¬ (l < 1 ∨ 4 < l)) := by show ¬ _; omega
  by_cases c1 : n < 1
  · have d1 : decide ((n : Int) < 1) = true := by simp; omega
    have Hz : Hid (z = 1) := by show _ = _; rw [← HZ.out]; exact treeF_size HL.out (by rw [Hn.out]; omega)
    go_enter Try.func9, Try.ntmps9
    go_wp2_with fail
    rw [← HW1.out]
    go_ret
    exact ⟨ret_int Hz.out.symm, G1.out⟩
  have d1 : decide ((n : Int) < 1) = false := by simp; omega
  by_cases c2 : 60 < n
  · have d2 : decide ((60 : Int) < (n : Int)) = true := by simp; omega
    have Hz : Hid (z = 1) := by show _ = _; rw [← HZ.out]; exact treeF_size HL.out (by rw [Hn.out]; omega)
    go_enter Try.func9, Try.ntmps9
    go_wp2_with fail
    rw [← HW1.out]
    go_ret
    exact ⟨ret_int Hz.out.symm, G1.out⟩
  have d2 : decide ((60 : Int) < (n : Int)) = false := by simp; omega
  have HS : Hid (¬ (T.length < 1 ∨ 60 < T.length)) := by show ¬ _; rw [Hn.out]; omega
  obtain ⟨W5, hmk, hrow, g5, s5⟩ := bools_make W1 n (by omega)
  obtain ⟨go, hgo⟩ : ∃ go, W1.heap.size = go := ⟨_, rfl⟩
  rw [hgo] at hmk hrow s5
  have S5 : Hid (∀ wq, W5.grownBy wq (some go) → W1.grownBy wq none) := fun wq h => grown_new g5 h (by omega)
  have R0 : Hid (BRow W5 go n (scanF l T 0).2) := hrow
  rw [HW1.out] at hmk
  clear hrow g5 s5 hgo
  go_enter Try.func9, Try.ntmps9
  go_wp2_with fail
  clear hmk x0 d0 d00 d1 d2
  go_loopw [7] (fun v wr => ∃ k : Nat, k ≤ n ∧ v = .int .i64 k ∧ (scanF l T k).1 = 0 ∧ BRow wr go n (scanF l T k).2 ∧ W5.grownBy wr (some go)) (fun v _ => n - (intOf v).toNat)
  case atStart => exact ⟨0, by omega, rfl, rfl, R0.out, grown_refl _ _⟩
  case round =>
    obtain ⟨k, hk, rfl, hsc, hrow, hgw⟩ := hrel
    have SC : Hid ((scanF l T k).1 = 0) := hsc
    have RW : Hid (BRow wr go n (scanF l T k).2) := hrow
    have GW : Hid (W5.grownBy wr (some go)) := hgw
    have GR : Hid (w.grownBy wr none) := grown_trans G1.out (S5.out wr hgw)
    have x0 := B1.out wr (S5.out wr hgw)
    clear hsc hrow hgw R0
    by_cases hlt : k < n
    · obtain ⟨bb, off, rfl, hc⟩ := (HN.out wr GR.out).at (k := k) (by rw [Hn.out]; exact hlt)
      obtain ⟨y0, y1, y2⟩ := hc k (by rw [Hn.out]; exact hlt)
      have hki : (k : Int) < (n : Int) := by omega
      have HAt : Hid (∀ cc ss, nodeF l k (scanF l T k).2 (T.getD k no0) = (cc, ss) → cc ≠ 0 → z = cc) := fun cc ss e1 e2 => by rw [← HZ.out]; exact treeF_at HL.out HS.out (by rw [Hn.out]; exact hlt) SC.out e1 e2
      have HSu : Hid (∀ ss, nodeF l k (scanF l T k).2 (T.getD k no0) = (0, ss) → (scanF l T (k + 1)).1 = 0 ∧ (scanF l T (k + 1)).2 = ss) := fun ss e1 => by rw [scanF, if_pos SC.out, e1]; exact ⟨rfl, rfl⟩
      clear hc SC HN HZ HW1
      generalize (scanF l T k).2 = s at *
      generalize T.getD k no0 = x at *
      obtain ⟨xl, xa, xb⟩ := x
      simp only at y0 y1 y2
      have GA : Hid (∀ ob, w.grownBy (wr.alloc ob) none) := fun ob => grown_trans GR.out (grown_alloc _ _)
      obtain ⟨WA, hWA, gA, _, bxA⟩ := box3_new wr (.int .i64 xl) (.int .i64 xa) (.int .i64 xb) 50
      have HWA : Hid (WA = wr.alloc (.cells #[.int .i64 xl, .int .i64 xa, .int .i64 xb] 50)) := hWA
      have hgne : go < wr.heap.size := RW.out.lt
      have HR1 : Hid (BRow WA go n s) := RW.out.kept gA
      have HGA : Hid (W5.grownBy WA (some go)) := grown_trans GW.out (grown_some gA)
      have BA : Hid (∀ W', WA.grownBy W' (some go) → W'.cell? ⟨wr.heap.size, 0, none⟩ = some (.int .i64 xl) ∧ W'.cell? ⟨wr.heap.size, 1, none⟩ = some (.int .i64 xa) ∧ W'.cell? ⟨wr.heap.size, 2, none⟩ = some (.int .i64 xb)) := fun W' hW' => bxA (some go) W' hW' (by simp; omega)
      have Hgne : Hid (go < wr.heap.size) := hgne
      have GWA : Hid (w.grownBy WA none) := grown_trans GR.out gA
      clear hWA gA bxA hgne
      by_cases e1 : xl < 0
      · have q1 : decide (xl < 0) = true := by simpa using e1
        have Hz : Hid (z = 2) := HAt.out 2 s (nodeF_let (.inl e1)) (by omega)
        clear HAt HSu
        go_wp2_with fail
        go_ret
        exact ⟨ret_int Hz.out.symm, GA.out _⟩
      have q1 : decide (xl < 0) = false := by simpa using e1
      by_cases e2 : l ≤ xl
      · have q2 : decide (l ≤ xl) = true := by simpa using e2
        have Hz : Hid (z = 2) := HAt.out 2 s (nodeF_let (.inr e2)) (by omega)
        clear HAt HSu
        go_wp2_with fail
        go_ret
        exact ⟨ret_int Hz.out.symm, GA.out _⟩
      have q2 : decide (l ≤ xl) = false := by simpa using e2
      have HLt : Hid (¬ (xl < 0 ∨ l ≤ xl)) := by show ¬ _; omega
      by_cases e3 : xa = -1 ∧ xb = -1
      · have p1 : (xa == -1) = true := by simpa using e3.1
        have p2 : (xb == -1) = true := by simpa using e3.2
        have HN2 : Hid _ := HSu.out s (nodeF_leaf HLt.out e3)
        clear HAt HSu e3
        go_wp2_with fail
        rw [← HWA.out]
        go_roundw
        case rel => exact ⟨k + 1, by omega, by go_num, HN2.out.1, by rw [HN2.out.2]; exact HR1.out, HGA.out⟩
        case measure => simp [intOf]; omega
      have He3 : Hid (¬ (xa = -1 ∧ xb = -1)) := e3
      obtain ⟨m1, hm1⟩ : ∃ m, (xa == -1) = m := ⟨_, rfl⟩
      have hm2 : m1 = true → (xb == -1) = false := fun e => by
        rw [e] at hm1
        have : xa = -1 := by simpa using hm1
        simp
        intro h2
        exact e3 ⟨this, h2⟩
      have hm4 : m1 = true → xa < 0 := fun e => by
        rw [e] at hm1
        have : xa = -1 := by simpa using hm1
        omega
      clear e3
      by_cases f1 : xa < 0
      · have p3 : decide (xa < 0) = true := by simpa using f1
        have Hz : Hid (z = 3) := HAt.out 3 s (nodeF_left HLt.out He3.out (canTake_out (.inl f1))) (by omega)
        clear HAt HSu hm4
        cases m1
        all_goals
          try have hm3 := hm2 rfl
          clear hm2
          go_wp2_with fail
          go_ret
          exact ⟨ret_int Hz.out.symm, GA.out _⟩
      have hm5 : m1 = false := by
        cases m1
        · rfl
        · exact absurd (hm4 rfl) f1
      subst hm5
      clear hm2 hm4
      have p3 : decide (xa < 0) = false := by simpa using f1
      by_cases f2 : (k : Int) ≤ xa
      · have p4 : decide ((k : Int) ≤ xa) = true := by simpa using f2
        have Hz : Hid (z = 3) := HAt.out 3 s (nodeF_left HLt.out He3.out (canTake_out (.inr f2))) (by omega)
        clear HAt HSu
        go_wp2_with fail
        go_ret
        exact ⟨ret_int Hz.out.symm, GA.out _⟩
      have p4 : decide ((k : Int) ≤ xa) = false := by simpa using f2
      obtain ⟨ca, rfl⟩ : ∃ ca : Nat, xa = ca := ⟨xa.toNat, by omega⟩
      have hca : ca < k := by omega
      have HCA : Hid (canTake k s (ca : Int) = !s ca) := canTake_at hca
      obtain ⟨ta, hta⟩ : ∃ t, s ca = t := ⟨_, rfl⟩
      rw [hta] at HCA
      have ra := HR1.out.cell (i := ca) (by omega)
      rw [hta] at ra
      have fa := HR1.out.frozen ca
      rw [HWA.out] at ra fa
      have qa : (ca : Int) < (n : Int) := by omega
      have qa0 : (0 : Int) ≤ (ca : Int) := by omega
      clear hta f1 f2
      cases ta
      case true =>
        have Hz : Hid (z = 3) := HAt.out 3 s (nodeF_left HLt.out He3.out HCA.out) (by omega)
        clear HAt HSu
        go_wp2_with fail
        go_ret
        exact ⟨ret_int Hz.out.symm, GA.out _⟩
      have HR2 : Hid (BRow (WA.setCell ⟨go, ca, none⟩ (.bool true)) go n (setB s ca)) := HR1.out.set (by omega) true
      obtain ⟨WB, hWB⟩ : ∃ WB, WB = WA.setCell ⟨go, ca, none⟩ (.bool true) := ⟨_, rfl⟩
      rw [← hWB] at HR2
      have gAB : WA.grownBy WB (some go) := by rw [hWB]; exact grown_set _ _ _
      have HWB : Hid (WB = (wr.alloc (.cells #[.int .i64 xl, .int .i64 (ca : Int), .int .i64 xb] 50)).setCell ⟨go, ca, none⟩ (.bool true)) := by show _ = _; rw [hWB, HWA.out]
      obtain ⟨b0, b1, b2⟩ := BA.out WB gAB
      have HGB : Hid (W5.grownBy WB (some go)) := grown_trans HGA.out gAB
      have GB : Hid (w.grownBy WB none) := grown_trans G1.out (S5.out _ HGB.out)
      clear hWB gAB
      have HCA' : Hid (canTake k s (ca : Int) = true) := HCA.out
      rw [HWB.out] at b0 b1 b2
      by_cases f1 : xb < 0
      · have p5 : decide (xb < 0) = true := by simpa using f1
        have Hz : Hid (z = 3) := HAt.out 3 s (nodeF_right HLt.out He3.out HCA'.out (canTake_out (.inl f1))) (by omega)
        clear HAt HSu
        go_wp2_with fail
        rw [← HWB.out]
        go_ret
        exact ⟨ret_int Hz.out.symm, GB.out⟩
      have p5 : decide (xb < 0) = false := by simpa using f1
      by_cases f2 : (k : Int) ≤ xb
      · have p6 : decide ((k : Int) ≤ xb) = true := by simpa using f2
        have Hz : Hid (z = 3) := HAt.out 3 s (nodeF_right HLt.out He3.out HCA'.out (canTake_out (.inr f2))) (by omega)
        clear HAt HSu
        go_wp2_with fail
        rw [← HWB.out]
        go_ret
        exact ⟨ret_int Hz.out.symm, GB.out⟩
      have p6 : decide ((k : Int) ≤ xb) = false := by simpa using f2
      obtain ⟨cb, rfl⟩ : ∃ cb : Nat, xb = cb := ⟨xb.toNat, by omega⟩
      have hcb : cb < k := by omega
      have HCB : Hid (canTake k (setB s ca) (cb : Int) = !(setB s ca) cb) := canTake_at hcb
      obtain ⟨tb, htb⟩ : ∃ t, setB s ca cb = t := ⟨_, rfl⟩
      rw [htb] at HCB
      have rb := HR2.out.cell (i := cb) (by omega)
      rw [htb] at rb
      have fb := HR2.out.frozen cb
      rw [HWB.out] at rb fb
      have qb : (cb : Int) < (n : Int) := by omega
      have qb0 : (0 : Int) ≤ (cb : Int) := by omega
      clear htb f1 f2
      cases tb
      case true =>
        have Hz : Hid (z = 3) := HAt.out 3 s (nodeF_right HLt.out He3.out HCA'.out HCB.out) (by omega)
        clear HAt HSu
        go_wp2_with fail
        rw [← HWB.out]
        go_ret
        exact ⟨ret_int Hz.out.symm, GB.out⟩
      have HR3 : Hid (BRow (WB.setCell ⟨go, cb, none⟩ (.bool true)) go n (setB (setB s ca) cb)) := HR2.out.set (by omega) true
      have HGC : Hid (W5.grownBy (WB.setCell ⟨go, cb, none⟩ (.bool true)) (some go)) := grown_trans HGB.out (grown_set _ _ _)
      have HN2 : Hid _ := HSu.out _ (nodeF_both HLt.out He3.out HCA'.out HCB.out)
      clear HAt HSu
      go_wp2_with fail
      rw [← HWB.out]
      go_roundw
      case rel => exact ⟨k + 1, by omega, by go_num, HN2.out.1, by rw [HN2.out.2]; exact HR3.out, HGC.out⟩
      case measure => simp [intOf]; omega
    · obtain rfl : k = n := by omega
      have hki : ¬ (k : Int) < (k : Int) := by omega
      obtain ⟨p, hp⟩ : ∃ p, k - 1 = p := ⟨_, rfl⟩
      have HP : Hid (k - 1 = p) := hp
      have hwp : IntKind.i64.wrap ((k : Int) - 1) = (p : Int) := by rw [IntKind.wrap_i64]; omega
      have HE : Hid (z = if allTaken (scanF l T k).2 p = true then 0 else 3) := by
        show _ = _
        rw [← HZ.out, treeF_end HL.out HS.out (by rw [Hn.out]; exact SC.out), Hn.out, HP.out]
      have hpk : p ≤ k := by omega
      clear hp
      generalize (scanF l T k).2 = s at *
      go_wp2_with fail
      go_loop [9] (fun v => ∃ j : Nat, j ≤ p ∧ v = .int .i64 j ∧ ∀ i, i < j → s i = true) (fun v => p - (intOf v).toNat)
      case atStart => exact ⟨0, by omega, rfl, fun i hi => by omega⟩
      case round =>
        obtain ⟨j, hj, rfl, hg⟩ := hrel
        have HJ : Hid (∀ i, i < j → s i = true) := hg
        clear hg
        by_cases hjp : j < p
        · have hji : (j : Int) < (p : Int) := by omega
          have hjk : (j : Int) < (k : Int) := by omega
          have hx := RW.out.cell (i := j) (by omega)
          obtain ⟨t, ht⟩ : ∃ t, s j = t := ⟨_, rfl⟩
          rw [ht] at hx
          have HT : Hid (s j = t) := ht
          clear ht
          cases t
          · have Hz : Hid (z = 3) := by show _ = _; rw [HE.out, allTaken_no hjp HT.out]; rfl
            go_wp2_with fail
            go_ret
            exact ⟨ret_int Hz.out.symm, GR.out⟩
          · go_wp2_with fail
            go_round
            case rel => exact ⟨j + 1, by omega, by go_num, fun i hi => by
              by_cases e : i = j
              · subst e; exact HT.out
              · exact HJ.out i (by omega)⟩
            case measure => simp [intOf]; omega
        · have hji : ¬ (j : Int) < (p : Int) := by omega
          have Hz : Hid (z = 0) := by show _ = _; rw [HE.out, allTaken_yes (fun i hi => HJ.out i (by omega))]; rfl
          go_wp2_with fail
          go_ret
          exact ⟨ret_int Hz.out.symm, GR.out⟩

end Go.Proofs.Ytofjmakmbmndoaa
