/- How many words of a length are accepted, as the reference counts: from each state on, letter by letter, in digits. -/
import Derived.Test.YtkfhdbapfpongaaDoorDWays
namespace Go.Proofs.YtkfhdbapfpongaaDoor
open Go.RowKit
set_option linter.unusedVariables false

theorem enc_digit {x : Int} (h0 : 0 ≤ x) (h1 : x < 10) : Utf8.encode (48 + x) = ⟨#[UInt8.ofNat (48 + x.toNat)]⟩ := by
  have h : x = 0 ∨ x = 1 ∨ x = 2 ∨ x = 3 ∨ x = 4 ∨ x = 5 ∨ x = 6 ∨ x = 7 ∨ x = 8 ∨ x = 9 := by omega
  rcases h with rfl | rfl | rfl | rfl | rfl | rfl | rfl | rfl | rfl | rfl <;> rfl

theorem cnt0_one {d : Dfa} {s : Nat} (h : d.M.getD s 0 = 1) : d.cnt 0 s = 1 := by
  have : d.mk1 s = true := by unfold Dfa.mk1; rw [h]; rfl
  unfold Dfa.cnt; rw [this]; rfl
theorem cnt0_zero {d : Dfa} {s : Nat} (h : d.M.getD s 0 ≠ 1) : d.cnt 0 s = 0 := by
  have : d.mk1 s = false := by unfold Dfa.mk1; exact decide_eq_false h
  unfold Dfa.cnt; rw [this]; rfl

theorem Tryd.infoS : (Tryd.prog.info? 23).map (fun i => (i.zero, i.size, i.bytes)) = some (some (.slice none 0 0), 1, 24) := by kernel_rfl

set_option maxHeartbeats 3200000 in
set_option maxRecDepth 100000 in
theorem countR_any (L : Int) (s0 : Nat) (N : Nat) (R : List (List Int)) (M : List Int) (a a' : Option Addr) (c c' : Nat) (w : World) (h : DetAt w ⟨L, s0, R, M⟩ a a') (hG : Good ⟨L, s0, R, M⟩) (hN : N ≤ 60) :
    Calls Tryd.prog 10 #[.agg #[.int .i64 L, .int .i64 s0, .slice a R.length c, .slice a' M.length c'], .int .i64 N] w fun e w' =>
      e = .returned (.string ⟨(Lib.decDigits (Dfa.cnt ⟨L, s0, R, M⟩ N s0)).toArray⟩) ∧ w.grownBy w' none := by
  have H : Hid (DetAt w ⟨L, s0, R, M⟩ a a') := h
  have GD : Hid (Good ⟨L, s0, R, M⟩) := hG
  have hn3 : R.length ≤ 3000 := hG.n3
  have hL4 : 1 ≤ L ∧ L ≤ 4 := ⟨hG.l1, hG.l4⟩
  have hS : s0 < R.length := by have := hG.s; simp only at this; omega
  have hSi : (s0 : Int) < (R.length : Int) := by omega
  have HML : Hid (M.length = R.length) := hG.ml
  have HLt : Hid (∀ k s, k ≤ 60 → Dfa.cnt ⟨L, s0, R, M⟩ k s < 10000000000000000000000000000000000000) := fun k s hk => cnt_lt hG hk s
  have HA : Hid (∀ x y a b c d W, Ints W a (dl x) → Ints W b (dl y) → x + y < 10000000000000000000000000000000000000 → Calls Tryd.prog 16 #[.slice a (dl x).length c, .slice b (dl y).length d] W fun e w' => ∃ v, e = .returned v ∧ Own W.heap.size w' v (dl (x + y)) ∧ W.grownBy w' none) := fun x y a b c d W ha hb hxy => added_any x y a b c d W ha hb hxy
  clear h hG
  obtain ⟨i0, hi, hz0, hz1, hz2⟩ := info_parts Tryd.infoS
  obtain ⟨dd, hdd⟩ : ∃ dd, Lib.decDigits (Dfa.cnt ⟨L, s0, R, M⟩ N s0) = dd := ⟨_, rfl⟩
  rw [hdd]
  have HDD : Hid (Lib.decDigits (Dfa.cnt ⟨L, s0, R, M⟩ N s0) = dd) := hdd
  clear hdd
  obtain ⟨W1, hW1⟩ : ∃ W1, W1 = w.alloc (.cells #[.int .i64 L, .int .i64 s0, .slice a R.length c, .slice a' M.length c'] 25) := ⟨_, rfl⟩
  have Box : Hid (∀ W, W1.grownBy W none → w.grownBy W none ∧ W.cell? ⟨w.heap.size, 0, none⟩ = some (.int .i64 L) ∧ W.cell? ⟨w.heap.size, 1, none⟩ = some (.int .i64 s0) ∧ W.cell? ⟨w.heap.size, 2, none⟩ = some (.slice a R.length c) ∧ W.cell? ⟨w.heap.size, 3, none⟩ = some (.slice a' M.length c')) := fun W hW => by
    exact ⟨grown_trans (hW1 ▸ grown_alloc _ _) hW, box4 (w := w) (hW1 ▸ hW)⟩
  go_enter Tryd.func10, Tryd.ntmps10
  go_wp2_with fail
  rw [← hW1]
  go_loopw [5, 6] (fun v i wr => ∃ (k : Nat) (a0 : Option Addr) (d0 : Nat) (vs : List Value), v = .slice a0 k d0 ∧ i = .int .i64 k ∧ k ≤ R.length ∧ WaysAt W1.heap.size wr (.slice a0 k d0) (Dfa.cnt ⟨L, s0, R, M⟩ 0) k vs ∧ W1.grownBy wr none) (fun _ i _ => R.length - (intOf i).toNat)
  case atStart => exact ⟨0, none, 0, [], rfl, rfl, by omega, WaysAt.nil _ _ _, grown_refl _ _⟩
  case round =>
    obtain ⟨k, a0, d0, vs, rfl, rfl, hk, hw, hg⟩ := hrel
    have WA : Hid (WaysAt W1.heap.size wr (.slice a0 k d0) (Dfa.cnt ⟨L, s0, R, M⟩ 0) k vs) := hw
    have G : Hid (W1.grownBy wr none) := hg
    have hsz := hg.size
    obtain ⟨hgw, b0, b1, b2, b3⟩ := Box.out wr hg
    by_cases hlt : k < R.length
    · obtain ⟨bm, om, rfl, hm⟩ := mark_reads (H.out.grown hgw) GD.out hlt
      have hkM : (k : Int) < (M.length : Int) := by have := HML.out; omega
      have hki : (k : Int) < (R.length : Int) := by omega
      by_cases hx : M.getD k 0 = 1
      · rw [hx] at hm
        have hcn : Dfa.cnt ⟨L, s0, R, M⟩ 0 k = 1 := cnt0_one hx
        have hd1 : dl 1 = [1] := by rw [dl_pos (by decide)]; rw [show 1 / 10 = 0 by decide, dl_zero]; rfl
        have HW2 : Hid (∀ o o', WaysAt W1.heap.size ((wr.alloc o).alloc o') (.slice a0 k d0) (Dfa.cnt ⟨L, s0, R, M⟩ 0) k vs) := fun o o' => (WA.out.kept (grown_alloc _ _)).kept (grown_alloc _ _)
        have hO2 : Hid (∀ o o', ((wr.alloc o).alloc o').ownsRow W1.heap.size 23 1 (.slice a0 k d0) k vs) := fun o o' => (HW2.out o o').2.1
        have HEl : Hid (∀ o', ElAt ((wr.alloc (.cells #[.int .i64 1] 3)).alloc o') (.slice a0 k d0) (.slice (some ⟨wr.heap.size, 0, none⟩) 1 1) (Dfa.cnt ⟨L, s0, R, M⟩ 0 k)) := fun o' => by
          rw [hcn]
          refine ElAt.kept ?_ (grown_alloc _ _)
          refine ⟨_, 1, by rw [hd1]; rfl, .inr ⟨wr.heap.size, 0, rfl, by simp, fun e => ?_, fun i hi => ?_⟩⟩
          · have := WA.out.lt _ e; omega
          · rw [hd1] at hi ⊢
            have hi0 : i = 0 := by simp at hi; exact hi
            subst hi0
            have := cell_one_new wr (.int .i64 1) 3 0 (.int .i64 1) rfl
            rw [add_off] at this
            exact this
        clear hw hg hgw hx hcn hd1
        go_wp2_with (at_builtin; refine wpList_append_lies _ rfl (.tmp 28) (.tmp 30) 22 rfl W1.heap.size 23 i0 (.slice none 0 0) 1 24 Tryd.underlying22 hi hz0 hz1 hz2 rfl (by decide) (.slice a0 k d0) k _ rfl (hO2.out _ _) ⟨wr.heap.size + 1, 0, none⟩ 1 1 [.slice (some ⟨wr.heap.size, 0, none⟩) 1 1] rfl rfl (by have := cell_one_new (wr.alloc (.cells #[.int .i64 1] 3)) (.slice (some ⟨wr.heap.size, 0, none⟩) 1 1) 23; simpa using this) (by intro u hu; simp at hu; subst hu; rfl) (by omega) (by unfold maxLen; omega) (by omega) (by simp; omega) (wr.heap.size + 1 + 1) (by simp) ?_; intro g cap w3 ho3 hg3 hat3 _; have O3 : Hid (WaysAt W1.heap.size w3 (.slice (some ⟨g, 0, none⟩) (k + 1) cap) (Dfa.cnt ⟨L, s0, R, M⟩ 0) (k + 1) (vs ++ [.slice (some ⟨wr.heap.size, 0, none⟩) 1 1])) := ((HW2.out _ _).snoc (HEl.out _) ho3 hg3 hat3 (by simp)); have G3 : Hid (W1.grownBy w3 none) := ((HW2.out _ _).frame (Nat.le_refl _) (grown_trans G.out (grown_trans (grown_alloc wr _) (grown_alloc _ _))) hg3); clear ho3 hg3 hat3)
        go_roundw
        case rel => exact ⟨k + 1, some ⟨g, 0, none⟩, cap, _, rfl, by go_num, by omega, O3.out, G3.out⟩
        case measure => simp [intOf]; omega
      · have hcn : Dfa.cnt ⟨L, s0, R, M⟩ 0 k = 0 := cnt0_zero hx
        have hx' : (M.getD k 0 == 1) = false := by simpa using hx
        generalize M.getD k 0 = x at *
        have HW2 : Hid (∀ o, WaysAt W1.heap.size (wr.alloc o) (.slice a0 k d0) (Dfa.cnt ⟨L, s0, R, M⟩ 0) k vs) := fun o => WA.out.kept (grown_alloc _ _)
        have hO2 : Hid (∀ o, (wr.alloc o).ownsRow W1.heap.size 23 1 (.slice a0 k d0) k vs) := fun o => (HW2.out o).2.1
        have HEl : Hid (∀ o, ElAt (wr.alloc o) (.slice a0 k d0) (.slice none 0 0) (Dfa.cnt ⟨L, s0, R, M⟩ 0 k)) := fun o => by
          rw [hcn]
          exact ⟨none, 0, by rw [dl_zero]; rfl, .inl dl_zero⟩
        clear hw hg hgw hx hcn
        go_wp2_with (at_builtin; refine wpList_append_lies _ rfl (.tmp 32) (.tmp 33) 22 rfl W1.heap.size 23 i0 (.slice none 0 0) 1 24 Tryd.underlying22 hi hz0 hz1 hz2 rfl (by decide) (.slice a0 k d0) k _ rfl (hO2.out _) ⟨wr.heap.size, 0, none⟩ 1 1 [.slice none 0 0] rfl rfl (cell_one_new _ _ _) (by intro u hu; simp at hu; subst hu; rfl) (by omega) (by unfold maxLen; omega) (by omega) (by simp; omega) (wr.heap.size + 1) (by simp) ?_; intro g cap w3 ho3 hg3 hat3 _; have O3 : Hid (WaysAt W1.heap.size w3 (.slice (some ⟨g, 0, none⟩) (k + 1) cap) (Dfa.cnt ⟨L, s0, R, M⟩ 0) (k + 1) (vs ++ [.slice none 0 0])) := ((HW2.out _).snoc (HEl.out _) ho3 hg3 hat3 (by simp)); have G3 : Hid (W1.grownBy w3 none) := ((HW2.out _).frame (Nat.le_refl _) (grown_trans G.out (grown_alloc wr _)) hg3); clear ho3 hg3 hat3)
        go_roundw
        case rel => exact ⟨k + 1, some ⟨g, 0, none⟩, cap, _, rfl, by go_num, by omega, O3.out, G3.out⟩
        case measure => simp [intOf]; omega
    · have hkR : k = R.length := by omega
      subst hkR
      clear hw hg hgw
      go_wp2_with fail
      clear b0 b1 b2 b3
      go_loopw [5, 7] (fun v i wr => ∃ (k : Nat) (a0 : Option Addr) (d0 : Nat) (vs : List Value), v = .slice a0 R.length d0 ∧ i = .int .i64 k ∧ k ≤ N ∧ WaysAt W1.heap.size wr (.slice a0 R.length d0) (Dfa.cnt ⟨L, s0, R, M⟩ k) R.length vs ∧ W1.grownBy wr none) (fun _ i _ => N - (intOf i).toNat)
      case atStart => exact ⟨0, a0, d0, vs, rfl, rfl, by omega, WA.out, G.out⟩
      case round =>
        clear WA G hsz
        clear vs
        obtain ⟨k, a0, d0, vs, rfl, rfl, hk, hw, hg⟩ := hrel
        have WA : Hid (WaysAt W1.heap.size wr (.slice a0 R.length d0) (Dfa.cnt ⟨L, s0, R, M⟩ k) R.length vs) := hw
        have G : Hid (W1.grownBy wr none) := hg
        have hsz : Hid (W1.heap.size ≤ wr.heap.size) := hg.size
        clear hw
        by_cases hkN : k < N
        · have hkNi : (k : Int) < (N : Int) := by omega
          clear hg
          go_wp2_with fail
          obtain ⟨Wk, hWk⟩ : ∃ Wk, Wk = wr := ⟨_, rfl⟩
          rw [← hWk] at WA G hsz
          go_loopw [8, 9] (fun v i wr => ∃ (q : Nat) (a1 : Option Addr) (d1 : Nat) (vs1 : List Value), v = .slice a1 q d1 ∧ i = .int .i64 q ∧ q ≤ R.length ∧ WaysAt Wk.heap.size wr (.slice a1 q d1) (Dfa.cnt ⟨L, s0, R, M⟩ (k + 1)) q vs1 ∧ Wk.grownBy wr none) (fun _ i _ => R.length - (intOf i).toNat)
          case atStart => exact ⟨0, none, 0, [], rfl, rfl, by omega, WaysAt.nil _ _ _, hWk ▸ grown_refl _ _⟩
          case round =>
            clear hWk
            obtain ⟨q, a1, d1, vs1, rfl, rfl, hq, hw1, hg1⟩ := hrel
            have WB : Hid (WaysAt Wk.heap.size wr (.slice a1 q d1) (Dfa.cnt ⟨L, s0, R, M⟩ (k + 1)) q vs1) := hw1
            have G1 : Hid (Wk.grownBy wr none) := hg1
            obtain ⟨hgw, b0, b1, b2, b3⟩ := Box.out wr (grown_trans G.out hg1)
            clear hw1 hg1 hgw
            by_cases hqR : q < R.length
            · have hqi : (q : Int) < (R.length : Int) := by omega
              go_wp2_with fail
              clear b0 b1 b2 b3
              obtain ⟨Wq, hWq⟩ : ∃ Wq, Wq = wr := ⟨_, rfl⟩
              rw [← hWq] at WB G1
              go_loopw [10, 11] (fun v i wr => ∃ (l : Nat) (a2 : Option Addr) (n2 d2 : Nat), v = .slice a2 n2 d2 ∧ i = .int .i64 l ∧ l ≤ L.toNat ∧ Own Wq.heap.size wr (.slice a2 n2 d2) (dl (sumTo l fun b => Dfa.cnt ⟨L, s0, R, M⟩ k (Dfa.nx ⟨L, s0, R, M⟩ q b))) ∧ Wq.grownBy wr none) (fun _ i _ => L.toNat - (intOf i).toNat)
              case atStart => exact ⟨0, none, 0, 0, rfl, rfl, by omega, by simp only [sumTo]; rw [dl_zero]; exact Own.nil _ _, hWq ▸ grown_refl _ _⟩
              case round =>
                clear hWq
                obtain ⟨l, a2, n2, d2, rfl, rfl, hl, ho2, hg2⟩ := hrel
                have hGG := grown_trans G1.out hg2
                obtain ⟨hgw, b0, b1, b2, b3⟩ := Box.out wr (grown_trans G.out hGG)
                have G2 : Hid (Wq.grownBy wr none) := hg2
                have O2 : Hid (Own Wq.heap.size wr (.slice a2 n2 d2) (dl (sumTo l fun b => Dfa.cnt ⟨L, s0, R, M⟩ k (Dfa.nx ⟨L, s0, R, M⟩ q b)))) := ho2
                by_cases hlL : l < L.toNat
                · have hnx : Dfa.nx ⟨L, s0, R, M⟩ q l < R.length := GD.out.nx_lt hqR hlL
                  obtain ⟨b, off, bx, ox, cx, rfl, hr1, hr2⟩ := step_reads (l := l) (H.out.grown hgw) GD.out hqR (by omega)
                  obtain ⟨g3, cap3, a3, c3, e3, hc3, hi3⟩ := (WA.out.kept hGG).get hnx
                  cases e3
                  obtain ⟨en2, hi2⟩ := ho2.ints
                  subst en2
                  have hbd : (sumTo l fun b => Dfa.cnt ⟨L, s0, R, M⟩ k (Dfa.nx ⟨L, s0, R, M⟩ q b)) + Dfa.cnt ⟨L, s0, R, M⟩ k (Dfa.nx ⟨L, s0, R, M⟩ q l) < 10000000000000000000000000000000000000 := by
                    have h1 := HLt.out (k + 1) q (by omega)
                    have h2 : sumTo (l + 1) (fun b => Dfa.cnt ⟨L, s0, R, M⟩ k (Dfa.nx ⟨L, s0, R, M⟩ q b)) ≤ Dfa.cnt ⟨L, s0, R, M⟩ (k + 1) q := sumTo_mono (show l + 1 ≤ L.toNat by omega)
                    simp only [sumTo] at h2
                    omega
                  have HC := fun c d => HA.out _ _ a2 a3 c d wr hi2 hi3 hbd
                  have HC' : Hid (∀ c d, Calls Tryd.prog 16 #[.slice a2 (dl (sumTo l fun b => Dfa.cnt ⟨L, s0, R, M⟩ k (Dfa.nx ⟨L, s0, R, M⟩ q b))).length c, .slice a3 (dl (Dfa.cnt ⟨L, s0, R, M⟩ k (Dfa.nx ⟨L, s0, R, M⟩ q l))).length d] wr fun e w' => ∃ v, e = .returned v ∧ Own wr.heap.size w' v (dl (sumTo (l + 1) fun b => Dfa.cnt ⟨L, s0, R, M⟩ k (Dfa.nx ⟨L, s0, R, M⟩ q b))) ∧ wr.grownBy w' none) := HC
                  generalize (dl (sumTo l fun b => Dfa.cnt ⟨L, s0, R, M⟩ k (Dfa.nx ⟨L, s0, R, M⟩ q b))).length = n2 at *
                  generalize (dl (Dfa.cnt ⟨L, s0, R, M⟩ k (Dfa.nx ⟨L, s0, R, M⟩ q l))).length = n3 at *
                  generalize Dfa.nx ⟨L, s0, R, M⟩ q l = t at hnx hr2 hc3
                  have hti : (t : Int) < (R.length : Int) := by omega
                  have hlLi : (l : Int) < L := by omega
                  have hlLt : (l : Int) < (L.toNat : Int) := by omega
                  clear hbd HC hi2 hi3 hgw hGG ho2 hg2 hnx
                  go_wp2_with fail
                  refine (HC'.out _ _).mono ?_
                  rintro e w5 ⟨v5, rfl, ho5, hg5⟩
                  have G5 : Hid (Wq.grownBy w5 none) := grown_trans G2.out hg5
                  have O5 : Hid (Own Wq.heap.size w5 v5 (dl (sumTo (l + 1) fun b => Dfa.cnt ⟨L, s0, R, M⟩ k (Dfa.nx ⟨L, s0, R, M⟩ q b)))) := ho5.base G2.out.size
                  obtain ⟨_, a5, c5, e5⟩ := ho5
                  subst e5
                  clear b0 b1 b2 b3 hr1 hr2 hc3 hg5
                  go_wp2_with fail
                  go_roundw
                  case rel => exact ⟨l + 1, _, _, _, rfl, by go_num, by omega, O5.out, G5.out⟩
                  case measure => simp [intOf]; omega
                · have hlE : l = L.toNat := by omega
                  have hGs : Wk.heap.size ≤ wr.heap.size := Nat.le_trans G1.out.size hg2.size
                  have HW2 : Hid (∀ o, WaysAt Wk.heap.size (wr.alloc o) (.slice a1 q d1) (Dfa.cnt ⟨L, s0, R, M⟩ (k + 1)) q vs1) := fun o => (WB.out.kept hg2).kept (grown_alloc _ _)
                  have hO2 : Hid (∀ o, (wr.alloc o).ownsRow Wk.heap.size 23 1 (.slice a1 q d1) q vs1) := fun o => (HW2.out o).2.1
                  have HEl : Hid (∀ o, ElAt (wr.alloc o) (.slice a1 q d1) (.slice a2 n2 d2) (Dfa.cnt ⟨L, s0, R, M⟩ (k + 1) q)) := fun o => by
                    refine ElAt.kept ?_ (grown_alloc _ _)
                    have h2 := ho2
                    rw [hlE] at h2
                    exact ElAt.own (B := Wq.heap.size) h2 (fun g hg => WB.out.lt g hg)
                  have hlLi : ¬ (l : Int) < L := by omega
                  clear hgw hGG ho2 hg2
                  go_wp2_with (at_builtin; refine wpList_append_lies _ rfl (.tmp 66) (.tmp 68) 22 rfl Wk.heap.size 23 i0 (.slice none 0 0) 1 24 Tryd.underlying22 hi hz0 hz1 hz2 rfl (by decide) (.slice a1 q d1) q _ rfl (hO2.out _) ⟨wr.heap.size, 0, none⟩ 1 1 [.slice a2 n2 d2] rfl rfl (cell_one_new _ _ _) (by intro u hu; simp at hu; subst hu; rfl) (by omega) (by unfold maxLen; omega) (by omega) (by simp; omega) (wr.heap.size + 1) (by simp) ?_; intro g cap w3 ho3 hg3 hat3 _; have O3 : Hid (WaysAt Wk.heap.size w3 (.slice (some ⟨g, 0, none⟩) (q + 1) cap) (Dfa.cnt ⟨L, s0, R, M⟩ (k + 1)) (q + 1) (vs1 ++ [.slice a2 n2 d2])) := ((HW2.out _).snoc (HEl.out _) ho3 hg3 hat3 (by simp)); have G3 : Hid (Wk.grownBy w3 none) := ((HW2.out _).frame (Nat.le_refl _) (grown_trans (grown_trans G1.out G2.out) (grown_alloc wr _)) hg3); clear ho3 hg3 hat3)
                  go_roundw
                  case rel => exact ⟨q + 1, some ⟨g, 0, none⟩, cap, _, rfl, by go_num, by omega, O3.out, G3.out⟩
                  case measure => simp [intOf]; omega
            · have hqE : q = R.length := by omega
              subst hqE
              have WB2 : Hid (WaysAt W1.heap.size wr (.slice a1 R.length d1) (Dfa.cnt ⟨L, s0, R, M⟩ (k + 1)) R.length vs1) := WB.out.base hsz.out
              have G3 : Hid (W1.grownBy wr none) := grown_trans G.out G1.out
              clear WB G1
              go_wp2_with fail
              go_roundw
              case rel => exact ⟨k + 1, a1, d1, vs1, rfl, by go_num, by omega, WB2.out, G3.out⟩
              case measure => simp [intOf]; omega
        · have hkE : k = N := by omega
          subst hkE
          obtain ⟨hgw, b0, b1, b2, b3⟩ := Box.out wr hg
          obtain ⟨g3, cap3, a3, c3, e3, hc3, hi3⟩ := WA.out.get hS
          cases e3
          have HI3 : Hid (Ints wr a3 (dl (Dfa.cnt ⟨L, s0, R, M⟩ k s0))) := hi3
          have HGw : Hid (w.grownBy wr none) := hgw
          have hlen : (dl (Dfa.cnt ⟨L, s0, R, M⟩ k s0)).length ≤ 37 := dl_len_le (by have e : (10 : Nat) ^ 37 = 10000000000000000000000000000000000000 := (by decide); rw [e]; exact HLt.out k s0 hN)
          have HDE : Hid (if dl (Dfa.cnt ⟨L, s0, R, M⟩ k s0) = [] then dd = [48] else dd = ((dl (Dfa.cnt ⟨L, s0, R, M⟩ k s0)).map fun x => UInt8.ofNat (48 + x.toNat)).reverse) := by
            show if _ then _ else _
            have h1 := HDD.out
            by_cases hz : Dfa.cnt ⟨L, s0, R, M⟩ k s0 = 0
            · rw [hz, dl_zero, if_pos rfl, ← h1, hz]; rw [Lib.decDigits, dif_pos (by decide)]; rfl
            · rw [if_neg (by rw [dl_pos hz]; simp), ← h1, dec_of_dl _ hz]
          have HMem : Hid (∀ x ∈ dl (Dfa.cnt ⟨L, s0, R, M⟩ k s0), 0 ≤ x ∧ x < 10) := fun x hx => dl_mem hx
          generalize dl (Dfa.cnt ⟨L, s0, R, M⟩ k s0) = zs at *
          clear hg hi3 hgw
          go_wp2_with fail
          clear b0 b1 b2 b3 hc3
          go_loop [13, 14] (fun v i => ∃ j : Nat, j ≤ zs.length ∧ i = .int .i64 j ∧ v = .string ⟨(((zs.take j).map fun x => UInt8.ofNat (48 + x.toNat)).reverse).toArray⟩) (fun _ i => zs.length - (intOf i).toNat)
          case atStart => exact ⟨0, Nat.zero_le _, rfl, by simp⟩
          case round =>
            obtain ⟨j, hj, rfl, rfl⟩ := hrel
            by_cases hjl : j < zs.length
            · obtain ⟨bz, oz, rfl, hcz⟩ := HI3.out.at hjl
              have hcj := hcz j hjl
              obtain ⟨hx0, hx1⟩ := HMem.out (zs.getD j 0) (by rw [getD_lt hjl]; exact List.getElem_mem hjl)
              have HT : Hid (((zs.take (j + 1)).map fun x => UInt8.ofNat (48 + x.toNat)).reverse = UInt8.ofNat (48 + (zs.getD j 0).toNat) :: ((zs.take j).map fun x => UInt8.ofNat (48 + x.toNat)).reverse) := by
                show _ = _
                rw [List.take_add_one, List.map_append, List.reverse_append, getD_lt hjl]
                simp [hjl]
              have htl : (((zs.take j).map fun x => UInt8.ofNat (48 + x.toNat)).reverse).length ≤ 37 := by simp; omega
              clear hcz
              generalize ((zs.take j).map fun x => UInt8.ofNat (48 + x.toNat)).reverse = tl at *
              generalize zs.getD j 0 = x at *
              have henc := enc_digit hx0 hx1
              generalize UInt8.ofNat (48 + x.toNat) = dg at *
              have hsz1 : ByteArray.size ⟨#[dg]⟩ = 1 := rfl
              go_wp2_with fail
              go_round
              case rel =>
                refine ⟨j + 1, by omega, by go_num, ?_⟩
                rw [HT.out]
                first | (congr 1; done) | (congr 1; apply ByteArray.ext; simp [ByteArray.data_append])
              case measure => simp [intOf]; omega
            · have hjE : j = zs.length := by omega
              subst hjE
              rw [List.take_length]
              have hDE := HDE.out
              by_cases hz : zs = []
              · rw [if_pos hz] at hDE
                subst hz hDE
                go_wp2_with fail
                go_ret
                exact ⟨rfl, HGw.out⟩
              · rw [if_neg hz] at hDE
                have hne : dd ≠ [] := by rw [hDE]; simpa using hz
                rw [← hDE]
                have hne' : dd.isEmpty = false := by cases dd with | nil => exact absurd rfl hne | cons _ _ => rfl
                clear hDE
                go_wp2_with fail
                go_ret
                exact ⟨rfl, HGw.out⟩

end Go.Proofs.YtkfhdbapfpongaaDoor
