/- The walk of the program's count. -/
import Derived.Test.YtjinibofbpgfjaaDoorDCnt
namespace Go.Proofs.YtjinibofbpgfjaaDoor
open Go.RowKit
set_option linter.unusedVariables false

theorem box2 {w wr : World} {v0 v1 : Value} {t : TypeId} (h : (w.alloc (.cells #[v0, v1] t)).grownBy wr none) :
    wr.cell? ⟨w.heap.size, 0, none⟩ = some v0 ∧ wr.cell? ⟨w.heap.size, 1, none⟩ = some v1 ∧ ∀ k, wr.frozen? ⟨w.heap.size, k, none⟩ = false := by
  have hb := heap_alloc_new w (.cells #[v0, v1] t)
  have hc : ∀ k v, #[v0, v1][k]? = some v → wr.cell? ⟨w.heap.size, k, none⟩ = some v := fun k v hv => h.cell (by rw [cell_of_row _ _ k _ _ (0, 0) hb]; exact hv) (by simp)
  exact ⟨hc 0 _ rfl, hc 1 _ rfl, fun k => (h.frozen_far ⟨w.heap.size, k, none⟩ (Array.getElem?_eq_some_iff.1 hb).1 (by simp)).trans (frozen_of_row _ _ k _ _ hb)⟩

theorem made1 : madeCells #[Value.int .u64 0, .int .u64 0] (1 * 2) = #[.int .u64 0, .int .u64 0] := by
  apply Array.ext
  · simp [madeCells]
  · intro i h1 h2
    simp at h2
    have : i = 0 ∨ i = 1 := by omega
    rcases this with rfl | rfl <;> simp [madeCells]

theorem tmake2 (W : World) (n : Nat) (hn : n ≤ 3000) (B : Nat) (hB : W.heap.size = B) : ∃ W', (Instr.makeSlice 70 (.int .i64 (n : Int)) (.int .i64 (n : Int))).run Tryd.prog W = .ok (.slice (some ⟨B, 0, none⟩) n n) W' ∧ TAt W' B (fun _ => 0) n ∧ W.grownBy W' none :=
  ⟨_, hB ▸ tmake W n hn, hB ▸ TAt.made W n, grown_alloc _ _⟩

set_option maxHeartbeats 3200000 in
set_option maxRecDepth 100000 in
theorem accepted_any (L : Int) (s0 : Nat) (N : Nat) (R : List (List Int)) (M : List Int) (a a' : Option Addr) (c c' : Nat) (w : World) (h : DetAt w ⟨L, s0, R, M⟩ a a') (hG : Good ⟨L, s0, R, M⟩) (hN : N ≤ 60) :
    Calls Tryd.prog 23 #[.agg #[.int .i64 L, .int .i64 s0, .slice a R.length c, .slice a' M.length c'], .int .i64 N] w fun e w' =>
      e = .returned (.agg #[.int .u64 ((Dfa.cnt ⟨L, s0, R, M⟩ N s0 / 1000000000000000000 : Nat) : Int), .int .u64 ((Dfa.cnt ⟨L, s0, R, M⟩ N s0 % 1000000000000000000 : Nat) : Int)]) ∧ w.grownBy w' none := by
  have H : Hid (DetAt w ⟨L, s0, R, M⟩ a a') := h
  have GD : Hid (Good ⟨L, s0, R, M⟩) := hG
  have hn3 : R.length ≤ 3000 := hG.n3
  have hL4 : 1 ≤ L ∧ L ≤ 4 := ⟨hG.l1, hG.l4⟩
  have hS : s0 < R.length := by have := hG.s; simp only at this; omega
  have hSi : (s0 : Int) < (R.length : Int) := by omega
  obtain ⟨F, hF⟩ : ∃ F, Fwd ⟨L, s0, R, M⟩ N 0 F ∧ F = fun i => if i = s0 then 1 else 0 := ⟨_, Fwd.start hG N, rfl⟩
  have HF : Hid (Fwd ⟨L, s0, R, M⟩ N 0 F) := hF.1
  have HFe : Hid (F = fun i => if i = s0 then 1 else 0) := hF.2
  have HP : Hid (∀ x y W, x + y < 10000000000000000000000000000000000000 → Calls Tryd.prog 38 #[.agg #[.int .u64 ((x / 1000000000000000000 : Nat) : Int), .int .u64 ((x % 1000000000000000000 : Nat) : Int)], .agg #[.int .u64 ((y / 1000000000000000000 : Nat) : Int), .int .u64 ((y % 1000000000000000000 : Nat) : Int)]] W fun e w' =>
      e = .returned (.agg #[.int .u64 (((x + y) / 1000000000000000000 : Nat) : Int), .int .u64 (((x + y) % 1000000000000000000 : Nat) : Int)]) ∧ W.grownBy w' none) := fun x y W hxy => plusT_any x y W hxy
  have HMk : Hid (∀ (W : World) (B : Nat) (hB : W.heap.size = B), ∃ W', (Instr.makeSlice 70 (.int .i64 (R.length : Int)) (.int .i64 (R.length : Int))).run Tryd.prog W = .ok (.slice (some ⟨B, 0, none⟩) R.length R.length) W' ∧ TAt W' B (fun _ => 0) R.length ∧ W.grownBy W' none) := fun W B hB => tmake2 W R.length hn3 B hB
  clear h hG hF
  obtain ⟨y, hy⟩ : ∃ y, Dfa.cnt ⟨L, s0, R, M⟩ N s0 = y := ⟨_, rfl⟩
  rw [hy]
  have HY : Hid (Dfa.cnt ⟨L, s0, R, M⟩ N s0 = y) := hy
  clear hy
  obtain ⟨W0, hW0⟩ : ∃ W0, W0 = w.alloc (.cells #[.int .i64 L, .int .i64 s0, .slice a R.length c, .slice a' M.length c'] 38) := ⟨_, rfl⟩
  obtain ⟨W1, hW1⟩ : ∃ W1, W1 = W0.alloc (.cells #[.int .u64 0, .int .u64 0] 57) := ⟨_, rfl⟩
  have hs1 : W1.heap.size = w.heap.size + 1 + 1 := by rw [hW1, hW0]; simp
  have hs0 : W0.heap.size = w.heap.size + 1 := by rw [hW0]; simp
  obtain ⟨W2, hmk, hT2, hg2⟩ := HMk.out W1 (w.heap.size + 1 + 1) hs1
  have G1 : Hid (W1.grownBy W2 none) := hg2
  have BoxA : Hid (∀ W, W1.grownBy W none → (w.grownBy W none ∧ W.cell? ⟨w.heap.size, 0, none⟩ = some (.int .i64 L) ∧ W.cell? ⟨w.heap.size, 1, none⟩ = some (.int .i64 s0) ∧ W.cell? ⟨w.heap.size, 2, none⟩ = some (.slice a R.length c) ∧ W.cell? ⟨w.heap.size, 3, none⟩ = some (.slice a' M.length c'))
      ∧ (W.cell? ⟨w.heap.size + 1, 0, none⟩ = some (.int .u64 0) ∧ W.cell? ⟨w.heap.size + 1, 1, none⟩ = some (.int .u64 0) ∧ ∀ k, W.frozen? ⟨w.heap.size + 1, k, none⟩ = false)) := fun W hW => by
    have h1 : W0.grownBy W none := grown_trans (hW1 ▸ grown_alloc _ _) hW
    have h2 := box4 (w := w) (hW0 ▸ h1)
    have h3 := box2 (w := W0) (hW1 ▸ hW)
    rw [hs0] at h3
    exact ⟨⟨grown_trans (hW0 ▸ grown_alloc _ _) h1, h2⟩, h3⟩
  obtain ⟨⟨_, b0, b1, b2, b3⟩, _⟩ := BoxA.out W2 G1.out
  have c0 := hT2.hi s0 hS
  have c1 := hT2.lo s0 hS
  have z0 := hT2.fz (s0 * 2)
  have z1 := hT2.fz (s0 * 2 + 1)
  have T3 : Hid (TAt ((W2.setCell ⟨w.heap.size + 1 + 1, s0 * 2, none⟩ (.int .u64 0)).setCell ⟨w.heap.size + 1 + 1, s0 * 2 + 1, none⟩ (.int .u64 1)) (w.heap.size + 1 + 1) F R.length) := by
    show TAt _ _ F _
    rw [HFe.out]
    exact hT2.set hS 1 (by decide) (by decide)
  have G3 : Hid (W1.grownBy ((W2.setCell ⟨w.heap.size + 1 + 1, s0 * 2, none⟩ (.int .u64 0)).setCell ⟨w.heap.size + 1 + 1, s0 * 2 + 1, none⟩ (.int .u64 1)) none) :=
    grown_new (grown_new G1.out (grown_set _ _ _) (by simp only; omega)) (grown_set _ _ _) (by simp only; omega)
  simp only [Nat.zero_div, Nat.zero_mod, Int.ofNat_zero] at c0 c1
  rw [hW1, hW0] at hmk
  clear hT2 hg2
  go_enter Tryd.func23, Tryd.ntmps23
  go_wp2_with fail
  clear c0 c1 z0 z1 b0 b1 b2 b3 hmk
  go_loopw [5, 24] (fun v i wr => ∃ (k g : Nat) (V : Nat → Nat), v = .slice (some ⟨g, 0, none⟩) R.length R.length ∧ i = .int .i64 k ∧ k ≤ N ∧ w.heap.size + 1 < g ∧ TAt wr g V R.length ∧ Fwd ⟨L, s0, R, M⟩ N k V ∧ W1.grownBy wr none) (fun _ i _ => N - (intOf i).toNat)
  case atStart => exact ⟨0, _, F, rfl, rfl, by omega, by omega, T3.out, HF.out, G3.out⟩
  case round =>
    clear T3 G3 G1
    obtain ⟨k, g, V, rfl, rfl, hk, hgl, hT, hFw, hg⟩ := hrel
    have T : Hid (TAt wr g V R.length) := hT
    have FW : Hid (Fwd ⟨L, s0, R, M⟩ N k V) := hFw
    have G : Hid (W1.grownBy wr none) := hg
    obtain ⟨⟨_, b0, b1, b2, b3⟩, r0, r1, rz⟩ := BoxA.out wr hg
    have rz0 := rz 0
    have rz1 := rz 1
    clear hT hFw hg rz
    by_cases hlt : k < N
    · obtain ⟨W4, hmk, hT4, hg4⟩ := HMk.out wr wr.heap.size rfl
      have T4 : Hid (TAt W4 wr.heap.size (fun _ => 0) R.length) := hT4
      have T5 : Hid (TAt W4 g V R.length) := T.out.kept hg4 (by simp)
      have G4 : Hid (W1.grownBy W4 none) := grown_trans G.out hg4
      have hgn : Hid (g ≠ wr.heap.size ∧ W1.heap.size ≤ wr.heap.size) := by have h1 := T.out.lt; have h2 := G.out.size; show _ ∧ _; exact ⟨by omega, h2⟩
      obtain ⟨⟨_, d0, d1, d2, d3⟩, _⟩ := BoxA.out W4 G4.out
      have hkn : (k : Int) < (N : Int) := by omega
      clear hT4 hg4 T G r0 r1 rz0 rz1
      go_wp2_with fail
      clear b0 b1 b2 b3 d0 d1 d2 d3 hmk
      generalize wr.heap.size = gl at *
      go_loopw [33] (fun i wq => ∃ (s : Nat) (U : Nat → Nat), i = .int .i64 s ∧ s ≤ R.length ∧ TAt wq gl U R.length ∧ TAt wq g V R.length ∧ Half ⟨L, s0, R, M⟩ V U s 0 ∧ W1.grownBy wq none) (fun i _ => R.length - (intOf i).toNat)
      case atStart => exact ⟨0, _, rfl, by omega, T4.out, T5.out, Half.start _ _, G4.out⟩
      case round =>
        clear T4 T5 G4
        obtain ⟨s, U, rfl, hs, hT, hT', hH, hg⟩ := hrel
        have T : Hid (TAt wr gl U R.length) := hT
        have T' : Hid (TAt wr g V R.length) := hT'
        have HH : Hid (Half ⟨L, s0, R, M⟩ V U s 0) := hH
        have G : Hid (W1.grownBy wr none) := hg
        clear hT hT' hH hg
        by_cases hsl : s < R.length
        · obtain ⟨b, off, ha, hc⟩ := H.out.rows.at hsl
          obtain ⟨x, cx, hck, hix, hlx⟩ := hc s hsl
          simp only at hck hix hlx
          have hrow : (R.getD s []).length = L.toNat := GD.out.row hsl
          rw [hrow] at hck hlx
          have HX : Hid (Ints w x (R.getD s [])) := hix
          have HRow : Hid ((R.getD s []).length = L.toNat) := hrow
          subst ha
          have hcw : wr.cell? ⟨b, off + s, none⟩ = some (.slice x L.toNat cx) := (BoxA.out wr G.out).1.1.cell hck (by simp)
          have hsi : (s : Int) < (R.length : Int) := by omega
          clear hc hix hck hrow
          go_wp2_with fail
          clear hcw
          go_loopw [40] (fun i wq => ∃ (l : Nat) (U : Nat → Nat), i = .int .i64 l ∧ l ≤ L.toNat ∧ TAt wq gl U R.length ∧ TAt wq g V R.length ∧ Half ⟨L, s0, R, M⟩ V U s l ∧ W1.grownBy wq none) (fun i _ => L.toNat - (intOf i).toNat)
          case atStart => exact ⟨0, _, rfl, by omega, T.out, T'.out, HH.out, G.out⟩
          case round =>
            clear T T' HH G U
            obtain ⟨l, U, rfl, hl, hT, hT', hH, hg⟩ := hrel
            by_cases hll : l < L.toNat
            · have hnx : Dfa.nx ⟨L, s0, R, M⟩ s l < R.length := GD.out.nx_lt hsl hll
              have hnxe : (R.getD s []).getD l 0 = (Dfa.nx ⟨L, s0, R, M⟩ s l : Int) := GD.out.nx_eq hsl hll
              obtain ⟨bx, ox, rfl, hcx⟩ := HX.out.at (k := l) (by rw [HRow.out]; exact hll)
              have hcw := (BoxA.out wr hg).1.1.cell (hcx l (by rw [HRow.out]; exact hll)) (by simp)
              rw [hnxe] at hcw
              have hH2 := hH.step hnx
              have hle := hH2.le hsl (by simp only; omega)
              have hbd : U (Dfa.nx ⟨L, s0, R, M⟩ s l) + V s < 10000000000000000000000000000000000000 := by
                have h1 := dot_one_le (fun i => if i = Dfa.nx ⟨L, s0, R, M⟩ s l then U (Dfa.nx ⟨L, s0, R, M⟩ s l) + V s else U i) hnx
                simp only [if_pos] at h1
                have h2 : (Dfa.L ⟨L, s0, R, M⟩).toNat * dot R.length V (fun _ => 1) = L.toNat ^ (k + 1) := by rw [FW.out.s, Nat.pow_succ, Nat.mul_comm]
                have h3 := pow4_lt (l := L.toNat) (k := k + 1) (by omega) (by omega)
                simp only at hle h2
                omega
              clear hnxe hcx hle
              have HS : Hid (Half ⟨L, s0, R, M⟩ V (fun i => if i = Dfa.nx ⟨L, s0, R, M⟩ s l then U (Dfa.nx ⟨L, s0, R, M⟩ s l) + V s else U i) s (l + 1)) := hH2
              generalize Dfa.nx ⟨L, s0, R, M⟩ s l = t at *
              have T : Hid (TAt wr gl U R.length) := hT
              have T' : Hid (TAt wr g V R.length) := hT'
              have G : Hid (W1.grownBy wr none) := hg
              have e0 := hT.hi t hnx
              have e1 := hT.lo t hnx
              have e2 := hT'.hi s hsl
              have e3 := hT'.lo s hsl
              have HC : Hid (∀ W, Calls Tryd.prog 38 #[.agg #[.int .u64 ((U t / 1000000000000000000 : Nat) : Int), .int .u64 ((U t % 1000000000000000000 : Nat) : Int)], .agg #[.int .u64 ((V s / 1000000000000000000 : Nat) : Int), .int .u64 ((V s % 1000000000000000000 : Nat) : Int)]] W fun e w' =>
                e = .returned (.agg #[.int .u64 (((U t + V s) / 1000000000000000000 : Nat) : Int), .int .u64 (((U t + V s) % 1000000000000000000 : Nat) : Int)]) ∧ W.grownBy w' none) := fun W => HP.out _ _ W hbd
              generalize hq0 : U t / 1000000000000000000 = q0 at *
              generalize hq1 : U t % 1000000000000000000 = q1 at *
              generalize hq2 : V s / 1000000000000000000 = q2 at *
              generalize hq3 : V s % 1000000000000000000 = q3 at *
              generalize hq4 : (U t + V s) / 1000000000000000000 = q4 at *
              generalize hq5 : (U t + V s) % 1000000000000000000 = q5 at *
              have Q4 : Hid ((q4 : Int) = (((U t + V s) / 1000000000000000000 : Nat) : Int)) := by show _ = _; rw [hq4]
              have Q5 : Hid ((q5 : Int) = (((U t + V s) % 1000000000000000000 : Nat) : Int)) := by show _ = _; rw [hq5]
              have hti : (t : Int) < (R.length : Int) := by omega
              have hlli : (l : Int) < (L.toNat : Int) := by omega
              clear hH hH2 hT hT' hg hq0 hq1 hq2 hq3 hq4 hq5 hbd
              go_wp2_with fail
              go_region_with (go_at_call 38; refine (HC.out _).mono ?_; rintro e w5 ⟨rfl, hg5⟩; have hg6 : wr.grownBy w5 none := (grown_trans (by first | exact grown_drew (grown_refl _ _) | exact grown_drewN (grown_refl _ _) _) hg5); have k0 := (T.out.kept hg6 (by simp)).hi t hnx; have k1 := (T.out.kept hg6 (by simp)).lo t hnx; have k2 := (T.out.kept hg6 (by simp)).fz (t * 2); have k3 := (T.out.kept hg6 (by simp)).fz (t * 2 + 1))
              all_goals
                have S6 : Hid (TAt ((w5.setCell ⟨gl, t * 2, none⟩ (.int .u64 q4)).setCell ⟨gl, t * 2 + 1, none⟩ (.int .u64 q5)) gl (fun i => if i = t then U t + V s else U i) R.length) := (T.out.kept hg6 (by simp)).set hnx _ Q4.out Q5.out
                have S7 : Hid (TAt ((w5.setCell ⟨gl, t * 2, none⟩ (.int .u64 q4)).setCell ⟨gl, t * 2 + 1, none⟩ (.int .u64 q5)) g V R.length) := ((T'.out.kept hg6 (by simp)).kept (grown_set _ _ _) (by simpa using hgn.out.1.symm)).kept (grown_set _ _ _) (by simpa using hgn.out.1.symm)
                have G7 : Hid (W1.grownBy ((w5.setCell ⟨gl, t * 2, none⟩ (.int .u64 q4)).setCell ⟨gl, t * 2 + 1, none⟩ (.int .u64 q5)) none) := grown_new (grown_new (grown_trans G.out hg6) (grown_set _ _ _) hgn.out.2) (grown_set _ _ _) hgn.out.2
                clear k0 k1 k2 k3 hg5 hg6 e0 e1 e2 e3 hcw T T' G
                go_wp2_with fail
                go_roundw
                case rel => exact ⟨l + 1, _, by go_num, by omega, S6.out, S7.out, HS.out, G7.out⟩
                case measure => simp [intOf]; omega
            · have hle : l = L.toNat := by omega
              have T : Hid (TAt wr gl U R.length) := hT
              have T' : Hid (TAt wr g V R.length) := hT'
              have G : Hid (W1.grownBy wr none) := hg
              have HH : Hid (Half ⟨L, s0, R, M⟩ V U (s + 1) 0) := (hle ▸ hH : Half ⟨L, s0, R, M⟩ V U s L.toNat).next
              clear hT hT' hg hH
              go_wp2_with fail
              go_roundw
              case rel => exact ⟨s + 1, U, by go_num, by omega, T.out, T'.out, HH.out, G.out⟩
              case measure => simp [intOf]; omega
        · have hse : s = R.length := by omega
          have FW2 : Hid (Fwd ⟨L, s0, R, M⟩ N (k + 1) U) := FW.out.next hlt (hse ▸ HH.out)
          clear HH T' 
          go_wp2_with fail
          go_roundw
          case rel => exact ⟨k + 1, gl, U, rfl, by go_num, by omega, by have := hgn.out.2; omega, T.out, FW2.out, G.out⟩
          case measure => simp [intOf]; omega
    · have hkN : k = N := by omega
      subst hkN
      have HE : Hid (marked ⟨L, s0, R, M⟩ V R.length = y) := by show _ = _; rw [← HY.out]; exact marked_end FW.out
      have hsum : Hid (dot R.length V (fun _ => 1) < 10000000000000000000000000000000000000) := by
        show _ < _
        have h1 : dot R.length V (fun _ => 1) = L.toNat ^ k := FW.out.s
        rw [h1]; exact pow4_lt (by omega) hN
      have b3' : ∀ o, (wr.alloc o).cell? ⟨w.heap.size, 3, none⟩ = some (.slice a' M.length c') := fun o => (grown_alloc wr o).cell b3 (by simp)
      have T6 : Hid (TAt (wr.alloc (.cells #[.int .u64 0, .int .u64 0] 57)) g V R.length) := T.out.kept (grown_alloc _ _) (by simp)
      have S6 : Hid (TAt (wr.alloc (.cells #[.int .u64 0, .int .u64 0] 57)) wr.heap.size (fun _ => marked ⟨L, s0, R, M⟩ V 0) 1) := by
        have h2 := TAt.made wr 1
        rw [made1] at h2
        exact h2
      have G6 : Hid (W1.grownBy (wr.alloc (.cells #[.int .u64 0, .int .u64 0] 57)) none) := grown_trans G.out (grown_alloc _ _)
      have hgn : Hid (g ≠ wr.heap.size ∧ W1.heap.size ≤ wr.heap.size) := by have h1 := T.out.lt; have h2 := G.out.size; show _ ∧ _; exact ⟨by omega, h2⟩
      clear FW T G
      go_wp2_with fail
      clear b0 b1 b2 b3 b3' r0 r1 rz0 rz1
      generalize wr.heap.size = gs at *
      go_loopw [64] (fun i wq => ∃ (s : Nat), i = .int .i64 s ∧ s ≤ M.length ∧ TAt wq gs (fun _ => marked ⟨L, s0, R, M⟩ V s) 1 ∧ TAt wq g V R.length ∧ W1.grownBy wq none) (fun i _ => M.length - (intOf i).toNat)
      case atStart => exact ⟨0, rfl, by omega, S6.out, T6.out, G6.out⟩
      case round =>
        clear S6 T6 G6
        obtain ⟨s, rfl, hs, hS6, hT6, hg6⟩ := hrel
        have hml : M.length = R.length := GD.out.ml
        have HML : Hid (M.length = R.length) := hml
        by_cases hlt2 : s < M.length
        · obtain ⟨bm, om, rfl, hcm⟩ := H.out.marks.at hlt2
          have hcw := (BoxA.out wr hg6).1.1.cell (hcm s hlt2) (by simp)
          simp only at hcw
          have hsl : s < R.length := by omega
          have hmk : Hid (marked ⟨L, s0, R, M⟩ V (s + 1) = marked ⟨L, s0, R, M⟩ V s + V s * if M.getD s 0 = 1 then 1 else 0) := by
            show _ = _
            simp [marked, sumTo, Dfa.mk1]
          have hle : marked ⟨L, s0, R, M⟩ V (s + 1) < 10000000000000000000000000000000000000 := Nat.lt_of_le_of_lt (marked_le (d := ⟨L, s0, R, M⟩) (by simp only; omega)) hsum.out
          clear hml hcm
          generalize M.getD s 0 = x at *
          have T : Hid (TAt wr g V R.length) := hT6
          have G : Hid (W1.grownBy wr none) := hg6
          have SS : Hid (TAt wr gs (fun _ => marked ⟨L, s0, R, M⟩ V s) 1) := hS6
          by_cases hx : x = 1
          · subst hx
            simp only [if_true, Nat.mul_one] at hmk
            rw [hmk.out] at hle
            have e0 := hS6.hi 0 (by omega)
            have e1 := hS6.lo 0 (by omega)
            have e2 := hT6.hi s hsl
            have e3 := hT6.lo s hsl
            simp only [Nat.zero_mul, Nat.zero_add] at e0 e1
            have HC : Hid (∀ W, Calls Tryd.prog 38 #[.agg #[.int .u64 ((marked ⟨L, s0, R, M⟩ V s / 1000000000000000000 : Nat) : Int), .int .u64 ((marked ⟨L, s0, R, M⟩ V s % 1000000000000000000 : Nat) : Int)], .agg #[.int .u64 ((V s / 1000000000000000000 : Nat) : Int), .int .u64 ((V s % 1000000000000000000 : Nat) : Int)]] W fun e w' =>
                e = .returned (.agg #[.int .u64 (((marked ⟨L, s0, R, M⟩ V s + V s) / 1000000000000000000 : Nat) : Int), .int .u64 (((marked ⟨L, s0, R, M⟩ V s + V s) % 1000000000000000000 : Nat) : Int)]) ∧ W.grownBy w' none) := fun W => HP.out _ _ W hle
            rw [← hmk.out] at HC
            generalize hq0 : marked ⟨L, s0, R, M⟩ V s / 1000000000000000000 = q0 at *
            generalize hq1 : marked ⟨L, s0, R, M⟩ V s % 1000000000000000000 = q1 at *
            generalize hq2 : V s / 1000000000000000000 = q2 at *
            generalize hq3 : V s % 1000000000000000000 = q3 at *
            generalize hq4 : marked ⟨L, s0, R, M⟩ V (s + 1) / 1000000000000000000 = q4 at *
            generalize hq5 : marked ⟨L, s0, R, M⟩ V (s + 1) % 1000000000000000000 = q5 at *
            have Q4 : Hid ((q4 : Int) = ((marked ⟨L, s0, R, M⟩ V (s + 1) / 1000000000000000000 : Nat) : Int)) := by show _ = _; rw [hq4]
            have Q5 : Hid ((q5 : Int) = ((marked ⟨L, s0, R, M⟩ V (s + 1) % 1000000000000000000 : Nat) : Int)) := by show _ = _; rw [hq5]
            have hsi : (s : Int) < (R.length : Int) := by omega
            clear hS6 hT6 hg6 hq0 hq1 hq2 hq3 hq4 hq5 hle
            go_wp2_with fail
            go_region_with (go_at_call 38; refine (HC.out _).mono ?_; rintro e w5 ⟨rfl, hg5⟩; have hg6 : wr.grownBy w5 none := (grown_trans (by first | exact grown_drew (grown_refl _ _) | exact grown_drewN (grown_refl _ _) _) hg5); have k0 := (SS.out.kept hg6 (by simp)).hi 0 (by omega); have k1 := (SS.out.kept hg6 (by simp)).lo 0 (by omega); have k2 := (SS.out.kept hg6 (by simp)).fz 0; have k3 := (SS.out.kept hg6 (by simp)).fz 1; simp only [Nat.zero_mul, Nat.zero_add] at k0 k1)
            all_goals
              have S6 : Hid (TAt ((w5.setCell ⟨gs, 0, none⟩ (.int .u64 q4)).setCell ⟨gs, 1, none⟩ (.int .u64 q5)) gs (fun _ => marked ⟨L, s0, R, M⟩ V (s + 1)) 1) := by
                have h6 := (SS.out.kept hg6 (by simp)).set (t := 0) (by omega) _ Q4.out Q5.out
                simp only [Nat.zero_mul, Nat.zero_add] at h6
                refine ⟨h6.lt, fun i hi => ?_, fun i hi => ?_, h6.fz⟩
                · have := h6.hi i hi; rw [if_pos (by omega)] at this; exact this
                · have := h6.lo i hi; rw [if_pos (by omega)] at this; exact this
              have S7 : Hid (TAt ((w5.setCell ⟨gs, 0, none⟩ (.int .u64 q4)).setCell ⟨gs, 1, none⟩ (.int .u64 q5)) g V R.length) := ((T.out.kept hg6 (by simp)).kept (grown_set _ _ _) (by simpa using hgn.out.1.symm)).kept (grown_set _ _ _) (by simpa using hgn.out.1.symm)
              have G7 : Hid (W1.grownBy ((w5.setCell ⟨gs, 0, none⟩ (.int .u64 q4)).setCell ⟨gs, 1, none⟩ (.int .u64 q5)) none) := grown_new (grown_new (grown_trans G.out hg6) (grown_set _ _ _) hgn.out.2) (grown_set _ _ _) hgn.out.2
              clear k0 k1 k2 k3 hg5 hg6 e0 e1 e2 e3 hcw T SS G
              go_wp2_with fail
              go_roundw
              case rel => exact ⟨s + 1, by go_num, by omega, S6.out, S7.out, G7.out⟩
              case measure => simp [intOf]; omega
          · have hx' : (x == 1) = false := by simpa using hx
            have SS2 : Hid (TAt wr gs (fun _ => marked ⟨L, s0, R, M⟩ V (s + 1)) 1) := by
              show TAt _ _ _ _
              rw [hmk.out, if_neg hx, Nat.mul_zero, Nat.add_zero]
              exact SS.out
            clear hS6 hT6 hg6
            go_wp2_with fail
            go_roundw
            case rel => exact ⟨s + 1, by go_num, by omega, SS2.out, T.out, G.out⟩
            case measure => simp [intOf]; omega
        · have hse : s = R.length := by omega
          have e0 := hS6.hi 0 (by omega)
          have e1 := hS6.lo 0 (by omega)
          simp only [Nat.zero_mul, Nat.zero_add] at e0 e1
          rw [hse, HE.out] at e0 e1
          obtain ⟨⟨hgw, _⟩, r0, r1, rz⟩ := BoxA.out wr hg6
          have rz0 := rz 0
          have rz1 := rz 1
          have G7 : Hid (w.grownBy ((wr.setCell ⟨w.heap.size + 1, 0, none⟩ (.int .u64 ((y / 1000000000000000000 : Nat) : Int))).setCell ⟨w.heap.size + 1, 1, none⟩ (.int .u64 ((y % 1000000000000000000 : Nat) : Int))) none) := grown_new (grown_new hgw (grown_set _ _ _) (by simp only; omega)) (grown_set _ _ _) (by simp only; omega)
          have q0 : ((wr.setCell ⟨w.heap.size + 1, 0, none⟩ (.int .u64 ((y / 1000000000000000000 : Nat) : Int))).setCell ⟨w.heap.size + 1, 1, none⟩ (.int .u64 ((y % 1000000000000000000 : Nat) : Int))).cell? ⟨w.heap.size + 1, 0, none⟩ = some (.int .u64 ((y / 1000000000000000000 : Nat) : Int)) := by
            rw [World.cell?_setCell_other _ _ _ _ (by simp)]; exact World.cell?_setCell_same _ _ _ r0
          have q1 : ((wr.setCell ⟨w.heap.size + 1, 0, none⟩ (.int .u64 ((y / 1000000000000000000 : Nat) : Int))).setCell ⟨w.heap.size + 1, 1, none⟩ (.int .u64 ((y % 1000000000000000000 : Nat) : Int))).cell? ⟨w.heap.size + 1, 1, none⟩ = some (.int .u64 ((y % 1000000000000000000 : Nat) : Int)) :=
            World.cell?_setCell_same _ _ _ (by rw [World.cell?_setCell_other _ _ _ _ (by simp)]; exact r1)
          clear hS6 hT6 hg6 hml rz hgw
          generalize hy0 : y / 1000000000000000000 = y0 at *
          generalize hy1 : y % 1000000000000000000 = y1 at *
          have Y0 : Hid (y / 1000000000000000000 = y0) := hy0
          have Y1 : Hid (y % 1000000000000000000 = y1) := hy1
          clear hy0 hy1
          go_wp2_with fail
          exact bodyPost_ret (v := .agg #[.int .u64 y0, .int .u64 y1]) (by simp [results, Tryd.results23, go_sem, q0, q1]) rfl ⟨by rw [Y0.out, Y1.out], G7.out⟩

end Go.Proofs.YtjinibofbpgfjaaDoor
