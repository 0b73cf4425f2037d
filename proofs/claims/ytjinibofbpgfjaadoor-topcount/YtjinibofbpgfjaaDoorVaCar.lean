/- What is carried: the program's carried. -/
import Derived.Test.YtjinibofbpgfjaaDoorVaNum
namespace Go.Proofs.YtjinibofbpgfjaaDoor
open Go.RowKit
set_option linter.unusedVariables false
set_option linter.unusedSimpArgs false

/-- A number is answered. -/
def NumP (v : Int) (w : World) (e : Ending) (w' : World) : Prop := e = .returned (nmV (ptF v)) ∧ w.grownBy w' none

set_option maxHeartbeats 3200000 in
set_option maxRecDepth 100000 in
theorem carried_any (l : Nat → Int) (w : World) (hl : ∀ k, k < 13 → -1000000000000000 ≤ l k ∧ l k ≤ 1000000000000000) :
    Calls Tryd.prog 29 #[nmV l] w (NumP (valT l) w) := by
  obtain ⟨A0, hA0, g0, s0, b0⟩ := boxN_new w l
  obtain ⟨W1, hW1, g1, s1, b1⟩ := boxN_new A0 (fun _ => 0)
  rw [s0] at b1
  have HW1 : Hid (W1 = (w.alloc (nmO l)).alloc (nmO (fun _ => 0))) := by show _ = _; rw [hW1, hA0]
  have G1 : Hid (w.grownBy W1 none) := grown_trans g0 g1
  have HS : Hid (W1.heap.size = w.heap.size + 1 + 1) := by show _ = _; omega
  have HB0 : Hid (BoxN W1 w.heap.size (carN l 0)) := (b0.kept g1).congr fun i _ => (carN_zero l i).symm
  have HB1 : Hid (BoxN W1 (w.heap.size + 1) (fun _ => 0)) := b1
  have HL : Hid (∀ k, k < 13 → -1000000000000000 ≤ l k ∧ l k ≤ 1000000000000000) := hl
  obtain ⟨Po, hPo⟩ : ∃ P, P = NumP (valT l) w := ⟨_, rfl⟩
  have HPo : Hid (∀ W, w.grownBy W none → Po (.returned (nmV (carN l 12))) W) := fun W hW => by rw [hPo]; exact ⟨by rw [nmV_congr fun i hi => carN_end l hi], hW⟩
  rw [← hPo]
  clear hA0 hW1 g0 g1 s0 s1 b0 b1 hl hPo
  go_enter Tryd.func29, Tryd.ntmps29
  go_wp2_with fail
  rw [← HW1.out]
  go_loopw [5] (fun v W => ∃ i : Nat, v = .int .i64 i ∧ i ≤ 12 ∧ BoxN W w.heap.size (carN l i) ∧ BoxN W (w.heap.size + 1) (fun _ => 0) ∧ w.grownBy W none) (fun v _ => 12 - (intOf v).toNat)
  case atStart => exact ⟨0, rfl, by omega, HB0.out, HB1.out, G1.out⟩
  case round =>
    clear HB0 HB1 G1
    obtain ⟨wi, hwi⟩ : ∃ W, W = wr := ⟨_, rfl⟩
    subst hwi
    obtain ⟨i, rfl, hi, hb, hz, hg⟩ := hrel
    have HB : Hid (BoxN wi w.heap.size (carN l i) ∧ BoxN wi (w.heap.size + 1) (fun _ => 0) ∧ w.grownBy wi none) := ⟨hb, hz, hg⟩
    clear hb hz hg
    by_cases hlt : i < 12
    · have io : (i : Int) < 12 := by omega
      have io2 : (i : Int) < 13 := by omega
      have io3 : (i : Int) + 1 < 13 := by omega
      have c0 := HB.out.1.cell (i := i) (by omega)
      have c1 := HB.out.1.cell (i := i + 1) (by omega)
      have e0 : carN l i i = cS l i := by unfold carN; rw [if_neg (by omega), if_pos rfl]
      have e1 : carN l i (i + 1) = l (i + 1) := by unfold carN; rw [if_neg (by omega), if_neg (by omega)]
      have hb1 := HL.out (i + 1) (by omega)
      have hb2 := cS_bd HL.out i (by omega)
      rw [e0] at c0
      rw [e1] at c1
      have f0 := HB.out.1.fz i
      have f1 := HB.out.1.fz (i + 1)
      obtain ⟨x, hx⟩ : ∃ x, cS l i = x := ⟨_, rfl⟩
      obtain ⟨y, hy⟩ : ∃ y, l (i + 1) = y := ⟨_, rfl⟩
      rw [hx] at c0 hb2
      rw [hy] at c1 hb1
      have HXY : Hid (cS l i = x ∧ l (i + 1) = y) := ⟨hx, hy⟩
      clear e0 e1 hx hy
      obtain ⟨hb3, hb4⟩ := hb1
      obtain ⟨hb5, hb6⟩ := hb2
      have HN : Hid (∀ z u, z = x % 1000000000 → u = y + x / 1000000000 → BoxN ((wi.setCell ⟨w.heap.size, i, none⟩ (.int .i64 z)).setCell ⟨w.heap.size, i + 1, none⟩ (.int .i64 u)) w.heap.size (carN l (i + 1))) := fun z u hz hu => by
        refine ((HB.out.1.set (i := i) (by omega) z).set (i := i + 1) (by omega) u).congr fun j hj => ?_
        rw [carN_step, HXY.out.1, HXY.out.2, hz, hu]
      have HF : Hid (∀ z u, BoxN ((wi.setCell ⟨w.heap.size, i, none⟩ (.int .i64 z)).setCell ⟨w.heap.size, i + 1, none⟩ (.int .i64 u)) (w.heap.size + 1) (fun _ => 0) ∧ w.grownBy ((wi.setCell ⟨w.heap.size, i, none⟩ (.int .i64 z)).setCell ⟨w.heap.size, i + 1, none⟩ (.int .i64 u)) none) := fun z u => by
        have g : wi.grownBy ((wi.setCell ⟨w.heap.size, i, none⟩ (.int .i64 z)).setCell ⟨w.heap.size, i + 1, none⟩ (.int .i64 u)) (some w.heap.size) := grown_trans (grown_set _ _ _) (grown_set _ _ _)
        exact ⟨HB.out.2.1.far g (by omega), grown_new HB.out.2.2 g (Nat.le_refl _)⟩
      by_cases hs : 0 ≤ x
      · go_wp2_with fail
        go_roundw
        case rel => exact ⟨i + 1, by go_num, by omega, HN.out _ _ (by omega) rfl, (HF.out _ _).1, (HF.out _ _).2⟩
        case measure => simp [intOf]; omega
      · have hq : x.tdiv 1000000000 = if x % 1000000000 = 0 then x / 1000000000 else x / 1000000000 + 1 := by
          have hd : (1000000000 : Int) ∣ x ↔ x % 1000000000 = 0 := Int.dvd_iff_emod_eq_zero
          rw [Int.tdiv_eq_ediv]
          by_cases h : x % 1000000000 = 0
          · rw [if_pos h, if_pos (.inr (hd.2 h))]; omega
          · rw [if_neg h, if_neg (fun e => e.elim hs (fun e => h (hd.1 e)))]; rfl
        have hr : x.tmod 1000000000 = if x % 1000000000 = 0 then 0 else x % 1000000000 - 1000000000 := by
          rw [Int.tmod_def, hq]
          by_cases h : x % 1000000000 = 0
          · rw [if_pos h, if_pos h]; omega
          · rw [if_neg h, if_neg h]; omega
        by_cases hm : x % 1000000000 = 0
        · rw [if_pos hm] at hq hr
          have w1 : IntKind.i64.wrap (x / 1000000000) = x / 1000000000 := by rw [IntKind.wrap_i64]; omega
          have w2 : IntKind.i64.wrap (x / 1000000000 * 1000000000) = x / 1000000000 * 1000000000 := by rw [IntKind.wrap_i64]; omega
          go_wp2_with fail
          go_roundw
          case rel => exact ⟨i + 1, by go_num, by omega, HN.out _ _ (by omega) (by omega), (HF.out _ _).1, (HF.out _ _).2⟩
          case measure => simp [intOf]; omega
        · rw [if_neg hm] at hq hr
          have w1 : IntKind.i64.wrap (x / 1000000000 + 1) = x / 1000000000 + 1 := by rw [IntKind.wrap_i64]; omega
          have w2 : IntKind.i64.wrap (x / 1000000000 * 1000000000) = x / 1000000000 * 1000000000 := by rw [IntKind.wrap_i64]; omega
          have hr2 : x % 1000000000 - 1000000000 < 0 := by omega
          go_wp2_with fail
          go_roundw
          case rel => exact ⟨i + 1, by go_num, by omega, HN.out _ _ (by omega) (by omega), (HF.out _ _).1, (HF.out _ _).2⟩
          case measure => simp [intOf]; omega
    · have io : ¬ (i : Int) < 12 := by omega
      have e : i = 12 := by omega
      subst e
      obtain ⟨c0, c1, c2, c3, c4, c5, c6, c7, c8, c9, c10, c11, c12⟩ := HB.out.1.get
      obtain ⟨d0, d1, d2, d3, d4, d5, d6, d7, d8, d9, d10, d11, d12⟩ := HB.out.2.1.get
      have fz := HB.out.2.1.fz
      obtain ⟨W9, hW9, g9, b9⟩ := boxN_store HB.out.2.1 (carN l 12)
      have HW9 : Hid (W9 = _) := hW9
      have F : Hid (Po (.returned (nmV (carN l 12))) W9) := HPo.out W9 (grown_new HB.out.2.2 g9 (by omega))
      obtain ⟨e0, e1, e2, e3, e4, e5, e6, e7, e8, e9, e10, e11, e12⟩ := b9.get
      have f0 := fz 0
      have f1 := fz 1
      have f2 := fz 2
      have f3 := fz 3
      have f4 := fz 4
      have f5 := fz 5
      have f6 := fz 6
      have f7 := fz 7
      have f8 := fz 8
      have f9 := fz 9
      have f10 := fz 10
      have f11 := fz 11
      have f12 := fz 12
      clear hW9 g9 b9 fz
      go_wp2_with fail
      rw [← HW9.out]
      exact bodyPost_ret (v := nmV (carN l 12)) (by simp [results, Tryd.results29, go_sem, e0, e1, e2, e3, e4, e5, e6, e7, e8, e9, e10, e11, e12]) rfl F.out
end Go.Proofs.YtjinibofbpgfjaaDoor
