/- buchi.stepsFrom, walked. -/
import Derived.Test.YteodlmgaemfiiaaUFrom
namespace Go.Proofs.Yteodlmgaemfiiaa
open Go.RowKit
set_option linter.unusedVariables false
attribute [local go_sem ↓] app_fold

theorem Try.infoST : (Try.prog.info? 23).map (fun i => (i.zero, i.size, i.bytes)) = some (some (.slice none 0 0), 1, 24) := by kernel_rfl
theorem make_tab (w : World) (n : Nat) (hn : n ≤ 1000000) : (Instr.makeSlice 92 (.int .i64 (n : Int)) (.int .i64 (n : Int))).run Try.prog w = .ok (.slice (some ⟨w.heap.size, 0, none⟩) n n) (w.alloc (.cells (Array.replicate n (Value.slice none 0 0)) 23)) := by
  obtain ⟨i0, hi, hz0, hz1, hz2⟩ := info_parts Try.infoST
  have hmk := run_make (P := Try.prog) w 92 23 i0 (.slice none 0 0) Try.underlying92 hi hz0 .i64 .i64 (n : Int) (n : Int) (by omega) (by omega) (by rw [hz2]; omega) (by omega)
  rw [hz1, Nat.mul_one, Int.toNat_natCast, made_slices] at hmk
  exact hmk
/-- What stepsFrom answers. -/
def TabPost (n : Nat) (T : List StepI) (w : World) (E : Ending) (w' : World) : Prop := ∃ gt, E = .returned (.slice (some ⟨gt, 0, none⟩) n n) ∧ StepTab w' gt n T ∧ w.grownBy w' none ∧ w.heap.size ≤ gt

set_option maxHeartbeats 3200000 in
set_option maxRecDepth 100000 in
theorem stepsFrom_any (x : Aut) (l nS : Nat) (hL : x.L = l) (hN : x.N = nS) (hG : GoodA x) (a b e : Option Addr) (c d f : Nat) (w : World) (h : AutAt w x a b e) :
    Calls Try.prog 67 #[autV l nS a x.S.length c b x.T.length d e x.F.length f] w (TabPost nS x.T w) := by
  have hn3 : nS ≤ 300 := by have := hG.n3; omega
  have hmt := hG.t4
  have HT : Hid (InT x.T l nS) := hL ▸ hN ▸ hG.t
  have HStp : Hid (∀ W, w.grownBy W none → StepsAt W b x.T) := fun W hW => h.steps.grown hW
  clear h hG hL hN
  obtain ⟨L, N, S, T, F⟩ := x
  simp only at *
  generalize S.length = mS at *
  generalize F.length = mF at *
  obtain ⟨W1, hW1, g1, s1, bx1⟩ := boxA_new w l nS a mS c b T.length d e mF f
  have HW1 : Hid (W1 = _) := hW1
  have G1 : Hid (w.grownBy W1 none) := g1
  have BX : Hid (∀ W', W1.grownBy W' none → W'.cell? ⟨w.heap.size, 0, none⟩ = some (.int .i64 l) ∧ W'.cell? ⟨w.heap.size, 1, none⟩ = some (.int .i64 nS) ∧ W'.cell? ⟨w.heap.size, 2, none⟩ = some (.slice a mS c) ∧ W'.cell? ⟨w.heap.size, 3, none⟩ = some (.slice b T.length d) ∧ W'.cell? ⟨w.heap.size, 4, none⟩ = some (.slice e mF f)) := bx1
  obtain ⟨W2, hmk, hA2, hg2⟩ : ∃ W2, (Instr.makeSlice 92 (.int .i64 (nS : Int)) (.int .i64 (nS : Int))).run Try.prog W1 = .ok (.slice (some ⟨W1.heap.size, 0, none⟩) nS nS) W2 ∧ SfAt W1.heap.size W2 W1.heap.size nS [] ∧ W1.grownBy W2 none := ⟨_, make_tab W1 nS (by omega), SfAt.new W1 nS W1.heap.size (Nat.le_refl _) (by omega), grown_alloc _ _⟩
  have A2 : Hid (SfAt W1.heap.size W2 W1.heap.size nS []) := hA2
  have G2 : Hid (W1.grownBy W2 none) := hg2
  obtain ⟨x0, x1, x2, x3, x4⟩ := BX.out W1 (grown_refl _ _)
  obtain ⟨y0, y1, y2, y3, y4⟩ := BX.out W2 hg2
  rw [hW1] at x0 x1 x2 x3 x4
  rw [s1] at hmk
  rw [hW1] at hmk
  have HGT : Hid (W1.heap.size = w.heap.size + 1) := s1
  have A3 : Hid (SfAt W1.heap.size W2 (w.heap.size + 1) nS []) := by rw [← s1]; exact hA2
  clear g1 hW1 bx1 hA2 hg2 s1 A2
  go_enter Try.func67, Try.ntmps67
  go_wp2_with fail
  clear hmk x0 x1 x2 x3 x4 y0 y1 y2 y3 y4
  have HGe : Hid (w.heap.size ≤ w.heap.size + 1) := Nat.le_succ _
  obtain ⟨gt, hgt⟩ : ∃ gt, w.heap.size + 1 = gt := ⟨_, rfl⟩
  rw [hgt] at HGe A3 HGT
  rw [hgt]
  clear hgt
  go_loopw [12] (fun v wr => ∃ j : Nat, j ≤ T.length ∧ v = .int .i64 j ∧ SfAt W1.heap.size wr gt nS (T.take j) ∧ W1.grownBy wr none) (fun v _ => T.length - (intOf v).toNat)
  case atStart => exact ⟨0, by omega, rfl, A3.out, G2.out⟩
  case round =>
    clear A3 G2
    rename World => wq
    obtain ⟨j, hj, rfl, hA, hg⟩ := hrel
    have A : Hid (SfAt W1.heap.size wq gt nS (T.take j)) := hA
    have G : Hid (W1.grownBy wq none) := hg
    clear hA hg
    by_cases hlt : j < T.length
    · have hji : (j : Int) < (T.length : Int) := by omega
      obtain ⟨bb, off, rfl, hc⟩ := (HStp.out wq (grown_trans G1.out G.out)).at hlt
      obtain ⟨y0, y1, y2⟩ := hc j hlt
      obtain ⟨⟨i1, i2⟩, ⟨i3, i4⟩, ⟨i5, i6⟩⟩ := HT.out j hlt
      have HTk : Hid (T.take (j + 1) = T.take j ++ [T.getD j (0, 0, 0)]) := by show _ = _; rw [List.take_add_one, getT_lt hlt]; simp [hlt]
      clear hc
      obtain ⟨xx, hxx⟩ : ∃ xx, T.getD j (0, 0, 0) = xx := ⟨_, rfl⟩
      rw [hxx] at y0 y1 y2 i1 i2 i3 i4 i5 i6 HTk
      clear hxx
      obtain ⟨ff, ll, tt⟩ := xx
      simp only at y0 y1 y2 i1 i2 i3 i4 i5 i6
      obtain ⟨fn, rfl⟩ : ∃ n : Nat, ff = n := ⟨ff.toNat, by omega⟩
      have hfn : fn < nS := by omega
      obtain ⟨W5, hW5⟩ : ∃ W5, W5 = wq.alloc (.cells #[.int .i64 fn, .int .i64 ll, .int .i64 tt] 59) := ⟨_, rfl⟩
      have HW5 : Hid (W5 = wq.alloc (.cells #[.int .i64 fn, .int .i64 ll, .int .i64 tt] 59)) := hW5
      have hb5 := heap_alloc_new wq (.cells #[.int .i64 fn, .int .i64 ll, .int .i64 tt] 59)
      rw [← hW5] at hb5
      have g5 : wq.grownBy W5 none := by rw [hW5]; exact grown_alloc _ _
      have G5 : Hid (W1.grownBy W5 none) := grown_trans G.out g5
      have e0 : W5.cell? ⟨wq.heap.size, 0, none⟩ = some (.int .i64 fn) := by rw [cell_of_row _ _ 0 _ _ (0, 0) hb5]; rfl
      have e1 : W5.cell? ⟨wq.heap.size, 1, none⟩ = some (.int .i64 ll) := by rw [cell_of_row _ _ 1 _ _ (0, 0) hb5]; rfl
      have e2 : W5.cell? ⟨wq.heap.size, 2, none⟩ = some (.int .i64 tt) := by rw [cell_of_row _ _ 2 _ _ (0, 0) hb5]; rfl
      obtain ⟨v, g7, c7, w7, hcv, ⟨va, vk, vc, rfl⟩, hrun0, hc7, hz7, hA7, hK7, hO7⟩ := A.out.push (w := W5.drew) (grown_drew g5) (H := W5.heap.size) G5.out.size (by rw [List.length_take]; omega) hfn ll tt rfl
      have hrun : (AppS #[23, 23] 23 #[.slice va vk vc, .slice (some ⟨W5.heap.size, 0, none⟩) 1 1]).run Try.prog (W5.alloc (.cells #[.int .i64 fn, .int .i64 ll, .int .i64 tt] 59)).drew = .ok (.slice (some ⟨g7, 0, none⟩) ((fromT (T.take j) fn).length + 1) c7) w7 := hrun0
      have hcv5 : W5.cell? ⟨gt, fn, none⟩ = some (.slice va vk vc) := hcv
      have A7 : Hid (SfAt W1.heap.size (w7.setCell ⟨gt, fn, none⟩ (.slice (some ⟨g7, 0, none⟩) ((fromT (T.take j) fn).length + 1) c7)) gt nS (T.take (j + 1))) := by
        show SfAt _ _ _ _ _
        rw [HTk.out]; exact hA7
      have G7 : Hid (W1.grownBy (w7.setCell ⟨gt, fn, none⟩ (.slice (some ⟨g7, 0, none⟩) ((fromT (T.take j) fn).length + 1) c7)) none) := hK7 W1 (Nat.le_refl _) (grown_drew G5.out)
      have hfni : (fn : Int) < (nS : Int) := by omega
      have h70 : w7.cell? ⟨wq.heap.size, 0, none⟩ = some (.int .i64 fn) := by
        have h1 := (hO7 wq.heap.size (Nat.le_refl _) (Array.getElem?_eq_some_iff.1 hb5).1).trans hb5
        rw [cell_of_row _ _ 0 _ _ (0, 0) h1]; rfl
      have aal : ∀ o, (W5.alloc o).cell? ⟨wq.heap.size, 0, none⟩ = some (.int .i64 fn) ∧ (W5.alloc o).cell? ⟨wq.heap.size, 1, none⟩ = some (.int .i64 ll) ∧ (W5.alloc o).cell? ⟨wq.heap.size, 2, none⟩ = some (.int .i64 tt) ∧ (W5.alloc o).cell? ⟨gt, fn, none⟩ = some (.slice va vk vc) := fun o => ⟨(grown_alloc _ o).cell e0 (by simp), (grown_alloc _ o).cell e1 (by simp), (grown_alloc _ o).cell e2 (by simp), (grown_alloc _ o).cell hcv5 (by simp)⟩
      have a0 := fun o => (aal o).1
      have a3 := fun o => (aal o).2.2.2
      clear aal hA7 hK7 hrun0 hcv hW5 hb5 g5 hO7
      generalize (fromT (T.take j) fn).length + 1 = nn at *
      go_wp2_with fail
      rw [← HW5.out]
      go_region
      all_goals
        go_wp2_with fail
        go_roundw
        case rel => exact ⟨j + 1, by omega, by go_num, A7.out, G7.out⟩
        case measure => simp [intOf]; omega
    · have hji : ¬ (j : Int) < (T.length : Int) := by omega
      have A7 : Hid (SfAt W1.heap.size wq gt nS T) := by
        have h1 := A.out
        rw [List.take_of_length_le (by omega)] at h1
        exact h1
      go_wp2_with fail
      go_ret
      exact ⟨gt, rfl, A7.out.tab, grown_trans G1.out G.out, HGe.out⟩

end Go.Proofs.Yteodlmgaemfiiaa
