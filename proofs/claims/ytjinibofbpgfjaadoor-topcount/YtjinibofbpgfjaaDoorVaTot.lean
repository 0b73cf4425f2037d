/- Numbers added up, each so many times: the program's total. -/
import Derived.Test.YtjinibofbpgfjaaDoorVaCar
import Derived.BigRegion
import Derived.Deep.RegionWith
namespace Go.Proofs.YtjinibofbpgfjaaDoor
open Go.RowKit
set_option linter.unusedVariables false
set_option linter.unusedSimpArgs false

/-- Behind i numbers and k parts of the next one. -/
def totK (V t : List Int) (i k j : Nat) : Int := if j < k then totF V t (i + 1) j else totF V t i j
theorem totK_zero (V t : List Int) (i j : Nat) : totK V t i 0 j = totF V t i j := by unfold totK; rw [if_neg (by omega)]
theorem totK_end (V t : List Int) (i : Nat) {j : Nat} (hj : j < 13) : totK V t i 13 j = totF V t (i + 1) j := by unfold totK; rw [if_pos hj]
theorem totK_step (V t : List Int) (i k j : Nat) : totK V t i (k + 1) j = if j = k then totF V t i k + ptF (V.getD i 0) k * t.getD i 0 else totK V t i k j := by
  unfold totK
  by_cases h : j = k
  · subst h; rw [if_pos (by omega), if_pos rfl, totF_succ]
  · rw [if_neg h]
    by_cases h2 : j < k
    · rw [if_pos (by omega), if_pos h2]
    · rw [if_neg (by omega), if_neg h2]
theorem mem_get0 {l : List Int} {i : Nat} (h : i < l.length) : l.getD i 0 ∈ l := by rw [List.getD_eq_getElem?_getD, List.getElem?_eq_getElem h]; exact List.getElem_mem _

set_option maxHeartbeats 3200000 in
set_option maxRecDepth 100000 in
theorem total_any (V t : List Int) (a1 a2 : Option Addr) (n c1 c2 : Nat) (w : World) (hV : NumsAt w a1 V) (ht : Ints w a2 t) (e1 : V.length = n) (e2 : t.length = n) (hn : n ≤ 16) (hr : ∀ v, v ∈ V → RoomN v) (h9 : InW t 9) :
    Calls Tryd.prog 28 #[.slice a1 n c1, .slice a2 n c2] w (NumP (dotW V t) w) := by
  obtain ⟨A0, hA0, g0, s0, b0⟩ := boxN_new w (fun _ => 0)
  obtain ⟨W1, hW1, g1, s1, b1⟩ := boxN_new A0 (fun _ => 0)
  rw [s0] at b1
  have HW1 : Hid (W1 = (w.alloc (nmO (fun _ => 0))).alloc (nmO (fun _ => 0))) := by show _ = _; rw [hW1, hA0]
  have G1 : Hid (w.grownBy W1 none) := grown_trans g0 g1
  have HS : Hid (W1.heap.size = w.heap.size + 1 + 1) := by show _ = _; omega
  have HB0 : Hid (BoxN W1 w.heap.size (fun _ => 0)) := b0.kept g1
  have HB1 : Hid (BoxN W1 (w.heap.size + 1) (totF V t 0)) := b1.congr fun i _ => rfl
  have HV : Hid (NumsAt w a1 V) := hV
  have HT : Hid (Ints w a2 t) := ht
  have HL : Hid (V.length = n ∧ t.length = n ∧ (∀ v, v ∈ V → RoomN v) ∧ InW t 9) := ⟨e1, e2, hr, h9⟩
  have HBd : Hid (∀ i k, i ≤ n → -((i : Int) * 9000000000) ≤ totF V t i k ∧ totF V t i k ≤ (i : Int) * 9000000000) := fun i k hi => totF_bd hr h9 (by omega) k i (by omega)
  have HC : Hid (∀ W, Calls Tryd.prog 29 #[nmV (totF V t n)] W (NumP (dotW V t) W)) := fun W => by
    have h := carried_any (totF V t n) W (fun k _ => by have := HBd.out n k (Nat.le_refl _); omega)
    have e : valT (totF V t n) = dotW V t := by rw [← e1]; exact tot_end (by omega)
    rw [e] at h
    exact h
  obtain ⟨X, hX⟩ : ∃ X, dotW V t = X := ⟨_, rfl⟩
  rw [hX] at HC ⊢
  obtain ⟨Po, hPo⟩ : ∃ P, P = NumP X w := ⟨_, rfl⟩
  have HPo : Hid (Po = NumP X w) := hPo
  rw [← hPo]
  clear hA0 hW1 g0 g1 s0 s1 b0 b1 hV ht e1 e2 hr h9 hX hPo
  go_enter Tryd.func28, Tryd.ntmps28
  go_wp2_with fail
  rw [← HW1.out]
  go_loopw [13] (fun v W => ∃ i : Nat, v = .int .i64 i ∧ i ≤ n ∧ BoxN W w.heap.size (fun _ => 0) ∧ BoxN W (w.heap.size + 1) (totF V t i) ∧ w.grownBy W none ∧ w.heap.size + 1 + 1 ≤ W.heap.size) (fun v _ => n - (intOf v).toNat)
  case atStart => exact ⟨0, rfl, by omega, HB0.out, HB1.out, G1.out, Nat.le_of_eq HS.out.symm⟩
  case round =>
    clear HB0 HB1
    obtain ⟨wi, hwi⟩ : ∃ W, W = wr := ⟨_, rfl⟩
    subst hwi
    obtain ⟨i, rfl, hi, hz, hb, hg, hsz⟩ := hrel
    have HB : Hid (BoxN wi w.heap.size (fun _ => 0) ∧ BoxN wi (w.heap.size + 1) (totF V t i) ∧ w.grownBy wi none ∧ w.heap.size + 1 + 1 ≤ wi.heap.size) := ⟨hz, hb, hg, hsz⟩
    clear hb hz hg hsz
    by_cases hlt : i < n
    · have io : (i : Int) < (n : Int) := by omega
      have hiV : i < V.length := by rw [HL.out.1]; exact hlt
      have hit : i < t.length := by rw [HL.out.2.1]; exact hlt
      obtain ⟨b, off, rfl, hc⟩ := (HV.out.grown HB.out.2.2.1).at hiV
      have hc0 := fun k hk => hc i hiV k hk
      obtain ⟨x, hx⟩ : ∃ x, V.getD i 0 = x := ⟨_, rfl⟩
      obtain ⟨y, hy⟩ : ∃ y, t.getD i 0 = y := ⟨_, rfl⟩
      rw [hx] at hc0
      have c0 := hc0 0 (by omega)
      rw [Nat.add_zero] at c0
      have c1 := hc0 1 (by omega)
      have c2 := hc0 2 (by omega)
      have c3 := hc0 3 (by omega)
      have c4 := hc0 4 (by omega)
      have c5 := hc0 5 (by omega)
      have c6 := hc0 6 (by omega)
      have c7 := hc0 7 (by omega)
      have c8 := hc0 8 (by omega)
      have c9 := hc0 9 (by omega)
      have c10 := hc0 10 (by omega)
      have c11 := hc0 11 (by omega)
      have c12 := hc0 12 (by omega)
      obtain ⟨W2, hW2, g2, s2, b2⟩ := boxN_new wi (ptF x)
      have HW2 : Hid (W2 = wi.alloc (nmO (ptF x))) := hW2
      have G2 : Hid (wi.grownBy W2 none) := g2
      have B2 : Hid (BoxN W2 wi.heap.size (ptF x)) := b2
      obtain ⟨d0, d1, d2, d3, d4, d5, d6, d7, d8, d9, d10, d11, d12⟩ := b2.get
      rw [hW2] at d0 d1 d2 d3 d4 d5 d6 d7 d8 d9 d10 d11 d12
      have hrm := pt_bd (HL.out.2.2.1 _ (mem_get0 hiV))
      have hy9 := HL.out.2.2.2 _ (mem_get0 hit)
      rw [hx] at hrm
      rw [hy] at hy9
      have HXY : Hid (V.getD i 0 = x ∧ t.getD i 0 = y ∧ (∀ k, -1000000000 ≤ ptF x k ∧ ptF x k < 1000000000) ∧ -9 ≤ y ∧ y ≤ 9) := ⟨hx, hy, hrm, hy9⟩
      clear hc hc0 hx hy hW2 g2 s2 b2 hrm hy9
      go_wp2_with fail
      rw [← HW2.out]
      clear c0 c1 c2 c3 c4 c5 c6 c7 c8 c9 c10 c11 c12 d0 d1 d2 d3 d4 d5 d6 d7 d8 d9 d10 d11 d12
      go_loopw [19] (fun v W => ∃ k : Nat, v = .int .i64 k ∧ k ≤ 13 ∧ BoxN W w.heap.size (fun _ => 0) ∧ BoxN W (w.heap.size + 1) (totK V t i k) ∧ w.grownBy W none ∧ w.heap.size + 1 + 1 ≤ W.heap.size) (fun v _ => 13 - (intOf v).toNat)
      case atStart => exact ⟨0, rfl, by omega, HB.out.1.kept G2.out, (HB.out.2.1.kept G2.out).congr fun j _ => (totK_zero V t i j).symm, grown_trans HB.out.2.2.1 G2.out, Nat.le_trans HB.out.2.2.2 G2.out.size⟩
      case round =>
        obtain ⟨wk, hwk⟩ : ∃ W, W = wr := ⟨_, rfl⟩
        subst hwk
        obtain ⟨k, rfl, hk, hz, hb, hg, hsz⟩ := hrel
        have HK : Hid (BoxN wk w.heap.size (fun _ => 0) ∧ BoxN wk (w.heap.size + 1) (totK V t i k) ∧ w.grownBy wk none ∧ w.heap.size + 1 + 1 ≤ wk.heap.size) := ⟨hz, hb, hg, hsz⟩
        clear hb hz hg hsz
        by_cases hlk : k < 13
        · have ko : (k : Int) < 13 := by omega
          have hidx := fun W => index_nm W (ptF x) hlk
          obtain ⟨b', off', ha2, hc'⟩ := (HT.out.grown HK.out.2.2.1).at hit
          have q1 := hc' i hit
          rw [HXY.out.2.1] at q1
          have q2 := HK.out.2.1.cell hlk
          have q3 := HK.out.2.1.fz k
          have eK : totK V t i k k = totF V t i k := by unfold totK; rw [if_neg (by omega)]
          rw [eK] at q2
          have hbd := HBd.out i k (by omega)
          have hp := HXY.out.2.2.1 k
          have hy := HXY.out.2.2.2
          obtain ⟨s, hs⟩ : ∃ s, totF V t i k = s := ⟨_, rfl⟩
          obtain ⟨p, hpp⟩ : ∃ p, ptF x k = p := ⟨_, rfl⟩
          rw [hs] at q2 hbd
          have hidx2 : ∀ W, (Instr.index 44 (nmV (ptF x)) (.int .i64 (k : Int))).run Tryd.prog W = .ok (.int .i64 p) W := fun W => hpp ▸ hidx W
          rw [hpp] at hp
          have ha : (p * y).natAbs ≤ 1000000000 * 9 := by rw [Int.natAbs_mul]; exact Nat.mul_le_mul (by omega) (by omega)
          have w1 : IntKind.i64.wrap (p * y) = p * y := by rw [IntKind.wrap_i64]; omega
          have w2 : IntKind.i64.wrap (s + p * y) = s + p * y := by rw [IntKind.wrap_i64]; omega
          have HN : Hid (∀ W, wk.grownBy W none → BoxN (W.setCell ⟨w.heap.size + 1, k, none⟩ (.int .i64 (s + p * y))) w.heap.size (fun _ => 0) ∧ BoxN (W.setCell ⟨w.heap.size + 1, k, none⟩ (.int .i64 (s + p * y))) (w.heap.size + 1) (totK V t i (k + 1)) ∧ w.grownBy (W.setCell ⟨w.heap.size + 1, k, none⟩ (.int .i64 (s + p * y))) none ∧ w.heap.size + 1 + 1 ≤ (W.setCell ⟨w.heap.size + 1, k, none⟩ (.int .i64 (s + p * y))).heap.size) := fun W hW => by
            refine ⟨(HK.out.1.kept hW).far (grown_set _ _ _) (by show w.heap.size ≠ w.heap.size + 1; omega), ((HK.out.2.1.kept hW).set hlk (s + p * y)).congr fun j hj => ?_, grown_new (grown_trans HK.out.2.2.1 hW) (grown_set _ _ _) (by show w.heap.size ≤ w.heap.size + 1; omega), ?_⟩
            · rw [totK_step, hs, HXY.out.1, hpp, HXY.out.2.1]
            · have h1 := HK.out.2.2.2
              have h2 := hW.size
              have h3 : (W.setCell ⟨w.heap.size + 1, k, none⟩ (.int .i64 (s + p * y))).heap.size = W.heap.size := by simp
              omega
          subst ha2
          clear hc' hidx hs hpp hp hy ha hbd eK
          go_wp2_with fail
          go_region
          all_goals
            have HN2 : Hid (_) := HN.out _ (grown_drew (grown_refl wk none))
            clear q1 q2 q3 w1 w2 hidx2 HN
            go_wp2_with fail
            go_roundw
            case rel => exact ⟨k + 1, by go_num, by omega, HN2.out⟩
            case measure => simp [intOf]; omega
        · have ko : ¬ (k : Int) < 13 := by omega
          have ek : k = 13 := by omega
          subst ek
          have HN2 : Hid (BoxN wk (w.heap.size + 1) (totF V t (i + 1))) := HK.out.2.1.congr fun j hj => totK_end V t i hj
          go_wp2_with fail
          go_roundw
          case rel => exact ⟨i + 1, by go_num, by omega, HK.out.1, HN2.out, HK.out.2.2⟩
          case measure => simp [intOf]; omega
    · have io : ¬ (i : Int) < (n : Int) := by omega
      have ei : i = n := by omega
      have HB2 : Hid (BoxN wi (w.heap.size + 1) (totF V t n)) := ei ▸ HB.out.2.1
      obtain ⟨c0, c1, c2, c3, c4, c5, c6, c7, c8, c9, c10, c11, c12⟩ := HB2.out.get
      clear ei
      go_wp2_with fail
      clear c0 c1 c2 c3 c4 c5 c6 c7 c8 c9 c10 c11 c12
      refine (HC.out wi).mono ?_
      rintro E w5 ⟨rfl, hg5⟩
      have HZ : Hid (BoxN w5 w.heap.size (fun _ => 0)) := HB.out.1.kept hg5
      obtain ⟨d0, d1, d2, d3, d4, d5, d6, d7, d8, d9, d10, d11, d12⟩ := HZ.out.get
      have fz := HZ.out.fz
      obtain ⟨W9, hW9, g9, b9⟩ := boxN_store HZ.out (ptF X)
      have HW9 : Hid (W9 = _) := hW9
      have F : Hid (Po (.returned (nmV (ptF X))) W9) := by
        show Po _ _
        rw [HPo.out]
        exact ⟨rfl, grown_new (grown_trans HB.out.2.2.1 hg5) g9 (Nat.le_refl _)⟩
      obtain ⟨e0, e1, e2, e3, e4, e5, e6, e7, e8, e9, e10, e11, e12⟩ := b9.get
      have f0 := fz 0
      have f1 := fz 1
      have f2 := fz 2
      have f3 := fz 3
      have f4 := fz 4
      have f5 := fz 5
      have f6 := fz 6
      have f7 := fz 7
      have f8 := fz 8
      have f9 := fz 9
      have f10 := fz 10
      have f11 := fz 11
      have f12 := fz 12
      clear hW9 g9 b9 fz hg5
      go_wp2_with fail
      rw [← HW9.out]
      exact bodyPost_ret (v := nmV (ptF X)) (by simp [results, Tryd.results28, go_sem, e0, e1, e2, e3, e4, e5, e6, e7, e8, e9, e10, e11, e12]) rfl F.out
end Go.Proofs.YtjinibofbpgfjaaDoor
