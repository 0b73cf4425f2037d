/- The reference's by: the states that some states lead to by a letter. -/
import Derived.Test.YtaangdomdeklhaaURe
import Derived.Test.YtaangdomdeklhaaUSem
namespace Go.Proofs.Ytaangdomdeklhaa
open Go.RowKit
set_option linter.unusedVariables false

/-- A row of truths lies there: a set. -/
def SetAt9 (w : World) (g n s : Nat) : Prop := ∀ i, i < n → w.cell? ⟨g, i, none⟩ = some (.bool (s.testBit i))
theorem SetAt9.grown {w w' : World} {g n s : Nat} (h : SetAt9 w g n s) (hg : w.grownBy w' none) : SetAt9 w' g n s := fun i hi => hg.cell (h i hi) (by simp)
theorem BsetAt.at9 {B : Nat} {w : World} {g n s : Nat} {its : List Item} (h : BsetAt B w g n s its) : SetAt9 w g n s := fun i hi => h.cell hi

/-- What by answers. -/
def ByPost (n s : Nat) (w : World) (E : Ending) (w' : World) : Prop := ∃ g, E = .returned (.slice (some ⟨g, 0, none⟩) n n) ∧ BsetAt w.heap.size w' g n s [] ∧ w.grownBy w' none

set_option maxHeartbeats 3200000 in
set_option maxRecDepth 100000 in
theorem byR_any (x : Aut) (l nS : Nat) (hL : x.L = l) (hN : x.N = nS) (hG : GoodA x) (a b e : Option Addr) (c d f gf cf s lt : Nat) (w : World) (h : AutAt w x a b e) (hs : SetAt9 w gf nS s) (hlt : lt < l) :
    Calls Try.prog 32 #[autV l nS a x.S.length c b x.T.length d e x.F.length f, .slice (some ⟨gf, 0, none⟩) nS cf, .int .i64 (lt : Nat)] w (ByPost nS (dset x.T s lt) w) := by
  have hn3 : nS ≤ 300 := by have := hG.n3; omega
  have hmt := hG.t4
  have HT : Hid (InT x.T l nS) := hL ▸ hN ▸ hG.t
  have HStp : Hid (∀ W, w.grownBy W none → StepsAt W b x.T) := fun W hW => h.steps.grown hW
  have HSt : Hid (∀ W, w.grownBy W none → SetAt9 W gf nS s) := fun W hW => hs.grown hW
  clear h hG hL hN hs
  obtain ⟨L, N, S, T, F⟩ := x
  simp only at *
  generalize S.length = mS at *
  generalize F.length = mF at *
  obtain ⟨W1, hW1, g1, s1, bx1⟩ := boxA_new w l nS a mS c b T.length d e mF f
  have HW1 : Hid (W1 = _) := hW1
  have G1 : Hid (w.grownBy W1 none) := g1
  have HS1 : Hid (w.heap.size ≤ W1.heap.size) := by show _ ≤ _; omega
  have BX : Hid (∀ W', W1.grownBy W' none → W'.cell? ⟨w.heap.size, 0, none⟩ = some (.int .i64 l) ∧ W'.cell? ⟨w.heap.size, 1, none⟩ = some (.int .i64 nS) ∧ W'.cell? ⟨w.heap.size, 2, none⟩ = some (.slice a mS c) ∧ W'.cell? ⟨w.heap.size, 3, none⟩ = some (.slice b T.length d) ∧ W'.cell? ⟨w.heap.size, 4, none⟩ = some (.slice e mF f)) := bx1
  have hmk := make_bools W1 nS (by omega)
  obtain ⟨W2, hW2⟩ : ∃ W2, W2 = W1.alloc (.cells (Array.replicate nS (Value.bool false)) 4) := ⟨_, rfl⟩
  have HW2 : Hid (W2 = W1.alloc (.cells (Array.replicate nS (Value.bool false)) 4)) := hW2
  have A2 : Hid (BsetAt W1.heap.size W2 (w.heap.size + 1) nS 0 []) := by
    have := BsetAt.new (Owns.no W1.heap.size W1) (Nat.le_refl _) (n := nS) (by omega)
    rw [← hW2] at this
    rw [← s1]
    exact this
  have G2 : Hid (W1.grownBy W2 none) := by rw [hW2]; exact grown_alloc _ _
  rw [s1, hW1] at hmk
  clear g1 s1 hW2
  obtain ⟨x0, x1, x2, x3, x4⟩ := BX.out W1 (grown_refl _ _)
  rw [hW1] at x0 x1 x2 x3 x4
  clear bx1 hW1
  go_enter Try.func32, Try.ntmps32
  go_wp2_with fail
  rw [← HW1.out, ← HW2.out]
  clear hmk x0 x1 x2 x3 x4 HW2
  generalize w.heap.size + 1 = gx at *
  go_loopw [8] (fun v wr => ∃ (j y : Nat), j ≤ T.length ∧ v = .int .i64 j ∧ y = orIf (setP s lt) (T.take j) ∧ BsetAt W1.heap.size wr gx nS y [] ∧ W1.grownBy wr none) (fun v _ => T.length - (intOf v).toNat)
  case atStart => exact ⟨0, 0, by omega, rfl, rfl, A2.out, G2.out⟩
  case round =>
    clear A2 G2
    rename World => wz
    obtain ⟨j, y, hj, rfl, hy, hA, hg⟩ := hrel
    have A5 : Hid (BsetAt W1.heap.size wz gx nS y []) := hA
    have G5 : Hid (W1.grownBy wz none) := hg
    have HY : Hid (y = orIf (setP s lt) (T.take j)) := hy
    obtain ⟨x0, x1, x2, x3, x4⟩ := BX.out wz hg
    clear hy hA hg
    by_cases hjl : j < T.length
    · have hji : (j : Int) < (T.length : Int) := by omega
      obtain ⟨bb, off, hab, hc⟩ := (HStp.out wz (grown_trans G1.out G5.out)).at hjl
      obtain ⟨y0, y1, y2⟩ := hc j hjl
      rw [hab] at x3
      obtain ⟨⟨i1, i2⟩, ⟨i3, i4⟩, ⟨i5, i6⟩⟩ := HT.out j hjl
      have HO := orIf_snoc (p := setP s lt) hjl
      rw [← HY.out] at HO
      have HO2 : Hid _ := HO
      obtain ⟨xx, hxx⟩ : ∃ xx, T.getD j (0, 0, 0) = xx := ⟨_, rfl⟩
      rw [hxx] at y0 y1 y2 i1 i2 i3 i4 i5 i6 HO2
      clear hxx hc hab HO
      obtain ⟨ff, ll, tt⟩ := xx
      simp only at y0 y1 y2 i1 i2 i3 i4 i5 i6
      obtain ⟨fn, rfl⟩ : ∃ n : Nat, ff = n := ⟨ff.toNat, by omega⟩
      obtain ⟨ln, rfl⟩ : ∃ n : Nat, ll = n := ⟨ll.toNat, by omega⟩
      obtain ⟨tn, rfl⟩ : ∃ n : Nat, tt = n := ⟨tt.toNat, by omega⟩
      have hfn : fn < nS := by omega
      have htn : tn < nS := by omega
      obtain ⟨W6, hW6⟩ : ∃ W6, W6 = wz.alloc (.cells #[.int .i64 fn, .int .i64 ln, .int .i64 tn] 53) := ⟨_, rfl⟩
      have HW6 : Hid (W6 = wz.alloc (.cells #[.int .i64 fn, .int .i64 ln, .int .i64 tn] 53)) := hW6
      have hb6 := heap_alloc_new wz (.cells #[.int .i64 fn, .int .i64 ln, .int .i64 tn] 53)
      rw [← hW6] at hb6
      have G6 : Hid (W1.grownBy W6 none) := by rw [hW6]; exact grown_trans G5.out (grown_alloc _ _)
      have A6 : Hid (BsetAt W1.heap.size W6 gx nS y []) := by rw [hW6]; exact A5.out.kept (grown_alloc _ _)
      have e0 : W6.cell? ⟨wz.heap.size, 0, none⟩ = some (.int .i64 fn) := by rw [cell_of_row _ _ 0 _ _ (0, 0) hb6]; rfl
      have e1 : W6.cell? ⟨wz.heap.size, 1, none⟩ = some (.int .i64 ln) := by rw [cell_of_row _ _ 1 _ _ (0, 0) hb6]; rfl
      have e2 : W6.cell? ⟨wz.heap.size, 2, none⟩ = some (.int .i64 tn) := by rw [cell_of_row _ _ 2 _ _ (0, 0) hb6]; rfl
      have hnow : W6.cell? ⟨gf, fn, none⟩ = some (.bool (s.testBit fn)) := HSt.out W6 (grown_trans G1.out G6.out) fn hfn
      have hnx := A6.out.cell htn
      have hnz := A6.out.fz tn
      have A7 : Hid (BsetAt W1.heap.size ((W6.setCell ⟨gx, tn, none⟩ (.bool true))) gx nS (y ||| 2 ^ tn) []) := A6.out.put htn
      have G7 : Hid (W1.grownBy (W6.setCell ⟨gx, tn, none⟩ (.bool true)) none) := grown_new G6.out (grown_set _ _ _) A6.out.own.ge.1
      have HSP : Hid (setP s lt ((fn : Int), (ln : Int), (tn : Int)) = (decide (ln = lt) && s.testBit fn)) := by show _ = _; simp [setP]
      clear hb6 x0 x1 x2 x4
      rw [hW6] at e0 e1 e2 hnow hnx hnz
      clear hW6
      by_cases hll : ln = lt
      · have hle : ((ln : Int) == (lt : Int)) = true := by simp [hll]
        cases hbit : s.testBit fn with
        | true =>
          have HO3 : Hid (orIf (setP s lt) (T.take (j + 1)) = y ||| 2 ^ tn) := by
            show _ = _
            rw [HO2.out, if_pos (by rw [HSP.out, hll, hbit]; simp)]
            simp
          rw [hbit] at hnow
          subst hll
          clear hbit HSP HO2
          go_wp2_with fail
          rw [← HW6.out]
          go_roundw
          case rel => exact ⟨j + 1, _, by omega, by go_num, HO3.out.symm, A7.out, G7.out⟩
          case measure => simp [intOf]; omega
        | false =>
          have HO3 : Hid (orIf (setP s lt) (T.take (j + 1)) = y) := by
            show _ = _
            rw [HO2.out, if_neg (by rw [HSP.out, hbit]; simp)]
          rw [hbit] at hnow
          subst hll
          clear hbit HSP HO2 A7 G7
          go_wp2_with fail
          rw [← HW6.out]
          go_roundw
          case rel => exact ⟨j + 1, y, by omega, by go_num, HO3.out.symm, A6.out, G6.out⟩
          case measure => simp [intOf]; omega
      · have hle : ((ln : Int) == (lt : Int)) = false := by simp; omega
        have HO3 : Hid (orIf (setP s lt) (T.take (j + 1)) = y) := by
          show _ = _
          rw [HO2.out, if_neg (by rw [HSP.out]; simp [hll])]
        clear HSP HO2 A7 G7
        go_wp2_with fail
        rw [← HW6.out]
        go_roundw
        case rel => exact ⟨j + 1, y, by omega, by go_num, HO3.out.symm, A6.out, G6.out⟩
        case measure => simp [intOf]; omega
    · have hji : ¬ (j : Int) < (T.length : Int) := by omega
      have HYe : Hid (dset T s lt = y) := by show _ = _; rw [HY.out, List.take_of_length_le (by omega)]; rfl
      clear HY
      go_wp2_with fail
      go_ret
      refine ⟨gx, rfl, ?_, grown_trans G1.out G5.out⟩
      rw [HYe.out]
      exact ⟨A5.out.own.base HS1.out⟩

end Go.Proofs.Ytaangdomdeklhaa
