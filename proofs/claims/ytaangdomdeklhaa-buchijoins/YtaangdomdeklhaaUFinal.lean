/- buchi.finals: which states are final, as a row of truths. -/
import Derived.Test.YtaangdomdeklhaaURoundD
import Derived.Test.YtaangdomdeklhaaUCheck2
namespace Go.Proofs.Ytaangdomdeklhaa
open Go.RowKit
set_option linter.unusedVariables false

/-- What finals answers. -/
def FinPost (n s : Nat) (w : World) (E : Ending) (w' : World) : Prop :=
  ∃ g, E = .returned (.slice (some ⟨g, 0, none⟩) n n) ∧ Owns w.heap.size w' [bIt g n n s] ∧ w.grownBy w' none

set_option maxHeartbeats 3200000 in
set_option maxRecDepth 100000 in
theorem finals_any (x : Aut) (l nS : Nat) (hN : x.N = nS) (hG : GoodA x) (a b e : Option Addr) (c d f : Nat) (w : World) (h : AutAt w x a b e) :
    Calls Try.prog 53 #[autV l nS a x.S.length c b x.T.length d e x.F.length f] w (FinPost nS (setOf x.F) w) := by
  have hn3 : nS ≤ 300 := by have := hG.n3; omega
  have HFi : Hid (InR x.F nS) := hN ▸ hG.f
  have HFin : Hid (∀ W, w.grownBy W none → Ints W e x.F) := fun W hW => h.final.grown hW
  have hmf := h.mf
  unfold maxLen at hmf
  clear h hG hN
  obtain ⟨L, N, S, T, F⟩ := x
  simp only at *
  generalize T.length = mT at *
  generalize S.length = mS at *
  obtain ⟨W1, hW1, g1, s1, bx1⟩ := boxA_new w l nS a mS c b mT d e F.length f
  have G1 : Hid (w.grownBy W1 none) := g1
  have BX : Hid (∀ W', W1.grownBy W' none → W'.cell? ⟨w.heap.size, 0, none⟩ = some (.int .i64 l) ∧ W'.cell? ⟨w.heap.size, 1, none⟩ = some (.int .i64 nS) ∧ W'.cell? ⟨w.heap.size, 2, none⟩ = some (.slice a mS c) ∧ W'.cell? ⟨w.heap.size, 3, none⟩ = some (.slice b mT d) ∧ W'.cell? ⟨w.heap.size, 4, none⟩ = some (.slice e F.length f)) := bx1
  obtain ⟨W2, hmk, ho2, g2, s2⟩ := bools_new (Owns.no W1.heap.size W1) (Nat.le_refl _) nS (by omega)
  have G2 : Hid (W1.grownBy W2 none) := g2
  obtain ⟨x0, x1, x2, x3, x4⟩ := BX.out W1 (grown_refl _ _)
  obtain ⟨y0, y1, y2, y3, y4⟩ := BX.out W2 g2
  have O2 : Hid (Owns W1.heap.size W2 [bIt (w.heap.size + 1) nS nS 0]) := by show Owns _ _ _; rw [← s1]; exact ho2
  have HS1 : Hid (W1.heap.size = w.heap.size + 1) := s1
  rw [s1] at hmk
  rw [hW1] at hmk x0 x1 x2 x3 x4
  clear hW1 g1 s1 bx1 ho2 g2 s2
  go_enter Try.func53, Try.ntmps53
  go_wp2_with fail
  clear hmk x0 x1 x2 x3 x4 y0 y1 y2 y3 y4
  generalize w.heap.size + 1 = gf0 at *
  go_loopw [12] (fun v wr => ∃ k s : Nat, k ≤ F.length ∧ v = .int .i64 k ∧ s = setOf (F.take k) ∧ Owns W1.heap.size wr [bIt gf0 nS nS s] ∧ W1.grownBy wr none) (fun v _ => F.length - (intOf v).toNat)
  case atStart => exact ⟨0, 0, by omega, rfl, rfl, O2.out, G2.out⟩
  case round =>
    clear O2 G2
    rename World => wr
    obtain ⟨k, s, hk, rfl, hs, ho, hg⟩ := hrel
    have O : Hid (Owns W1.heap.size wr [bIt gf0 nS nS s]) := ho
    have G : Hid (W1.grownBy wr none) := hg
    have HS : Hid (s = setOf (F.take k)) := hs
    clear hs ho hg
    by_cases hlt : k < F.length
    · have hki : (k : Int) < (F.length : Int) := by omega
      obtain ⟨bb, off, rfl, hc⟩ := (HFin.out wr (grown_trans G1.out G.out)).at hlt
      have hck := hc k hlt
      have hin := HFi.out k hlt
      obtain ⟨q, hq⟩ : ∃ q : Nat, F.getD k 0 = q := ⟨(F.getD k 0).toNat, by omega⟩
      have HS2 : Hid (s ||| 2 ^ q = setOf (F.take (k + 1))) := by show _ = _; rw [setOf_snoc hlt, hq, HS.out]; simp
      rw [hq] at hck hin
      have hqn : q < nS := by omega
      have hqi : (q : Int) < (nS : Int) := by omega
      have hcl := own_bit O.out hqn
      have hfz := O.out.fz q
      have O3 : Hid (Owns W1.heap.size (wr.setCell ⟨gf0, q, none⟩ (.bool true)) [bIt gf0 nS nS (s ||| 2 ^ q)]) := own_put O.out hqn (by rw [Nat.testBit_or]; simp) (fun j hj => by
        rw [Nat.testBit_or, Nat.testBit_two_pow]
        have : decide (q = j) = false := by simp; omega
        rw [this, Bool.or_false])
      have G3 : Hid (W1.grownBy (wr.setCell ⟨gf0, q, none⟩ (.bool true)) none) := grown_new G.out (grown_set _ _ _) O.out.ge.1
      clear hc hq hin
      go_wp2_with fail
      go_roundw
      case rel => exact ⟨k + 1, _, by omega, by go_num, HS2.out, O3.out, G3.out⟩
      case measure => simp [intOf]; omega
    · have hki : ¬ (k : Int) < (F.length : Int) := by omega
      have O4 : Hid (Owns w.heap.size wr [bIt gf0 nS nS (setOf F)]) := by
        have h1 := O.out
        rw [HS.out, List.take_of_length_le (by omega)] at h1
        exact h1.base G1.out.size
      have G4 : Hid (w.grownBy wr none) := grown_trans G1.out G.out
      clear O G HS
      go_wp2_with fail
      go_ret
      exact ⟨gf0, rfl, O4.out, G4.out⟩

end Go.Proofs.Ytaangdomdeklhaa
