/- The program's leastAgain: it tells the least mark that comes again and again. -/
import Derived.Test.YtihkfhjlfkeepaaSAlong
namespace Go.Proofs.Ytihkfhjlfkeepaa
open Go.RowKit
set_option linter.unusedVariables false

/-- Where one is when the head is behind, and the loop as often as there are states. -/
def Dfa.deep (d : Dfa) (us vs : List Int) : Nat := itN (fun q => d.go q vs) d.R.length (d.go d.S.toNat us)
/-- The least mark that comes again and again. -/
def AgainPost (d : Dfa) (us vs : List Int) (w : World) (e : Ending) (w' : World) : Prop :=
  ∃ (y : Int) (q : Nat), e = .returned (.int .i64 y) ∧ 1 ≤ q ∧ itN (fun q => d.go q vs) q (d.deep us vs) = d.deep us vs ∧ IsLow 9 (SeenR d (d.deep us vs) vs q 0) y ∧ w.grownBy w' none

theorem letters_mem {L : Int} {z : List Int} (h : ∀ k, k < z.length → 0 ≤ z.getD k 0 ∧ z.getD k 0 < L) : ∀ x ∈ z, 0 ≤ x ∧ x < L := fun x hx => by
  obtain ⟨i, hi, rfl⟩ := List.getElem_of_mem hx
  have := h i hi
  rwa [getD_lt hi] at this

set_option maxHeartbeats 1600000 in
set_option maxRecDepth 100000 in
theorem leastAgain_any (N K : Nat) (hN : N ≤ 100000) (L S : Int) (R : List (List Int)) (M : List Int) (a a' ah al : Option Addr) (c c' ch cl : Nat) (us vs : List Int) (w : World) (h : DetAt w ⟨L, S, R, M⟩ a a') (hG : GoodN N K ⟨L, S, R, M⟩)
    (hu : Ints w ah us) (hum : us.length ≤ maxLen) (hul : ∀ k, k < us.length → 0 ≤ us.getD k 0 ∧ us.getD k 0 < L) (hv : Ints w al vs) (hvm : vs.length ≤ maxLen) (hvl : ∀ k, k < vs.length → 0 ≤ vs.getD k 0 ∧ vs.getD k 0 < L) :
    Calls Try.prog 12 #[.agg #[.int .i64 L, .int .i64 S, .slice a R.length c, .slice a' M.length c'], lasV ah us.length ch al vs.length cl] w (AgainPost ⟨L, S, R, M⟩ us vs w) := by
  have hS : 0 ≤ S ∧ S < R.length := hG.s
  have hn3 : R.length ≤ 100000 := Nat.le_trans hG.n3 hN
  have GD : Hid (GoodN N K ⟨L, S, R, M⟩) := hG
  have HA1 : Hid (∀ W, w.grownBy W none → Calls Try.prog 18 #[.agg #[.int .i64 L, .int .i64 S, .slice a R.length c, .slice a' M.length c'], .int .i64 S, .slice ah us.length ch] W (AlongPost ⟨L, S, R, M⟩ S.toNat us W)) := fun W hW => by
    have := along_any N K hN L S S.toNat R M a a' ah c c' ch us W (h.grown hW) hG (hu.grown hW) hum hul (by omega)
    rwa [Int.toNat_of_nonneg hS.1] at this
  have HA2 : Hid (∀ (q : Nat) W, q < R.length → w.grownBy W none → Calls Try.prog 18 #[.agg #[.int .i64 L, .int .i64 S, .slice a R.length c, .slice a' M.length c'], .int .i64 q, .slice al vs.length cl] W (AlongPost ⟨L, S, R, M⟩ q vs W)) := fun q W hq hW => along_any N K hN L S q R M a a' al c c' cl vs W (h.grown hW) hG (hv.grown hW) hvm hvl hq
  have HF : Hid (∀ q, q < R.length → Dfa.go ⟨L, S, R, M⟩ q vs < R.length) := fun q hq => hG.go_lt hq vs (letters_mem hvl)
  have h0 : Dfa.go ⟨L, S, R, M⟩ S.toNat us < R.length := hG.go_lt (by simp only; omega) us (letters_mem hul)
  unfold maxLen at hum hvm
  obtain ⟨P, hP⟩ : ∃ P, P = AgainPost ⟨L, S, R, M⟩ us vs w := ⟨_, rfl⟩
  rw [← hP]
  have HP : Hid (P = AgainPost ⟨L, S, R, M⟩ us vs w) := hP
  clear hP h hu hv hG hul hvl
  obtain ⟨W1, hW1, g1, bx1, bl1⟩ := boxesD w L S a R.length c a' M.length c' ah us.length ch al vs.length cl
  have HW1 : Hid (W1 = _) := hW1
  have G1 : Hid (w.grownBy W1 none) := g1
  have Ba : Hid (∀ W', W1.grownBy W' none → W'.cell? ⟨w.heap.size, 0, none⟩ = some (.int .i64 L) ∧ W'.cell? ⟨w.heap.size, 1, none⟩ = some (.int .i64 S) ∧ W'.cell? ⟨w.heap.size, 2, none⟩ = some (.slice a R.length c) ∧ W'.cell? ⟨w.heap.size, 3, none⟩ = some (.slice a' M.length c')) := bx1
  have Bl : Hid (∀ W', W1.grownBy W' none → W'.cell? ⟨w.heap.size + 1, 0, none⟩ = some (.slice ah us.length ch) ∧ W'.cell? ⟨w.heap.size + 1, 1, none⟩ = some (.slice al vs.length cl)) := bl1
  obtain ⟨a0, a1, a2, a3⟩ := bx1 W1 (grown_refl _ _)
  obtain ⟨b0, b1⟩ := bl1 W1 (grown_refl _ _)
  rw [hW1] at a0 a1 a2 a3 b0 b1
  clear hW1 g1 bx1 bl1
  go_enter Try.func12, Try.ntmps12
  go_wp2_with fail
  rw [← HW1.out]
  clear a0 a1 a2 a3 b0 b1
  refine (HA1.out _ G1.out).mono ?_
  rintro E w2 ⟨y0, rfl, hy0, hg2⟩
  have G2 : Hid (W1.grownBy w2 none) := hg2
  clear hg2 hy0
  obtain ⟨a0, a1, a2, a3⟩ := Ba.out w2 G2.out
  obtain ⟨b0, b1⟩ := Bl.out w2 G2.out
  obtain ⟨s0, hs0⟩ : ∃ s0, Dfa.go ⟨L, S, R, M⟩ S.toNat us = s0 := ⟨_, rfl⟩
  rw [hs0] at h0 ⊢
  have HS0 : Hid (Dfa.go ⟨L, S, R, M⟩ S.toNat us = s0) := hs0
  clear hs0
  go_wp2_with fail
  clear a0 a1 a2 a3 b0 b1
  obtain ⟨f, hf⟩ : ∃ f : Nat → Nat, f = fun q => Dfa.go ⟨L, S, R, M⟩ q vs := ⟨_, rfl⟩
  have HFe : Hid (f = fun q => Dfa.go ⟨L, S, R, M⟩ q vs) := hf
  have HFl : Hid (∀ q, q < R.length → f q < R.length) := fun q hq => by rw [hf]; exact HF.out q hq
  have HFg : Hid (∀ q, Dfa.go ⟨L, S, R, M⟩ q vs = f q) := fun q => by rw [hf]
  clear hf HF
  go_loopw [5, 23] (fun v i wr => ∃ k : Nat, k ≤ R.length ∧ i = .int .i64 k ∧ v = .int .i64 ((itN f k s0 : Nat) : Int) ∧ W1.grownBy wr none) (fun _ i _ => R.length - (intOf i).toNat)
  case atStart => exact ⟨0, Nat.zero_le _, rfl, rfl, G2.out⟩
  case round =>
    obtain ⟨k, hk, rfl, rfl, hg⟩ := hrel
    have G : Hid (W1.grownBy wr none) := hg
    obtain ⟨a0, a1, a2, a3⟩ := Ba.out wr hg
    obtain ⟨b0, b1⟩ := Bl.out wr hg
    have hsl : itN f k s0 < R.length := itN_lt HFl.out h0 k
    have HE : Hid (itN f (k + 1) s0 = f (itN f k s0)) := rfl
    obtain ⟨s, hs⟩ : ∃ s, itN f k s0 = s := ⟨_, rfl⟩
    have HS : Hid (itN f k s0 = s) := hs
    rw [hs] at hsl ⊢
    clear hs hg
    by_cases hlt : k < R.length
    · go_wp2_with fail
      refine (HA2.out s _ hsl (grown_trans G1.out G.out)).mono ?_
      rintro E w3 ⟨y3, rfl, hy3, hg3⟩
      have G3 : Hid (W1.grownBy w3 none) := grown_trans G.out hg3
      clear hg3 hy3 a0 a1 a2 a3 b0 b1
      rw [HFg.out]
      go_wp2_with fail
      go_roundw
      case rel => exact ⟨k + 1, by omega, by go_num, by rw [HE.out, HS.out], G3.out⟩
      case measure => simp [intOf]; omega
    · have hkn : k = R.length := by omega
      subst hkn
      have HD : Hid (Dfa.deep ⟨L, S, R, M⟩ us vs = s) := by
        show Dfa.deep ⟨L, S, R, M⟩ us vs = s
        unfold Dfa.deep
        simp only
        rw [HS0.out, ← HFe.out]
        exact HS.out
      obtain ⟨p, hp1, hpn, hp⟩ := round_of HFl.out h0
      rw [HS.out] at hp
      have HPr : Hid (1 ≤ p ∧ p ≤ R.length ∧ itN f p s = s) := ⟨hp1, hpn, hp⟩
      clear hp1 hpn hp HE
      go_wp2_with fail
      clear a0 a1 a2 a3 b0 b1
      refine (HA2.out s _ hsl (grown_trans G1.out G.out)).mono ?_
      rintro E w3 ⟨y3, rfl, hy3, hg3⟩
      have G3 : Hid (W1.grownBy w3 none) := grown_trans G.out hg3
      have HY3 : Hid (IsLow 9 (Seen ⟨L, S, R, M⟩ s vs) y3) := hy3
      clear hg3 hy3
      rw [HFg.out]
      go_wp2_with fail
      go_loopw [7, 8] (fun v u wr => ∃ (k : Nat) (y : Int), 1 ≤ k ∧ v = .int .i64 ((itN f k s : Nat) : Int) ∧ u = .int .i64 y ∧ IsLow 9 (SeenR ⟨L, S, R, M⟩ s vs k 0) y ∧ W1.grownBy wr none) (fun v _ _ => dist f s R.length (intOf v).toNat)
      case atStart =>
        refine ⟨1, y3, Nat.le_refl _, rfl, rfl, HY3.out.congr (fun m => ?_), G3.out⟩
        rw [seenR_join]
        exact ⟨fun h => h.resolve_left (seenR_none _ _ _ _), .inr⟩
      case round =>
        obtain ⟨k, y, hk, rfl, rfl, hy, hg⟩ := hrel
        have G4 : Hid (W1.grownBy wr none) := hg
        have HY : Hid (IsLow 9 (SeenR ⟨L, S, R, M⟩ s vs k 0) y) := hy
        obtain ⟨a0, a1, a2, a3⟩ := Ba.out wr hg
        obtain ⟨b0, b1⟩ := Bl.out wr hg
        have hql : itN f k s < R.length := itN_lt HFl.out hsl k
        obtain ⟨j, hj, hb⟩ := back_of HPr.out.1 HPr.out.2.2 k
        have HB : Hid (j ≤ R.length ∧ itN f j (itN f k s) = s) := ⟨by have := HPr.out.2.1; omega, hb⟩
        have HE : Hid (itN f (k + 1) s = f (itN f k s)) := rfl
        obtain ⟨q, hq⟩ : ∃ q, itN f k s = q := ⟨_, rfl⟩
        have HQ : Hid (itN f k s = q) := hq
        rw [hq] at hql HB ⊢
        clear hq hg hy hj hb
        by_cases hqs : q = s
        · have hqs' : ((q : Int) != (s : Int)) = false := by simp; omega
          go_wp2_with fail
          rw [HP.out]
          refine ⟨y, k, rfl, hk, ?_, ?_, grown_trans G1.out G4.out⟩
          · rw [HD.out, ← HFe.out, HQ.out]; exact hqs
          · rw [HD.out]; exact HY.out
        · have hqs' : ((q : Int) != (s : Int)) = true := by simp; omega
          go_wp2_with fail
          refine (HA2.out q _ hql (grown_trans G1.out G4.out)).mono ?_
          rintro E w5 ⟨y5, rfl, hy5, hg5⟩
          have G5 : Hid (W1.grownBy w5 none) := grown_trans G4.out hg5
          have HJ : Hid (IsLow 9 (SeenR ⟨L, S, R, M⟩ s vs (k + 1) 0) (if y5 < y then y5 else y)) := HY.out.join hy5 (fun m => by rw [seenR_join, ← HFe.out, HQ.out])
          clear hg5 hy5 a0 a1 a2 a3 b0 b1
          rw [HFg.out]
          have HDl : Hid (dist f s R.length (f q) < dist f s R.length q) := dist_less HB.out.1 HB.out.2 hqs
          by_cases hyy : y5 < y
          · rw [if_pos hyy] at HJ
            go_wp2_with fail
            go_roundw
            case rel => exact ⟨k + 1, y5, by omega, by rw [HE.out, HQ.out], rfl, HJ.out, G5.out⟩
            case measure => simp only [intOf, Int.toNat_natCast]; exact HDl.out
          · rw [if_neg hyy] at HJ
            go_wp2_with fail
            go_roundw
            case rel => exact ⟨k + 1, y, by omega, by rw [HE.out, HQ.out], rfl, HJ.out, G5.out⟩
            case measure => simp only [intOf, Int.toNat_natCast]; exact HDl.out

end Go.Proofs.Ytihkfhjlfkeepaa
