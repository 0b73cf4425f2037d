/- The reference's Accepts of automata with marks. -/
import Derived.Test.YtihkfhjlfkeepaaSLeast
namespace Go.Proofs.Ytihkfhjlfkeepaa
open Go.RowKit
set_option linter.unusedVariables false

theorem IsLow.range {top y : Int} {P : Int → Prop} (h : IsLow top P y) (h0 : 0 ≤ top) (hP : ∀ m, P m → 0 ≤ m) : 0 ≤ y ∧ y ≤ top := ⟨(h 0).2 ⟨h0, hP⟩, ((h y).1 (Int.le_refl _)).1⟩
theorem go_all {N K : Nat} {d : Dfa} (hG : GoodN N K d) {z : List Int} (hz : ∀ x ∈ z, 0 ≤ x ∧ x < d.L) : ∀ s, s < d.R.length → d.go s z < d.R.length := fun s hs => hG.go_lt hs z hz
theorem seenR_nonneg {N K : Nat} {d : Dfa} (hG : GoodN N K d) {z : List Int} (hz : ∀ x ∈ z, 0 ≤ x ∧ x < d.L) {s : Nat} (hs : s < d.R.length) {a b : Nat} (hb : b ≤ z.length) {m : Int} (h : SeenR d s z a b m) : 0 ≤ m := by
  have key : ∀ q k, q < d.R.length → 0 ≤ d.mAt (d.go q (z.take k)) := fun q k hq => by
    have h1 : d.go q (z.take k) < d.R.length := hG.go_lt hq _ (fun x hx => hz x (List.mem_of_mem_take hx))
    exact (hG.m _ (by rw [hG.ml]; exact h1)).1
  have hit : ∀ i, itN (fun q => d.go q z) i s < d.R.length := fun i => itN_lt (fun q hq => go_all hG hz q hq) hs i
  rcases h with ⟨i, hi, k, hk, rfl⟩ | ⟨k, hk, rfl⟩
  · exact key _ _ (hit i)
  · exact key _ _ (hit a)
def evenB (y : Int) : Bool := decide (y % 2 = 0)
/-- What the reference tells. -/
def EvenPost (d : Dfa) (us vs : List Int) (w : World) (e : Ending) (w' : World) : Prop :=
  ∃ y : Int, e = .returned (.bool (evenB y)) ∧ IsLow 10 (SeenR d (d.deep us vs) vs d.R.length 0) y ∧ w.grownBy w' none
theorem ten {y : Int} (h : 0 ≤ y ∧ y ≤ 10) : y = 0 ∨ y = 1 ∨ y = 2 ∨ y = 3 ∨ y = 4 ∨ y = 5 ∨ y = 6 ∨ y = 7 ∨ y = 8 ∨ y = 9 ∨ y = 10 := by omega

set_option maxHeartbeats 1600000 in
set_option maxRecDepth 100000 in
theorem accepts9_any (N : Nat) (hN : N ≤ 100000) (L S : Int) (R : List (List Int)) (M : List Int) (a a' ah al : Option Addr) (c c' ch cl : Nat) (us vs : List Int) (w : World) (h : DetAt w ⟨L, S, R, M⟩ a a') (hG : GoodN N 9 ⟨L, S, R, M⟩)
    (hu : Ints w ah us) (hum : us.length ≤ maxLen) (hul : ∀ k, k < us.length → 0 ≤ us.getD k 0 ∧ us.getD k 0 < L) (hv : Ints w al vs) (hvm : vs.length ≤ maxLen) (hvl : ∀ k, k < vs.length → 0 ≤ vs.getD k 0 ∧ vs.getD k 0 < L) :
    Calls Try.prog 8 #[.agg #[.int .i64 L, .int .i64 S, .slice a R.length c, .slice a' M.length c'], lasV ah us.length ch al vs.length cl] w (EvenPost ⟨L, S, R, M⟩ us vs w) := by
  have hS : 0 ≤ S ∧ S < R.length := hG.s
  have hn3 : R.length ≤ 100000 := Nat.le_trans hG.n3 hN
  have hL4 : 1 ≤ L ∧ L ≤ 4 := ⟨hG.l1, hG.l4⟩
  have GD : Hid (GoodN N 9 ⟨L, S, R, M⟩) := hG
  have H : Hid (DetAt w ⟨L, S, R, M⟩ a a') := h
  have HV : Hid (Ints w al vs) := hv
  have HVL : Hid (∀ k, k < vs.length → 0 ≤ vs.getD k 0 ∧ vs.getD k 0 < L) := hvl
  have HML : Hid (M.length = R.length) := hG.ml
  have HA1 : Hid (∀ W, w.grownBy W none → Calls Try.prog 14 #[.agg #[.int .i64 L, .int .i64 S, .slice a R.length c, .slice a' M.length c'], .int .i64 S, .slice ah us.length ch] W fun e w' => e = .returned (.int .i64 ((Dfa.go ⟨L, S, R, M⟩ S.toNat us : Nat) : Int)) ∧ W.grownBy w' none) := fun W hW => by
    have := afterN_any N 9 hN L S S.toNat R M a a' ah c c' ch us W (h.grown hW) hG (hu.grown hW) hum hul (by omega)
    rwa [Int.toNat_of_nonneg hS.1] at this
  have HA2 : Hid (∀ (q : Nat) W, q < R.length → w.grownBy W none → Calls Try.prog 14 #[.agg #[.int .i64 L, .int .i64 S, .slice a R.length c, .slice a' M.length c'], .int .i64 q, .slice al vs.length cl] W fun e w' => e = .returned (.int .i64 ((Dfa.go ⟨L, S, R, M⟩ q vs : Nat) : Int)) ∧ W.grownBy w' none) := fun q W hq hW => afterN_any N 9 hN L S q R M a a' al c c' cl vs W (h.grown hW) hG (hv.grown hW) hvm hvl hq
  have HF : Hid (∀ q, q < R.length → Dfa.go ⟨L, S, R, M⟩ q vs < R.length) := fun q hq => hG.go_lt hq vs (letters_mem hvl)
  have h0 : Dfa.go ⟨L, S, R, M⟩ S.toNat us < R.length := hG.go_lt (by simp only; omega) us (letters_mem hul)
  unfold maxLen at hum hvm
  obtain ⟨P, hP⟩ : ∃ P, P = EvenPost ⟨L, S, R, M⟩ us vs w := ⟨_, rfl⟩
  rw [← hP]
  have HP : Hid (P = EvenPost ⟨L, S, R, M⟩ us vs w) := hP
  clear hP h hu hv hG hul hvl
  obtain ⟨W1, hW1, g1, bx1, bl1⟩ := boxesD w L S a R.length c a' M.length c' ah us.length ch al vs.length cl
  have HW1 : Hid (W1 = _) := hW1
  have G1 : Hid (w.grownBy W1 none) := g1
  have Ba : Hid (∀ W', W1.grownBy W' none → W'.cell? ⟨w.heap.size, 0, none⟩ = some (.int .i64 L) ∧ W'.cell? ⟨w.heap.size, 1, none⟩ = some (.int .i64 S) ∧ W'.cell? ⟨w.heap.size, 2, none⟩ = some (.slice a R.length c) ∧ W'.cell? ⟨w.heap.size, 3, none⟩ = some (.slice a' M.length c')) := bx1
  have Bl : Hid (∀ W', W1.grownBy W' none → W'.cell? ⟨w.heap.size + 1, 0, none⟩ = some (.slice ah us.length ch) ∧ W'.cell? ⟨w.heap.size + 1, 1, none⟩ = some (.slice al vs.length cl)) := bl1
  obtain ⟨a0, a1, a2, a3⟩ := bx1 W1 (grown_refl _ _)
  obtain ⟨b0, b1⟩ := bl1 W1 (grown_refl _ _)
  rw [hW1] at a0 a1 a2 a3 b0 b1
  clear hW1 g1 bx1 bl1
  go_enter Try.func8, Try.ntmps8
  go_wp2_with fail
  rw [← HW1.out]
  clear a0 a1 a2 a3 b0 b1
  refine (HA1.out _ G1.out).mono ?_
  rintro E w2 ⟨rfl, hg2⟩
  have G2 : Hid (W1.grownBy w2 none) := hg2
  clear hg2
  obtain ⟨s0, hs0⟩ : ∃ s0, Dfa.go ⟨L, S, R, M⟩ S.toNat us = s0 := ⟨_, rfl⟩
  rw [hs0] at h0 ⊢
  have HS0 : Hid (Dfa.go ⟨L, S, R, M⟩ S.toNat us = s0) := hs0
  clear hs0
  go_wp2_with fail
  obtain ⟨f, hf⟩ : ∃ f : Nat → Nat, f = fun q => Dfa.go ⟨L, S, R, M⟩ q vs := ⟨_, rfl⟩
  have HFe : Hid (f = fun q => Dfa.go ⟨L, S, R, M⟩ q vs) := hf
  have HFl : Hid (∀ q, q < R.length → f q < R.length) := fun q hq => by rw [hf]; exact HF.out q hq
  have HFg : Hid (∀ q, Dfa.go ⟨L, S, R, M⟩ q vs = f q) := fun q => by rw [hf]
  clear hf HF
  go_loopw [5, 6] (fun v i wr => ∃ k : Nat, k ≤ R.length ∧ i = .int .i64 k ∧ v = .int .i64 ((itN f k s0 : Nat) : Int) ∧ W1.grownBy wr none) (fun _ i _ => R.length - (intOf i).toNat)
  case atStart => exact ⟨0, Nat.zero_le _, rfl, rfl, G2.out⟩
  case round =>
    obtain ⟨k, hk, rfl, rfl, hg⟩ := hrel
    have G : Hid (W1.grownBy wr none) := hg
    obtain ⟨a0, a1, a2, a3⟩ := Ba.out wr hg
    obtain ⟨b0, b1⟩ := Bl.out wr hg
    have hsl : itN f k s0 < R.length := itN_lt HFl.out h0 k
    have HE : Hid (itN f (k + 1) s0 = f (itN f k s0)) := rfl
    obtain ⟨s, hs⟩ : ∃ s, itN f k s0 = s := ⟨_, rfl⟩
    have HS : Hid (itN f k s0 = s) := hs
    rw [hs] at hsl ⊢
    clear hs hg
    by_cases hlt : k < R.length
    · go_wp2_with fail
      refine (HA2.out s _ hsl (grown_trans G1.out G.out)).mono ?_
      rintro E w3 ⟨rfl, hg3⟩
      have G3 : Hid (W1.grownBy w3 none) := grown_trans G.out hg3
      clear hg3 a0 a1 a2 a3 b0 b1
      rw [HFg.out]
      go_wp2_with fail
      go_roundw
      case rel => exact ⟨k + 1, by omega, by go_num, by rw [HE.out, HS.out], G3.out⟩
      case measure => simp [intOf]; omega
    · have hkn : k = R.length := by omega
      subst hkn
      have HD : Hid (Dfa.deep ⟨L, S, R, M⟩ us vs = s) := by
        show Dfa.deep ⟨L, S, R, M⟩ us vs = s
        unfold Dfa.deep
        simp only
        rw [HS0.out, ← HFe.out]
        exact HS.out
      clear HE
      go_wp2_with fail
      clear a0 a1 a2 a3 b0 b1
      go_loopw [5, 7, 8] (fun v u i wr => ∃ (k : Nat) (y : Int), k ≤ R.length ∧ i = .int .i64 k ∧ u = .int .i64 y ∧ v = .int .i64 ((itN f k s : Nat) : Int) ∧ IsLow 10 (SeenR ⟨L, S, R, M⟩ s vs k 0) y ∧ W1.grownBy wr none) (fun _ _ i _ => R.length - (intOf i).toNat)
      case atStart => exact ⟨0, 10, Nat.zero_le _, rfl, rfl, rfl, IsLow.start (fun m => seenR_none _ _ _ _), G.out⟩
      case round =>
        obtain ⟨i, y, hi, rfl, rfl, rfl, hy, hg⟩ := hrel
        have G4 : Hid (W1.grownBy wr none) := hg
        have HY : Hid (IsLow 10 (SeenR ⟨L, S, R, M⟩ s vs i 0) y) := hy
        obtain ⟨a0, a1, a2, a3⟩ := Ba.out wr hg
        obtain ⟨b0, b1⟩ := Bl.out wr hg
        have hql : itN f i s < R.length := itN_lt HFl.out hsl i
        have HE : Hid (itN f (i + 1) s = f (itN f i s)) := rfl
        have HF0 : Hid (itN f i s = itN (fun q => Dfa.go ⟨L, S, R, M⟩ q vs) i s) := by rw [HFe.out]; exact rfl
        obtain ⟨q, hq⟩ : ∃ q, itN f i s = q := ⟨_, rfl⟩
        have HQ : Hid (itN f i s = q) := hq
        rw [hq] at hql HF0 ⊢
        clear hq hg hy
        by_cases hlt2 : i < R.length
        · go_wp2_with fail
          clear a0 a1 a2 a3 b0 b1
          go_loopw [5, 7, 9] (fun v u j wr => ∃ (k : Nat) (y : Int), k ≤ vs.length ∧ j = .int .i64 k ∧ u = .int .i64 y ∧ v = .int .i64 ((Dfa.go ⟨L, S, R, M⟩ q (vs.take k) : Nat) : Int) ∧ IsLow 10 (SeenR ⟨L, S, R, M⟩ s vs i k) y ∧ W1.grownBy wr none) (fun _ _ j _ => vs.length - (intOf j).toNat)
          case atStart => exact ⟨0, y, Nat.zero_le _, rfl, rfl, by simp [Dfa.go], HY.out, G4.out⟩
          case round =>
            clear G4 HY
            obtain ⟨k, y, hk, rfl, rfl, rfl, hy, hg⟩ := hrel
            have HY : Hid (IsLow 10 (SeenR ⟨L, S, R, M⟩ s vs i k) y) := hy
            have G5 : Hid (W1.grownBy wr none) := hg
            have G6 : Hid (w.grownBy wr none) := grown_trans G1.out hg
            obtain ⟨a0, a1, a2, a3⟩ := Ba.out wr hg
            obtain ⟨b0, b1⟩ := Bl.out wr hg
            have hgl : Dfa.go ⟨L, S, R, M⟩ q (vs.take k) < R.length := goN_take_lt GD.out hql HVL.out k
            clear hg hy
            by_cases hlv : k < vs.length
            · obtain ⟨hx0, hx1⟩ := HVL.out k hlv
              have ht := go_take ⟨L, S, R, M⟩ q vs hlv
              obtain ⟨bz, oz, rfl, hcz⟩ := HV.out.at hlv
              have hcz' : wr.cell? ⟨bz, oz + k, none⟩ = some (.int .i64 (vs.getD k 0)) := G6.out.cell (hcz k hlv) (by simp)
              obtain ⟨b, off, bx, ox, cx, rfl, hr1, hr2⟩ := step_readsN (l := (vs.getD k 0).toNat) (H.out.grown G6.out) GD.out hgl (by omega)
              have hgl2 : Dfa.go ⟨L, S, R, M⟩ q (vs.take (k + 1)) < R.length := goN_take_lt GD.out hql HVL.out (k + 1)
              obtain ⟨bm, om, rfl, hm⟩ := mark_readsN (H.out.grown G6.out) GD.out hgl2
              have HPut : Hid (IsLow 10 (SeenR ⟨L, S, R, M⟩ s vs i (k + 1)) (if M.getD (Dfa.go ⟨L, S, R, M⟩ q (vs.take (k + 1))) 0 < y then M.getD (Dfa.go ⟨L, S, R, M⟩ q (vs.take (k + 1))) 0 else y)) := HY.out.put (fun m => by rw [seenR_succ, ← HF0.out]; exact Iff.rfl)
              have hsM : (Dfa.go ⟨L, S, R, M⟩ q (vs.take (k + 1)) : Int) < (M.length : Int) := by rw [HML.out]; omega
              clear hcz HY
              generalize hgt : Dfa.go ⟨L, S, R, M⟩ q (vs.take (k + 1)) = t at *
              have HT : Hid (Dfa.go ⟨L, S, R, M⟩ q (vs.take (k + 1)) = t) := hgt
              generalize hgk : Dfa.go ⟨L, S, R, M⟩ q (vs.take k) = r at *
              have ht0 : (vs.getD k 0) = ((vs.getD k 0).toNat : Int) := by omega
              generalize hlk : (vs.getD k 0).toNat = l at *
              rw [ht0] at hcz' hx1 hx0
              rw [← ht] at hr2
              generalize hmm : M.getD t 0 = mm at *
              have hLt : (L.toNat : Int) = L := by omega
              have hlL : (l : Int) < (L.toNat : Int) := by omega
              clear hgk ht0 hlk ht hgt hmm
              by_cases hmy : mm < y
              · rw [if_pos hmy] at HPut
                go_wp2_with fail
                go_quiet (fail)
                go_wp2_with fail
                go_roundw
                case rel => exact ⟨k + 1, mm, by omega, by go_num, rfl, by rw [HT.out], HPut.out, grown_drewN G5.out _⟩
                case measure => simp [intOf]; omega
              · rw [if_neg hmy] at HPut
                go_wp2_with fail
                go_quiet (fail)
                go_wp2_with fail
                go_roundw
                case rel => exact ⟨k + 1, y, by omega, by go_num, rfl, by rw [HT.out], HPut.out, grown_drewN G5.out _⟩
                case measure => simp [intOf]; omega
            · have hkz : k = vs.length := by omega
              subst hkz
              rw [List.take_length, HFg.out]
              go_wp2_with fail
              go_roundw
              case rel => exact ⟨i + 1, y, by omega, by go_num, rfl, by rw [HE.out, HQ.out], HY.out.congr (fun m => seenR_round _ _ _ _ _), G5.out⟩
              case measure => simp [intOf]; omega
        · have hin : i = R.length := by omega
          subst hin
          have hr := HY.out.range (by omega) (fun m hm => seenR_nonneg GD.out (letters_mem HVL.out) hsl (Nat.zero_le _) hm)
          have HEnd : Hid (∀ W, W1.grownBy W none → P (.returned (.bool (evenB y))) W) := fun W hW => by rw [HP.out]; exact ⟨y, rfl, by rw [HD.out]; exact HY.out, grown_trans G1.out hW⟩
          clear HY
          rcases ten hr with rfl | rfl | rfl | rfl | rfl | rfl | rfl | rfl | rfl | rfl | rfl
          all_goals
            go_wp2_with fail
            exact HEnd.out _ G4.out

end Go.Proofs.Ytihkfhjlfkeepaa
