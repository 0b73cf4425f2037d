/- Whether a word is accepted: the program's Accepts. -/
import Derived.Test.YtkfhdbapfpongaaDoorDRCheck
import Derived.Test.YtkfhdbapfpongaaDoorDAccR
namespace Go.Proofs.YtkfhdbapfpongaaDoor
open Go.RowKit
set_option linter.unusedVariables false

/-- What is answered of an automaton and a word: the fault, and whether it is accepted. -/
def accE (d : Dfa) (z : List Int) : Int := if checkF d = 0 then mayF d.L z else checkF d

set_option maxHeartbeats 1600000 in
set_option maxRecDepth 100000 in
theorem accepts_any (L S : Int) (R : List (List Int)) (M : List Int) (a a' az : Option Addr) (c c' cz : Nat) (z : List Int) (w : World) (h : DetAt w ⟨L, S, R, M⟩ a a') (hz : Ints w az z) (hzm : z.length ≤ maxLen) :
    Calls Tryd.prog 6 #[.agg #[.int .i64 L, .int .i64 S, .slice a R.length c, .slice a' M.length c'], .slice az z.length cz] w fun e w' => e = .returned (.tuple #[.bool (decide (accE ⟨L, S, R, M⟩ z = 0) && accB ⟨L, S, R, M⟩ z), .int .i64 (accE ⟨L, S, R, M⟩ z)]) ∧ w.grownBy w' none := by
  have HG : Hid (∀ o, w.grownBy (w.alloc o) none) := fun o => grown_alloc w o
  have HC : Hid (∀ W, w.grownBy W none → Calls Tryd.prog 4 #[.agg #[.int .i64 L, .int .i64 S, .slice a R.length c, .slice a' M.length c']] W fun e w' => e = .returned (.int .i64 (checkF ⟨L, S, R, M⟩)) ∧ W.grownBy w' none) := fun W hW => check_any L S R M a a' c c' W (h.grown hW)
  have HY : Hid (∀ W, w.grownBy W none → Calls Tryd.prog 12 #[.int .i64 L, .slice az z.length cz] W fun e w' => e = .returned (.int .i64 (mayF L z)) ∧ w' = W) := fun W hW => may_any L az cz z W (hz.grown hW) hzm
  have H : Hid (DetAt w ⟨L, S, R, M⟩ a a') := h
  have HZ : Hid (Ints w az z) := hz
  unfold maxLen at hzm
  clear h hz
  by_cases h1 : checkF ⟨L, S, R, M⟩ = 0
  · have hG := good_of_check h1
    rw [h1] at HC
    have e1 : accE ⟨L, S, R, M⟩ z = mayF L z := by unfold accE; rw [if_pos h1]
    rw [e1]
    clear e1
    by_cases h2 : mayF L z = 0
    · obtain ⟨hz60, hlet⟩ := mayF_letters h2
      rw [h2] at HY ⊢
      simp only [decide_true, Bool.true_and]
      obtain ⟨bb, hbb⟩ : ∃ bb, accB ⟨L, S, R, M⟩ z = bb := ⟨_, rfl⟩
      rw [hbb]
      have HB : Hid (accB ⟨L, S, R, M⟩ z = bb) := hbb
      have GD : Hid (Good ⟨L, S, R, M⟩) := hG
      have HL : Hid (∀ k, k < z.length → 0 ≤ z.getD k 0 ∧ z.getD k 0 < L) := hlet
      have hS : 0 ≤ S ∧ S < R.length := hG.s
      have hn3 : R.length ≤ 3000 := hG.n3
      have hL4 : 1 ≤ L ∧ L ≤ 4 := ⟨hG.l1, hG.l4⟩
      clear h1 h2 hbb hG hlet
      go_enter Tryd.func6, Tryd.ntmps6
      go_wp2_with fail
      refine (HC.out _ (HG.out _)).mono ?_
      rintro e w2 ⟨rfl, hg2⟩
      obtain ⟨b0, b1, b2, b3⟩ := box4 hg2
      have G2 : Hid (w.grownBy w2 none) := grown_trans (HG.out _) hg2
      clear hg2
      go_wp2_with fail
      refine (HY.out _ G2.out).mono ?_
      rintro e w3 ⟨rfl, rfl⟩
      go_wp2_with fail
      go_loop [8, 27] (fun v i => ∃ k : Nat, k ≤ z.length ∧ i = .int .i64 k ∧ v = .int .i64 ((Dfa.go ⟨L, S, R, M⟩ S.toNat (z.take k) : Nat) : Int)) (fun _ i => z.length - (intOf i).toNat)
      case atStart => exact ⟨0, Nat.zero_le _, rfl, by simp [Dfa.go]; omega⟩
      case round =>
        obtain ⟨k, hk, rfl, rfl⟩ := hrel
        have hgl : Dfa.go ⟨L, S, R, M⟩ S.toNat (z.take k) < R.length := go_take_lt GD.out (by simp only; omega) HL.out k
        by_cases hlt : k < z.length
        · obtain ⟨hx0, hx1⟩ := HL.out k hlt
          have HT : Hid (_ = _) := go_take ⟨L, S, R, M⟩ S.toNat z hlt
          obtain ⟨bz, oz, rfl, hcz⟩ := HZ.out.at hlt
          have hcz' : w3.cell? ⟨bz, oz + k, none⟩ = some (.int .i64 (z.getD k 0)) := G2.out.cell (hcz k hlt) (by simp)
          obtain ⟨b, off, bx, ox, cx, rfl, hr1, hr2⟩ := step_reads (l := (z.getD k 0).toNat) (H.out.grown G2.out) GD.out hgl (by omega)
          clear hcz
          generalize hgk : Dfa.go ⟨L, S, R, M⟩ S.toNat (z.take k) = s at *
          have ht0 : (z.getD k 0) = ((z.getD k 0).toNat : Int) := by omega
          generalize hlk : (z.getD k 0).toNat = l at *
          rw [ht0] at hcz' hx1 hx0
          have hnx : Dfa.nx ⟨L, S, R, M⟩ s l < R.length := GD.out.nx_lt hgl (by simp only; omega)
          generalize hn' : Dfa.nx ⟨L, S, R, M⟩ s l = t at *
          have hLt : (L.toNat : Int) = L := by omega
          have hlL : (l : Int) < (L.toNat : Int) := by omega
          clear hn' hgk ht0 hlk
          go_wp2_with fail
          go_round
          case rel => exact ⟨k + 1, by omega, by go_num, by rw [HT.out]⟩
          case measure => simp [intOf]; omega
        · have hkz : k = z.length := by omega
          obtain ⟨b, off, rfl, hm⟩ := mark_reads (H.out.grown G2.out) GD.out hgl
          have hsM : Dfa.go ⟨L, S, R, M⟩ S.toNat (z.take k) < M.length := by have := GD.out.ml; simp only at this; rw [this]; exact hgl
          have hBB := HB.out
          unfold accB at hBB
          rw [hkz, List.take_length] at hm hgl hsM
          rw [hkz, List.take_length]
          have hbd : ((M.getD (Dfa.go ⟨L, S, R, M⟩ S.toNat z) 0) == 1) = bb := by rw [← hBB]; simp [Dfa.mk1]; rfl
          generalize Dfa.go ⟨L, S, R, M⟩ S.toNat z = s at *
          generalize M.getD s 0 = x at *
          have hsM' : (s : Int) < (M.length : Int) := by omega
          clear hBB
          subst hkz
          go_wp2_with fail
          first | (go_ret2; exact ⟨by simp, G2.out⟩) | exact bodyPost_ret (v := .tuple #[.bool bb, .int .i64 0]) (by simp [results, Tryd.results6, go_sem, hbd]) rfl ⟨rfl, G2.out⟩
    · obtain ⟨y, hy⟩ : ∃ y, mayF L z = y := ⟨_, rfl⟩
      rw [hy] at HY h2 ⊢
      have hy' : (y != 0) = true := by simpa using h2
      have hy'' : (y == 0) = false := by simpa using h2
      have hy3 : (decide (y = 0) && accB ⟨L, S, R, M⟩ z) = false := by simp [h2]
      rw [hy3]
      clear h1 hG hy hy3
      go_enter Tryd.func6, Tryd.ntmps6
      go_wp2_with fail
      refine (HC.out _ (HG.out _)).mono ?_
      rintro e w2 ⟨rfl, hg2⟩
      obtain ⟨b0, b1, b2, b3⟩ := box4 hg2
      have G2 : Hid (w.grownBy w2 none) := grown_trans (HG.out _) hg2
      clear hg2
      go_wp2_with fail
      refine (HY.out _ G2.out).mono ?_
      rintro e w3 ⟨rfl, rfl⟩
      go_wp2_with fail
      first | (go_ret2; exact ⟨rfl, G2.out⟩) | exact bodyPost_ret (v := .tuple #[.bool false, .int .i64 y]) (by simp [results, Tryd.results6, go_sem]) rfl ⟨rfl, G2.out⟩
  · have e1 : accE ⟨L, S, R, M⟩ z = checkF ⟨L, S, R, M⟩ := by unfold accE; rw [if_neg h1]
    rw [e1]
    obtain ⟨y, hy⟩ : ∃ y, checkF ⟨L, S, R, M⟩ = y := ⟨_, rfl⟩
    rw [hy] at HC h1 ⊢
    have hy' : (y != 0) = true := by simpa using h1
    have hy'' : (y == 0) = false := by simpa using h1
    have hy3 : (decide (y = 0) && accB ⟨L, S, R, M⟩ z) = false := by simp [h1]
    rw [hy3]
    clear hy e1 hy3
    go_enter Tryd.func6, Tryd.ntmps6
    go_wp2_with fail
    refine (HC.out _ (HG.out _)).mono ?_
    rintro e w2 ⟨rfl, hg2⟩
    have G2 : Hid (w.grownBy w2 none) := grown_trans (HG.out _) hg2
    clear hg2
    go_wp2_with fail
    first | (go_ret2; exact ⟨rfl, G2.out⟩) | exact bodyPost_ret (v := .tuple #[.bool false, .int .i64 y]) (by simp [results, Tryd.results6, go_sem]) rfl ⟨rfl, G2.out⟩

end Go.Proofs.YtkfhdbapfpongaaDoor
