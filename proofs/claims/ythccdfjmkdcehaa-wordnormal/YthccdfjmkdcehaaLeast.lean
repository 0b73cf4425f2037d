/- The least lasso, as the reference finds it by trying all. -/
import Derived.Test.YthccdfjmkdcehaaPart
import Derived.Test.YthccdfjmkdcehaaSame
namespace Go.Proofs.Ythccdfjmkdcehaa
open Go.RowKit
set_option linter.unusedVariables false

theorem Own.form {base : Nat} {w : World} {v : Value} {zs : List Int} (h : Own base w v zs) : ∃ a d, v = .slice a zs.length d ∧ Ints w a zs := by
  rcases h.2 with ⟨h', h0⟩ | ⟨g', cap', cur, h', _⟩
  · have : zs = [] := List.eq_nil_of_length_eq_zero h0
    subst this
    exact ⟨none, 0, h', .inl rfl⟩
  · subst h'
    exact ⟨_, _, rfl, Own.ints h⟩

theorem part_lists {f : Nat → Int} (s hd lp : Nat) (a a' : Option Addr) (c c' : Nat) (h l : List Int) (w : World) (hh : Ints w a h) (hl : Ints w a' l) (hm : h.length ≤ 60) (hm' : l.length ≤ 60) (hl0 : 0 < l.length) (hs : s ≤ 200) (hhd : hd ≤ 60) (hlp : lp ≤ 60) (hf : ∀ m, letF h l (s + m) = f m) :
    Calls Try.prog 31 #[.agg #[.slice a h.length c, .slice a' l.length c'], .int .i64 s, .int .i64 hd, .int .i64 lp] w fun e w' => ∃ a0 d0 a1 d1, e = .returned (.agg #[.slice a0 hd d0, .slice a1 lp d1]) ∧ Ints w' a0 (pieceOf f 0 hd) ∧ Ints w' a1 (pieceOf f hd lp) ∧ Below w.heap.size w w' := by
  refine (part_any s hd lp a a' c c' h l w hh hl hm hm' hl0 hs hhd hlp).mono ?_
  rintro e w' ⟨v0, v1, rfl, o0, o1, hb⟩
  have e0 : pieceF h l s hd = pieceOf f 0 hd := List.map_congr_left fun i _ => by rw [hf, Nat.zero_add]
  have e1 : pieceF h l (s + hd) lp = pieceOf f hd lp := List.map_congr_left fun i _ => by rw [Nat.add_assoc, hf]
  rw [e0] at o0
  rw [e1] at o1
  obtain ⟨a0, d0, rfl, i0⟩ := o0.form
  obtain ⟨a1, d1, rfl, i1⟩ := o1.form
  rw [length_pieceOf, length_pieceOf]
  exact ⟨a0, d0, a1, d1, rfl, i0, i1, hb⟩

theorem letF_part (f : Nat → Int) (hd lp m : Nat) (h0 : 0 < lp) : letF (pieceOf f 0 hd) (pieceOf f hd lp) m = if m < hd then f m else f (hd + (m - hd) % lp) := by
  unfold letF
  rw [length_pieceOf, length_pieceOf]
  by_cases h1 : m < hd
  · rw [if_pos h1, if_pos h1, getD_pieceOf _ _ _ _ h1, Nat.zero_add]
  · rw [if_neg h1, if_neg h1, getD_pieceOf _ _ _ _ (Nat.mod_lt _ h0)]

theorem part_round {f : Nat → Int} {hd lp : Nat} (h0 : 0 < lp) : (∀ m, letF (pieceOf f 0 hd) (pieceOf f hd lp) m = f m) ↔ Round f hd lp := by
  constructor
  · intro ha m hm
    have e1 := ha m
    have e2 := ha (m + lp)
    rw [letF_part _ _ _ _ h0, if_neg (by omega)] at e1 e2
    rw [← e1, ← e2, show m + lp - hd = m - hd + lp by omega, Nat.add_mod_right]
  · intro hr m
    rw [letF_part _ _ _ _ h0]
    by_cases h1 : m < hd
    · rw [if_pos h1]
    · rw [if_neg h1, ← hr.mod, show hd + (m - hd) = m by omega]

theorem same_round {f : Nat → Int} {hd lp H L : Nat} (h0 : 0 < lp) (h1 : 0 < L) (hw : Round f H L) : (sameF (pieceOf f 0 hd) (pieceOf f hd lp) (pieceOf f 0 H) (pieceOf f H L) = true) ↔ Round f hd lp := by
  rw [sameF_iff (by rw [length_pieceOf]; exact h0) (by rw [length_pieceOf]; exact h1), ← part_round h0]
  have := (part_round h1).2 hw
  constructor
  · intro ha m; rw [ha m, this m]
  · intro ha m; rw [ha m, this m]

theorem least_shortest {f : Nat → Int} {H L k j : Nat} (h1 : 0 < L) (hw : Round f H L) (hj : 1 ≤ j) (hr : Round f k j) (hk : ∀ s, s < k → ∀ q, 1 ≤ q → q ≤ L → ¬ Round f s q) (hj' : ∀ q, 1 ≤ q → q < j → ¬ Round f k q) (hjL : j ≤ L) : Shortest f k j := by
  refine ⟨hj, hr, fun s q hq hs => ?_⟩
  have a1 : Round f H q := Round.early h1 hw hs
  have a2 : Round f H (Nat.gcd q L) := Round.gcd q L a1 hw
  have a3 : 0 < Nat.gcd q L := Nat.gcd_pos_of_pos_right _ h1
  have a4 : Nat.gcd q L ≤ L := Nat.gcd_le_right _ h1
  have a5 : Nat.gcd q L ≤ q := Nat.gcd_le_left _ (by omega)
  have a6 : Round f s (Nat.gcd q L) := Round.early (by omega) hs a2
  have a7 : Round f k (Nat.gcd q L) := Round.early (by omega) hr a2
  refine ⟨Nat.le_of_not_lt fun hlt => hk s hlt _ a3 a4 a6, Nat.le_trans (Nat.le_of_not_lt fun hlt => hj' _ a3 hlt a7) a5⟩

theorem Ints.setOther {w : World} {a : Option Addr} {zs : List Int} {b o : Nat} {u v : Value} (h : Ints w a zs) (hz : w.cell? ⟨b, o, none⟩ = some (.slice none 0 0)) : Ints (w.setCell ⟨b, o, none⟩ u) a zs := by
  rcases h with h0 | ⟨b', off, rfl, hc⟩
  · exact .inl h0
  · refine .inr ⟨b', off, rfl, fun i hi => ?_⟩
    rw [World.cell?_setCell_other _ _ _ _ ?_]
    · exact hc i hi
    · intro e
      have := hc i hi
      rw [← e, hz] at this
      simp at this

set_option maxHeartbeats 4000000 in
theorem least_A (n s : Nat) (a a' : Option Addr) (c c' : Nat) (h l : List Int) (f : Nat → Int) (w : World) (hm : h.length ≤ 60) (hm' : l.length ≤ 60) (hl0 : 0 < l.length) (hn : (n : Int) ≤ 9223372036854775807) (hns : n = s) (hnh : n ≤ h.length) (hround : Round f h.length l.length)
    (HPart : Hid (∀ (W : World) (x hI lI : Int) (hd lp : Nat), Below w.heap.size w W → x = s → hI = hd → lI = lp → hd ≤ 60 → lp ≤ 60 → Calls Try.prog 31 #[.agg #[.slice a h.length c, .slice a' l.length c'], .int .i64 x, .int .i64 hI, .int .i64 lI] W fun e w' => ∃ a0 d0 a1 d1, e = .returned (.agg #[.slice a0 hd d0, .slice a1 lp d1]) ∧ Ints w' a0 (pieceOf f 0 hd) ∧ Ints w' a1 (pieceOf f hd lp) ∧ Below W.heap.size W w'))
    (HSame : Hid (∀ (W : World) (a0 : Option Addr) (d0 : Nat) (a1 : Option Addr) (d1 : Nat) (b0 : Option Addr) (e0 : Nat) (b1 : Option Addr) (e1 hd lp : Nat), Ints W a0 (pieceOf f 0 hd) → Ints W a1 (pieceOf f hd lp) → Ints W b0 (pieceOf f 0 h.length) → Ints W b1 (pieceOf f h.length l.length) → 0 < lp → hd ≤ 60 → lp ≤ 60 → Calls Try.prog 16 #[.agg #[.slice a0 hd d0, .slice a1 lp d1], .agg #[.slice b0 h.length e0, .slice b1 l.length e1]] W fun e w' => e = .returned (.bool (sameF (pieceOf f 0 hd) (pieceOf f hd lp) (pieceOf f 0 h.length) (pieceOf f h.length l.length))) ∧ Below W.heap.size W w')) :
    Calls Try.prog 22 #[.agg #[.slice a h.length c, .slice a' l.length c'], .int .i64 n] w fun e w' => ∃ (p k : Nat) (a0 : Option Addr) (d0 : Nat) (a1 : Option Addr) (d1 : Nat), e = .returned (.agg #[.slice a0 k d0, .slice a1 p d1]) ∧ Shortest f k p ∧ k ≤ 60 ∧ p ≤ 60 ∧ Ints w' a0 (pieceOf f 0 k) ∧ Ints w' a1 (pieceOf f k p) ∧ Below w.heap.size w w' := by
  have hb0 : ∀ o o', Below w.heap.size w ((w.alloc o).alloc o') := fun o o' => ((Below.refl _ _).alloc (Nat.le_refl _) o).alloc (by simp) o'
  subst hns
  have hnh' : ¬ ((h.length : Int) < (n : Int)) := by omega
  go_enter Try.func22, Try.ntmps22
  go_wp2_with fail
  refine (HPart.out _ _ _ _ h.length l.length (hb0 _ _) rfl rfl rfl hm hm').mono ?_
  rintro e w1 ⟨wa, wd, wa', wd', rfl, j0, j1, hb1⟩
  have c0 : w1.cell? ⟨w.heap.size, 0, none⟩ = some (.slice a h.length c) := by rw [hb1.cell (by simp; omega)]; go_simp
  have c1 : w1.cell? ⟨w.heap.size, 1, none⟩ = some (.slice a' l.length c') := by rw [hb1.cell (by simp; omega)]; go_simp
  have r0 : w1.cell? ⟨w.heap.size + 1, 0, none⟩ = some (.slice none 0 0) := by rw [hb1.cell (by simp)]; go_simp
  have r1 : w1.cell? ⟨w.heap.size + 1, 1, none⟩ = some (.slice none 0 0) := by rw [hb1.cell (by simp)]; go_simp
  have f0 : w1.frozen? ⟨w.heap.size + 1, 0, none⟩ = false := by rw [hb1.frozen (by simp)]; go_simp
  have f1 : w1.frozen? ⟨w.heap.size + 1, 1, none⟩ = false := by rw [hb1.frozen (by simp)]; go_simp
  have hs1 : w.heap.size + 1 < w1.heap.size := by have := hb1.size; simp at this; omega
  have HB1 : Hid (Below w.heap.size w (w1.alloc (.cells #[.slice wa h.length wd, .slice wa' l.length wd'] 30))) := ((hb0 _ _).trans (hb1.mono (by simp; omega))).alloc (by omega) _
  have J0 : Hid (Ints (w1.alloc (.cells #[.slice wa h.length wd, .slice wa' l.length wd'] 30)) wa (pieceOf f 0 h.length)) := j0.later ((Below.refl _ _).alloc (Nat.le_refl _) _)
  have J1 : Hid (Ints (w1.alloc (.cells #[.slice wa h.length wd, .slice wa' l.length wd'] 30)) wa' (pieceOf f h.length l.length)) := j1.later ((Below.refl _ _).alloc (Nat.le_refl _) _)
  clear hb1 j0 j1
  have C0 : Hid (∀ o, (w1.alloc o).cell? ⟨w.heap.size, 0, none⟩ = some (.slice a h.length c)) := fun o => cell_later ((Below.refl _ _).alloc (Nat.le_refl _) _) c0
  have C1 : Hid (∀ o, (w1.alloc o).cell? ⟨w.heap.size, 1, none⟩ = some (.slice a' l.length c')) := fun o => cell_later ((Below.refl _ _).alloc (Nat.le_refl _) _) c1
  have R0 : Hid (∀ o, (w1.alloc o).cell? ⟨w.heap.size + 1, 0, none⟩ = some (.slice none 0 0)) := fun o => cell_later ((Below.refl _ _).alloc (Nat.le_refl _) _) r0
  have R1 : Hid (∀ o, (w1.alloc o).cell? ⟨w.heap.size + 1, 1, none⟩ = some (.slice none 0 0)) := fun o => cell_later ((Below.refl _ _).alloc (Nat.le_refl _) _) r1
  have F0 : Hid (∀ o, (w1.alloc o).frozen? ⟨w.heap.size + 1, 0, none⟩ = false) := fun o => (((Below.refl _ _).alloc (Nat.le_refl _) _).frozen (by simpa using hs1)).trans f0
  have F1 : Hid (∀ o, (w1.alloc o).frozen? ⟨w.heap.size + 1, 1, none⟩ = false) := fun o => (((Below.refl _ _).alloc (Nat.le_refl _) _).frozen (by simpa using hs1)).trans f1
  clear c0 c1 r0 r1 f0 f1
  go_wp2
  go_loopw [6] (fun i wr => ∃ k : Nat, k ≤ h.length + 1 ∧ i = .int .i64 k ∧ (∀ s, s < k → ∀ q, 1 ≤ q → q ≤ l.length → ¬ Round f s q) ∧ Below (w1.heap.size + 1) (w1.alloc (.cells #[.slice wa h.length wd, .slice wa' l.length wd'] 30)) wr) (fun i _ => h.length + 1 - (intOf i).toNat)
  case atStart => exact ⟨0, by omega, rfl, fun s hs => by omega, Below.refl _ _⟩
  case round =>
    obtain ⟨k, hk, rfl, hno, hbel⟩ := hrel
    have HK : Hid (∀ s, s < k → ∀ q, 1 ≤ q → q ≤ l.length → ¬ Round f s q) := hno
    have HBk : Hid (Below (w1.heap.size + 1) (w1.alloc (.cells #[.slice wa h.length wd, .slice wa' l.length wd'] 30)) wr) := hbel
    have c1 : wr.cell? ⟨w.heap.size, 1, none⟩ = some (.slice a' l.length c') := (hbel.cell (by simp; omega)).trans (C1.out _)
    have c0 : wr.cell? ⟨w.heap.size, 0, none⟩ = some (.slice a h.length c) := (hbel.cell (by simp; omega)).trans (C0.out _)
    clear hno hbel
    by_cases hkl : k ≤ h.length
    · go_wp2
      go_loopw [7] (fun i wq => ∃ j : Nat, 1 ≤ j ∧ j ≤ l.length + 1 ∧ i = .int .i64 j ∧ (∀ q, 1 ≤ q → q < j → ¬ Round f k q) ∧ Below (w1.heap.size + 1) (w1.alloc (.cells #[.slice wa h.length wd, .slice wa' l.length wd'] 30)) wq) (fun i _ => l.length + 1 - (intOf i).toNat)
      case atStart => exact ⟨1, by omega, by omega, rfl, fun q h1 h2 => by omega, HBk.out⟩
      case round =>
        clear c0 c1 HBk
        obtain ⟨j, hj1, hj, rfl, hnj, hbel⟩ := hrel
        have HJ : Hid (∀ q, 1 ≤ q → q < j → ¬ Round f k q) := hnj
        have HBj : Hid (Below (w1.heap.size + 1) (w1.alloc (.cells #[.slice wa h.length wd, .slice wa' l.length wd'] 30)) wr) := hbel
        have HBw : Hid (Below w.heap.size w wr) := HB1.out.trans (hbel.mono (by omega))
        have c0 : wr.cell? ⟨w.heap.size, 0, none⟩ = some (.slice a h.length c) := (hbel.cell (by simp; omega)).trans (C0.out _)
        have c1 : wr.cell? ⟨w.heap.size, 1, none⟩ = some (.slice a' l.length c') := (hbel.cell (by simp; omega)).trans (C1.out _)
        have hsj : w1.heap.size < wr.heap.size := by have := hbel.size; simp at this; omega
        clear hnj hbel
        by_cases hjl : j ≤ l.length
        · go_wp2_with fail
          refine (HPart.out _ _ _ _ k j HBw.out rfl rfl rfl (by omega) (by omega)).mono ?_
          rintro e w2 ⟨xa, xd, xa', xd', rfl, x0, x1, hb2⟩
          have hs2 : w1.heap.size < w2.heap.size := Nat.lt_of_lt_of_le hsj hb2.size
          have HB2 : Hid (Below (w1.heap.size + 1) (w1.alloc (.cells #[.slice wa h.length wd, .slice wa' l.length wd'] 30)) w2) := HBj.out.trans (hb2.mono (by omega))
          have e0 : ∀ o, (w2.alloc o).cell? ⟨w1.heap.size, 0, none⟩ = some (.slice wa h.length wd) := fun o => cell_later ((Below.refl _ _).alloc (Nat.le_refl _) _) ((HB2.out.cell (by simp)).trans (by go_simp))
          have e1 : ∀ o, (w2.alloc o).cell? ⟨w1.heap.size, 1, none⟩ = some (.slice wa' l.length wd') := fun o => cell_later ((Below.refl _ _).alloc (Nat.le_refl _) _) ((HB2.out.cell (by simp)).trans (by go_simp))
          have HB3 : Hid (∀ o, Below (w1.heap.size + 1) (w1.alloc (.cells #[.slice wa h.length wd, .slice wa' l.length wd'] 30)) (w2.alloc o)) := fun o => HB2.out.alloc (by omega) o
          have X0 : Hid (∀ o, Ints (w2.alloc o) xa (pieceOf f 0 k)) := fun o => x0.later ((Below.refl _ _).alloc (Nat.le_refl _) _)
          have X1 : Hid (∀ o, Ints (w2.alloc o) xa' (pieceOf f k j)) := fun o => x1.later ((Below.refl _ _).alloc (Nat.le_refl _) _)
          clear hb2 x0 x1 c0 c1
          go_wp2_with fail
          refine (HSame.out _ _ _ _ _ _ _ _ _ k j (X0.out _) (X1.out _) (J0.out.later ((HB3.out _).mono (by simp))) (J1.out.later ((HB3.out _).mono (by simp))) (by omega) (by omega) (by omega)).mono ?_
          rintro e w3 ⟨rfl, hb3⟩
          have hs3 : w1.heap.size < w3.heap.size := by have := hb3.size; simp at this; omega
          have HB4 : Hid (Below (w1.heap.size + 1) (w1.alloc (.cells #[.slice wa h.length wd, .slice wa' l.length wd'] 30)) w3) := (HB3.out _).trans (hb3.mono (by simp; omega))
          have t0 : w3.cell? ⟨w2.heap.size, 0, none⟩ = some (.slice xa k xd) := (hb3.cell (by simp)).trans (by go_simp)
          have t1 : w3.cell? ⟨w2.heap.size, 1, none⟩ = some (.slice xa' j xd') := (hb3.cell (by simp)).trans (by go_simp)
          have r0 : w3.cell? ⟨w.heap.size + 1, 0, none⟩ = some (.slice none 0 0) := (HB4.out.cell (by simp; omega)).trans (R0.out _)
          have r1 : w3.cell? ⟨w.heap.size + 1, 1, none⟩ = some (.slice none 0 0) := (HB4.out.cell (by simp; omega)).trans (R1.out _)
          have f0 : w3.frozen? ⟨w.heap.size + 1, 0, none⟩ = false := (HB4.out.frozen (by simp; omega)).trans (F0.out _)
          have f1 : w3.frozen? ⟨w.heap.size + 1, 1, none⟩ = false := (HB4.out.frozen (by simp; omega)).trans (F1.out _)
          have Y0 : Hid (Ints w3 xa (pieceOf f 0 k)) := (X0.out _).later hb3
          have Y1 : Hid (Ints w3 xa' (pieceOf f k j)) := (X1.out _).later hb3
          have HI : Hid (sameF (pieceOf f 0 k) (pieceOf f k j) (pieceOf f 0 h.length) (pieceOf f h.length l.length) = true ↔ Round f k j) := same_round (by omega) hl0 hround
          clear hb3 X0 X1 e0 e1
          generalize sameF (pieceOf f 0 k) (pieceOf f k j) (pieceOf f 0 h.length) (pieceOf f h.length l.length) = sb at *
          cases sb
          · go_wp2
            go_roundw
            case rel =>
              refine ⟨j + 1, by omega, by omega, by go_num, fun q h1 h2 => ?_, HB4.out⟩
              by_cases hq : q = j
              · rw [hq]; intro hr; have := HI.out.2 hr; simp at this
              · exact HJ.out q h1 (by omega)
            case measure => simp [intOf]; omega
          · have HS : Hid (Shortest f k j) := least_shortest hl0 hround hj1 (HI.out.1 rfl) HK.out HJ.out hjl
            have HE0 : Hid (Ints ((w3.setCell ⟨w.heap.size + 1, 0, none⟩ (.slice xa k xd)).setCell ⟨w.heap.size + 1, 1, none⟩ (.slice xa' j xd')) xa (pieceOf f 0 k)) := (Y0.out.setOther (v := .bool true) r0).setOther (v := .bool true) (by rw [World.cell?_setCell_other _ _ _ _ (by simp)]; exact r1)
            have HE1 : Hid (Ints ((w3.setCell ⟨w.heap.size + 1, 0, none⟩ (.slice xa k xd)).setCell ⟨w.heap.size + 1, 1, none⟩ (.slice xa' j xd')) xa' (pieceOf f k j)) := (Y1.out.setOther (v := .bool true) r0).setOther (v := .bool true) (by rw [World.cell?_setCell_other _ _ _ _ (by simp)]; exact r1)
            go_wp2
            have q0 : (w3.setCell ⟨w.heap.size + 1, 0, none⟩ (.slice xa k xd)).cell? ⟨w.heap.size + 1, 0, none⟩ = some (.slice xa k xd) := cell_set_same r0
            have q1 : ((w3.setCell ⟨w.heap.size + 1, 0, none⟩ (.slice xa k xd)).setCell ⟨w.heap.size + 1, 1, none⟩ (.slice xa' j xd')).cell? ⟨w.heap.size + 1, 1, none⟩ = some (.slice xa' j xd') := cell_set_two r1
            exact bodyPost_ret (v := .agg #[.slice xa k xd, .slice xa' j xd']) (by simp [results, Try.results22, go_sem, q0, q1]) rfl ⟨j, k, xa, xd, xa', xd', rfl, HS.out, by omega, by omega, HE0.out, HE1.out, ((HB1.out.trans (HB4.out.mono (by omega))).setCell (by simp) _).setCell (by simp) _⟩
        · go_wp2
          go_roundw
          case rel =>
            refine ⟨k + 1, by omega, by go_num, fun s hs q h1 h2 => ?_, HBj.out⟩
            by_cases hsk : s = k
            · rw [hsk]; exact HJ.out q h1 (by omega)
            · exact HK.out s (by omega) q h1 h2
          case measure => simp [intOf]; omega
    · exact absurd hround (HK.out h.length (by omega) l.length hl0 (Nat.le_refl _))

set_option maxHeartbeats 4000000 in
theorem least_B (n s : Nat) (a a' : Option Addr) (c c' : Nat) (h l : List Int) (f : Nat → Int) (w : World) (hm : h.length ≤ 60) (hm' : l.length ≤ 60) (hl0 : 0 < l.length) (hn : (n : Int) ≤ 9223372036854775807) (q r : Nat) (hq : n = h.length + q) (hr : q % l.length = r) (hns : s = h.length + r) (hnh : h.length < n) (hround : Round f h.length l.length)
    (HPart : Hid (∀ (W : World) (x hI lI : Int) (hd lp : Nat), Below w.heap.size w W → x = s → hI = hd → lI = lp → hd ≤ 60 → lp ≤ 60 → Calls Try.prog 31 #[.agg #[.slice a h.length c, .slice a' l.length c'], .int .i64 x, .int .i64 hI, .int .i64 lI] W fun e w' => ∃ a0 d0 a1 d1, e = .returned (.agg #[.slice a0 hd d0, .slice a1 lp d1]) ∧ Ints w' a0 (pieceOf f 0 hd) ∧ Ints w' a1 (pieceOf f hd lp) ∧ Below W.heap.size W w'))
    (HSame : Hid (∀ (W : World) (a0 : Option Addr) (d0 : Nat) (a1 : Option Addr) (d1 : Nat) (b0 : Option Addr) (e0 : Nat) (b1 : Option Addr) (e1 hd lp : Nat), Ints W a0 (pieceOf f 0 hd) → Ints W a1 (pieceOf f hd lp) → Ints W b0 (pieceOf f 0 h.length) → Ints W b1 (pieceOf f h.length l.length) → 0 < lp → hd ≤ 60 → lp ≤ 60 → Calls Try.prog 16 #[.agg #[.slice a0 hd d0, .slice a1 lp d1], .agg #[.slice b0 h.length e0, .slice b1 l.length e1]] W fun e w' => e = .returned (.bool (sameF (pieceOf f 0 hd) (pieceOf f hd lp) (pieceOf f 0 h.length) (pieceOf f h.length l.length))) ∧ Below W.heap.size W w')) :
    Calls Try.prog 22 #[.agg #[.slice a h.length c, .slice a' l.length c'], .int .i64 n] w fun e w' => ∃ (p k : Nat) (a0 : Option Addr) (d0 : Nat) (a1 : Option Addr) (d1 : Nat), e = .returned (.agg #[.slice a0 k d0, .slice a1 p d1]) ∧ Shortest f k p ∧ k ≤ 60 ∧ p ≤ 60 ∧ Ints w' a0 (pieceOf f 0 k) ∧ Ints w' a1 (pieceOf f k p) ∧ Below w.heap.size w w' := by
  have hb0 : ∀ o o', Below w.heap.size w ((w.alloc o).alloc o') := fun o o' => ((Below.refl _ _).alloc (Nat.le_refl _) o).alloc (by simp) o'
  have hrl : r < l.length := by rw [← hr]; exact Nat.mod_lt _ hl0
  have hnh' : (h.length : Int) < (n : Int) := by omega
  have e1 : IntKind.i64.wrap ((n : Int) - (h.length : Int)) = (q : Int) := by
    rw [show (n : Int) - (h.length : Int) = (q : Int) by omega]; exact IntWalk.i64_in _ (by omega)
  have e2 : (q : Int) % (l.length : Int) = (r : Int) := by rw [← hr]; rfl
  have e3 : IntKind.i64.wrap ((h.length : Int) + (r : Int)) = (s : Int) := by
    rw [show (h.length : Int) + (r : Int) = (s : Int) by omega]; exact IntWalk.i64_in _ (by omega)
  have hs60 : s ≤ 120 := by omega
  clear hq hr hns
  go_enter Try.func22, Try.ntmps22
  go_wp2
  go_quiet (fail)
  go_wp2_with fail
  refine (HPart.out _ _ _ _ h.length l.length (below_drewN (hb0 _ _) _) rfl rfl rfl hm hm').mono ?_
  rintro e w1 ⟨wa, wd, wa', wd', rfl, j0, j1, hb1⟩
  have c0 : w1.cell? ⟨w.heap.size, 0, none⟩ = some (.slice a h.length c) := by rw [hb1.cell (by simp; omega)]; go_simp
  have c1 : w1.cell? ⟨w.heap.size, 1, none⟩ = some (.slice a' l.length c') := by rw [hb1.cell (by simp; omega)]; go_simp
  have r0 : w1.cell? ⟨w.heap.size + 1, 0, none⟩ = some (.slice none 0 0) := by rw [hb1.cell (by simp)]; go_simp
  have r1 : w1.cell? ⟨w.heap.size + 1, 1, none⟩ = some (.slice none 0 0) := by rw [hb1.cell (by simp)]; go_simp
  have f0 : w1.frozen? ⟨w.heap.size + 1, 0, none⟩ = false := by rw [hb1.frozen (by simp)]; go_simp
  have f1 : w1.frozen? ⟨w.heap.size + 1, 1, none⟩ = false := by rw [hb1.frozen (by simp)]; go_simp
  have hs1 : w.heap.size + 1 < w1.heap.size := by have := hb1.size; simp at this; omega
  have HB1 : Hid (Below w.heap.size w (w1.alloc (.cells #[.slice wa h.length wd, .slice wa' l.length wd'] 30))) := ((below_drewN (hb0 _ _) _).trans (hb1.mono (by simp; omega))).alloc (by omega) _
  have J0 : Hid (Ints (w1.alloc (.cells #[.slice wa h.length wd, .slice wa' l.length wd'] 30)) wa (pieceOf f 0 h.length)) := j0.later ((Below.refl _ _).alloc (Nat.le_refl _) _)
  have J1 : Hid (Ints (w1.alloc (.cells #[.slice wa h.length wd, .slice wa' l.length wd'] 30)) wa' (pieceOf f h.length l.length)) := j1.later ((Below.refl _ _).alloc (Nat.le_refl _) _)
  clear hb1 j0 j1
  have C0 : Hid (∀ o, (w1.alloc o).cell? ⟨w.heap.size, 0, none⟩ = some (.slice a h.length c)) := fun o => cell_later ((Below.refl _ _).alloc (Nat.le_refl _) _) c0
  have C1 : Hid (∀ o, (w1.alloc o).cell? ⟨w.heap.size, 1, none⟩ = some (.slice a' l.length c')) := fun o => cell_later ((Below.refl _ _).alloc (Nat.le_refl _) _) c1
  have R0 : Hid (∀ o, (w1.alloc o).cell? ⟨w.heap.size + 1, 0, none⟩ = some (.slice none 0 0)) := fun o => cell_later ((Below.refl _ _).alloc (Nat.le_refl _) _) r0
  have R1 : Hid (∀ o, (w1.alloc o).cell? ⟨w.heap.size + 1, 1, none⟩ = some (.slice none 0 0)) := fun o => cell_later ((Below.refl _ _).alloc (Nat.le_refl _) _) r1
  have F0 : Hid (∀ o, (w1.alloc o).frozen? ⟨w.heap.size + 1, 0, none⟩ = false) := fun o => (((Below.refl _ _).alloc (Nat.le_refl _) _).frozen (by simpa using hs1)).trans f0
  have F1 : Hid (∀ o, (w1.alloc o).frozen? ⟨w.heap.size + 1, 1, none⟩ = false) := fun o => (((Below.refl _ _).alloc (Nat.le_refl _) _).frozen (by simpa using hs1)).trans f1
  clear c0 c1 r0 r1 f0 f1
  go_wp2
  go_loopw [6] (fun i wr => ∃ k : Nat, k ≤ h.length + 1 ∧ i = .int .i64 k ∧ (∀ s, s < k → ∀ q, 1 ≤ q → q ≤ l.length → ¬ Round f s q) ∧ Below (w1.heap.size + 1) (w1.alloc (.cells #[.slice wa h.length wd, .slice wa' l.length wd'] 30)) wr) (fun i _ => h.length + 1 - (intOf i).toNat)
  case atStart => exact ⟨0, by omega, rfl, fun s hs => by omega, Below.refl _ _⟩
  case round =>
    obtain ⟨k, hk, rfl, hno, hbel⟩ := hrel
    have HK : Hid (∀ s, s < k → ∀ q, 1 ≤ q → q ≤ l.length → ¬ Round f s q) := hno
    have HBk : Hid (Below (w1.heap.size + 1) (w1.alloc (.cells #[.slice wa h.length wd, .slice wa' l.length wd'] 30)) wr) := hbel
    have c1 : wr.cell? ⟨w.heap.size, 1, none⟩ = some (.slice a' l.length c') := (hbel.cell (by simp; omega)).trans (C1.out _)
    have c0 : wr.cell? ⟨w.heap.size, 0, none⟩ = some (.slice a h.length c) := (hbel.cell (by simp; omega)).trans (C0.out _)
    clear hno hbel
    by_cases hkl : k ≤ h.length
    · go_wp2
      go_loopw [7] (fun i wq => ∃ j : Nat, 1 ≤ j ∧ j ≤ l.length + 1 ∧ i = .int .i64 j ∧ (∀ q, 1 ≤ q → q < j → ¬ Round f k q) ∧ Below (w1.heap.size + 1) (w1.alloc (.cells #[.slice wa h.length wd, .slice wa' l.length wd'] 30)) wq) (fun i _ => l.length + 1 - (intOf i).toNat)
      case atStart => exact ⟨1, by omega, by omega, rfl, fun q h1 h2 => by omega, HBk.out⟩
      case round =>
        clear c0 c1 HBk
        obtain ⟨j, hj1, hj, rfl, hnj, hbel⟩ := hrel
        have HJ : Hid (∀ q, 1 ≤ q → q < j → ¬ Round f k q) := hnj
        have HBj : Hid (Below (w1.heap.size + 1) (w1.alloc (.cells #[.slice wa h.length wd, .slice wa' l.length wd'] 30)) wr) := hbel
        have HBw : Hid (Below w.heap.size w wr) := HB1.out.trans (hbel.mono (by omega))
        have c0 : wr.cell? ⟨w.heap.size, 0, none⟩ = some (.slice a h.length c) := (hbel.cell (by simp; omega)).trans (C0.out _)
        have c1 : wr.cell? ⟨w.heap.size, 1, none⟩ = some (.slice a' l.length c') := (hbel.cell (by simp; omega)).trans (C1.out _)
        have hsj : w1.heap.size < wr.heap.size := by have := hbel.size; simp at this; omega
        clear hnj hbel
        by_cases hjl : j ≤ l.length
        · go_wp2_with fail
          refine (HPart.out _ _ _ _ k j HBw.out rfl rfl rfl (by omega) (by omega)).mono ?_
          rintro e w2 ⟨xa, xd, xa', xd', rfl, x0, x1, hb2⟩
          have hs2 : w1.heap.size < w2.heap.size := Nat.lt_of_lt_of_le hsj hb2.size
          have HB2 : Hid (Below (w1.heap.size + 1) (w1.alloc (.cells #[.slice wa h.length wd, .slice wa' l.length wd'] 30)) w2) := HBj.out.trans (hb2.mono (by omega))
          have e0 : ∀ o, (w2.alloc o).cell? ⟨w1.heap.size, 0, none⟩ = some (.slice wa h.length wd) := fun o => cell_later ((Below.refl _ _).alloc (Nat.le_refl _) _) ((HB2.out.cell (by simp)).trans (by go_simp))
          have e1 : ∀ o, (w2.alloc o).cell? ⟨w1.heap.size, 1, none⟩ = some (.slice wa' l.length wd') := fun o => cell_later ((Below.refl _ _).alloc (Nat.le_refl _) _) ((HB2.out.cell (by simp)).trans (by go_simp))
          have HB3 : Hid (∀ o, Below (w1.heap.size + 1) (w1.alloc (.cells #[.slice wa h.length wd, .slice wa' l.length wd'] 30)) (w2.alloc o)) := fun o => HB2.out.alloc (by omega) o
          have X0 : Hid (∀ o, Ints (w2.alloc o) xa (pieceOf f 0 k)) := fun o => x0.later ((Below.refl _ _).alloc (Nat.le_refl _) _)
          have X1 : Hid (∀ o, Ints (w2.alloc o) xa' (pieceOf f k j)) := fun o => x1.later ((Below.refl _ _).alloc (Nat.le_refl _) _)
          clear hb2 x0 x1 c0 c1
          go_wp2_with fail
          refine (HSame.out _ _ _ _ _ _ _ _ _ k j (X0.out _) (X1.out _) (J0.out.later ((HB3.out _).mono (by simp))) (J1.out.later ((HB3.out _).mono (by simp))) (by omega) (by omega) (by omega)).mono ?_
          rintro e w3 ⟨rfl, hb3⟩
          have hs3 : w1.heap.size < w3.heap.size := by have := hb3.size; simp at this; omega
          have HB4 : Hid (Below (w1.heap.size + 1) (w1.alloc (.cells #[.slice wa h.length wd, .slice wa' l.length wd'] 30)) w3) := (HB3.out _).trans (hb3.mono (by simp; omega))
          have t0 : w3.cell? ⟨w2.heap.size, 0, none⟩ = some (.slice xa k xd) := (hb3.cell (by simp)).trans (by go_simp)
          have t1 : w3.cell? ⟨w2.heap.size, 1, none⟩ = some (.slice xa' j xd') := (hb3.cell (by simp)).trans (by go_simp)
          have r0 : w3.cell? ⟨w.heap.size + 1, 0, none⟩ = some (.slice none 0 0) := (HB4.out.cell (by simp; omega)).trans (R0.out _)
          have r1 : w3.cell? ⟨w.heap.size + 1, 1, none⟩ = some (.slice none 0 0) := (HB4.out.cell (by simp; omega)).trans (R1.out _)
          have f0 : w3.frozen? ⟨w.heap.size + 1, 0, none⟩ = false := (HB4.out.frozen (by simp; omega)).trans (F0.out _)
          have f1 : w3.frozen? ⟨w.heap.size + 1, 1, none⟩ = false := (HB4.out.frozen (by simp; omega)).trans (F1.out _)
          have Y0 : Hid (Ints w3 xa (pieceOf f 0 k)) := (X0.out _).later hb3
          have Y1 : Hid (Ints w3 xa' (pieceOf f k j)) := (X1.out _).later hb3
          have HI : Hid (sameF (pieceOf f 0 k) (pieceOf f k j) (pieceOf f 0 h.length) (pieceOf f h.length l.length) = true ↔ Round f k j) := same_round (by omega) hl0 hround
          clear hb3 X0 X1 e0 e1
          generalize sameF (pieceOf f 0 k) (pieceOf f k j) (pieceOf f 0 h.length) (pieceOf f h.length l.length) = sb at *
          cases sb
          · go_wp2
            go_roundw
            case rel =>
              refine ⟨j + 1, by omega, by omega, by go_num, fun q h1 h2 => ?_, HB4.out⟩
              by_cases hq : q = j
              · rw [hq]; intro hr; have := HI.out.2 hr; simp at this
              · exact HJ.out q h1 (by omega)
            case measure => simp [intOf]; omega
          · have HS : Hid (Shortest f k j) := least_shortest hl0 hround hj1 (HI.out.1 rfl) HK.out HJ.out hjl
            have HE0 : Hid (Ints ((w3.setCell ⟨w.heap.size + 1, 0, none⟩ (.slice xa k xd)).setCell ⟨w.heap.size + 1, 1, none⟩ (.slice xa' j xd')) xa (pieceOf f 0 k)) := (Y0.out.setOther (v := .bool true) r0).setOther (v := .bool true) (by rw [World.cell?_setCell_other _ _ _ _ (by simp)]; exact r1)
            have HE1 : Hid (Ints ((w3.setCell ⟨w.heap.size + 1, 0, none⟩ (.slice xa k xd)).setCell ⟨w.heap.size + 1, 1, none⟩ (.slice xa' j xd')) xa' (pieceOf f k j)) := (Y1.out.setOther (v := .bool true) r0).setOther (v := .bool true) (by rw [World.cell?_setCell_other _ _ _ _ (by simp)]; exact r1)
            go_wp2
            have q0 : (w3.setCell ⟨w.heap.size + 1, 0, none⟩ (.slice xa k xd)).cell? ⟨w.heap.size + 1, 0, none⟩ = some (.slice xa k xd) := cell_set_same r0
            have q1 : ((w3.setCell ⟨w.heap.size + 1, 0, none⟩ (.slice xa k xd)).setCell ⟨w.heap.size + 1, 1, none⟩ (.slice xa' j xd')).cell? ⟨w.heap.size + 1, 1, none⟩ = some (.slice xa' j xd') := cell_set_two r1
            exact bodyPost_ret (v := .agg #[.slice xa k xd, .slice xa' j xd']) (by simp [results, Try.results22, go_sem, q0, q1]) rfl ⟨j, k, xa, xd, xa', xd', rfl, HS.out, by omega, by omega, HE0.out, HE1.out, ((HB1.out.trans (HB4.out.mono (by omega))).setCell (by simp) _).setCell (by simp) _⟩
        · go_wp2
          go_roundw
          case rel =>
            refine ⟨k + 1, by omega, by go_num, fun s hs q h1 h2 => ?_, HBj.out⟩
            by_cases hsk : s = k
            · rw [hsk]; exact HJ.out q h1 (by omega)
            · exact HK.out s (by omega) q h1 h2
          case measure => simp [intOf]; omega
    · exact absurd hround (HK.out h.length (by omega) l.length hl0 (Nat.le_refl _))

end Go.Proofs.Ythccdfjmkdcehaa
