/- Which of two rules stands ahead: the program's order. -/
import Derived.Test.YtnlkdihfoekjmaaTrBase
import Derived.Deep.RegionWith
import Derived.Deep.RegionHeld3
namespace Go.Proofs.Ytnlkdihfoekjmaa
open Go.RowKit
set_option linter.unusedVariables false

theorem isNaN_any (x : Int) (w : World) : Calls Try.prog 45 #[.int .i64 x] w fun e w' => e = .returned (.bool false) ∧ w' = w := by
  go_enter Try.func45, Try.ntmps45
  go_wp2
  go_ret
  simp

def cmpF (x y : Int) : Int := if x < y then -1 else if y < x then 1 else 0
theorem cmpF_ge (x y : Int) : 0 ≤ cmpF x y ↔ ¬ x < y := by unfold cmpF; split <;> (try split) <;> omega
theorem cmpF_zero (x y : Int) : cmpF x y = 0 ↔ x = y := by unfold cmpF; split <;> (try split) <;> omega

theorem compare_any (x y : Int) (w : World) : Calls Try.prog 34 #[.int .i64 x, .int .i64 y] w fun e w' => e = .returned (.int .i64 (cmpF x y)) ∧ w' = w := by
  obtain ⟨z, hz⟩ : ∃ z, cmpF x y = z := ⟨_, rfl⟩
  rw [hz]
  have HN : Hid (∀ x W, Calls Try.prog 45 #[.int .i64 x] W fun e w' => e = .returned (.bool false) ∧ w' = W) := fun x W => isNaN_any x W
  have HZ : Hid (cmpF x y = z) := hz
  clear hz
  go_enter Try.func34, Try.ntmps34
  go_wp2_with fail
  refine (HN.out _ _).mono ?_
  rintro e w' ⟨rfl, rfl⟩
  go_wp2_with fail
  refine (HN.out _ _).mono ?_
  rintro e w' ⟨rfl, rfl⟩
  rcases Int.lt_trichotomy x y with c | c | c
  · go_wp2_with fail
    go_ret
    rw [← HZ.out]
    exact ⟨by simp [cmpF, c], rfl⟩
  · subst c
    have c1 : ¬ x < x := by omega
    go_wp2_with fail
    go_ret
    rw [← HZ.out]
    exact ⟨by simp [cmpF], rfl⟩
  · have c1 : ¬ x < y := by omega
    go_wp2_with fail
    go_ret
    rw [← HZ.out]
    exact ⟨by simp [cmpF, c, c1], rfl⟩

/-- The first number that is not nought. -/
def firstF : List Int → Int
  | [] => 0
  | z :: zs => if z = 0 then firstF zs else z
theorem firstF_drop {zs : List Int} {k : Nat} (hk : k < zs.length) (h0 : zs.getD k 0 = 0) : firstF (zs.drop k) = firstF (zs.drop (k + 1)) := by
  rw [List.drop_eq_getElem_cons hk]
  have : zs[k] = 0 := by rw [← h0, getD_lt hk]
  simp [firstF, this]
theorem firstF_hit {zs : List Int} {k : Nat} (hk : k < zs.length) (h0 : zs.getD k 0 ≠ 0) : firstF (zs.drop k) = zs.getD k 0 := by
  rw [List.drop_eq_getElem_cons hk]
  rw [getD_lt hk] at h0 ⊢
  simp [firstF, h0]

set_option maxHeartbeats 800000 in
theorem or_any (zs : List Int) (a : Option Addr) (c : Nat) (w : World) (h : Ints w a zs) (hm : zs.length ≤ maxLen) : Calls Try.prog 33 #[.slice a zs.length c] w fun e w' => e = .returned (.int .i64 (firstF zs)) ∧ w' = w := by
  unfold maxLen at hm
  have HZ : Hid (Ints w a zs) := h
  obtain ⟨z, hz⟩ : ∃ z, firstF zs = z := ⟨_, rfl⟩
  have HF : Hid (firstF zs = z) := hz
  rw [hz]
  clear h hz
  go_enter Try.func33, Try.ntmps33
  go_wp2_with fail
  go_loop [8] (fun v => ∃ k : Nat, k ≤ zs.length ∧ v = .int .i64 k ∧ firstF (zs.drop k) = firstF zs) (fun v => zs.length - (intOf v).toNat)
  case atStart => exact ⟨0, Nat.zero_le _, rfl, rfl⟩
  case round =>
    obtain ⟨k, hk, rfl, hg⟩ := hrel
    have HJ : Hid (firstF (zs.drop k) = firstF zs) := hg
    clear hg
    by_cases hlt : k < zs.length
    · obtain ⟨b, off, rfl, hc⟩ := HZ.out.at hlt
      have hck := hc k hlt
      clear hc
      obtain ⟨x, hx⟩ : ∃ x, zs.getD k 0 = x := ⟨_, rfl⟩
      rw [hx] at hck
      have HX : Hid (zs.getD k 0 = x) := hx
      clear hx
      by_cases g1 : x = 0
      · have g2 : (x != 0) = false := by simpa using g1
        have HN : Hid (firstF (zs.drop (k + 1)) = firstF zs) := by show _ = _; rw [← HJ.out, firstF_drop hlt (by rw [HX.out]; exact g1)]
        clear g1
        go_wp2_with fail
        go_round
        case rel => exact ⟨k + 1, by omega, by go_num, HN.out⟩
        case measure => simp [intOf]; omega
      · have g2 : (x != 0) = true := by simpa using g1
        have HN : Hid (z = x) := by show _ = _; rw [← HF.out, ← HJ.out, firstF_hit hlt (by rw [HX.out]; exact g1), HX.out]
        clear g1
        go_wp2_with fail
        go_ret
        exact ⟨ret_int HN.out.symm, rfl⟩
    · have HN : Hid (z = 0) := by show _ = _; rw [← HF.out, ← HJ.out, List.drop_eq_nil_of_le (by omega)]; rfl
      go_wp2_with fail
      go_ret
      exact ⟨ret_int HN.out.symm, rfl⟩

def ordF (x y : RuleI) : Int := firstF [cmpF x.1 y.1, cmpF x.2.1 y.2.1, cmpF x.2.2.1 y.2.2.1, cmpF x.2.2.2 y.2.2.2]
theorem ordF_ge (x y : RuleI) : 0 ≤ ordF x y ↔ ¬ LexR x y := by
  obtain ⟨a, b, c, d⟩ := x
  obtain ⟨a', b', c', d'⟩ := y
  simp only [ordF, firstF, cmpF_zero, LexR]
  by_cases e1 : a = a'
  · rw [if_pos e1]
    by_cases e2 : b = b'
    · rw [if_pos e2]
      by_cases e3 : c = c'
      · rw [if_pos e3]
        by_cases e4 : d = d'
        · rw [if_pos e4]; omega
        · rw [if_neg e4, cmpF_ge]; omega
      · rw [if_neg e3, cmpF_ge]; omega
    · rw [if_neg e2, cmpF_ge]; omega
  · rw [if_neg e1, cmpF_ge]; omega
abbrev ruleV (x : RuleI) : Value := .agg #[.int .i64 x.1, .int .i64 x.2.1, .int .i64 x.2.2.1, .int .i64 x.2.2.2]

/-- The cells of both boxes. -/
abbrev KeepR (P W : World) (b : Nat) (x y : RuleI) : Prop := P.grownBy W none ∧ Rule4 W b 0 x ∧ Rule4 W (b + 1) 0 y

set_option maxHeartbeats 3200000 in
set_option maxRecDepth 100000 in
theorem orderT_any (x y : RuleI) (w : World) : Calls Try.prog 27 #[ruleV x, ruleV y] w (Says (.int .i64 (ordF x y)) w) := by
  obtain ⟨x0, x1, x2, x3⟩ := x
  obtain ⟨y0, y1, y2, y3⟩ := y
  simp only [ruleV, ordF]
  have HC : ∀ p q W, Calls Try.prog 34 #[.int .i64 p, .int .i64 q] W fun e w' => e = .returned (.int .i64 (cmpF p q)) ∧ w' = W := fun p q W => compare_any p q W
  have HO : Hid (∀ (z0 z1 z2 z3 : Int) (g : Nat) (W : World), W.heap[g]? = some (.cells #[.int .i64 z0, .int .i64 z1, .int .i64 z2, .int .i64 z3] 3 (0, 0)) → Calls Try.prog 33 #[.slice (some ⟨g, 0, none⟩) 4 4] W fun e w' => e = .returned (.int .i64 (firstF [z0, z1, z2, z3])) ∧ w' = W) := fun z0 z1 z2 z3 g W hg => or_any [z0, z1, z2, z3] (some ⟨g, 0, none⟩) 4 W (.inr ⟨g, 0, rfl, fun i hi => by
    simp only [List.length_cons, List.length_nil] at hi
    rw [Nat.zero_add, cell_of_row _ _ i _ _ (0, 0) hg]
    rcases (by omega : i = 0 ∨ i = 1 ∨ i = 2 ∨ i = 3) with rfl | rfl | rfl | rfl <;> rfl⟩) (by simp [maxLen])
  have H0 : Hid (∀ W, Calls Try.prog 34 #[.int .i64 x0, .int .i64 y0] W fun e w' => e = .returned (.int .i64 (cmpF x0 y0)) ∧ w' = W) := HC x0 y0
  have H1 : Hid (∀ W, Calls Try.prog 34 #[.int .i64 x1, .int .i64 y1] W fun e w' => e = .returned (.int .i64 (cmpF x1 y1)) ∧ w' = W) := HC x1 y1
  have H2 : Hid (∀ W, Calls Try.prog 34 #[.int .i64 x2, .int .i64 y2] W fun e w' => e = .returned (.int .i64 (cmpF x2 y2)) ∧ w' = W) := HC x2 y2
  have H3 : Hid (∀ W, Calls Try.prog 34 #[.int .i64 x3, .int .i64 y3] W fun e w' => e = .returned (.int .i64 (cmpF x3 y3)) ∧ w' = W) := HC x3 y3
  generalize cmpF x0 y0 = z0 at *
  generalize cmpF x1 y1 = z1 at *
  generalize cmpF x2 y2 = z2 at *
  generalize cmpF x3 y3 = z3 at *
  have HO' : Hid (∀ (g : Nat) (W : World), W.heap[g]? = some (.cells #[.int .i64 z0, .int .i64 z1, .int .i64 z2, .int .i64 z3] 3 (0, 0)) → Calls Try.prog 33 #[.slice (some ⟨g, 0, none⟩) 4 4] W fun e w' => e = .returned (.int .i64 (firstF [z0, z1, z2, z3])) ∧ w' = W) := HO.out z0 z1 z2 z3
  generalize firstF [z0, z1, z2, z3] = z at *
  clear HC HO
  obtain ⟨W1, hW1⟩ : ∃ W1, W1 = w.alloc (.cells #[.int .i64 x0, .int .i64 x1, .int .i64 x2, .int .i64 x3] 47) := ⟨_, rfl⟩
  obtain ⟨W2, hW2⟩ : ∃ W2, W2 = W1.alloc (.cells #[.int .i64 y0, .int .i64 y1, .int .i64 y2, .int .i64 y3] 47) := ⟨_, rfl⟩
  have HW2 : Hid (W2 = (w.alloc (.cells #[.int .i64 x0, .int .i64 x1, .int .i64 x2, .int .i64 x3] 47)).alloc (.cells #[.int .i64 y0, .int .i64 y1, .int .i64 y2, .int .i64 y3] 47)) := by show _ = _; rw [hW2, hW1]
  have G2 : Hid (w.grownBy W2 none) := by rw [hW2, hW1]; exact grown_trans (grown_alloc _ _) (grown_alloc _ _)
  have K0 : Hid (Rule4 W2 w.heap.size 0 (x0, x1, x2, x3) ∧ Rule4 W2 (w.heap.size + 1) 0 (y0, y1, y2, y3)) := by
    have h1 := heap_alloc_new w (.cells #[.int .i64 x0, .int .i64 x1, .int .i64 x2, .int .i64 x3] 47)
    have h2 := heap_alloc_new W1 (.cells #[.int .i64 y0, .int .i64 y1, .int .i64 y2, .int .i64 y3] 47)
    rw [← hW1] at h1
    rw [← hW2, hW1, World.size_alloc] at h2
    have g12 : W1.grownBy W2 none := by rw [hW2]; exact grown_alloc _ _
    have hc : ∀ k v, #[Value.int .i64 x0, .int .i64 x1, .int .i64 x2, .int .i64 x3][k]? = some v → W2.cell? ⟨w.heap.size, k, none⟩ = some v := fun k v hv => g12.cell (by rw [cell_of_row _ _ k _ _ (0, 0) h1]; exact hv) (by simp)
    have hd : ∀ k v, #[Value.int .i64 y0, .int .i64 y1, .int .i64 y2, .int .i64 y3][k]? = some v → W2.cell? ⟨w.heap.size + 1, k, none⟩ = some v := fun k v hv => by rw [cell_of_row _ _ k _ _ (0, 0) h2]; exact hv
    exact ⟨⟨hc 0 _ rfl, hc 1 _ rfl, hc 2 _ rfl, hc 3 _ rfl⟩, ⟨hd 0 _ rfl, hd 1 _ rfl, hd 2 _ rfl, hd 3 _ rfl⟩⟩
  obtain ⟨⟨c0, c1, c2, c3⟩, ⟨d0, d1, d2, d3⟩⟩ := K0.out
  have HA : Hid (∀ o : Obj, (W2.alloc o).drew.heap[W2.heap.size]? = some o) := fun o => heap_alloc_new W2 o
  have GA : Hid (∀ o : Obj, w.grownBy (W2.alloc o).drew none) := fun o => grown_drew (grown_trans G2.out (grown_alloc _ _))
  clear hW1 hW2 K0
  simp only [Nat.zero_add] at c0 c1 c2 c3 d0 d1 d2 d3
  go_enter Try.func27, Try.ntmps27
  go_wp2_with fail
  rw [← HW2.out]
  clear HW2
  generalize w.heap.size = b0 at *
  have KK : Hid (∀ W, W2.grownBy W none → W.cell? ⟨b0, 0, none⟩ = some (.int .i64 x0) ∧ W.cell? ⟨b0, 1, none⟩ = some (.int .i64 x1) ∧ W.cell? ⟨b0, 2, none⟩ = some (.int .i64 x2) ∧ W.cell? ⟨b0, 3, none⟩ = some (.int .i64 x3) ∧ W.cell? ⟨b0 + 1, 0, none⟩ = some (.int .i64 y0) ∧ W.cell? ⟨b0 + 1, 1, none⟩ = some (.int .i64 y1) ∧ W.cell? ⟨b0 + 1, 2, none⟩ = some (.int .i64 y2) ∧ W.cell? ⟨b0 + 1, 3, none⟩ = some (.int .i64 y3)) := fun W hW => ⟨hW.cell c0 (by simp), hW.cell c1 (by simp), hW.cell c2 (by simp), hW.cell c3 (by simp), hW.cell d0 (by simp), hW.cell d1 (by simp), hW.cell d2 (by simp), hW.cell d3 (by simp)⟩
  clear c0 c1 c2 c3 d0 d1 d2 d3
  go_region_held3 (fun W => W.cell? ⟨b0, 0, none⟩ = some (.int .i64 x0) ∧ W.cell? ⟨b0, 1, none⟩ = some (.int .i64 x1) ∧ W.cell? ⟨b0, 2, none⟩ = some (.int .i64 x2) ∧ W.cell? ⟨b0, 3, none⟩ = some (.int .i64 x3) ∧ W.cell? ⟨b0 + 1, 0, none⟩ = some (.int .i64 y0) ∧ W.cell? ⟨b0 + 1, 1, none⟩ = some (.int .i64 y1) ∧ W.cell? ⟨b0 + 1, 2, none⟩ = some (.int .i64 y2) ∧ W.cell? ⟨b0 + 1, 3, none⟩ = some (.int .i64 y3))
    (first | (with_reducible exact KK.out _ (grown_drew (grown_refl _ _))) | (with_reducible exact KK.out _ (grown_drew (grown_alloc _ _))) | assumption)
    (first
    | (go_at_call_of 34 (Value.int .i64 x0); refine (H0.out _).mono ?_; rintro e wA ⟨rfl, rfl⟩)
    | (go_at_call_of 34 (Value.int .i64 x1); refine (H1.out _).mono ?_; rintro e wA ⟨rfl, rfl⟩)
    | (go_at_call_of 34 (Value.int .i64 x2); refine (H2.out _).mono ?_; rintro e wA ⟨rfl, rfl⟩)
    | (go_at_call_of 34 (Value.int .i64 x3); refine (H3.out _).mono ?_; rintro e wA ⟨rfl, rfl⟩)
    | (go_at_call 33; refine (HO'.out _ _ (HA.out _)).mono ?_; rintro e wA ⟨rfl, rfl⟩))
  all_goals
    go_wp2_with fail
    go_ret
    exact ⟨rfl, GA.out _⟩

end Go.Proofs.Ytnlkdihfoekjmaa
