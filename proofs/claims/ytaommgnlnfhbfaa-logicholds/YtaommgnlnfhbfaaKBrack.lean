/- A bracket, and a part of a formula, as the program reads them. -/
import Derived.Test.YtaommgnlnfhbfaaKBound
namespace Go.Proofs.Ytaommgnlnfhbfaa
open Go.RowKit
set_option linter.unusedVariables false

def brackK (s : ByteArray) (W : PL) : PL := fun i n d sc => if d = 40 then .bad 7 i else match W (i + 1) n (d + 1) sc with
  | .bad c j => .bad c j
  | .good f j n' => if byT s j = 41 then .good f (j + 1) n' else .bad 4 j

theorem trL_node (f : Lf) : ∃ k l r se x y, trL f = .node k l r se x y := by cases f <;> exact ⟨_, _, _, _, _, _, rfl⟩

set_option maxHeartbeats 6400000 in
theorem brackK_does (s : ByteArray) (W : PL) (m : Nat) (hs : s.size ≤ 4000) (hF : FwdK s W) (hWd : KDoes 15 s W m) (i n d b : Nat) (sc : List Nat) (w : World) (a : Option Addr) (cap : Nat) (hi : i < s.size) (hm : s.size - i < m + 1) (hn : n ≤ 30) (hd : d ≤ 40) (hsl : sc.length ≤ 3) (h : LRd w b s i n d 0 0) (hc : ScAt w b a cap sc) :
    Calls Try.prog 32 #[.pointer (some ⟨b, 0, none⟩), .slice a sc.length cap] w (KGives s b d w (brackK s W i n d sc)) := by
  have HSk : Hid (∀ W' i' n' d' (C : Int) (J : Nat), i' ≤ s.size → LRd W' b s i' n' d' C J → Calls Try.prog 28 #[.pointer (some ⟨b, 0, none⟩)] W' fun e w' => e = .returned (.tuple #[]) ∧ W'.grownBy w' (some b) ∧ LRd w' b s (min (i' + 1) s.size) n' d' C J) := fun W' i' n' d' C J h1 h2 => skipK_any s b i' n' d' C J W' hs h1 h2
  have HFs : Hid (∀ W' n' d' (C : Int) (J : Nat), C ≠ 0 → n' ≤ 100 → d' ≤ 100 → w.grownBy W' (some b) → LRd W' b s s.size n' d' C J → Calls Try.prog 15 #[.pointer (some ⟨b, 0, none⟩), .slice a sc.length cap] W' fun e w' => W'.grownBy w' (some b) ∧ LRd w' b s s.size n' d' C J ∧ ∃ (v : Value) (k : Nat) (l r : TrL) (se : Bool) (x y : Int), e = .returned v ∧ TreeL (fun k => W'.heap.size ≤ k) w' v (.node k l r se x y)) := fun W' n' d' C J h1 h2 h3 h4 h5 => formK_stop s hs n' d' b C J sc W' a cap h1 h2 h3 (by omega) h5 (hc.kept h4)
  have HPk : Hid (∀ W' i' n' d' (C : Int) (J : Nat), i' ≤ s.size → LRd W' b s i' n' d' C J → Calls Try.prog 24 #[.pointer (some ⟨b, 0, none⟩)] W' fun e w' => e = .returned (.int .u8 (byT s i')) ∧ W'.grownBy w' none) := fun W' i' n' d' C J h1 h2 => peekK_any s b i' n' d' C J W' hs h1 h2
  have HWd : Hid (∀ W', w.grownBy W' (some b) → d + 1 ≤ 40 → LRd W' b s (i + 1) n (d + 1) 0 0 → Calls Try.prog 15 #[.pointer (some ⟨b, 0, none⟩), .slice a sc.length cap] W' (KGives s b (d + 1) W' (W (i + 1) n (d + 1) sc))) := fun W' h1 h2 h3 => hWd (i + 1) n (d + 1) b sc W' a cap (by omega) (by omega) hn h2 hsl h3 (hc.kept h1)
  have H : Hid (LRd w b s i n d 0 0) := h
  have H0 : Hid (b < w.heap.size) := h.lt
  have hfw := hF (i + 1) n (d + 1) sc (by omega) hn
  have c3 := h.c3
  have f3 := h.f 3
  clear h hc hWd
  -- the end of a bracket behind a fault
  have HEnd : Hid (∀ (W1 : World) n' (C : Int) (J : Nat) (x : Option Addr) (k : Nat) (l r : TrL) (se : Bool) (u y : Int), n' ≤ 32 → w.grownBy W1 (some b) → LRd W1 b s s.size n' (d + 1) C J → TreeL (fun k => w.heap.size ≤ k) W1 (.pointer x) (.node k l r se u y) → KGives s b d w (.bad C J) (.returned (.pointer x)) (W1.setCell ⟨b, 3, none⟩ (.int .i64 (d : Int)))) := fun W1 n' C J x k l r se u y h1 h2 h3 h4 => ⟨grown_trans h2 (grown_set _ _ _), .pointer x, k, l, r, se, u, y, n', rfl, h1, h3.set3 d (by omega), h4.past (grown_set _ _ _) H0.out⟩
  unfold brackK
  by_cases h40 : d = 40
  · rw [if_pos h40]
    subst h40
    go_enter Try.func32, Try.ntmps32
    go_wp2_with fail
    refine (failK_first s b i n 40 0 7 _ hs H.out).mono ?_
    rintro e w1 ⟨rfl, hg1, hr1⟩
    have R1 : Hid (LRd w1 b s s.size n 40 7 i) := hr1
    have G1 : Hid (w.grownBy w1 (some b)) := hg1
    have R2 : Hid (LRd (w1.setCell ⟨b, 3, none⟩ (.int .i64 41)) b s s.size n (40 + 1) 7 i) := hr1.set3 (40 + 1) (by omega)
    have G2 : Hid (w.grownBy (w1.setCell ⟨b, 3, none⟩ (.int .i64 41)) (some b)) := grown_trans hg1 (grown_set _ _ _)
    have x3 := R1.out.c3
    have y3 := R1.out.f 3
    clear hg1 hr1 R1 G1 c3 f3
    go_wp2_with fail
    refine (HSk.out _ _ _ _ _ _ (Nat.le_refl _) R2.out).mono ?_
    rintro e w3 ⟨rfl, hg3, hr3⟩
    rw [show min (s.size + 1) s.size = s.size by omega] at hr3
    have R3 : Hid (LRd w3 b s s.size n (40 + 1) 7 i) := hr3
    have G3 : Hid (w.grownBy w3 (some b)) := grown_trans G2.out hg3
    clear hg3 hr3 R2 G2 x3 y3
    go_wp2_with fail
    refine (HFs.out _ n (40 + 1) 7 i (by omega) (by omega) (by omega) G3.out R3.out).mono ?_
    rintro e w4 ⟨hg4, hr4, v, k, l, r, se, u, y, rfl, ht4⟩
    obtain ⟨x, rfl⟩ := ht4.form
    have R4 : Hid (LRd w4 b s s.size n (40 + 1) 7 i) := hr4
    have G4 : Hid (w.grownBy w4 (some b)) := grown_trans G3.out hg4
    have T4 : Hid (TreeL (fun k => w.heap.size ≤ k) w4 (.pointer x) (.node k l r se u y)) := ht4.from G3.out.size
    clear hg4 hr4 ht4 R3 G3
    go_wp2_with fail
    refine (HPk.out _ _ _ _ _ _ (Nat.le_refl _) R4.out).mono ?_
    rintro e w5 ⟨rfl, hg5⟩
    rw [byT_end]
    have R5 : Hid (LRd w5 b s s.size n (40 + 1) 7 i) := R4.out.kept hg5
    have G5 : Hid (w.grownBy w5 (some b)) := grown_trans G4.out (grown_some hg5)
    have T5 : Hid (TreeL (fun k => w.heap.size ≤ k) w5 (.pointer x) (.node k l r se u y)) := T4.out.grown hg5
    clear hg5 R4 G4 T4
    go_wp2_with fail
    refine (failK_again s b s.size n (40 + 1) 7 i 4 _ hs (by omega) R5.out).mono ?_
    rintro e w6 ⟨rfl, hg6, hr6⟩
    have R6 : Hid (LRd w6 b s s.size n (40 + 1) 7 i) := hr6
    have G6 : Hid (w.grownBy w6 (some b)) := grown_trans G5.out hg6
    have T6 : Hid (TreeL (fun k => w.heap.size ≤ k) w6 (.pointer x) (.node k l r se u y)) := T5.out.past hg6 H0.out
    clear hg6 hr6 R5 G5 T5
    go_wp2_with fail
    refine (HSk.out _ _ _ _ _ _ (Nat.le_refl _) R6.out).mono ?_
    rintro e w7 ⟨rfl, hg7, hr7⟩
    rw [show min (s.size + 1) s.size = s.size by omega] at hr7
    have E : Hid _ := HEnd.out w7 n 7 i x k l r se u y (by omega) (grown_trans G6.out hg7) hr7 (T6.out.past hg7 H0.out)
    have x3 := hr7.c3
    have y3 := hr7.f 3
    clear hg7 hr7 R6 G6 T6
    go_wp2_with fail
    go_ret
    exact E.out
  · rw [if_neg h40]
    have h40' : ((d : Int) == 40) = false := by simp; omega
    have R2 : Hid (LRd (w.setCell ⟨b, 3, none⟩ (.int .i64 ((d : Int) + 1))) b s i n (d + 1) 0 0) := H.out.set3 (d + 1) (by omega)
    have G2 : Hid (w.grownBy (w.setCell ⟨b, 3, none⟩ (.int .i64 ((d : Int) + 1))) (some b)) := grown_set _ _ _
    have CW : Hid (∀ W', w.grownBy W' (some b) → LRd W' b s (i + 1) n (d + 1) 0 0 → Calls Try.prog 15 #[.pointer (some ⟨b, 0, none⟩), .slice a sc.length cap] W' (KGives s b (d + 1) W' (W (i + 1) n (d + 1) sc))) := fun W' h1 h2 => HWd.out W' h1 (by omega) h2
    clear HWd HFs
    cases hR : W (i + 1) n (d + 1) sc with
    | bad C J =>
      rw [hR] at CW hfw
      have hC : C ≠ 0 := by have := hfw.1; omega
      clear hR hfw
      simp only
      go_enter Try.func32, Try.ntmps32
      go_wp2_with fail
      refine (HSk.out _ _ _ _ _ _ (by omega) R2.out).mono ?_
      rintro e w3 ⟨rfl, hg3, hr3⟩
      rw [show min (i + 1) s.size = i + 1 by omega] at hr3
      have R3 : Hid (LRd w3 b s (i + 1) n (d + 1) 0 0) := hr3
      have G3 : Hid (w.grownBy w3 (some b)) := grown_trans G2.out hg3
      clear hg3 hr3 R2 G2
      go_wp2_with fail
      refine (CW.out _ G3.out R3.out).mono ?_
      rintro e w4 ⟨hg4, v, k, l, r, se, u, y, n4, rfl, hn4, hr4, ht4⟩
      obtain ⟨x, rfl⟩ := ht4.form
      have R4 : Hid (LRd w4 b s s.size n4 (d + 1) C J) := hr4
      have G4 : Hid (w.grownBy w4 (some b)) := grown_trans G3.out hg4
      have T4 : Hid (TreeL (fun k => w.heap.size ≤ k) w4 (.pointer x) (.node k l r se u y)) := ht4.from G3.out.size
      clear hg4 hr4 ht4 R3 G3
      go_wp2_with fail
      refine (HPk.out _ _ _ _ _ _ (Nat.le_refl _) R4.out).mono ?_
      rintro e w5 ⟨rfl, hg5⟩
      rw [byT_end]
      have R5 : Hid (LRd w5 b s s.size n4 (d + 1) C J) := R4.out.kept hg5
      have G5 : Hid (w.grownBy w5 (some b)) := grown_trans G4.out (grown_some hg5)
      have T5 : Hid (TreeL (fun k => w.heap.size ≤ k) w5 (.pointer x) (.node k l r se u y)) := T4.out.grown hg5
      clear hg5 R4 G4 T4
      go_wp2_with fail
      refine (failK_again s b s.size n4 (d + 1) C J 4 _ hs hC R5.out).mono ?_
      rintro e w6 ⟨rfl, hg6, hr6⟩
      have R6 : Hid (LRd w6 b s s.size n4 (d + 1) C J) := hr6
      have G6 : Hid (w.grownBy w6 (some b)) := grown_trans G5.out hg6
      have T6 : Hid (TreeL (fun k => w.heap.size ≤ k) w6 (.pointer x) (.node k l r se u y)) := T5.out.past hg6 H0.out
      clear hg6 hr6 R5 G5 T5
      go_wp2_with fail
      refine (HSk.out _ _ _ _ _ _ (Nat.le_refl _) R6.out).mono ?_
      rintro e w7 ⟨rfl, hg7, hr7⟩
      rw [show min (s.size + 1) s.size = s.size by omega] at hr7
      have E : Hid _ := HEnd.out w7 n4 C J x k l r se u y (by omega) (grown_trans G6.out hg7) hr7 (T6.out.past hg7 H0.out)
      have x3 := hr7.c3
      have y3 := hr7.f 3
      clear hg7 hr7 R6 G6 T6
      go_wp2_with fail
      go_ret
      exact E.out
    | good f j n4 =>
      rw [hR] at CW hfw
      obtain ⟨a1, a2, a3, a4⟩ := hfw
      clear hR
      simp only
      by_cases h41 : byT s j = 41
      · rw [if_pos h41]
        have hjl := byT_pos h41 (by omega)
        go_enter Try.func32, Try.ntmps32
        go_wp2_with fail
        refine (HSk.out _ _ _ _ _ _ (by omega) R2.out).mono ?_
        rintro e w3 ⟨rfl, hg3, hr3⟩
        rw [show min (i + 1) s.size = i + 1 by omega] at hr3
        have R3 : Hid (LRd w3 b s (i + 1) n (d + 1) 0 0) := hr3
        have G3 : Hid (w.grownBy w3 (some b)) := grown_trans G2.out hg3
        clear hg3 hr3 R2 G2
        go_wp2_with fail
        refine (CW.out _ G3.out R3.out).mono ?_
        rintro e w4 ⟨hg4, v, rfl, hr4, ht4⟩
        have R4 : Hid (LRd w4 b s j n4 (d + 1) 0 0) := hr4
        have G4 : Hid (w.grownBy w4 (some b)) := grown_trans G3.out hg4
        have T4 : Hid (TreeL (fun k => w.heap.size ≤ k) w4 v (trL f)) := ht4.from G3.out.size
        clear hg4 hr4 ht4 R3 G3
        go_wp2_with fail
        refine (HPk.out _ _ _ _ _ _ a2 R4.out).mono ?_
        rintro e w5 ⟨rfl, hg5⟩
        rw [h41]
        have R5 : Hid (LRd w5 b s j n4 (d + 1) 0 0) := R4.out.kept hg5
        have G5 : Hid (w.grownBy w5 (some b)) := grown_trans G4.out (grown_some hg5)
        have T5 : Hid (TreeL (fun k => w.heap.size ≤ k) w5 v (trL f)) := T4.out.grown hg5
        clear hg5 R4 G4 T4
        go_wp2_with fail
        refine (HSk.out _ _ _ _ _ _ a2 R5.out).mono ?_
        rintro e w6 ⟨rfl, hg6, hr6⟩
        rw [show min (j + 1) s.size = j + 1 by omega] at hr6
        have E : Hid (KGives s b d w (.good f (j + 1) n4) (.returned v) (w6.setCell ⟨b, 3, none⟩ (.int .i64 (d : Int)))) := ⟨grown_trans G5.out (grown_trans hg6 (grown_set _ _ _)), v, rfl, hr6.set3 d (by omega), (T5.out.past hg6 H0.out).past (grown_set _ _ _) H0.out⟩
        have x3 := hr6.c3
        have y3 := hr6.f 3
        clear hg6 hr6 R5 G5 T5
        go_wp2_with fail
        go_ret
        exact E.out
      · rw [if_neg h41]
        have h41' : ((byT s j : Int) == 41) = false := by simp; omega
        go_enter Try.func32, Try.ntmps32
        go_wp2_with fail
        refine (HSk.out _ _ _ _ _ _ (by omega) R2.out).mono ?_
        rintro e w3 ⟨rfl, hg3, hr3⟩
        rw [show min (i + 1) s.size = i + 1 by omega] at hr3
        have R3 : Hid (LRd w3 b s (i + 1) n (d + 1) 0 0) := hr3
        have G3 : Hid (w.grownBy w3 (some b)) := grown_trans G2.out hg3
        clear hg3 hr3 R2 G2
        go_wp2_with fail
        refine (CW.out _ G3.out R3.out).mono ?_
        rintro e w4 ⟨hg4, v, rfl, hr4, ht4⟩
        have R4 : Hid (LRd w4 b s j n4 (d + 1) 0 0) := hr4
        have G4 : Hid (w.grownBy w4 (some b)) := grown_trans G3.out hg4
        obtain ⟨x, rfl⟩ := ht4.form
        obtain ⟨k, l, r, se, u, y, hnd⟩ := trL_node f
        rw [hnd] at ht4
        have T4 : Hid (TreeL (fun k => w.heap.size ≤ k) w4 (.pointer x) (.node k l r se u y)) := ht4.from G3.out.size
        clear hg4 hr4 ht4 R3 G3 hnd
        go_wp2_with fail
        refine (HPk.out _ _ _ _ _ _ a2 R4.out).mono ?_
        rintro e w5 ⟨rfl, hg5⟩
        have R5 : Hid (LRd w5 b s j n4 (d + 1) 0 0) := R4.out.kept hg5
        have G5 : Hid (w.grownBy w5 (some b)) := grown_trans G4.out (grown_some hg5)
        have T5 : Hid (TreeL (fun k => w.heap.size ≤ k) w5 (.pointer x) (.node k l r se u y)) := T4.out.grown hg5
        clear hg5 R4 G4 T4
        go_wp2_with fail
        refine (failK_first s b j n4 (d + 1) 0 4 _ hs R5.out).mono ?_
        rintro e w6 ⟨rfl, hg6, hr6⟩
        have R6 : Hid (LRd w6 b s s.size n4 (d + 1) 4 j) := hr6
        have G6 : Hid (w.grownBy w6 (some b)) := grown_trans G5.out hg6
        have T6 : Hid (TreeL (fun k => w.heap.size ≤ k) w6 (.pointer x) (.node k l r se u y)) := T5.out.past hg6 H0.out
        clear hg6 hr6 R5 G5 T5
        go_wp2_with fail
        refine (HSk.out _ _ _ _ _ _ (Nat.le_refl _) R6.out).mono ?_
        rintro e w7 ⟨rfl, hg7, hr7⟩
        rw [show min (s.size + 1) s.size = s.size by omega] at hr7
        have E : Hid _ := HEnd.out w7 n4 4 j x k l r se u y (by omega) (grown_trans G6.out hg7) hr7 (T6.out.past hg7 H0.out)
        have x3 := hr7.c3
        have y3 := hr7.f 3
        clear hg7 hr7 R6 G6 T6
        go_wp2_with fail
        go_ret
        exact E.out

end Go.Proofs.Ytaommgnlnfhbfaa
