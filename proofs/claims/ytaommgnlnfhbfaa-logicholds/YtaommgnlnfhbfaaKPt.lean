/- A part of a formula, as the program reads it. -/
import Derived.Test.YtaommgnlnfhbfaaKBrack
namespace Go.Proofs.Ytaommgnlnfhbfaa
open Go.RowKit
set_option linter.unusedVariables false

def qMap (q : Nat) (se : Bool) : LRes → LRes
  | .bad c j => .bad c j
  | .good f j n' => .good (qF q se f) j n'
theorem partK_eq (s : ByteArray) (P W : PL) (i n d : Nat) (sc : List Nat) (h1 : ¬ byT s i = 33) (h2 : ¬ byT s i = 40) (h3 : byT s i = 69 ∨ byT s i = 65) : partK s P W i n d sc = qMap (byT s i) (isSe (byT s (i + 1))) (boundQ s P i n d sc) := by
  unfold partK boundQ
  rw [if_neg h1, if_neg h2, if_pos h3]
  by_cases h4 : sc.length = 3 ∨ 30 < n + 1
  · rw [if_pos h4, if_pos h4]
    rfl
  · rw [if_neg h4, if_neg h4]
    by_cases h5 : isPl (byT s (i + 1)) = true ∨ isSe (byT s (i + 1)) = true
    · rw [if_pos h5, if_pos h5]
      cases P (i + 2) (n + 1) d (sc ++ [byT s (i + 1)]) <;> rfl
    · rw [if_neg h5, if_neg h5]
      rfl

theorem kgives_up {s : ByteArray} {b d : Nat} {w W' w' : World} {R : LRes} {e : Ending} (h : KGives s b d W' R e w') (hg : w.grownBy W' none) : ∃ x, e = .returned (.pointer x) ∧ KGives s b d w R e w' := by
  obtain ⟨h1, h2⟩ := h
  cases R with
  | good f j n' =>
    obtain ⟨v, h3, h4, h5⟩ := h2
    obtain ⟨x, rfl⟩ := h5.form
    exact ⟨x, h3, grown_trans (grown_some hg) h1, _, h3, h4, h5.from hg.size⟩
  | bad c j =>
    obtain ⟨v, k, l, r, se, x', y, n', h3, h4, h5, h6⟩ := h2
    obtain ⟨x, rfl⟩ := h6.form
    exact ⟨x, h3, grown_trans (grown_some hg) h1, _, k, l, r, se, x', y, n', h3, h4, h5, h6.from hg.size⟩
theorem negK_alloc (a : Option Addr) (w : World) : Calls Try.prog 31 #[.pointer a] w fun e w' => e = .returned (.pointer (some ⟨w.heap.size, 0, none⟩)) ∧ w' = w.alloc (.cells #[.int .i64 2, .pointer a, .pointer none, .bool false, .int .i64 0, .int .i64 0] 58) := by
  go_enter Try.func31, Try.ntmps31
  go_wp2
  go_ret
  exact ⟨rfl, rfl⟩
/-- What stands behind E. -/
theorem bd_some {s : ByteArray} {b d i : Nat} {w w' : World} {R : LRes} {e : Ending} (h : BdK s b d i w R e w') : ∃ x, e = .returned (.pointer x) ∧ KGives s b d w (qMap 69 (isSe (byT s (i + 1))) R) e w' := by
  obtain ⟨h1, g, lv, se, h2, h3, h4, h5⟩ := h
  refine ⟨_, h2, h1, ?_⟩
  cases R with
  | good f j n' =>
    obtain ⟨h6, h7, h8⟩ := h5
    subst h6
    exact ⟨_, h2, h7, .node g 3 _ .nil _ 0 0 lv (.pointer none) h3 h4 (h8.kept fun k hk _ => ⟨hk.1, rfl⟩) .nil⟩
  | bad c j =>
    obtain ⟨n', t, h6, h7, h8⟩ := h5
    exact ⟨_, 3, t, .nil, se, 0, 0, n', h2, h6, h7, .node g 3 _ .nil _ 0 0 lv (.pointer none) h3 h4 (h8.kept fun k hk _ => ⟨hk.1, rfl⟩) .nil⟩

set_option maxHeartbeats 6400000 in
theorem partK_does (s : ByteArray) (P W : PL) (m : Nat) (hs : s.size ≤ 4000) (hF : FwdK s P) (hW : FwdK s W) (hPd : KDoes 27 s P m) (hWd : KDoes 15 s W m) : KDoes 27 s (partK s P W) (m + 1) := by
  intro i n d b sc w a cap hi hm hn hd hsl h hc
  have HP : Hid (Calls Try.prog 24 #[.pointer (some ⟨b, 0, none⟩)] w fun e w' => e = .returned (.int .u8 (byT s i)) ∧ w.grownBy w' none) := peekK_any s b i n d 0 0 w hs hi h
  have HA : Hid (∀ W', w.grownBy W' none → Calls Try.prog 34 #[.pointer (some ⟨b, 0, none⟩), .slice a sc.length cap] W' (KGives s b d W' (atomK s i n d sc))) := fun W' hW' => atomK_does s (m + 1) hs i n d b sc W' a cap hi hm hn hd hsl (h.kept hW') (hc.kept (grown_some hW'))
  have HBr : Hid (∀ W', i < s.size → w.grownBy W' none → Calls Try.prog 32 #[.pointer (some ⟨b, 0, none⟩), .slice a sc.length cap] W' (KGives s b d W' (brackK s W i n d sc))) := fun W' h1 hW' => brackK_does s W m hs hW hWd i n d b sc W' a cap h1 hm hn hd hsl (h.kept hW') (hc.kept (grown_some hW'))
  have HBd : Hid (∀ W', i < s.size → w.grownBy W' none → Calls Try.prog 33 #[.pointer (some ⟨b, 0, none⟩), .slice a sc.length cap] W' (BdK s b d i W' (boundQ s P i n d sc))) := fun W' h1 hW' => boundK_does s P m hs hPd i n d b sc W' a cap h1 hm hn hd hsl (h.kept hW') (hc.kept (grown_some hW'))
  have HPt : Hid (∀ W', i < s.size → ¬ 30 < n + 1 → w.grownBy W' (some b) → LRd W' b s (i + 1) (n + 1) d 0 0 → Calls Try.prog 27 #[.pointer (some ⟨b, 0, none⟩), .slice a sc.length cap] W' (KGives s b d W' (P (i + 1) (n + 1) d sc))) := fun W' h1 h2 h3 h4 => hPd (i + 1) (n + 1) d b sc W' a cap (by omega) (by omega) (by omega) hd hsl h4 (hc.kept h3)
  have HPs : Hid (∀ W', w.grownBy W' (some b) → LRd W' b s s.size (n + 1) d 7 i → Calls Try.prog 27 #[.pointer (some ⟨b, 0, none⟩), .slice a sc.length cap] W' fun e w' => W'.grownBy w' (some b) ∧ LRd w' b s s.size (n + 1) d 7 i ∧ ∃ (v : Value) (k : Nat) (l r : TrL) (se : Bool) (x y : Int), e = .returned v ∧ TreeL (fun k => W'.heap.size ≤ k) w' v (.node k l r se x y)) := fun W' h1 h2 => partK_stop s hs (n + 1) d b 7 i sc W' a cap (by omega) (by omega) (by omega) (by omega) h2 (hc.kept h1)
  have HNg : Hid (∀ (B : Nat) (v : Value) (t : TrL) (W' : World), TreeL (fun g => B ≤ g) W' v t → B ≤ W'.heap.size → Calls Try.prog 31 #[v] W' fun e w' => W'.grownBy w' none ∧ ∃ g, W'.heap.size ≤ g ∧ e = .returned (.pointer (some ⟨g, 0, none⟩)) ∧ TreeL (fun g => B ≤ g) w' (.pointer (some ⟨g, 0, none⟩)) (.node 2 t .nil false 0 0)) := fun B v t W' h1 h2 => negK_any B v t W' h1 h2
  have HI : Hid (0 < byT s i → i < s.size) := fun h1 => byT_pos rfl h1
  have HEq := partK_eq s P W i n d sc
  have H : Hid (LRd w b s i n d 0 0) := h
  have H0 : Hid (b < w.heap.size) := h.lt
  clear h hc hPd hWd
  generalize hR0 : partK s P W i n d sc = R0 at *
  unfold partK at hR0
  generalize byT s i = c at *
  by_cases h33 : c = 33
  · rw [if_pos h33] at hR0
    have hil : i < s.size := HI.out (by omega)
    clear HEq HA HBr HBd HI
    by_cases hf : 30 < n + 1
    · rw [if_pos hf] at hR0
      subst hR0
      subst h33
      go_enter Try.func27, Try.ntmps27
      go_wp2_with fail
      refine HP.out.mono ?_
      rintro e w2 ⟨rfl, hg2⟩
      have G2 : Hid (w.grownBy w2 none) := hg2
      clear hg2
      go_wp2_with fail
      refine (countK_full s b i n d _ hs hi hn hf (H.out.kept G2.out)).mono ?_
      rintro e w3 ⟨rfl, hg3, hr3⟩
      have G3 : Hid (w.grownBy w3 (some b)) := grown_trans (grown_some G2.out) hg3
      have R3 : Hid (LRd w3 b s s.size (n + 1) d 7 i) := hr3
      clear hg3 hr3
      go_wp2_with fail
      refine (HPs.out _ G3.out R3.out).mono ?_
      rintro e w4 ⟨hg4, hr4, v, k, l, r, se, x, y, rfl, ht4⟩
      have G4 : Hid (w.grownBy w4 (some b)) := grown_trans G3.out hg4
      have R4 : Hid (LRd w4 b s s.size (n + 1) d 7 i) := hr4
      have T4 : Hid (TreeL (fun k => w.heap.size ≤ k) w4 v (.node k l r se x y)) := ht4.from G3.out.size
      clear hg4 hr4 ht4 R3 G3
      go_wp2_with fail
      refine (HNg.out _ _ _ _ T4.out G4.out.size).mono ?_
      rintro e w5 ⟨hg5, g5, hg5b, rfl, ht5⟩
      have E : Hid (KGives s b d w (.bad 7 i) (.returned (.pointer (some ⟨g5, 0, none⟩))) w5) := ⟨grown_trans G4.out (grown_some hg5), _, 2, _, _, _, _, _, n + 1, rfl, by omega, R4.out.kept hg5, ht5⟩
      clear hg5 ht5 R4 G4 T4
      go_wp2_with fail
      go_ret
      exact E.out
    · rw [if_neg hf] at hR0
      have CP : Hid (∀ W', w.grownBy W' (some b) → LRd W' b s (i + 1) (n + 1) d 0 0 → Calls Try.prog 27 #[.pointer (some ⟨b, 0, none⟩), .slice a sc.length cap] W' (KGives s b d W' (P (i + 1) (n + 1) d sc))) := fun W' h1 h2 => HPt.out W' hil hf h1 h2
      clear HPt HPs
      cases hR : P (i + 1) (n + 1) d sc with
      | bad C J =>
        rw [hR] at CP hR0
        simp only at hR0
        subst hR0
        subst h33
        clear hR
        go_enter Try.func27, Try.ntmps27
        go_wp2_with fail
        refine HP.out.mono ?_
        rintro e w2 ⟨rfl, hg2⟩
        have G2 : Hid (w.grownBy w2 none) := hg2
        clear hg2
        go_wp2_with fail
        refine (countK_go s b i n d _ hs hil hf (H.out.kept G2.out)).mono ?_
        rintro e w3 ⟨rfl, hg3, hr3⟩
        have G3 : Hid (w.grownBy w3 (some b)) := grown_trans (grown_some G2.out) hg3
        have R3 : Hid (LRd w3 b s (i + 1) (n + 1) d 0 0) := hr3
        clear hg3 hr3
        go_wp2_with fail
        refine (CP.out _ G3.out R3.out).mono ?_
        rintro e w4 ⟨hg4, v, k, l, r, se, x, y, n4, rfl, hn4, hr4, ht4⟩
        have G4 : Hid (w.grownBy w4 (some b)) := grown_trans G3.out hg4
        have R4 : Hid (LRd w4 b s s.size n4 d C J) := hr4
        have T4 : Hid (TreeL (fun k => w.heap.size ≤ k) w4 v (.node k l r se x y)) := ht4.from G3.out.size
        clear hg4 hr4 ht4 R3 G3
        go_wp2_with fail
        refine (HNg.out _ _ _ _ T4.out G4.out.size).mono ?_
        rintro e w5 ⟨hg5, g5, hg5b, rfl, ht5⟩
        have E : Hid (KGives s b d w (.bad C J) (.returned (.pointer (some ⟨g5, 0, none⟩))) w5) := ⟨grown_trans G4.out (grown_some hg5), _, 2, _, _, _, _, _, n4, rfl, hn4, R4.out.kept hg5, ht5⟩
        clear hg5 ht5 R4 G4 T4
        go_wp2_with fail
        go_ret
        exact E.out
      | good f j n4 =>
        rw [hR] at CP hR0
        simp only at hR0
        subst hR0
        subst h33
        clear hR
        go_enter Try.func27, Try.ntmps27
        go_wp2_with fail
        refine HP.out.mono ?_
        rintro e w2 ⟨rfl, hg2⟩
        have G2 : Hid (w.grownBy w2 none) := hg2
        clear hg2
        go_wp2_with fail
        refine (countK_go s b i n d _ hs hil hf (H.out.kept G2.out)).mono ?_
        rintro e w3 ⟨rfl, hg3, hr3⟩
        have G3 : Hid (w.grownBy w3 (some b)) := grown_trans (grown_some G2.out) hg3
        have R3 : Hid (LRd w3 b s (i + 1) (n + 1) d 0 0) := hr3
        clear hg3 hr3
        go_wp2_with fail
        refine (CP.out _ G3.out R3.out).mono ?_
        rintro e w4 ⟨hg4, v, rfl, hr4, ht4⟩
        have G4 : Hid (w.grownBy w4 (some b)) := grown_trans G3.out hg4
        have R4 : Hid (LRd w4 b s j n4 d 0 0) := hr4
        have T4 : Hid (TreeL (fun k => w.heap.size ≤ k) w4 v (trL f)) := ht4.from G3.out.size
        clear hg4 hr4 ht4 R3 G3
        go_wp2_with fail
        refine (HNg.out _ _ _ _ T4.out G4.out.size).mono ?_
        rintro e w5 ⟨hg5, g5, hg5b, rfl, ht5⟩
        have E : Hid (KGives s b d w (.good (.not f) j n4) (.returned (.pointer (some ⟨g5, 0, none⟩))) w5) := ⟨grown_trans G4.out (grown_some hg5), _, rfl, R4.out.kept hg5, ht5⟩
        clear hg5 ht5 R4 G4 T4
        go_wp2_with fail
        go_ret
        exact E.out
  · rw [if_neg h33] at hR0
    have k33 : ((c : Int) == 33) = false := by simp; omega
    clear HPt HPs
    by_cases h40 : c = 40
    · rw [if_pos h40] at hR0
      have hil : i < s.size := HI.out (by omega)
      have CB : Hid (∀ W', w.grownBy W' none → Calls Try.prog 32 #[.pointer (some ⟨b, 0, none⟩), .slice a sc.length cap] W' (KGives s b d W' R0)) := fun W' h1 => by
        have h2 := HBr.out W' hil h1
        rw [show brackK s W i n d sc = R0 from hR0] at h2
        exact h2
      clear HEq HA HBr HBd HI hR0
      subst h40
      go_enter Try.func27, Try.ntmps27
      go_wp2_with fail
      refine HP.out.mono ?_
      rintro e w2 ⟨rfl, hg2⟩
      have G2 : Hid (w.grownBy w2 none) := hg2
      clear hg2
      go_wp2_with fail
      refine (CB.out _ G2.out).mono ?_
      intro e w3 hK
      obtain ⟨x, rfl, hK2⟩ := kgives_up hK G2.out
      have E : Hid (KGives s b d w R0 (.returned (.pointer x)) w3) := hK2
      clear hK hK2
      go_wp2_with fail
      go_ret
      exact E.out
    · rw [if_neg h40] at hR0
      have k40 : ((c : Int) == 40) = false := by simp; omega
      clear HBr
      by_cases hq : c = 69 ∨ c = 65
      · have hil : i < s.size := HI.out (by omega)
        have hEq := HEq h33 h40 hq
        clear HEq HI HA hR0
        by_cases h69 : c = 69
        · subst h69
          have CB : Hid (∀ W', w.grownBy W' none → Calls Try.prog 33 #[.pointer (some ⟨b, 0, none⟩), .slice a sc.length cap] W' fun e w' => ∃ x, e = .returned (.pointer x) ∧ KGives s b d W' R0 e w') := fun W' h1 => (HBd.out W' hil h1).mono fun e w' h2 => by
            have h3 := bd_some h2
            rw [hEq]
            exact h3
          clear HBd hEq
          go_enter Try.func27, Try.ntmps27
          go_wp2_with fail
          refine HP.out.mono ?_
          rintro e w2 ⟨rfl, hg2⟩
          have G2 : Hid (w.grownBy w2 none) := hg2
          clear hg2
          go_wp2_with fail
          refine (CB.out _ G2.out).mono ?_
          rintro e w3 ⟨x, rfl, hK⟩
          obtain ⟨x', hx, hK2⟩ := kgives_up hK G2.out
          have E : Hid (KGives s b d w R0 (.returned (.pointer x)) w3) := hK2
          clear hK hK2 hx
          go_wp2_with fail
          go_ret
          exact E.out
        · have h65 : c = 65 := by omega
          subst h65
          have CB : Hid (∀ W', w.grownBy W' none → Calls Try.prog 33 #[.pointer (some ⟨b, 0, none⟩), .slice a sc.length cap] W' (BdK s b d i W' (boundQ s P i n d sc))) := fun W' h1 => HBd.out W' hil h1
          have HE : Hid (R0 = qMap 65 (isSe (byT s (i + 1))) (boundQ s P i n d sc)) := hEq
          clear HBd hEq
          generalize boundQ s P i n d sc = R1 at *
          go_enter Try.func27, Try.ntmps27
          go_wp2_with fail
          refine HP.out.mono ?_
          rintro e w2 ⟨rfl, hg2⟩
          have G2 : Hid (w.grownBy w2 none) := hg2
          clear hg2
          go_wp2_with fail
          refine (CB.out _ G2.out).mono ?_
          rintro e w3 ⟨hg3, g, lv, se, rfl, hgg, hb3, hR3⟩
          have G3 : Hid (w.grownBy w3 (some b)) := grown_trans (grown_some G2.out) hg3
          have B3 : Hid (w3.heap[g]? = some (.cells #[.int .i64 3, lv, .pointer none, .bool se, .int .i64 0, .int .i64 0] 58 (0, 0))) := hb3
          have HT : ∃ t, TreeL (fun k => w.heap.size ≤ k ∧ k ≠ g) w3 lv t ∧ ∀ w9 : World, w3.grownBy w9 (some g) → TreeL (fun k => w.heap.size ≤ k) w9 (.pointer (some ⟨g, 0, none⟩)) (.node 3 (.node 2 t .nil false 0 0) .nil se 0 0) → ∀ v w10, w9.grownBy w10 none → TreeL (fun k => w.heap.size ≤ k) w10 v (.node 2 (.node 3 (.node 2 t .nil false 0 0) .nil se 0 0) .nil false 0 0) → KGives s b d w R0 (.returned v) w10 := by
            have hgb : b ≠ g := by have := H0.out; have := G2.out.size; omega
            have hgw : w.heap.size ≤ g := Nat.le_trans G2.out.size hgg
            rw [HE.out]
            cases R1 with
            | good f j n' =>
              obtain ⟨h6, h7, h8⟩ := hR3
              subst h6
              refine ⟨trL f, h8.kept fun k hk _ => ⟨⟨Nat.le_trans G2.out.size hk.1, hk.2⟩, rfl⟩, fun w9 hg9 _ v w10 hg10 ht10 => ⟨grown_trans (grown_new (grown_trans (grown_some G2.out) hg3) hg9 hgw) (grown_some hg10), v, rfl, (h7.keptR hg9 hgb).kept hg10, ht10⟩⟩
            | bad C J =>
              obtain ⟨n', t, h6, h7, h8⟩ := hR3
              refine ⟨t, h8.kept fun k hk _ => ⟨⟨Nat.le_trans G2.out.size hk.1, hk.2⟩, rfl⟩, fun w9 hg9 _ v w10 hg10 ht10 => ⟨grown_trans (grown_new (grown_trans (grown_some G2.out) hg3) hg9 hgw) (grown_some hg10), v, 2, _, _, _, _, _, n', rfl, h6, (h7.keptR hg9 hgb).kept hg10, ht10⟩⟩
          obtain ⟨t, ht3, HFin0⟩ := HT
          have HFin : Hid _ := HFin0
          obtain ⟨xl, rfl⟩ := ht3.form
          have T3 : Hid (TreeL (fun k => w.heap.size ≤ k ∧ k ≠ g) w3 (.pointer xl) t) := ht3
          have HG : Hid (w.heap.size ≤ g) := Nat.le_trans G2.out.size hgg
          have y1 : w3.cell? ⟨g, 1, none⟩ = some (.pointer xl) := by rw [cell_of_row w3 g 1 _ _ (0, 0) hb3]; rfl
          clear hg3 hb3 hR3 ht3 hgg HFin0
          go_wp2_with fail
          refine (negK_alloc xl w3).mono ?_
          rintro e w4 ⟨rfl, hw4⟩
          have g34 : w3.grownBy w4 none := by rw [hw4]; exact grown_alloc _ _
          have b4n : w4.heap[w3.heap.size]? = some (.cells #[.int .i64 2, .pointer xl, .pointer none, .bool false, .int .i64 0, .int .i64 0] 58 (0, 0)) := by rw [hw4]; exact heap_alloc_new _ _
          have hlt3 := (Array.getElem?_eq_some_iff.1 B3.out).1
          have b4 : w4.heap[g]? = some (.cells #[.int .i64 3, .pointer xl, .pointer none, .bool se, .int .i64 0, .int .i64 0] 58 (0, 0)) := (g34.block g hlt3 (by simp)).trans B3.out
          have z1 : w4.cell? ⟨g, 1, none⟩ = some (.pointer xl) := by rw [cell_of_row w4 g 1 _ _ (0, 0) b4]; rfl
          have z2 : w4.frozen? ⟨g, 1, none⟩ = false := frozen_of_row w4 g 1 _ _ b4
          obtain ⟨W5, hW5⟩ : ∃ W5, W5 = w4.setCell ⟨g, 1, none⟩ (.pointer (some ⟨w3.heap.size, 0, none⟩)) := ⟨_, rfl⟩
          have HW5 : Hid (W5 = w4.setCell ⟨g, 1, none⟩ (.pointer (some ⟨w3.heap.size, 0, none⟩))) := hW5
          have b5 : W5.heap[g]? = some (.cells #[.int .i64 3, .pointer (some ⟨w3.heap.size, 0, none⟩), .pointer none, .bool se, .int .i64 0, .int .i64 0] 58 (0, 0)) := by rw [hW5, heap_setCell_same w4 g 1 _ 58 _ b4]; rfl
          have g35 : w3.grownBy W5 (some g) := by rw [hW5]; exact grown_trans (grown_some g34) (grown_set _ _ _)
          have hw3 : w.heap.size ≤ w3.heap.size := G3.out.size
          have t5 : TreeL (fun k => w.heap.size ≤ k) W5 (.pointer (some ⟨w3.heap.size, 0, none⟩)) (.node 2 t .nil false 0 0) := by
            refine .node w3.heap.size 2 t .nil false 0 0 (.pointer xl) (.pointer none) hw3 ?_ (T3.out.kept fun k hk hlt => ⟨hk.1, ?_⟩) .nil
            · rw [hW5, Below.heap_setCell _ _ _ _ (by show w3.heap.size ≠ g; omega)]; exact b4n
            · rw [hW5, Below.heap_setCell _ _ _ _ (by simpa using hk.2)]; exact g34.block k hlt (by simp)
          have t6 : TreeL (fun k => w.heap.size ≤ k) W5 (.pointer (some ⟨g, 0, none⟩)) (.node 3 (.node 2 t .nil false 0 0) .nil se 0 0) := .node g 3 _ .nil se 0 0 _ _ HG.out b5 t5 .nil
          have hw5 : w.heap.size ≤ W5.heap.size := by have := g35.size; omega
          have E : Hid (KGives s b d w R0 (.returned (.pointer (some ⟨W5.heap.size, 0, none⟩))) (W5.alloc (.cells #[.int .i64 2, .pointer (some ⟨g, 0, none⟩), .pointer none, .bool false, .int .i64 0, .int .i64 0] 58))) := HFin.out W5 g35 t6 _ _ (grown_alloc _ _) (treeL_new 2 false 0 0 t6 .nil hw5)
          clear b4n hlt3 b4 b5 g35 g34 t5 t6 hw4 hW5 T3 B3 HFin
          go_wp2_with fail
          rw [← HW5.out]
          refine (negK_alloc (some ⟨g, 0, none⟩) W5).mono ?_
          rintro e w6 ⟨rfl, rfl⟩
          go_wp2_with fail
          go_ret
          exact E.out
      · have CA : Hid (∀ W', w.grownBy W' none → Calls Try.prog 34 #[.pointer (some ⟨b, 0, none⟩), .slice a sc.length cap] W' (KGives s b d W' R0)) := fun W' h1 => by
          rw [if_neg hq] at hR0
          have h2 := HA.out W' h1
          rw [hR0] at h2
          exact h2
        have k69 : ((c : Int) == 69) = false := by simp; omega
        have k65 : ((c : Int) == 65) = false := by simp; omega
        clear HA HBd HEq hR0 HI
        go_enter Try.func27, Try.ntmps27
        go_wp2_with fail
        refine HP.out.mono ?_
        rintro e w2 ⟨rfl, hg2⟩
        have G2 : Hid (w.grownBy w2 none) := hg2
        clear hg2
        go_wp2_with fail
        refine (CA.out _ G2.out).mono ?_
        intro e w3 hK
        obtain ⟨x, rfl, hK2⟩ := kgives_up hK G2.out
        have E : Hid (KGives s b d w R0 (.returned (.pointer x)) w3) := hK2
        clear hK hK2
        go_wp2_with fail
        go_ret
        exact E.out

end Go.Proofs.Ytaommgnlnfhbfaa
