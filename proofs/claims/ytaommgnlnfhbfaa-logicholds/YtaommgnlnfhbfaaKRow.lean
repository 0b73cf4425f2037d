/- Rows of parts, and the whole, as the program reads them. -/
import Derived.Test.YtaommgnlnfhbfaaKPt
namespace Go.Proofs.Ytaommgnlnfhbfaa
open Go.RowKit
set_option linter.unusedVariables false

/-- What is left to read; nothing behind a fault. -/
def leftK (w : World) (b n : Nat) : Nat := match w.cell? ⟨b, 4, none⟩ with | some v => if intOf v = 0 then n + 1 - placeL w b else 0 | none => 0
theorem LRd.left {w : World} {b : Nat} {s : ByteArray} {i n d : Nat} {a : Nat} (h : LRd w b s i n d 0 a) (m : Nat) : leftK w b m = m + 1 - i := by simp [leftK, h.c4, h.place, intOf]
theorem LRd.left_bad {w : World} {b : Nat} {s : ByteArray} {i n d : Nat} {c : Int} {a : Nat} (h : LRd w b s i n d c a) (hc : c ≠ 0) (m : Nat) : leftK w b m = 0 := by simp [leftK, h.c4, intOf, hc]
/-- Where a row's reading stands. -/
def RwK (s : ByteArray) (b d i : Nat) (w : World) (op : Nat) (mk : Lf → Lf → Lf) (P : PL) (sc : List Nat) (R0 : LRes) (x : Option Addr) (wr : World) : Prop :=
  w.grownBy wr (some b) ∧ ((∃ (q fu n' : Nat) (f' : Lf), i < q ∧ q ≤ s.size ∧ s.size - q < fu ∧ n' ≤ 30 ∧ LRd wr b s q n' d 0 0 ∧ TreeL (fun k => w.heap.size ≤ k) wr (.pointer x) (trL f') ∧ rowKL s op mk P d sc fu f' q n' = R0) ∨ (∃ (C : Int) (J n' k : Nat) (l r : TrL) (se : Bool) (u y : Int), R0 = .bad C J ∧ C ≠ 0 ∧ n' ≤ 32 ∧ LRd wr b s s.size n' d C J ∧ TreeL (fun k => w.heap.size ≤ k) wr (.pointer x) (.node k l r se u y)))

set_option maxHeartbeats 6400000 in
theorem termK_does (s : ByteArray) (P : PL) (m : Nat) (hs : s.size ≤ 4000) (hP : FwdK s P) (hPd : KDoes 27 s P m) : KDoes 23 s (rowK s 38 .and P) m := by
  intro i n d b sc w a cap hi hm hn hd hsl h hc
  have HO : Hid (Calls Try.prog 27 #[.pointer (some ⟨b, 0, none⟩), .slice a sc.length cap] w (KGives s b d w (P i n d sc))) := hPd i n d b sc w a cap hi hm hn hd hsl h hc
  have HPd : Hid (∀ q n' W, i < q → q < s.size → n' + 1 ≤ 30 → w.grownBy W (some b) → LRd W b s (q + 1) (n' + 1) d 0 0 → Calls Try.prog 27 #[.pointer (some ⟨b, 0, none⟩), .slice a sc.length cap] W (KGives s b d W (P (q + 1) (n' + 1) d sc))) := fun q n' W h1 h2 h3 h4 h5 => hPd (q + 1) (n' + 1) d b sc W a cap (by omega) (by omega) h3 hd hsl h5 (hc.kept h4)
  have HS : Hid (∀ W n' (C : Int) (J : Nat), C ≠ 0 → n' ≤ 100 → w.grownBy W (some b) → LRd W b s s.size n' d C J → Calls Try.prog 27 #[.pointer (some ⟨b, 0, none⟩), .slice a sc.length cap] W fun e w' => W.grownBy w' (some b) ∧ LRd w' b s s.size n' d C J ∧ ∃ (v : Value) (k : Nat) (l r : TrL) (se : Bool) (x y : Int), e = .returned v ∧ TreeL (fun k => W.heap.size ≤ k) w' v (.node k l r se x y)) := fun W n' C J h1 h2 h3 h4 => partK_stop s hs n' d b C J sc W a cap h1 h2 (by omega) (by omega) h4 (hc.kept h3)
  have HFw : Hid (FwdK s P) := hP
  have H0 : Hid (b < w.heap.size) := h.lt
  have hfw := hP i n d sc hi hn
  clear h hc hPd
  obtain ⟨R0, hR0⟩ : ∃ R0, rowK s 38 .and P i n d sc = R0 := ⟨_, rfl⟩
  rw [hR0]
  have HI0 : Hid (∀ e w2, KGives s b d w (P i n d sc) e w2 → ∃ x : Option Addr, e = .returned (.pointer x) ∧ RwK s b d i w 38 .and P sc R0 x w2) := fun e w2 hg => by
    unfold rowK at hR0
    obtain ⟨h1, h2⟩ := hg
    cases hR : P i n d sc with
    | bad C J =>
      rw [hR] at h2 hR0 hfw
      obtain ⟨v, k, l, r, se, u, y, n', h3, h4, h5, h6⟩ := h2
      obtain ⟨x, rfl⟩ := h6.form
      exact ⟨x, h3, h1, .inr ⟨C, J, n', k, l, r, se, u, y, hR0.symm, by have := hfw.1; omega, h4, h5, h6⟩⟩
    | good f j n1 =>
      rw [hR] at h2 hR0 hfw
      obtain ⟨a1, a2, a3, a4⟩ := hfw
      obtain ⟨v, h3, h5, h6⟩ := h2
      obtain ⟨x, rfl⟩ := h6.form
      exact ⟨x, h3, h1, .inl ⟨j, s.size + 1, n1, f, a1, a2, by omega, a4, h5, h6, hR0⟩⟩
  clear hP hR0 hfw
  generalize sc.length = ml at *
  go_enter Try.func23, Try.ntmps23
  go_wp2_with fail
  refine HO.out.mono ?_
  intro e w2 hg2
  obtain ⟨x2, rfl, st2⟩ := HI0.out e w2 hg2
  have S2 : Hid (RwK s b d i w 38 .and P sc R0 x2 w2) := st2
  clear st2 hg2 HI0 HO
  go_wp2_with fail
  go_loopw [5] (fun v wr => ∃ x : Option Addr, v = .pointer x ∧ RwK s b d i w 38 .and P sc R0 x wr) (fun _ wr => leftK wr b s.size)
  case atStart => exact ⟨x2, rfl, S2.out⟩
  case round =>
    clear S2
    rename World => wr
    obtain ⟨x, rfl, hG, hst⟩ := hrel
    have G3 : Hid (w.grownBy wr (some b)) := hG
    clear hG
    rcases hst with ⟨q, fu, n', f', hq0, hq, hfu, hn', hr3, ht3, hrow⟩ | ⟨C, J, n', k, l, r, se, u, y, hbad, hC, hn', hr3, ht3⟩
    · have R3 : Hid (LRd wr b s q n' d 0 0) := hr3
      have T3 : Hid (TreeL (fun k => w.heap.size ≤ k) wr (.pointer x) (trL f')) := ht3
      have HST : Hid (rowKL s 38 .and P d sc fu f' q n' = R0) := hrow
      have LF : Hid (leftK wr b s.size = s.size + 1 - q) := hr3.left s.size
      clear hr3 ht3 hrow
      obtain ⟨fu', rfl⟩ : ∃ z, fu = z + 1 := ⟨fu - 1, by omega⟩
      by_cases hop : byT s q = 38
      · have hql := byT_pos hop (by omega)
        by_cases hf : 30 < n' + 1
        · have HF : Hid (R0 = .bad 7 q) := HST.out.symm.trans (by rw [rowKL, if_pos hop, if_pos hf])
          clear HST
          go_wp2_with fail
          refine (peekK_any s b q n' d 0 0 _ hs hq R3.out).mono ?_
          rintro e w4 ⟨rfl, hg4⟩
          rw [hop]
          have R4 : Hid (LRd w4 b s q n' d 0 0) := R3.out.kept hg4
          have G4 : Hid (w.grownBy w4 (some b)) := grown_trans G3.out (grown_some hg4)
          have T4 : Hid (TreeL (fun k => w.heap.size ≤ k) w4 (.pointer x) (trL f')) := T3.out.grown hg4
          clear hg4 R3 G3 T3
          go_wp2_with fail
          refine (countK_full s b q n' d _ hs hq hn' hf R4.out).mono ?_
          rintro e w5 ⟨rfl, hg5, hr5⟩
          have R5 : Hid (LRd w5 b s s.size (n' + 1) d 7 q) := hr5
          have G5 : Hid (w.grownBy w5 (some b)) := grown_trans G4.out hg5
          have T5 : Hid (TreeL (fun k => w.heap.size ≤ k) w5 (.pointer x) (trL f')) := T4.out.past hg5 H0.out
          clear hg5 hr5 R4 G4 T4
          go_wp2_with fail
          refine (HS.out _ (n' + 1) 7 q (by omega) (by omega) G5.out R5.out).mono ?_
          rintro e w6 ⟨hg6, hr6, v6, k, l, r, se, u, y, rfl, ht6⟩
          obtain ⟨x6, rfl⟩ := ht6.form
          have G7 : Hid (w.grownBy (w6.alloc (.cells #[.int .i64 1, .pointer x, .pointer x6, .bool false, .int .i64 0, .int .i64 0] 58)) (some b)) := grown_trans (grown_trans G5.out hg6) (grown_some (grown_alloc _ _))
          have T7 : Hid (TreeL (fun k => w.heap.size ≤ k) (w6.alloc (.cells #[.int .i64 1, .pointer x, .pointer x6, .bool false, .int .i64 0, .int .i64 0] 58)) (.pointer (some ⟨w6.heap.size, 0, none⟩)) (.node 1 (trL f') (.node k l r se u y) false 0 0)) := treeL_new 1 false 0 0 (T5.out.past hg6 H0.out) (ht6.from G5.out.size) (grown_trans G5.out hg6).size
          have R7 : Hid (LRd (w6.alloc (.cells #[.int .i64 1, .pointer x, .pointer x6, .bool false, .int .i64 0, .int .i64 0] 58)) b s s.size (n' + 1) d 7 q) := hr6.kept (grown_alloc _ _)
          clear hg6 hr6 ht6 R5 G5 T5
          go_wp2_with fail
          go_roundw
          case rel => exact ⟨_, rfl, G7.out, .inr ⟨7, q, n' + 1, 1, _, _, _, _, _, HF.out, by omega, by omega, R7.out, T7.out⟩⟩
          case measure => rw [R7.out.left_bad (by omega), LF.out]; omega
        · have CP : Hid (∀ W, w.grownBy W (some b) → LRd W b s (q + 1) (n' + 1) d 0 0 → Calls Try.prog 27 #[.pointer (some ⟨b, 0, none⟩), .slice a ml cap] W (KGives s b d W (P (q + 1) (n' + 1) d sc))) := fun W h1 h2 => HPd.out q n' W hq0 hql (by omega) h1 h2
          have hfw2 := HFw.out (q + 1) (n' + 1) d sc hql (by omega)
          cases hR : P (q + 1) (n' + 1) d sc with
          | bad C J =>
            rw [hR] at CP hfw2
            have HC : Hid (C ≠ 0) := by have := hfw2.1; show _ ≠ _; omega
            have HF : Hid (R0 = .bad C J) := HST.out.symm.trans (by rw [rowKL, if_pos hop, if_neg hf, hR])
            clear HST hR hfw2
            go_wp2_with fail
            refine (peekK_any s b q n' d 0 0 _ hs hq R3.out).mono ?_
            rintro e w4 ⟨rfl, hg4⟩
            rw [hop]
            have R4 : Hid (LRd w4 b s q n' d 0 0) := R3.out.kept hg4
            have G4 : Hid (w.grownBy w4 (some b)) := grown_trans G3.out (grown_some hg4)
            have T4 : Hid (TreeL (fun k => w.heap.size ≤ k) w4 (.pointer x) (trL f')) := T3.out.grown hg4
            clear hg4 R3 G3 T3
            go_wp2_with fail
            refine (countK_go s b q n' d _ hs hql hf R4.out).mono ?_
            rintro e w5 ⟨rfl, hg5, hr5⟩
            have R5 : Hid (LRd w5 b s (q + 1) (n' + 1) d 0 0) := hr5
            have G5 : Hid (w.grownBy w5 (some b)) := grown_trans G4.out hg5
            have T5 : Hid (TreeL (fun k => w.heap.size ≤ k) w5 (.pointer x) (trL f')) := T4.out.past hg5 H0.out
            clear hg5 hr5 R4 G4 T4
            go_wp2_with fail
            refine (CP.out _ G5.out R5.out).mono ?_
            rintro e w6 ⟨hg6, v6, k, l, r, se, u, y, n6, rfl, hn6, hr6, ht6⟩
            obtain ⟨x6, rfl⟩ := ht6.form
            have G7 : Hid (w.grownBy (w6.alloc (.cells #[.int .i64 1, .pointer x, .pointer x6, .bool false, .int .i64 0, .int .i64 0] 58)) (some b)) := grown_trans (grown_trans G5.out hg6) (grown_some (grown_alloc _ _))
            have T7 : Hid (TreeL (fun k => w.heap.size ≤ k) (w6.alloc (.cells #[.int .i64 1, .pointer x, .pointer x6, .bool false, .int .i64 0, .int .i64 0] 58)) (.pointer (some ⟨w6.heap.size, 0, none⟩)) (.node 1 (trL f') (.node k l r se u y) false 0 0)) := treeL_new 1 false 0 0 (T5.out.past hg6 H0.out) (ht6.from G5.out.size) (grown_trans G5.out hg6).size
            have R7 : Hid (LRd (w6.alloc (.cells #[.int .i64 1, .pointer x, .pointer x6, .bool false, .int .i64 0, .int .i64 0] 58)) b s s.size n6 d C J) := hr6.kept (grown_alloc _ _)
            clear hg6 hr6 ht6 R5 G5 T5
            go_wp2_with fail
            go_roundw
            case rel => exact ⟨_, rfl, G7.out, .inr ⟨C, J, n6, 1, _, _, _, _, _, HF.out, HC.out, hn6, R7.out, T7.out⟩⟩
            case measure => rw [R7.out.left_bad HC.out, LF.out]; omega
          | good g j2 n6 =>
            rw [hR] at CP hfw2
            obtain ⟨b1, b2, b3, b4⟩ := hfw2
            have hS : rowKL s 38 .and P d sc (fu' + 1) f' q n' = rowKL s 38 .and P d sc fu' (.and f' g) j2 n6 := by rw [rowKL, if_pos hop, if_neg hf, hR]
            have HF : Hid (rowKL s 38 .and P d sc fu' (.and f' g) j2 n6 = R0) := hS.symm.trans HST.out
            clear hS
            clear HST hR
            go_wp2_with fail
            refine (peekK_any s b q n' d 0 0 _ hs hq R3.out).mono ?_
            rintro e w4 ⟨rfl, hg4⟩
            rw [hop]
            have R4 : Hid (LRd w4 b s q n' d 0 0) := R3.out.kept hg4
            have G4 : Hid (w.grownBy w4 (some b)) := grown_trans G3.out (grown_some hg4)
            have T4 : Hid (TreeL (fun k => w.heap.size ≤ k) w4 (.pointer x) (trL f')) := T3.out.grown hg4
            clear hg4 R3 G3 T3
            go_wp2_with fail
            refine (countK_go s b q n' d _ hs hql hf R4.out).mono ?_
            rintro e w5 ⟨rfl, hg5, hr5⟩
            have R5 : Hid (LRd w5 b s (q + 1) (n' + 1) d 0 0) := hr5
            have G5 : Hid (w.grownBy w5 (some b)) := grown_trans G4.out hg5
            have T5 : Hid (TreeL (fun k => w.heap.size ≤ k) w5 (.pointer x) (trL f')) := T4.out.past hg5 H0.out
            clear hg5 hr5 R4 G4 T4
            go_wp2_with fail
            refine (CP.out _ G5.out R5.out).mono ?_
            rintro e w6 ⟨hg6, v6, rfl, hr6, ht6⟩
            obtain ⟨x6, rfl⟩ := ht6.form
            have G7 : Hid (w.grownBy (w6.alloc (.cells #[.int .i64 1, .pointer x, .pointer x6, .bool false, .int .i64 0, .int .i64 0] 58)) (some b)) := grown_trans (grown_trans G5.out hg6) (grown_some (grown_alloc _ _))
            have T7 : Hid (TreeL (fun k => w.heap.size ≤ k) (w6.alloc (.cells #[.int .i64 1, .pointer x, .pointer x6, .bool false, .int .i64 0, .int .i64 0] 58)) (.pointer (some ⟨w6.heap.size, 0, none⟩)) (.node 1 (trL f') (trL g) false 0 0)) := treeL_new 1 false 0 0 (T5.out.past hg6 H0.out) (ht6.from G5.out.size) (grown_trans G5.out hg6).size
            have R7 : Hid (LRd (w6.alloc (.cells #[.int .i64 1, .pointer x, .pointer x6, .bool false, .int .i64 0, .int .i64 0] 58)) b s j2 n6 d 0 0) := hr6.kept (grown_alloc _ _)
            clear hg6 hr6 ht6 R5 G5 T5
            go_wp2_with fail
            go_roundw
            case rel => exact ⟨_, rfl, G7.out, .inl ⟨j2, fu', n6, .and f' g, by omega, b2, by omega, b4, R7.out, T7.out, HF.out⟩⟩
            case measure => rw [R7.out.left, LF.out]; omega
      · have hop' : ((byT s q : Int) == 38) = false := by simp; omega
        have HF : Hid (R0 = .good f' q n') := HST.out.symm.trans (by rw [rowKL, if_neg hop])
        clear HST
        go_wp2_with fail
        refine (peekK_any s b q n' d 0 0 _ hs hq R3.out).mono ?_
        rintro e w4 ⟨rfl, hg4⟩
        have E : Hid (KGives s b d w (.good f' q n') (.returned (.pointer x)) w4) := ⟨grown_trans G3.out (grown_some hg4), _, rfl, R3.out.kept hg4, T3.out.grown hg4⟩
        clear hg4 R3 G3 T3
        go_wp2_with fail
        go_ret
        rw [HF.out]
        exact E.out
    · have R3 : Hid (LRd wr b s s.size n' d C J) := hr3
      have T3 : Hid (TreeL (fun k => w.heap.size ≤ k) wr (.pointer x) (.node k l r se u y)) := ht3
      have HF : Hid (R0 = .bad C J) := hbad
      clear hr3 ht3 hbad
      go_wp2_with fail
      refine (peekK_any s b s.size n' d C J _ hs (Nat.le_refl _) R3.out).mono ?_
      rintro e w4 ⟨rfl, hg4⟩
      rw [byT_end]
      have E : Hid (KGives s b d w (.bad C J) (.returned (.pointer x)) w4) := ⟨grown_trans G3.out (grown_some hg4), _, k, l, r, se, u, y, n', rfl, hn', R3.out.kept hg4, T3.out.grown hg4⟩
      clear hg4 R3 G3 T3
      go_wp2_with fail
      go_ret
      rw [HF.out]
      exact E.out

set_option maxHeartbeats 6400000 in
theorem formK_does (s : ByteArray) (P : PL) (m : Nat) (hs : s.size ≤ 4000) (hP : FwdK s P) (hPd : KDoes 23 s P m) : KDoes 15 s (rowK s 124 .or P) m := by
  intro i n d b sc w a cap hi hm hn hd hsl h hc
  have HO : Hid (Calls Try.prog 23 #[.pointer (some ⟨b, 0, none⟩), .slice a sc.length cap] w (KGives s b d w (P i n d sc))) := hPd i n d b sc w a cap hi hm hn hd hsl h hc
  have HPd : Hid (∀ q n' W, i < q → q < s.size → n' + 1 ≤ 30 → w.grownBy W (some b) → LRd W b s (q + 1) (n' + 1) d 0 0 → Calls Try.prog 23 #[.pointer (some ⟨b, 0, none⟩), .slice a sc.length cap] W (KGives s b d W (P (q + 1) (n' + 1) d sc))) := fun q n' W h1 h2 h3 h4 h5 => hPd (q + 1) (n' + 1) d b sc W a cap (by omega) (by omega) h3 hd hsl h5 (hc.kept h4)
  have HS : Hid (∀ W n' (C : Int) (J : Nat), C ≠ 0 → n' ≤ 100 → w.grownBy W (some b) → LRd W b s s.size n' d C J → Calls Try.prog 23 #[.pointer (some ⟨b, 0, none⟩), .slice a sc.length cap] W fun e w' => W.grownBy w' (some b) ∧ LRd w' b s s.size n' d C J ∧ ∃ (v : Value) (k : Nat) (l r : TrL) (se : Bool) (x y : Int), e = .returned v ∧ TreeL (fun k => W.heap.size ≤ k) w' v (.node k l r se x y)) := fun W n' C J h1 h2 h3 h4 => termK_stop s hs n' d b C J sc W a cap h1 h2 (by omega) (by omega) h4 (hc.kept h3)
  have HFw : Hid (FwdK s P) := hP
  have H0 : Hid (b < w.heap.size) := h.lt
  have hfw := hP i n d sc hi hn
  clear h hc hPd
  obtain ⟨R0, hR0⟩ : ∃ R0, rowK s 124 .or P i n d sc = R0 := ⟨_, rfl⟩
  rw [hR0]
  have HI0 : Hid (∀ e w2, KGives s b d w (P i n d sc) e w2 → ∃ x : Option Addr, e = .returned (.pointer x) ∧ RwK s b d i w 124 .or P sc R0 x w2) := fun e w2 hg => by
    unfold rowK at hR0
    obtain ⟨h1, h2⟩ := hg
    cases hR : P i n d sc with
    | bad C J =>
      rw [hR] at h2 hR0 hfw
      obtain ⟨v, k, l, r, se, u, y, n', h3, h4, h5, h6⟩ := h2
      obtain ⟨x, rfl⟩ := h6.form
      exact ⟨x, h3, h1, .inr ⟨C, J, n', k, l, r, se, u, y, hR0.symm, by have := hfw.1; omega, h4, h5, h6⟩⟩
    | good f j n1 =>
      rw [hR] at h2 hR0 hfw
      obtain ⟨a1, a2, a3, a4⟩ := hfw
      obtain ⟨v, h3, h5, h6⟩ := h2
      obtain ⟨x, rfl⟩ := h6.form
      exact ⟨x, h3, h1, .inl ⟨j, s.size + 1, n1, f, a1, a2, by omega, a4, h5, h6, hR0⟩⟩
  clear hP hR0 hfw
  generalize sc.length = ml at *
  go_enter Try.func15, Try.ntmps15
  go_wp2_with fail
  refine HO.out.mono ?_
  intro e w2 hg2
  obtain ⟨x2, rfl, st2⟩ := HI0.out e w2 hg2
  have S2 : Hid (RwK s b d i w 124 .or P sc R0 x2 w2) := st2
  clear st2 hg2 HI0 HO
  go_wp2_with fail
  go_loopw [5] (fun v wr => ∃ x : Option Addr, v = .pointer x ∧ RwK s b d i w 124 .or P sc R0 x wr) (fun _ wr => leftK wr b s.size)
  case atStart => exact ⟨x2, rfl, S2.out⟩
  case round =>
    clear S2
    rename World => wr
    obtain ⟨x, rfl, hG, hst⟩ := hrel
    have G3 : Hid (w.grownBy wr (some b)) := hG
    clear hG
    rcases hst with ⟨q, fu, n', f', hq0, hq, hfu, hn', hr3, ht3, hrow⟩ | ⟨C, J, n', k, l, r, se, u, y, hbad, hC, hn', hr3, ht3⟩
    · have R3 : Hid (LRd wr b s q n' d 0 0) := hr3
      have T3 : Hid (TreeL (fun k => w.heap.size ≤ k) wr (.pointer x) (trL f')) := ht3
      have HST : Hid (rowKL s 124 .or P d sc fu f' q n' = R0) := hrow
      have LF : Hid (leftK wr b s.size = s.size + 1 - q) := hr3.left s.size
      clear hr3 ht3 hrow
      obtain ⟨fu', rfl⟩ : ∃ z, fu = z + 1 := ⟨fu - 1, by omega⟩
      by_cases hop : byT s q = 124
      · have hql := byT_pos hop (by omega)
        by_cases hf : 30 < n' + 1
        · have HF : Hid (R0 = .bad 7 q) := HST.out.symm.trans (by rw [rowKL, if_pos hop, if_pos hf])
          clear HST
          go_wp2_with fail
          refine (peekK_any s b q n' d 0 0 _ hs hq R3.out).mono ?_
          rintro e w4 ⟨rfl, hg4⟩
          rw [hop]
          have R4 : Hid (LRd w4 b s q n' d 0 0) := R3.out.kept hg4
          have G4 : Hid (w.grownBy w4 (some b)) := grown_trans G3.out (grown_some hg4)
          have T4 : Hid (TreeL (fun k => w.heap.size ≤ k) w4 (.pointer x) (trL f')) := T3.out.grown hg4
          clear hg4 R3 G3 T3
          go_wp2_with fail
          refine (countK_full s b q n' d _ hs hq hn' hf R4.out).mono ?_
          rintro e w5 ⟨rfl, hg5, hr5⟩
          have R5 : Hid (LRd w5 b s s.size (n' + 1) d 7 q) := hr5
          have G5 : Hid (w.grownBy w5 (some b)) := grown_trans G4.out hg5
          have T5 : Hid (TreeL (fun k => w.heap.size ≤ k) w5 (.pointer x) (trL f')) := T4.out.past hg5 H0.out
          clear hg5 hr5 R4 G4 T4
          go_wp2_with fail
          refine (HS.out _ (n' + 1) 7 q (by omega) (by omega) G5.out R5.out).mono ?_
          rintro e w6 ⟨hg6, hr6, v6, k, l, r, se, u, y, rfl, ht6⟩
          obtain ⟨x6, rfl⟩ := ht6.form
          have G7 : Hid (w.grownBy (w6.alloc (.cells #[.int .i64 0, .pointer x, .pointer x6, .bool false, .int .i64 0, .int .i64 0] 58)) (some b)) := grown_trans (grown_trans G5.out hg6) (grown_some (grown_alloc _ _))
          have T7 : Hid (TreeL (fun k => w.heap.size ≤ k) (w6.alloc (.cells #[.int .i64 0, .pointer x, .pointer x6, .bool false, .int .i64 0, .int .i64 0] 58)) (.pointer (some ⟨w6.heap.size, 0, none⟩)) (.node 0 (trL f') (.node k l r se u y) false 0 0)) := treeL_new 0 false 0 0 (T5.out.past hg6 H0.out) (ht6.from G5.out.size) (grown_trans G5.out hg6).size
          have R7 : Hid (LRd (w6.alloc (.cells #[.int .i64 0, .pointer x, .pointer x6, .bool false, .int .i64 0, .int .i64 0] 58)) b s s.size (n' + 1) d 7 q) := hr6.kept (grown_alloc _ _)
          clear hg6 hr6 ht6 R5 G5 T5
          go_wp2_with fail
          go_roundw
          case rel => exact ⟨_, rfl, G7.out, .inr ⟨7, q, n' + 1, 0, _, _, _, _, _, HF.out, by omega, by omega, R7.out, T7.out⟩⟩
          case measure => rw [R7.out.left_bad (by omega), LF.out]; omega
        · have CP : Hid (∀ W, w.grownBy W (some b) → LRd W b s (q + 1) (n' + 1) d 0 0 → Calls Try.prog 23 #[.pointer (some ⟨b, 0, none⟩), .slice a ml cap] W (KGives s b d W (P (q + 1) (n' + 1) d sc))) := fun W h1 h2 => HPd.out q n' W hq0 hql (by omega) h1 h2
          have hfw2 := HFw.out (q + 1) (n' + 1) d sc hql (by omega)
          cases hR : P (q + 1) (n' + 1) d sc with
          | bad C J =>
            rw [hR] at CP hfw2
            have HC : Hid (C ≠ 0) := by have := hfw2.1; show _ ≠ _; omega
            have HF : Hid (R0 = .bad C J) := HST.out.symm.trans (by rw [rowKL, if_pos hop, if_neg hf, hR])
            clear HST hR hfw2
            go_wp2_with fail
            refine (peekK_any s b q n' d 0 0 _ hs hq R3.out).mono ?_
            rintro e w4 ⟨rfl, hg4⟩
            rw [hop]
            have R4 : Hid (LRd w4 b s q n' d 0 0) := R3.out.kept hg4
            have G4 : Hid (w.grownBy w4 (some b)) := grown_trans G3.out (grown_some hg4)
            have T4 : Hid (TreeL (fun k => w.heap.size ≤ k) w4 (.pointer x) (trL f')) := T3.out.grown hg4
            clear hg4 R3 G3 T3
            go_wp2_with fail
            refine (countK_go s b q n' d _ hs hql hf R4.out).mono ?_
            rintro e w5 ⟨rfl, hg5, hr5⟩
            have R5 : Hid (LRd w5 b s (q + 1) (n' + 1) d 0 0) := hr5
            have G5 : Hid (w.grownBy w5 (some b)) := grown_trans G4.out hg5
            have T5 : Hid (TreeL (fun k => w.heap.size ≤ k) w5 (.pointer x) (trL f')) := T4.out.past hg5 H0.out
            clear hg5 hr5 R4 G4 T4
            go_wp2_with fail
            refine (CP.out _ G5.out R5.out).mono ?_
            rintro e w6 ⟨hg6, v6, k, l, r, se, u, y, n6, rfl, hn6, hr6, ht6⟩
            obtain ⟨x6, rfl⟩ := ht6.form
            have G7 : Hid (w.grownBy (w6.alloc (.cells #[.int .i64 0, .pointer x, .pointer x6, .bool false, .int .i64 0, .int .i64 0] 58)) (some b)) := grown_trans (grown_trans G5.out hg6) (grown_some (grown_alloc _ _))
            have T7 : Hid (TreeL (fun k => w.heap.size ≤ k) (w6.alloc (.cells #[.int .i64 0, .pointer x, .pointer x6, .bool false, .int .i64 0, .int .i64 0] 58)) (.pointer (some ⟨w6.heap.size, 0, none⟩)) (.node 0 (trL f') (.node k l r se u y) false 0 0)) := treeL_new 0 false 0 0 (T5.out.past hg6 H0.out) (ht6.from G5.out.size) (grown_trans G5.out hg6).size
            have R7 : Hid (LRd (w6.alloc (.cells #[.int .i64 0, .pointer x, .pointer x6, .bool false, .int .i64 0, .int .i64 0] 58)) b s s.size n6 d C J) := hr6.kept (grown_alloc _ _)
            clear hg6 hr6 ht6 R5 G5 T5
            go_wp2_with fail
            go_roundw
            case rel => exact ⟨_, rfl, G7.out, .inr ⟨C, J, n6, 0, _, _, _, _, _, HF.out, HC.out, hn6, R7.out, T7.out⟩⟩
            case measure => rw [R7.out.left_bad HC.out, LF.out]; omega
          | good g j2 n6 =>
            rw [hR] at CP hfw2
            obtain ⟨b1, b2, b3, b4⟩ := hfw2
            have hS : rowKL s 124 .or P d sc (fu' + 1) f' q n' = rowKL s 124 .or P d sc fu' (.or f' g) j2 n6 := by rw [rowKL, if_pos hop, if_neg hf, hR]
            have HF : Hid (rowKL s 124 .or P d sc fu' (.or f' g) j2 n6 = R0) := hS.symm.trans HST.out
            clear hS
            clear HST hR
            go_wp2_with fail
            refine (peekK_any s b q n' d 0 0 _ hs hq R3.out).mono ?_
            rintro e w4 ⟨rfl, hg4⟩
            rw [hop]
            have R4 : Hid (LRd w4 b s q n' d 0 0) := R3.out.kept hg4
            have G4 : Hid (w.grownBy w4 (some b)) := grown_trans G3.out (grown_some hg4)
            have T4 : Hid (TreeL (fun k => w.heap.size ≤ k) w4 (.pointer x) (trL f')) := T3.out.grown hg4
            clear hg4 R3 G3 T3
            go_wp2_with fail
            refine (countK_go s b q n' d _ hs hql hf R4.out).mono ?_
            rintro e w5 ⟨rfl, hg5, hr5⟩
            have R5 : Hid (LRd w5 b s (q + 1) (n' + 1) d 0 0) := hr5
            have G5 : Hid (w.grownBy w5 (some b)) := grown_trans G4.out hg5
            have T5 : Hid (TreeL (fun k => w.heap.size ≤ k) w5 (.pointer x) (trL f')) := T4.out.past hg5 H0.out
            clear hg5 hr5 R4 G4 T4
            go_wp2_with fail
            refine (CP.out _ G5.out R5.out).mono ?_
            rintro e w6 ⟨hg6, v6, rfl, hr6, ht6⟩
            obtain ⟨x6, rfl⟩ := ht6.form
            have G7 : Hid (w.grownBy (w6.alloc (.cells #[.int .i64 0, .pointer x, .pointer x6, .bool false, .int .i64 0, .int .i64 0] 58)) (some b)) := grown_trans (grown_trans G5.out hg6) (grown_some (grown_alloc _ _))
            have T7 : Hid (TreeL (fun k => w.heap.size ≤ k) (w6.alloc (.cells #[.int .i64 0, .pointer x, .pointer x6, .bool false, .int .i64 0, .int .i64 0] 58)) (.pointer (some ⟨w6.heap.size, 0, none⟩)) (.node 0 (trL f') (trL g) false 0 0)) := treeL_new 0 false 0 0 (T5.out.past hg6 H0.out) (ht6.from G5.out.size) (grown_trans G5.out hg6).size
            have R7 : Hid (LRd (w6.alloc (.cells #[.int .i64 0, .pointer x, .pointer x6, .bool false, .int .i64 0, .int .i64 0] 58)) b s j2 n6 d 0 0) := hr6.kept (grown_alloc _ _)
            clear hg6 hr6 ht6 R5 G5 T5
            go_wp2_with fail
            go_roundw
            case rel => exact ⟨_, rfl, G7.out, .inl ⟨j2, fu', n6, .or f' g, by omega, b2, by omega, b4, R7.out, T7.out, HF.out⟩⟩
            case measure => rw [R7.out.left, LF.out]; omega
      · have hop' : ((byT s q : Int) == 124) = false := by simp; omega
        have HF : Hid (R0 = .good f' q n') := HST.out.symm.trans (by rw [rowKL, if_neg hop])
        clear HST
        go_wp2_with fail
        refine (peekK_any s b q n' d 0 0 _ hs hq R3.out).mono ?_
        rintro e w4 ⟨rfl, hg4⟩
        have E : Hid (KGives s b d w (.good f' q n') (.returned (.pointer x)) w4) := ⟨grown_trans G3.out (grown_some hg4), _, rfl, R3.out.kept hg4, T3.out.grown hg4⟩
        clear hg4 R3 G3 T3
        go_wp2_with fail
        go_ret
        rw [HF.out]
        exact E.out
    · have R3 : Hid (LRd wr b s s.size n' d C J) := hr3
      have T3 : Hid (TreeL (fun k => w.heap.size ≤ k) wr (.pointer x) (.node k l r se u y)) := ht3
      have HF : Hid (R0 = .bad C J) := hbad
      clear hr3 ht3 hbad
      go_wp2_with fail
      refine (peekK_any s b s.size n' d C J _ hs (Nat.le_refl _) R3.out).mono ?_
      rintro e w4 ⟨rfl, hg4⟩
      rw [byT_end]
      have E : Hid (KGives s b d w (.bad C J) (.returned (.pointer x)) w4) := ⟨grown_trans G3.out (grown_some hg4), _, k, l, r, se, u, y, n', rfl, hn', R3.out.kept hg4, T3.out.grown hg4⟩
      clear hg4 R3 G3 T3
      go_wp2_with fail
      go_ret
      rw [HF.out]
      exact E.out

theorem readK_all (s : ByteArray) (hs : s.size ≤ 4000) : ∀ k, KDoes 27 s (lvK s k) k := by
  intro k
  induction k with
  | zero => exact fun i n d b sc w a cap hi hm => absurd hm (by omega)
  | succ k ih =>
    have hF := lvK_fwd (s := s) k
    have h1 : KDoes 15 s (formK s (lvK s k)) k := formK_does s _ k hs (termK_fwd hF) (termK_does s _ k hs hF ih)
    exact partK_does s _ _ k hs hF (formK_fwd hF) ih h1
theorem formK_all (s : ByteArray) (hs : s.size ≤ 4000) (k : Nat) : KDoes 15 s (formK s (lvK s k)) k :=
  formK_does s _ k hs (termK_fwd (lvK_fwd k)) (termK_does s _ k hs (lvK_fwd k) (readK_all s hs k))

end Go.Proofs.Ytaommgnlnfhbfaa
