/- What a variable stands around, as the program reads it. -/
import Derived.Test.YtaommgnlnfhbfaaKStop
import Derived.Deep.RegionHeld3
namespace Go.Proofs.Ytaommgnlnfhbfaa
open Go.RowKit
set_option linter.unusedVariables false
attribute [local go_sem ↓] appL_fold

/-- What stands behind E or A. -/
def boundQ (s : ByteArray) (P : PL) : PL := fun i n d sc => if sc.length = 3 ∨ 30 < n + 1 then .bad 7 i else if isPl (byT s (i + 1)) = true ∨ isSe (byT s (i + 1)) = true then P (i + 2) (n + 1) d (sc ++ [byT s (i + 1)]) else .bad 4 (i + 1)
/-- What bound leaves behind: a node of its own, and what stands behind it, which lies in other blocks. -/
def BdK (s : ByteArray) (b d i : Nat) (w : World) (R : LRes) (e : Ending) (w' : World) : Prop :=
  w.grownBy w' (some b) ∧ ∃ (g : Nat) (lv : Value) (se : Bool), e = .returned (.pointer (some ⟨g, 0, none⟩)) ∧ w.heap.size ≤ g ∧ w'.heap[g]? = some (.cells #[.int .i64 3, lv, .pointer none, .bool se, .int .i64 0, .int .i64 0] 58 (0, 0)) ∧ match R with
  | .good f j n' => se = isSe (byT s (i + 1)) ∧ LRd w' b s j n' d 0 0 ∧ TreeL (fun k => w.heap.size ≤ k ∧ k ≠ g) w' lv (trL f)
  | .bad c j => ∃ (n' : Nat) (t : TrL), n' ≤ 32 ∧ LRd w' b s s.size n' d c j ∧ TreeL (fun k => w.heap.size ≤ k ∧ k ≠ g) w' lv t
theorem bd_new {s : ByteArray} {b : Nat} {w w8 : World} {lv : Value} {t : TrL} (se : Bool) (hG : w.grownBy w8 (some b)) (ht : TreeL (fun k => w.heap.size ≤ k) w8 lv t) :
    w.grownBy (w8.alloc (.cells #[.int .i64 3, lv, .pointer none, .bool se, .int .i64 0, .int .i64 0] 58)) (some b) ∧ w.heap.size ≤ w8.heap.size ∧ (w8.alloc (.cells #[.int .i64 3, lv, .pointer none, .bool se, .int .i64 0, .int .i64 0] 58)).heap[w8.heap.size]? = some (.cells #[.int .i64 3, lv, .pointer none, .bool se, .int .i64 0, .int .i64 0] 58 (0, 0)) ∧ TreeL (fun k => w.heap.size ≤ k ∧ k ≠ w8.heap.size) (w8.alloc (.cells #[.int .i64 3, lv, .pointer none, .bool se, .int .i64 0, .int .i64 0] 58)) lv t :=
  ⟨grown_trans hG (grown_some (grown_alloc _ _)), hG.size, heap_alloc_new _ _, ht.kept fun g hok hlt => ⟨⟨hok, by omega⟩, (grown_alloc w8 _).block g hlt (by simp)⟩⟩

set_option maxHeartbeats 6400000 in
theorem boundK_good (s : ByteArray) (P : PL) (m : Nat) (hs : s.size ≤ 4000) (hPd : KDoes 27 s P m) (i n d b : Nat) (sc : List Nat) (w : World) (a : Option Addr) (cap : Nat) (hi : i < s.size) (hm : s.size - i < m + 1) (hn : ¬ 30 < n + 1) (hd : d ≤ 40) (hsl0 : sc.length < 3) (hv : isPl (byT s (i + 1)) = true ∨ isSe (byT s (i + 1)) = true) (h : LRd w b s i n d 0 0) (hc : ScAt w b a cap sc) :
    Calls Try.prog 33 #[.pointer (some ⟨b, 0, none⟩), .slice a sc.length cap] w (BdK s b d i w (P (i + 2) (n + 1) d (sc ++ [byT s (i + 1)]))) := by
  have hi1 : i + 1 < s.size := hv.elim (fun h => byT_pos rfl (isPl_pos h)) (fun h => byT_pos rfl (isSe_pos h))
  have hsl : sc.length ≤ 3 := by omega
  have q3 : ((sc.length : Int) == 3) = false := by simp; omega
  have HPt : Hid (∀ W a6 cap6, LRd W b s (i + 2) (n + 1) d 0 0 → ScAt W b a6 cap6 (sc ++ [byT s (i + 1)]) → Calls Try.prog 27 #[.pointer (some ⟨b, 0, none⟩), .slice a6 (sc ++ [byT s (i + 1)]).length cap6] W (KGives s b d W (P (i + 2) (n + 1) d (sc ++ [byT s (i + 1)])))) := fun W a6 cap6 h1 h2 => hPd (i + 2) (n + 1) d b (sc ++ [byT s (i + 1)]) W a6 cap6 (by omega) (by omega) (by omega) hd (by simp; omega) h1 h2
  have HSe : Hid (∀ W, Calls Try.prog 38 #[.int .u8 (byT s (i + 1))] W fun e w' => e = .returned (.bool (isSe (byT s (i + 1)))) ∧ w' = W) := fun W => isSe_any _ W
  have HPl : Hid (∀ W, Calls Try.prog 37 #[.int .u8 (byT s (i + 1))] W fun e w' => e = .returned (.bool (isPl (byT s (i + 1)))) ∧ w' = W) := fun W => isPl_any _ W
  have HPk : Hid (∀ W, LRd W b s (i + 1) (n + 1) d 0 0 → Calls Try.prog 24 #[.pointer (some ⟨b, 0, none⟩)] W fun e w' => e = .returned (.int .u8 (byT s (i + 1))) ∧ W.grownBy w' none) := fun W h1 => peekK_any s b (i + 1) (n + 1) d 0 0 W hs (by omega) h1
  have HSc : Hid (∀ W, w.grownBy W (some b) → ScAt W b a cap sc) := fun W hW => hc.kept hW
  have HCap : Hid ((sc.length = 0 ∧ a = none ∧ cap = 0) ∨ (0 < sc.length ∧ sc.length ≤ cap ∧ ∃ g, a = some ⟨g, 0, none⟩)) := by
    rcases hc with ⟨rfl, h2, h3⟩ | ⟨h1, h2, g, h3, _⟩
    · exact .inl ⟨rfl, h2, h3⟩
    · exact .inr ⟨h1, h2, g, h3⟩
  have H : Hid (LRd w b s i n d 0 0) := h
  clear h hc
  generalize P (i + 2) (n + 1) d (sc ++ [byT s (i + 1)]) = R at *
  generalize hvv : byT s (i + 1) = v at *
  have HFin : Hid (∀ (w6 : World) e w8, w.grownBy w6 (some b) → KGives s b d w6 R e w8 → ∃ (x : Option Addr), e = .returned (.pointer x) ∧ BdK s b d i w R (.returned (.pointer (some ⟨w8.heap.size, 0, none⟩))) (w8.alloc (.cells #[.int .i64 3, .pointer x, .pointer none, .bool (isSe v), .int .i64 0, .int .i64 0] 58))) := fun w6 e w8 hG hK => by
    obtain ⟨hg8, hR⟩ := hK
    cases R with
    | good f j n' =>
      obtain ⟨lv, rfl, hr8, ht8⟩ := hR
      obtain ⟨x, rfl⟩ := ht8.form
      obtain ⟨b1, b2, b3, b4⟩ := bd_new (s := s) (isSe v) (grown_trans hG hg8) (ht8.from hG.size)
      exact ⟨x, rfl, b1, w8.heap.size, .pointer x, isSe v, rfl, b2, b3, by rw [hvv], hr8.kept (grown_alloc _ _), b4⟩
    | bad c j =>
      obtain ⟨lv, k, l, r, se, x', y', n', rfl, hn', hr8, ht8⟩ := hR
      obtain ⟨x, rfl⟩ := ht8.form
      obtain ⟨b1, b2, b3, b4⟩ := bd_new (s := s) (isSe v) (grown_trans hG hg8) (ht8.from hG.size)
      exact ⟨x, rfl, b1, w8.heap.size, .pointer x, isSe v, rfl, b2, b3, n', _, hn', hr8.kept (grown_alloc _ _), b4⟩
  generalize isSe v = se at *
  generalize isPl v = pl at *
  have HV : Hid (pl = true ∨ se = true) := hv
  clear hv hvv
  go_enter Try.func33, Try.ntmps33
  go_wp2_with fail
  refine (countK_go s b i n d _ hs hi hn H.out).mono ?_
  rintro e w2 ⟨rfl, hg2, hr2⟩
  have G2 : Hid (w.grownBy w2 (some b)) := hg2
  have R2 : Hid (LRd w2 b s (i + 1) (n + 1) d 0 0) := hr2
  clear hg2 hr2
  go_wp2_with fail
  refine (HPk.out _ R2.out).mono ?_
  rintro e w3 ⟨rfl, hg3⟩
  have G3 : Hid (w.grownBy w3 (some b)) := grown_trans G2.out (grown_some hg3)
  have R3 : Hid (LRd w3 b s (i + 1) (n + 1) d 0 0) := R2.out.kept hg3
  clear hg3 R2 G2
  go_wp2_with fail
  refine (HPl.out _).mono ?_
  rintro e w4 ⟨rfl, rfl⟩
  cases pl with
  | true =>
    go_wp2_with fail
    refine (skipK_any s b (i + 1) (n + 1) d 0 0 _ hs (by omega) R3.out).mono ?_
    rintro e w5 ⟨rfl, hg5, hr5⟩
    rw [show min (i + 1 + 1) s.size = i + 2 by omega] at hr5
    have G5 : Hid (w.grownBy w5 (some b)) := grown_trans G3.out hg5
    have R5 : Hid (LRd w5 b s (i + 2) (n + 1) d 0 0) := hr5
    clear hg5 hr5 R3 G3
    have hbl := R5.out.lt
    obtain ⟨g6, cap6, w6, hrun, hsc6, hg6⟩ := app_sc (HSc.out _ G5.out) hsl hbl v
    have S6 : Hid (ScAt w6 b (some ⟨g6, 0, none⟩) cap6 (sc ++ [v])) := hsc6
    have G6 : Hid (w.grownBy w6 (some b)) := grown_trans G5.out (grown_some hg6)
    have R6 : Hid (LRd w6 b s (i + 2) (n + 1) d 0 0) := R5.out.kept hg6
    have HL6 : Hid ((sc ++ [v]).length = sc.length + 1) := by show _ = _; simp
    clear hsc6 hg6 hbl
    rcases HCap.out with ⟨hl0, ha0, hc0⟩ | ⟨hl0, hlc, g0, ha0⟩
    · subst ha0 hc0
      have hl1 := List.length_eq_zero_iff.1 hl0
      subst hl1
      simp only [List.length_nil] at hrun ⊢
      go_wp2_with fail
      go_region_held3 (fun W => True) (trivial)
        (first
        | (go_at_call 38; refine (HSe.out _).mono ?_; rintro e wA ⟨rfl, rfl⟩)
        | (go_at_call 27; refine ((HL6.out ▸ HPt.out w6 (some ⟨g6, 0, none⟩) cap6 R6.out S6.out)).mono ?_; intro e w8 hK8; obtain ⟨x8, rfl, hF8⟩ := HFin.out w6 e w8 G6.out hK8; have F8 : Hid _ := hF8; clear hF8 hK8))
      all_goals
        go_wp2_with fail
        go_ret
        exact F8.out
    · subst ha0
      have q0 : (0 : Int) ≤ (sc.length : Int) := by omega
      have q1 : (sc.length : Int) ≤ (cap : Int) := by omega
      have q2 : ¬ sc.length = 0 := by omega
      go_wp2_with fail
      go_region_held3 (fun W => True) (trivial)
        (first
        | (go_at_call 38; refine (HSe.out _).mono ?_; rintro e wA ⟨rfl, rfl⟩)
        | (go_at_call 27; refine ((HL6.out ▸ HPt.out w6 (some ⟨g6, 0, none⟩) cap6 R6.out S6.out)).mono ?_; intro e w8 hK8; obtain ⟨x8, rfl, hF8⟩ := HFin.out w6 e w8 G6.out hK8; have F8 : Hid _ := hF8; clear hF8 hK8))
      all_goals
        go_wp2_with fail
        go_ret
        exact F8.out
  | false =>
    have hse : se = true := by have := HV.out; simpa using this
    subst hse
    go_wp2_with fail
    refine (HSe.out _).mono ?_
    rintro e w5 ⟨rfl, rfl⟩
    go_wp2_with fail
    refine (skipK_any s b (i + 1) (n + 1) d 0 0 _ hs (by omega) R3.out).mono ?_
    rintro e w5 ⟨rfl, hg5, hr5⟩
    rw [show min (i + 1 + 1) s.size = i + 2 by omega] at hr5
    have G5 : Hid (w.grownBy w5 (some b)) := grown_trans G3.out hg5
    have R5 : Hid (LRd w5 b s (i + 2) (n + 1) d 0 0) := hr5
    clear hg5 hr5 R3 G3
    have hbl := R5.out.lt
    obtain ⟨g6, cap6, w6, hrun, hsc6, hg6⟩ := app_sc (HSc.out _ G5.out) hsl hbl v
    have S6 : Hid (ScAt w6 b (some ⟨g6, 0, none⟩) cap6 (sc ++ [v])) := hsc6
    have G6 : Hid (w.grownBy w6 (some b)) := grown_trans G5.out (grown_some hg6)
    have R6 : Hid (LRd w6 b s (i + 2) (n + 1) d 0 0) := R5.out.kept hg6
    have HL6 : Hid ((sc ++ [v]).length = sc.length + 1) := by show _ = _; simp
    clear hsc6 hg6 hbl
    rcases HCap.out with ⟨hl0, ha0, hc0⟩ | ⟨hl0, hlc, g0, ha0⟩
    · subst ha0 hc0
      have hl1 := List.length_eq_zero_iff.1 hl0
      subst hl1
      simp only [List.length_nil] at hrun ⊢
      go_wp2_with fail
      go_region_held3 (fun W => True) (trivial)
        (first
        | (go_at_call 38; refine (HSe.out _).mono ?_; rintro e wA ⟨rfl, rfl⟩)
        | (go_at_call 27; refine ((HL6.out ▸ HPt.out w6 (some ⟨g6, 0, none⟩) cap6 R6.out S6.out)).mono ?_; intro e w8 hK8; obtain ⟨x8, rfl, hF8⟩ := HFin.out w6 e w8 G6.out hK8; have F8 : Hid _ := hF8; clear hF8 hK8))
      all_goals
        go_wp2_with fail
        go_ret
        exact F8.out
    · subst ha0
      have q0 : (0 : Int) ≤ (sc.length : Int) := by omega
      have q1 : (sc.length : Int) ≤ (cap : Int) := by omega
      have q2 : ¬ sc.length = 0 := by omega
      go_wp2_with fail
      go_region_held3 (fun W => True) (trivial)
        (first
        | (go_at_call 38; refine (HSe.out _).mono ?_; rintro e wA ⟨rfl, rfl⟩)
        | (go_at_call 27; refine ((HL6.out ▸ HPt.out w6 (some ⟨g6, 0, none⟩) cap6 R6.out S6.out)).mono ?_; intro e w8 hK8; obtain ⟨x8, rfl, hF8⟩ := HFin.out w6 e w8 G6.out hK8; have F8 : Hid _ := hF8; clear hF8 hK8))
      all_goals
        go_wp2_with fail
        go_ret
        exact F8.out

set_option maxHeartbeats 6400000 in
theorem boundK_three (s : ByteArray) (hs : s.size ≤ 4000) (i n d b : Nat) (sc : List Nat) (w : World) (a : Option Addr) (cap : Nat) (hi : i < s.size) (hn : n ≤ 30) (hd : d ≤ 40) (hsl3 : sc.length = 3) (h : LRd w b s i n d 0 0) (hc : ScAt w b a cap sc) :
    Calls Try.prog 33 #[.pointer (some ⟨b, 0, none⟩), .slice a sc.length cap] w (BdK s b d i w (.bad 7 i)) := by
  have hsl : sc.length ≤ 3 := by omega
  have q3 : ((sc.length : Int) == 3) = true := by simp; omega
  obtain ⟨v, hv0⟩ : ∃ v : Nat, 0 = v := ⟨_, rfl⟩
  have HSe : Hid (∀ W, Calls Try.prog 38 #[.int .u8 (v : Int)] W fun e w' => e = .returned (.bool false) ∧ w' = W) := fun W => by rw [← hv0]; exact isSe_any 0 W
  have HPl : Hid (∀ W, Calls Try.prog 37 #[.int .u8 (v : Int)] W fun e w' => e = .returned (.bool false) ∧ w' = W) := fun W => by rw [← hv0]; exact isPl_any 0 W
  have HPk : Hid (∀ W (C : Int) (J N : Nat), LRd W b s s.size N d C J → Calls Try.prog 24 #[.pointer (some ⟨b, 0, none⟩)] W fun e w' => e = .returned (.int .u8 (v : Int)) ∧ W.grownBy w' none) := fun W C J N h1 => by
    have h2 := peekK_any s b s.size N d C J W hs (Nat.le_refl _) h1
    have h3 : byT s s.size = v := by rw [byT_end]; exact hv0
    rw [h3] at h2
    exact h2
  clear hv0
  have HFin : Hid (∀ (w6 : World) (C : Int) (J N : Nat) (e : Ending) (w8 : World), w.grownBy w6 (some b) → N ≤ 32 → (w6.grownBy w8 (some b) ∧ LRd w8 b s s.size N d C J ∧ ∃ (v : Value) (k : Nat) (l r : TrL) (se : Bool) (x y : Int), e = .returned v ∧ TreeL (fun k => w6.heap.size ≤ k) w8 v (.node k l r se x y)) → ∃ (x : Option Addr), e = .returned (.pointer x) ∧ BdK s b d i w (.bad C J) (.returned (.pointer (some ⟨w8.heap.size, 0, none⟩))) (w8.alloc (.cells #[.int .i64 3, .pointer x, .pointer none, .bool false, .int .i64 0, .int .i64 0] 58))) := fun w6 C J N e w8 hG hN hK => by
    obtain ⟨hg8, hr8, lv, k, l, r, se, x', y', rfl, ht8⟩ := hK
    obtain ⟨x, rfl⟩ := ht8.form
    obtain ⟨b1, b2, b3, b4⟩ := bd_new (s := s) false (grown_trans hG hg8) (ht8.from hG.size)
    exact ⟨x, rfl, b1, w8.heap.size, .pointer x, false, rfl, b2, b3, N, _, hN, hr8.kept (grown_alloc _ _), b4⟩
  have HSk : Hid (∀ W (C : Int) (J N : Nat), LRd W b s s.size N d C J → Calls Try.prog 28 #[.pointer (some ⟨b, 0, none⟩)] W fun e w' => e = .returned (.tuple #[]) ∧ W.grownBy w' (some b) ∧ LRd w' b s s.size N d C J) := fun W C J N h2 => by
    have h1 := skipK_any s b s.size N d C J W hs (Nat.le_refl _) h2
    rw [show min (s.size + 1) s.size = s.size by omega] at h1
    exact h1
  have HPt : Hid (∀ W a6 cap6 (x : Nat) (C : Int) (J N : Nat), C ≠ 0 → N ≤ 32 → LRd W b s s.size N d C J → ScAt W b a6 cap6 (sc ++ [x]) → Calls Try.prog 27 #[.pointer (some ⟨b, 0, none⟩), .slice a6 (sc ++ [x]).length cap6] W fun e w' => W.grownBy w' (some b) ∧ LRd w' b s s.size N d C J ∧ ∃ (v : Value) (k : Nat) (l r : TrL) (se : Bool) (x y : Int), e = .returned v ∧ TreeL (fun k => W.heap.size ≤ k) w' v (.node k l r se x y)) := fun W a6 cap6 x C J N h0 hN h1 h2 => partK_stop s hs N d b C J (sc ++ [x]) W a6 cap6 h0 (by omega) (by omega) (by simp; omega) h1 h2
  have HSc : Hid (∀ W, w.grownBy W (some b) → ScAt W b a cap sc) := fun W hW => hc.kept hW
  have HCap : Hid ((sc.length = 0 ∧ a = none ∧ cap = 0) ∨ (0 < sc.length ∧ sc.length ≤ cap ∧ ∃ g, a = some ⟨g, 0, none⟩)) := by
    rcases hc with ⟨rfl, h2, h3⟩ | ⟨h1, h2, g, h3, _⟩
    · exact .inl ⟨rfl, h2, h3⟩
    · exact .inr ⟨h1, h2, g, h3⟩
  have H : Hid (LRd w b s i n d 0 0) := h
  clear h hc
  clear hsl3
  go_enter Try.func33, Try.ntmps33
  go_wp2_with fail
  refine (failK_first s b i n d 0 7 _ hs H.out).mono ?_
  rintro e w1 ⟨rfl, hg1, hr1⟩
  have G1 : Hid (w.grownBy w1 (some b)) := hg1
  have R1 : Hid (LRd w1 b s s.size n d 7 i) := hr1
  clear hg1 hr1
  go_wp2_with fail
  refine (countK_stop s b n d 7 i _ hs (by omega) (by omega) R1.out).mono ?_
  rintro e w2 ⟨rfl, hg2, hr2⟩
  have G2 : Hid (w.grownBy w2 (some b)) := grown_trans G1.out hg2
  have R2 : Hid (LRd w2 b s s.size (n + 1) d 7 i) := hr2
  clear hg2 hr2 R1 G1
  go_wp2_with fail
  refine (HPk.out _ 7 i (n + 1) R2.out).mono ?_
  rintro e w3 ⟨rfl, hg3⟩
  have G3 : Hid (w.grownBy w3 (some b)) := grown_trans G2.out (grown_some hg3)
  have R3 : Hid (LRd w3 b s s.size (n + 1) d 7 i) := R2.out.kept hg3
  clear hg3 R2 G2
  go_wp2_with fail
  refine (HPl.out _).mono ?_
  rintro e w4 ⟨rfl, rfl⟩
  go_wp2_with fail
  refine (HSe.out _).mono ?_
  rintro e w4 ⟨rfl, rfl⟩
  go_wp2_with fail
  refine (failK_again s b s.size (n + 1) d 7 i 4 _ hs (by omega) R3.out).mono ?_
  rintro e w4b ⟨rfl, hg4, hr4⟩
  have G4 : Hid (w.grownBy w4b (some b)) := grown_trans G3.out hg4
  have R4 : Hid (LRd w4b b s s.size (n + 1) d 7 i) := hr4
  clear hg4 hr4 R3 G3
  go_wp2_with fail
  refine (HSk.out _ 7 i (n + 1) R4.out).mono ?_
  rintro e w5 ⟨rfl, hg5, hr5⟩
  have G5 : Hid (w.grownBy w5 (some b)) := grown_trans G4.out hg5
  have R5 : Hid (LRd w5 b s s.size (n + 1) d 7 i) := hr5
  clear hg5 hr5 R4 G4
  have hbl := R5.out.lt
  obtain ⟨g6, cap6, w6, hrun, hsc6, hg6⟩ := app_sc (HSc.out _ G5.out) hsl hbl v
  have S6 : Hid (ScAt w6 b (some ⟨g6, 0, none⟩) cap6 (sc ++ [v])) := hsc6
  have G6 : Hid (w.grownBy w6 (some b)) := grown_trans G5.out (grown_some hg6)
  have R6 : Hid (LRd w6 b s s.size (n + 1) d 7 i) := R5.out.kept hg6
  have HL6 : Hid ((sc ++ [v]).length = sc.length + 1) := by show _ = _; simp
  clear hsc6 hg6 hbl
  rcases HCap.out with ⟨hl0, ha0, hc0⟩ | ⟨hl0, hlc, g0, ha0⟩
  · subst ha0 hc0
    have hl1 := List.length_eq_zero_iff.1 hl0
    subst hl1
    simp only [List.length_nil] at hrun ⊢
    go_wp2_with fail
    go_region_held3 (fun W => True) (trivial)
      (first
      | (go_at_call 38; refine (HSe.out _).mono ?_; rintro e wA ⟨rfl, rfl⟩)
      | (go_at_call 27; refine ((HL6.out ▸ HPt.out w6 (some ⟨g6, 0, none⟩) cap6 v 7 i (n + 1) (by omega) (by omega) R6.out S6.out)).mono ?_; intro e w8 hK8; obtain ⟨x8, rfl, hF8⟩ := HFin.out w6 7 i (n + 1) e w8 G6.out (by omega) hK8; have F8 : Hid _ := hF8; clear hF8 hK8))
    all_goals
      go_wp2_with fail
      go_ret
      exact F8.out
  · subst ha0
    have q0 : (0 : Int) ≤ (sc.length : Int) := by omega
    have q1 : (sc.length : Int) ≤ (cap : Int) := by omega
    have q2 : ¬ sc.length = 0 := by omega
    go_wp2_with fail
    go_region_held3 (fun W => True) (trivial)
      (first
      | (go_at_call 38; refine (HSe.out _).mono ?_; rintro e wA ⟨rfl, rfl⟩)
      | (go_at_call 27; refine ((HL6.out ▸ HPt.out w6 (some ⟨g6, 0, none⟩) cap6 v 7 i (n + 1) (by omega) (by omega) R6.out S6.out)).mono ?_; intro e w8 hK8; obtain ⟨x8, rfl, hF8⟩ := HFin.out w6 7 i (n + 1) e w8 G6.out (by omega) hK8; have F8 : Hid _ := hF8; clear hF8 hK8))
    all_goals
      go_wp2_with fail
      go_ret
      exact F8.out

set_option maxHeartbeats 6400000 in
theorem boundK_full (s : ByteArray) (hs : s.size ≤ 4000) (i n d b : Nat) (sc : List Nat) (w : World) (a : Option Addr) (cap : Nat) (hi : i < s.size) (hn : n ≤ 30) (hf : 30 < n + 1) (hd : d ≤ 40) (hsl3 : sc.length < 3) (h : LRd w b s i n d 0 0) (hc : ScAt w b a cap sc) :
    Calls Try.prog 33 #[.pointer (some ⟨b, 0, none⟩), .slice a sc.length cap] w (BdK s b d i w (.bad 7 i)) := by
  have hsl : sc.length ≤ 3 := by omega
  have q3 : ((sc.length : Int) == 3) = false := by simp; omega
  obtain ⟨v, hv0⟩ : ∃ v : Nat, 0 = v := ⟨_, rfl⟩
  have HSe : Hid (∀ W, Calls Try.prog 38 #[.int .u8 (v : Int)] W fun e w' => e = .returned (.bool false) ∧ w' = W) := fun W => by rw [← hv0]; exact isSe_any 0 W
  have HPl : Hid (∀ W, Calls Try.prog 37 #[.int .u8 (v : Int)] W fun e w' => e = .returned (.bool false) ∧ w' = W) := fun W => by rw [← hv0]; exact isPl_any 0 W
  have HPk : Hid (∀ W (C : Int) (J N : Nat), LRd W b s s.size N d C J → Calls Try.prog 24 #[.pointer (some ⟨b, 0, none⟩)] W fun e w' => e = .returned (.int .u8 (v : Int)) ∧ W.grownBy w' none) := fun W C J N h1 => by
    have h2 := peekK_any s b s.size N d C J W hs (Nat.le_refl _) h1
    have h3 : byT s s.size = v := by rw [byT_end]; exact hv0
    rw [h3] at h2
    exact h2
  clear hv0
  have HFin : Hid (∀ (w6 : World) (C : Int) (J N : Nat) (e : Ending) (w8 : World), w.grownBy w6 (some b) → N ≤ 32 → (w6.grownBy w8 (some b) ∧ LRd w8 b s s.size N d C J ∧ ∃ (v : Value) (k : Nat) (l r : TrL) (se : Bool) (x y : Int), e = .returned v ∧ TreeL (fun k => w6.heap.size ≤ k) w8 v (.node k l r se x y)) → ∃ (x : Option Addr), e = .returned (.pointer x) ∧ BdK s b d i w (.bad C J) (.returned (.pointer (some ⟨w8.heap.size, 0, none⟩))) (w8.alloc (.cells #[.int .i64 3, .pointer x, .pointer none, .bool false, .int .i64 0, .int .i64 0] 58))) := fun w6 C J N e w8 hG hN hK => by
    obtain ⟨hg8, hr8, lv, k, l, r, se, x', y', rfl, ht8⟩ := hK
    obtain ⟨x, rfl⟩ := ht8.form
    obtain ⟨b1, b2, b3, b4⟩ := bd_new (s := s) false (grown_trans hG hg8) (ht8.from hG.size)
    exact ⟨x, rfl, b1, w8.heap.size, .pointer x, false, rfl, b2, b3, N, _, hN, hr8.kept (grown_alloc _ _), b4⟩
  have HSk : Hid (∀ W (C : Int) (J N : Nat), LRd W b s s.size N d C J → Calls Try.prog 28 #[.pointer (some ⟨b, 0, none⟩)] W fun e w' => e = .returned (.tuple #[]) ∧ W.grownBy w' (some b) ∧ LRd w' b s s.size N d C J) := fun W C J N h2 => by
    have h1 := skipK_any s b s.size N d C J W hs (Nat.le_refl _) h2
    rw [show min (s.size + 1) s.size = s.size by omega] at h1
    exact h1
  have HPt : Hid (∀ W a6 cap6 (x : Nat) (C : Int) (J N : Nat), C ≠ 0 → N ≤ 32 → LRd W b s s.size N d C J → ScAt W b a6 cap6 (sc ++ [x]) → Calls Try.prog 27 #[.pointer (some ⟨b, 0, none⟩), .slice a6 (sc ++ [x]).length cap6] W fun e w' => W.grownBy w' (some b) ∧ LRd w' b s s.size N d C J ∧ ∃ (v : Value) (k : Nat) (l r : TrL) (se : Bool) (x y : Int), e = .returned v ∧ TreeL (fun k => W.heap.size ≤ k) w' v (.node k l r se x y)) := fun W a6 cap6 x C J N h0 hN h1 h2 => partK_stop s hs N d b C J (sc ++ [x]) W a6 cap6 h0 (by omega) (by omega) (by simp; omega) h1 h2
  have HSc : Hid (∀ W, w.grownBy W (some b) → ScAt W b a cap sc) := fun W hW => hc.kept hW
  have HCap : Hid ((sc.length = 0 ∧ a = none ∧ cap = 0) ∨ (0 < sc.length ∧ sc.length ≤ cap ∧ ∃ g, a = some ⟨g, 0, none⟩)) := by
    rcases hc with ⟨rfl, h2, h3⟩ | ⟨h1, h2, g, h3, _⟩
    · exact .inl ⟨rfl, h2, h3⟩
    · exact .inr ⟨h1, h2, g, h3⟩
  have H : Hid (LRd w b s i n d 0 0) := h
  clear h hc
  go_enter Try.func33, Try.ntmps33
  go_wp2_with fail
  refine (countK_full s b i n d _ hs (by omega) hn hf H.out).mono ?_
  rintro e w2 ⟨rfl, hg2, hr2⟩
  have G2 : Hid (w.grownBy w2 (some b)) := hg2
  have R2 : Hid (LRd w2 b s s.size (n + 1) d 7 i) := hr2
  clear hg2 hr2
  go_wp2_with fail
  refine (HPk.out _ 7 i (n + 1) R2.out).mono ?_
  rintro e w3 ⟨rfl, hg3⟩
  have G3 : Hid (w.grownBy w3 (some b)) := grown_trans G2.out (grown_some hg3)
  have R3 : Hid (LRd w3 b s s.size (n + 1) d 7 i) := R2.out.kept hg3
  clear hg3 R2 G2
  go_wp2_with fail
  refine (HPl.out _).mono ?_
  rintro e w4 ⟨rfl, rfl⟩
  go_wp2_with fail
  refine (HSe.out _).mono ?_
  rintro e w4 ⟨rfl, rfl⟩
  go_wp2_with fail
  refine (failK_again s b s.size (n + 1) d 7 i 4 _ hs (by omega) R3.out).mono ?_
  rintro e w4b ⟨rfl, hg4, hr4⟩
  have G4 : Hid (w.grownBy w4b (some b)) := grown_trans G3.out hg4
  have R4 : Hid (LRd w4b b s s.size (n + 1) d 7 i) := hr4
  clear hg4 hr4 R3 G3
  go_wp2_with fail
  refine (HSk.out _ 7 i (n + 1) R4.out).mono ?_
  rintro e w5 ⟨rfl, hg5, hr5⟩
  have G5 : Hid (w.grownBy w5 (some b)) := grown_trans G4.out hg5
  have R5 : Hid (LRd w5 b s s.size (n + 1) d 7 i) := hr5
  clear hg5 hr5 R4 G4
  have hbl := R5.out.lt
  obtain ⟨g6, cap6, w6, hrun, hsc6, hg6⟩ := app_sc (HSc.out _ G5.out) hsl hbl v
  have S6 : Hid (ScAt w6 b (some ⟨g6, 0, none⟩) cap6 (sc ++ [v])) := hsc6
  have G6 : Hid (w.grownBy w6 (some b)) := grown_trans G5.out (grown_some hg6)
  have R6 : Hid (LRd w6 b s s.size (n + 1) d 7 i) := R5.out.kept hg6
  have HL6 : Hid ((sc ++ [v]).length = sc.length + 1) := by show _ = _; simp
  clear hsc6 hg6 hbl
  rcases HCap.out with ⟨hl0, ha0, hc0⟩ | ⟨hl0, hlc, g0, ha0⟩
  · subst ha0 hc0
    have hl1 := List.length_eq_zero_iff.1 hl0
    subst hl1
    simp only [List.length_nil] at hrun ⊢
    go_wp2_with fail
    go_region_held3 (fun W => True) (trivial)
      (first
      | (go_at_call 38; refine (HSe.out _).mono ?_; rintro e wA ⟨rfl, rfl⟩)
      | (go_at_call 27; refine ((HL6.out ▸ HPt.out w6 (some ⟨g6, 0, none⟩) cap6 v 7 i (n + 1) (by omega) (by omega) R6.out S6.out)).mono ?_; intro e w8 hK8; obtain ⟨x8, rfl, hF8⟩ := HFin.out w6 7 i (n + 1) e w8 G6.out (by omega) hK8; have F8 : Hid _ := hF8; clear hF8 hK8))
    all_goals
      go_wp2_with fail
      go_ret
      exact F8.out
  · subst ha0
    have q0 : (0 : Int) ≤ (sc.length : Int) := by omega
    have q1 : (sc.length : Int) ≤ (cap : Int) := by omega
    have q2 : ¬ sc.length = 0 := by omega
    go_wp2_with fail
    go_region_held3 (fun W => True) (trivial)
      (first
      | (go_at_call 38; refine (HSe.out _).mono ?_; rintro e wA ⟨rfl, rfl⟩)
      | (go_at_call 27; refine ((HL6.out ▸ HPt.out w6 (some ⟨g6, 0, none⟩) cap6 v 7 i (n + 1) (by omega) (by omega) R6.out S6.out)).mono ?_; intro e w8 hK8; obtain ⟨x8, rfl, hF8⟩ := HFin.out w6 7 i (n + 1) e w8 G6.out (by omega) hK8; have F8 : Hid _ := hF8; clear hF8 hK8))
    all_goals
      go_wp2_with fail
      go_ret
      exact F8.out

set_option maxHeartbeats 6400000 in
theorem boundK_none (s : ByteArray) (hs : s.size ≤ 4000) (i n d b : Nat) (sc : List Nat) (w : World) (a : Option Addr) (cap : Nat) (hi : i < s.size) (hf : ¬ 30 < n + 1) (hd : d ≤ 40) (hsl3 : sc.length < 3) (hv1 : isPl (byT s (i + 1)) = false) (hv2 : isSe (byT s (i + 1)) = false) (h : LRd w b s i n d 0 0) (hc : ScAt w b a cap sc) :
    Calls Try.prog 33 #[.pointer (some ⟨b, 0, none⟩), .slice a sc.length cap] w (BdK s b d i w (.bad 4 (i + 1))) := by
  have hsl : sc.length ≤ 3 := by omega
  have q3 : ((sc.length : Int) == 3) = false := by simp; omega
  have HSe : Hid (∀ W, Calls Try.prog 38 #[.int .u8 (byT s (i + 1))] W fun e w' => e = .returned (.bool false) ∧ w' = W) := fun W => by have h1 := isSe_any (byT s (i + 1)) W; rw [hv2] at h1; exact h1
  have HPl : Hid (∀ W, Calls Try.prog 37 #[.int .u8 (byT s (i + 1))] W fun e w' => e = .returned (.bool false) ∧ w' = W) := fun W => by have h1 := isPl_any (byT s (i + 1)) W; rw [hv1] at h1; exact h1
  have HPk : Hid (∀ W, LRd W b s (i + 1) (n + 1) d 0 0 → Calls Try.prog 24 #[.pointer (some ⟨b, 0, none⟩)] W fun e w' => e = .returned (.int .u8 (byT s (i + 1))) ∧ W.grownBy w' none) := fun W h1 => peekK_any s b (i + 1) (n + 1) d 0 0 W hs (by omega) h1
  have HFin : Hid (∀ (w6 : World) (C : Int) (J N : Nat) (e : Ending) (w8 : World), w.grownBy w6 (some b) → N ≤ 32 → (w6.grownBy w8 (some b) ∧ LRd w8 b s s.size N d C J ∧ ∃ (v : Value) (k : Nat) (l r : TrL) (se : Bool) (x y : Int), e = .returned v ∧ TreeL (fun k => w6.heap.size ≤ k) w8 v (.node k l r se x y)) → ∃ (x : Option Addr), e = .returned (.pointer x) ∧ BdK s b d i w (.bad C J) (.returned (.pointer (some ⟨w8.heap.size, 0, none⟩))) (w8.alloc (.cells #[.int .i64 3, .pointer x, .pointer none, .bool false, .int .i64 0, .int .i64 0] 58))) := fun w6 C J N e w8 hG hN hK => by
    obtain ⟨hg8, hr8, lv, k, l, r, se, x', y', rfl, ht8⟩ := hK
    obtain ⟨x, rfl⟩ := ht8.form
    obtain ⟨b1, b2, b3, b4⟩ := bd_new (s := s) false (grown_trans hG hg8) (ht8.from hG.size)
    exact ⟨x, rfl, b1, w8.heap.size, .pointer x, false, rfl, b2, b3, N, _, hN, hr8.kept (grown_alloc _ _), b4⟩
  have HSk : Hid (∀ W (C : Int) (J N : Nat), LRd W b s s.size N d C J → Calls Try.prog 28 #[.pointer (some ⟨b, 0, none⟩)] W fun e w' => e = .returned (.tuple #[]) ∧ W.grownBy w' (some b) ∧ LRd w' b s s.size N d C J) := fun W C J N h2 => by
    have h1 := skipK_any s b s.size N d C J W hs (Nat.le_refl _) h2
    rw [show min (s.size + 1) s.size = s.size by omega] at h1
    exact h1
  have HPt : Hid (∀ W a6 cap6 (x : Nat) (C : Int) (J N : Nat), C ≠ 0 → N ≤ 32 → LRd W b s s.size N d C J → ScAt W b a6 cap6 (sc ++ [x]) → Calls Try.prog 27 #[.pointer (some ⟨b, 0, none⟩), .slice a6 (sc ++ [x]).length cap6] W fun e w' => W.grownBy w' (some b) ∧ LRd w' b s s.size N d C J ∧ ∃ (v : Value) (k : Nat) (l r : TrL) (se : Bool) (x y : Int), e = .returned v ∧ TreeL (fun k => W.heap.size ≤ k) w' v (.node k l r se x y)) := fun W a6 cap6 x C J N h0 hN h1 h2 => partK_stop s hs N d b C J (sc ++ [x]) W a6 cap6 h0 (by omega) (by omega) (by simp; omega) h1 h2
  have HSc : Hid (∀ W, w.grownBy W (some b) → ScAt W b a cap sc) := fun W hW => hc.kept hW
  have HCap : Hid ((sc.length = 0 ∧ a = none ∧ cap = 0) ∨ (0 < sc.length ∧ sc.length ≤ cap ∧ ∃ g, a = some ⟨g, 0, none⟩)) := by
    rcases hc with ⟨rfl, h2, h3⟩ | ⟨h1, h2, g, h3, _⟩
    · exact .inl ⟨rfl, h2, h3⟩
    · exact .inr ⟨h1, h2, g, h3⟩
  have H : Hid (LRd w b s i n d 0 0) := h
  clear h hc
  clear hv1 hv2
  generalize byT s (i + 1) = v at *
  go_enter Try.func33, Try.ntmps33
  go_wp2_with fail
  refine (countK_go s b i n d _ hs hi hf H.out).mono ?_
  rintro e w2 ⟨rfl, hg2, hr2⟩
  have G2 : Hid (w.grownBy w2 (some b)) := hg2
  have R2 : Hid (LRd w2 b s (i + 1) (n + 1) d 0 0) := hr2
  clear hg2 hr2
  go_wp2_with fail
  refine (HPk.out _ R2.out).mono ?_
  rintro e w3 ⟨rfl, hg3⟩
  have G3 : Hid (w.grownBy w3 (some b)) := grown_trans G2.out (grown_some hg3)
  have R3 : Hid (LRd w3 b s (i + 1) (n + 1) d 0 0) := R2.out.kept hg3
  clear hg3 R2 G2
  go_wp2_with fail
  refine (HPl.out _).mono ?_
  rintro e w4 ⟨rfl, rfl⟩
  go_wp2_with fail
  refine (HSe.out _).mono ?_
  rintro e w4 ⟨rfl, rfl⟩
  go_wp2_with fail
  refine (failK_first s b (i + 1) (n + 1) d 0 4 _ hs R3.out).mono ?_
  rintro e w4b ⟨rfl, hg4, hr4⟩
  have G4 : Hid (w.grownBy w4b (some b)) := grown_trans G3.out hg4
  have R4 : Hid (LRd w4b b s s.size (n + 1) d 4 (i + 1)) := hr4
  clear hg4 hr4 R3 G3
  go_wp2_with fail
  refine (HSk.out _ 4 (i + 1) (n + 1) R4.out).mono ?_
  rintro e w5 ⟨rfl, hg5, hr5⟩
  have G5 : Hid (w.grownBy w5 (some b)) := grown_trans G4.out hg5
  have R5 : Hid (LRd w5 b s s.size (n + 1) d 4 (i + 1)) := hr5
  clear hg5 hr5 R4 G4
  have hbl := R5.out.lt
  obtain ⟨g6, cap6, w6, hrun, hsc6, hg6⟩ := app_sc (HSc.out _ G5.out) hsl hbl v
  have S6 : Hid (ScAt w6 b (some ⟨g6, 0, none⟩) cap6 (sc ++ [v])) := hsc6
  have G6 : Hid (w.grownBy w6 (some b)) := grown_trans G5.out (grown_some hg6)
  have R6 : Hid (LRd w6 b s s.size (n + 1) d 4 (i + 1)) := R5.out.kept hg6
  have HL6 : Hid ((sc ++ [v]).length = sc.length + 1) := by show _ = _; simp
  clear hsc6 hg6 hbl
  rcases HCap.out with ⟨hl0, ha0, hc0⟩ | ⟨hl0, hlc, g0, ha0⟩
  · subst ha0 hc0
    have hl1 := List.length_eq_zero_iff.1 hl0
    subst hl1
    simp only [List.length_nil] at hrun ⊢
    go_wp2_with fail
    go_region_held3 (fun W => True) (trivial)
      (first
      | (go_at_call 38; refine (HSe.out _).mono ?_; rintro e wA ⟨rfl, rfl⟩)
      | (go_at_call 27; refine ((HL6.out ▸ HPt.out w6 (some ⟨g6, 0, none⟩) cap6 v 4 (i + 1) (n + 1) (by omega) (by omega) R6.out S6.out)).mono ?_; intro e w8 hK8; obtain ⟨x8, rfl, hF8⟩ := HFin.out w6 4 (i + 1) (n + 1) e w8 G6.out (by omega) hK8; have F8 : Hid _ := hF8; clear hF8 hK8))
    all_goals
      go_wp2_with fail
      go_ret
      exact F8.out
  · subst ha0
    have q0 : (0 : Int) ≤ (sc.length : Int) := by omega
    have q1 : (sc.length : Int) ≤ (cap : Int) := by omega
    have q2 : ¬ sc.length = 0 := by omega
    go_wp2_with fail
    go_region_held3 (fun W => True) (trivial)
      (first
      | (go_at_call 38; refine (HSe.out _).mono ?_; rintro e wA ⟨rfl, rfl⟩)
      | (go_at_call 27; refine ((HL6.out ▸ HPt.out w6 (some ⟨g6, 0, none⟩) cap6 v 4 (i + 1) (n + 1) (by omega) (by omega) R6.out S6.out)).mono ?_; intro e w8 hK8; obtain ⟨x8, rfl, hF8⟩ := HFin.out w6 4 (i + 1) (n + 1) e w8 G6.out (by omega) hK8; have F8 : Hid _ := hF8; clear hF8 hK8))
    all_goals
      go_wp2_with fail
      go_ret
      exact F8.out

theorem boundK_does (s : ByteArray) (P : PL) (m : Nat) (hs : s.size ≤ 4000) (hPd : KDoes 27 s P m) (i n d b : Nat) (sc : List Nat) (w : World) (a : Option Addr) (cap : Nat) (hi : i < s.size) (hm : s.size - i < m + 1) (hn : n ≤ 30) (hd : d ≤ 40) (hsl : sc.length ≤ 3) (h : LRd w b s i n d 0 0) (hc : ScAt w b a cap sc) :
    Calls Try.prog 33 #[.pointer (some ⟨b, 0, none⟩), .slice a sc.length cap] w (BdK s b d i w (boundQ s P i n d sc)) := by
  unfold boundQ
  by_cases h3 : sc.length = 3
  · rw [if_pos (.inl h3)]; exact boundK_three s hs i n d b sc w a cap hi hn hd h3 h hc
  · by_cases hf : 30 < n + 1
    · rw [if_pos (.inr hf)]; exact boundK_full s hs i n d b sc w a cap hi hn hf hd (by omega) h hc
    · rw [if_neg (by omega)]
      by_cases hv : isPl (byT s (i + 1)) = true ∨ isSe (byT s (i + 1)) = true
      · rw [if_pos hv]; exact boundK_good s P m hs hPd i n d b sc w a cap hi hm hf hd (by omega) hv h hc
      · rw [if_neg hv]
        have h1 : isPl (byT s (i + 1)) = false := by cases e : isPl (byT s (i + 1)) <;> simp_all
        have h2 : isSe (byT s (i + 1)) = false := by cases e : isSe (byT s (i + 1)) <;> simp_all
        exact boundK_none s hs i n d b sc w a cap hi hf hd (by omega) h1 h2 h hc

end Go.Proofs.Ytaommgnlnfhbfaa
