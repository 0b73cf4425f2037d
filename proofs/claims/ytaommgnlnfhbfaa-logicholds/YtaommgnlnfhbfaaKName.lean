/- Which variable stands there: named, place; which relation. -/
import Derived.Test.YtaommgnlnfhbfaaKBase
namespace Go.Proofs.Ytaommgnlnfhbfaa
open Go.RowKit
set_option linter.unusedVariables false

theorem namedK_some (s : ByteArray) (b i n d k cap : Nat) (sc : List Nat) (a : Option Addr) (w : World) (hs : s.size ≤ 4000) (hi : i ≤ s.size) (hl : sc.length ≤ 4) (hk : idxF sc (byT s i) = some k) (h : LRd w b s i n d 0 0) (hc : ScAt w b a cap sc) :
    Calls Try.prog 40 #[.pointer (some ⟨b, 0, none⟩), .slice a sc.length cap] w fun e w' => e = .returned (.int .i64 (k : Int)) ∧ w.grownBy w' none := by
  have HP : Hid (Calls Try.prog 24 #[.pointer (some ⟨b, 0, none⟩)] w fun e w' => e = .returned (.int .u8 (byT s i)) ∧ w.grownBy w' none) := peekK_any s b i n d 0 0 w hs hi h
  have HL : Hid (∀ W, w.grownBy W none → Calls Try.prog 42 #[.slice a sc.length cap, .int .u8 (byT s i)] W fun e w' => e = .returned (.int .i64 (k : Int)) ∧ w' = W) := fun W hW => by
    have h1 := lastB_any b sc a cap (byT s i) W hl (hc.kept (grown_some hW))
    rw [hk] at h1
    exact h1
  clear h hc hk
  generalize byT s i = x at *
  generalize sc.length = m at *
  have q1 : ¬ (k : Int) < 0 := by omega
  go_enter Try.func40, Try.ntmps40
  go_wp2_with fail
  refine HP.out.mono ?_
  rintro e w2 ⟨rfl, hg2⟩
  have G2 : Hid (w.grownBy w2 none) := hg2
  clear hg2
  go_wp2_with fail
  refine (HL.out _ G2.out).mono ?_
  rintro e w3 ⟨rfl, rfl⟩
  go_wp2_with fail
  go_ret
  exact ⟨rfl, G2.out⟩

theorem namedK_none (s : ByteArray) (b i n d cap : Nat) (sc : List Nat) (a : Option Addr) (w : World) (hs : s.size ≤ 4000) (hi : i ≤ s.size) (hl : sc.length ≤ 4) (hk : idxF sc (byT s i) = none) (h : LRd w b s i n d 0 0) (hc : ScAt w b a cap sc) :
    Calls Try.prog 40 #[.pointer (some ⟨b, 0, none⟩), .slice a sc.length cap] w fun e w' => e = .returned (.int .i64 (-1)) ∧ w.grownBy w' (some b) ∧ LRd w' b s s.size n d 5 i := by
  have HP : Hid (Calls Try.prog 24 #[.pointer (some ⟨b, 0, none⟩)] w fun e w' => e = .returned (.int .u8 (byT s i)) ∧ w.grownBy w' none) := peekK_any s b i n d 0 0 w hs hi h
  have HL : Hid (∀ W, w.grownBy W none → Calls Try.prog 42 #[.slice a sc.length cap, .int .u8 (byT s i)] W fun e w' => e = .returned (.int .i64 (-1)) ∧ w' = W) := fun W hW => by
    have h1 := lastB_any b sc a cap (byT s i) W hl (hc.kept (grown_some hW))
    rw [hk] at h1
    exact h1
  have H : Hid (LRd w b s i n d 0 0) := h
  clear h hc hk
  generalize byT s i = x at *
  generalize sc.length = m at *
  go_enter Try.func40, Try.ntmps40
  go_wp2_with fail
  refine HP.out.mono ?_
  rintro e w2 ⟨rfl, hg2⟩
  have G2 : Hid (w.grownBy w2 none) := hg2
  have R2 : Hid (LRd w2 b s i n d 0 0) := H.out.kept hg2
  clear hg2
  go_wp2_with fail
  refine (HL.out _ G2.out).mono ?_
  rintro e w3 ⟨rfl, rfl⟩
  go_wp2_with fail
  refine (failK_first s b i n d 0 5 _ hs R2.out).mono ?_
  rintro e w4 ⟨rfl, hg4, hr4⟩
  have E : Hid (w.grownBy w4 (some b) ∧ LRd w4 b s s.size n d 5 i) := ⟨grown_trans (grown_some G2.out) hg4, hr4⟩
  clear hg4 hr4
  go_wp2_with fail
  go_ret
  exact ⟨rfl, E.out⟩

theorem namedK_stop (s : ByteArray) (b n d cap : Nat) (c : Int) (j : Nat) (sc : List Nat) (a : Option Addr) (w : World) (hs : s.size ≤ 4000) (hl : sc.length ≤ 4) (hcn : c ≠ 0) (h : LRd w b s s.size n d c j) (hc : ScAt w b a cap sc) :
    Calls Try.prog 40 #[.pointer (some ⟨b, 0, none⟩), .slice a sc.length cap] w fun e w' => (∃ z : Int, e = .returned (.int .i64 z)) ∧ w.grownBy w' (some b) ∧ LRd w' b s s.size n d c j := by
  have HP : Hid (Calls Try.prog 24 #[.pointer (some ⟨b, 0, none⟩)] w fun e w' => e = .returned (.int .u8 (byT s s.size)) ∧ w.grownBy w' none) := peekK_any s b s.size n d c j w hs (Nat.le_refl _) h
  have HL : Hid (∀ W, w.grownBy W none → Calls Try.prog 42 #[.slice a sc.length cap, .int .u8 (byT s s.size)] W fun e w' => e = .returned (.int .i64 (idxI (idxF sc (byT s s.size)))) ∧ w' = W) := fun W hW => lastB_any b sc a cap (byT s s.size) W hl (hc.kept (grown_some hW))
  have H : Hid (LRd w b s s.size n d c j) := h
  have HC : Hid (c ≠ 0) := hcn
  clear h hc
  generalize byT s s.size = x at *
  generalize idxI (idxF sc x) = z at *
  generalize sc.length = m at *
  by_cases hz : z < 0
  · go_enter Try.func40, Try.ntmps40
    go_wp2_with fail
    refine HP.out.mono ?_
    rintro e w2 ⟨rfl, hg2⟩
    have G2 : Hid (w.grownBy w2 none) := hg2
    have R2 : Hid (LRd w2 b s s.size n d c j) := H.out.kept hg2
    clear hg2
    go_wp2_with fail
    refine (HL.out _ G2.out).mono ?_
    rintro e w3 ⟨rfl, rfl⟩
    go_wp2_with fail
    refine (failK_again s b s.size n d c j 5 _ hs HC.out R2.out).mono ?_
    rintro e w4 ⟨rfl, hg4, hr4⟩
    have E : Hid (w.grownBy w4 (some b) ∧ LRd w4 b s s.size n d c j) := ⟨grown_trans (grown_some G2.out) hg4, hr4⟩
    clear hg4 hr4
    go_wp2_with fail
    go_ret
    exact ⟨⟨z, rfl⟩, E.out⟩
  · go_enter Try.func40, Try.ntmps40
    go_wp2_with fail
    refine HP.out.mono ?_
    rintro e w2 ⟨rfl, hg2⟩
    have G2 : Hid (w.grownBy w2 none) := hg2
    have R2 : Hid (LRd w2 b s s.size n d c j) := H.out.kept hg2
    clear hg2
    go_wp2_with fail
    refine (HL.out _ G2.out).mono ?_
    rintro e w3 ⟨rfl, rfl⟩
    go_wp2_with fail
    go_ret
    exact ⟨⟨z, rfl⟩, grown_some G2.out, R2.out⟩

/-- What reading a place comes to. -/
def PlK (s : ByteArray) (b n d : Nat) (sc : List Nat) (j : Nat) (w : World) (e : Ending) (w' : World) : Prop :=
  w.grownBy w' (some b) ∧ ∃ z : Int, e = .returned (.int .i64 z) ∧ if isPl (byT s j) = true then match idxF sc (byT s j) with
    | none => LRd w' b s s.size n d 5 j
    | some k => z = k ∧ LRd w' b s (j + 1) n d 0 0
    else LRd w' b s s.size n d 4 j

theorem placeK_any (s : ByteArray) (b j n d cap : Nat) (sc : List Nat) (a : Option Addr) (w : World) (hs : s.size ≤ 4000) (hj : j ≤ s.size) (hl : sc.length ≤ 4) (h : LRd w b s j n d 0 0) (hc : ScAt w b a cap sc) :
    Calls Try.prog 39 #[.pointer (some ⟨b, 0, none⟩), .slice a sc.length cap] w (PlK s b n d sc j w) := by
  have HP : Hid (Calls Try.prog 24 #[.pointer (some ⟨b, 0, none⟩)] w fun e w' => e = .returned (.int .u8 (byT s j)) ∧ w.grownBy w' none) := peekK_any s b j n d 0 0 w hs hj h
  have H : Hid (LRd w b s j n d 0 0) := h
  have S : Hid (ScAt w b a cap sc) := hc
  have HSk : Hid (∀ W i' c' j', i' ≤ s.size → LRd W b s i' n d c' j' → Calls Try.prog 28 #[.pointer (some ⟨b, 0, none⟩)] W fun e w' => e = .returned (.tuple #[]) ∧ W.grownBy w' (some b) ∧ LRd w' b s (min (i' + 1) s.size) n d c' j') := fun W i' c' j' h1 h2 => skipK_any s b i' n d c' j' W hs h1 h2
  clear h hc
  unfold PlK
  by_cases hpl : isPl (byT s j) = true
  · have hjl := byT_pos (s := s) (i := j) rfl (isPl_pos hpl)
    simp only [hpl, if_true]
    cases hk : idxF sc (byT s j) with
    | none =>
      have HNm : Hid (∀ W, w.grownBy W none → Calls Try.prog 40 #[.pointer (some ⟨b, 0, none⟩), .slice a sc.length cap] W fun e w' => e = .returned (.int .i64 (-1)) ∧ W.grownBy w' (some b) ∧ LRd w' b s s.size n d 5 j) := fun W hW => namedK_none s b j n d cap sc a W hs hj hl hk (H.out.kept hW) (S.out.kept (grown_some hW))
      have HPl : Hid (∀ W, Calls Try.prog 37 #[.int .u8 (byT s j)] W fun e w' => e = .returned (.bool true) ∧ w' = W) := fun W => by have h1 := isPl_any (byT s j) W; rw [hpl] at h1; exact h1
      clear hk hpl
      generalize byT s j = x at *
      generalize sc.length = m at *
      go_enter Try.func39, Try.ntmps39
      go_wp2_with fail
      refine HP.out.mono ?_
      rintro e w2 ⟨rfl, hg2⟩
      have G2 : Hid (w.grownBy w2 none) := hg2
      clear hg2
      go_wp2_with fail
      refine (HPl.out _).mono ?_
      rintro e w3 ⟨rfl, rfl⟩
      go_wp2_with fail
      refine (HNm.out _ G2.out).mono ?_
      rintro e w4 ⟨rfl, hg4, hr4⟩
      have G4 : Hid (w.grownBy w4 (some b)) := grown_trans (grown_some G2.out) hg4
      have R4 : Hid (LRd w4 b s s.size n d 5 j) := hr4
      clear hg4 hr4
      go_wp2_with fail
      refine (HSk.out _ _ _ _ (Nat.le_refl _) R4.out).mono ?_
      rintro e w5 ⟨rfl, hg5, hr5⟩
      rw [show min (s.size + 1) s.size = s.size by omega] at hr5
      have E : Hid (w.grownBy w5 (some b) ∧ LRd w5 b s s.size n d 5 j) := ⟨grown_trans G4.out hg5, hr5⟩
      clear hg5 hr5
      go_wp2_with fail
      go_ret
      exact ⟨E.out.1, _, rfl, E.out.2⟩
    | some k =>
      have HNm : Hid (∀ W, w.grownBy W none → Calls Try.prog 40 #[.pointer (some ⟨b, 0, none⟩), .slice a sc.length cap] W fun e w' => e = .returned (.int .i64 (k : Int)) ∧ W.grownBy w' none) := fun W hW => namedK_some s b j n d k cap sc a W hs hj hl hk (H.out.kept hW) (S.out.kept (grown_some hW))
      have HPl : Hid (∀ W, Calls Try.prog 37 #[.int .u8 (byT s j)] W fun e w' => e = .returned (.bool true) ∧ w' = W) := fun W => by have h1 := isPl_any (byT s j) W; rw [hpl] at h1; exact h1
      clear hk hpl
      generalize byT s j = x at *
      generalize sc.length = m at *
      go_enter Try.func39, Try.ntmps39
      go_wp2_with fail
      refine HP.out.mono ?_
      rintro e w2 ⟨rfl, hg2⟩
      have G2 : Hid (w.grownBy w2 none) := hg2
      clear hg2
      go_wp2_with fail
      refine (HPl.out _).mono ?_
      rintro e w3 ⟨rfl, rfl⟩
      go_wp2_with fail
      refine (HNm.out _ G2.out).mono ?_
      rintro e w4 ⟨rfl, hg4⟩
      have G4 : Hid (w.grownBy w4 none) := grown_trans G2.out hg4
      clear hg4
      go_wp2_with fail
      refine (HSk.out _ j 0 0 hj (H.out.kept G4.out)).mono ?_
      rintro e w5 ⟨rfl, hg5, hr5⟩
      rw [show min (j + 1) s.size = j + 1 by omega] at hr5
      have E : Hid (w.grownBy w5 (some b) ∧ LRd w5 b s (j + 1) n d 0 0) := ⟨grown_trans (grown_some G4.out) hg5, hr5⟩
      clear hg5 hr5
      go_wp2_with fail
      go_ret
      exact ⟨E.out.1, _, rfl, rfl, E.out.2⟩
  · have hpl' : isPl (byT s j) = false := by simpa using hpl
    simp only [hpl', Bool.false_eq_true, if_false]
    have HPl : Hid (∀ W, Calls Try.prog 37 #[.int .u8 (byT s j)] W fun e w' => e = .returned (.bool false) ∧ w' = W) := fun W => by have h1 := isPl_any (byT s j) W; rw [hpl'] at h1; exact h1
    have HNm : Hid (∀ W, ScAt W b a cap sc → LRd W b s s.size n d 4 j → Calls Try.prog 40 #[.pointer (some ⟨b, 0, none⟩), .slice a sc.length cap] W fun e w' => (∃ z : Int, e = .returned (.int .i64 z)) ∧ W.grownBy w' (some b) ∧ LRd w' b s s.size n d 4 j) := fun W h1 h2 => namedK_stop s b n d cap 4 j sc a W hs hl (by omega) h2 h1
    clear hpl hpl'
    generalize byT s j = x at *
    have HM : Hid (sc.length ≤ 4) := hl
    go_enter Try.func39, Try.ntmps39
    go_wp2_with fail
    refine HP.out.mono ?_
    rintro e w2 ⟨rfl, hg2⟩
    have G2 : Hid (w.grownBy w2 none) := hg2
    clear hg2
    go_wp2_with fail
    refine (HPl.out _).mono ?_
    rintro e w3 ⟨rfl, rfl⟩
    go_wp2_with fail
    refine (failK_first s b j n d 0 4 _ hs (H.out.kept G2.out)).mono ?_
    rintro e w4 ⟨rfl, hg4, hr4⟩
    have G4 : Hid (w.grownBy w4 (some b)) := grown_trans (grown_some G2.out) hg4
    have R4 : Hid (LRd w4 b s s.size n d 4 j) := hr4
    clear hg4 hr4
    go_wp2_with fail
    refine (HNm.out _ (S.out.kept G4.out) R4.out).mono ?_
    rintro e w5 ⟨⟨z, rfl⟩, hg5, hr5⟩
    have G5 : Hid (w.grownBy w5 (some b)) := grown_trans G4.out hg5
    have R5 : Hid (LRd w5 b s s.size n d 4 j) := hr5
    clear hg5 hr5
    go_wp2_with fail
    refine (HSk.out _ _ _ _ (Nat.le_refl _) R5.out).mono ?_
    rintro e w6 ⟨rfl, hg6, hr6⟩
    rw [show min (s.size + 1) s.size = s.size by omega] at hr6
    have E : Hid (w.grownBy w6 (some b) ∧ LRd w6 b s s.size n d 4 j) := ⟨grown_trans G5.out hg6, hr6⟩
    clear hg6 hr6
    go_wp2_with fail
    go_ret
    exact ⟨E.out.1, _, rfl, E.out.2⟩

theorem byT_end (s : ByteArray) : byT s s.size = 0 := by simp [byT]
theorem placeK_stop (s : ByteArray) (b n d cap : Nat) (c : Int) (j : Nat) (sc : List Nat) (a : Option Addr) (w : World) (hs : s.size ≤ 4000) (hl : sc.length ≤ 4) (hcn : c ≠ 0) (h : LRd w b s s.size n d c j) (hc : ScAt w b a cap sc) :
    Calls Try.prog 39 #[.pointer (some ⟨b, 0, none⟩), .slice a sc.length cap] w fun e w' => (∃ z : Int, e = .returned (.int .i64 z)) ∧ w.grownBy w' (some b) ∧ LRd w' b s s.size n d c j := by
  have HP : Hid (Calls Try.prog 24 #[.pointer (some ⟨b, 0, none⟩)] w fun e w' => e = .returned (.int .u8 ((0 : Nat) : Int)) ∧ w.grownBy w' none) := by
    have h1 := peekK_any s b s.size n d c j w hs (Nat.le_refl _) h
    rw [byT_end] at h1
    exact h1
  have HPl : Hid (∀ W, Calls Try.prog 37 #[.int .u8 ((0 : Nat) : Int)] W fun e w' => e = .returned (.bool false) ∧ w' = W) := fun W => isPl_any 0 W
  have H : Hid (LRd w b s s.size n d c j) := h
  have S : Hid (ScAt w b a cap sc) := hc
  have HC : Hid (c ≠ 0) := hcn
  have HNm : Hid (∀ W, ScAt W b a cap sc → LRd W b s s.size n d c j → Calls Try.prog 40 #[.pointer (some ⟨b, 0, none⟩), .slice a sc.length cap] W fun e w' => (∃ z : Int, e = .returned (.int .i64 z)) ∧ W.grownBy w' (some b) ∧ LRd w' b s s.size n d c j) := fun W h1 h2 => namedK_stop s b n d cap c j sc a W hs hl hcn h2 h1
  have HSk : Hid (∀ W, LRd W b s s.size n d c j → Calls Try.prog 28 #[.pointer (some ⟨b, 0, none⟩)] W fun e w' => e = .returned (.tuple #[]) ∧ W.grownBy w' (some b) ∧ LRd w' b s s.size n d c j) := fun W h2 => by
    have h1 := skipK_any s b s.size n d c j W hs (Nat.le_refl _) h2
    rw [show min (s.size + 1) s.size = s.size by omega] at h1
    exact h1
  clear h hc hl
  go_enter Try.func39, Try.ntmps39
  go_wp2_with fail
  refine HP.out.mono ?_
  rintro e w2 ⟨rfl, hg2⟩
  have G2 : Hid (w.grownBy w2 none) := hg2
  clear hg2
  go_wp2_with fail
  refine (HPl.out _).mono ?_
  rintro e w3 ⟨rfl, rfl⟩
  go_wp2_with fail
  refine (failK_again s b s.size n d c j 4 _ hs HC.out (H.out.kept G2.out)).mono ?_
  rintro e w4 ⟨rfl, hg4, hr4⟩
  have G4 : Hid (w.grownBy w4 (some b)) := grown_trans (grown_some G2.out) hg4
  have R4 : Hid (LRd w4 b s s.size n d c j) := hr4
  clear hg4 hr4
  go_wp2_with fail
  refine (HNm.out _ (S.out.kept G4.out) R4.out).mono ?_
  rintro e w5 ⟨⟨z, rfl⟩, hg5, hr5⟩
  have G5 : Hid (w.grownBy w5 (some b)) := grown_trans G4.out hg5
  have R5 : Hid (LRd w5 b s s.size n d c j) := hr5
  clear hg5 hr5
  go_wp2_with fail
  refine (HSk.out _ R5.out).mono ?_
  rintro e w6 ⟨rfl, hg6, hr6⟩
  have E : Hid (w.grownBy w6 (some b) ∧ LRd w6 b s s.size n d c j) := ⟨grown_trans G5.out hg6, hr6⟩
  clear hg6 hr6
  go_wp2_with fail
  go_ret
  exact ⟨⟨z, rfl⟩, E.out⟩

/-- A relation's kind. -/
def reK (r : Nat) : Nat := if r = 60 then 6 else if r = 61 then 7 else 8
def RlK (s : ByteArray) (b n d j : Nat) (w : World) (e : Ending) (w' : World) : Prop :=
  w.grownBy w' (some b) ∧ ∃ z : Nat, e = .returned (.int .i64 (z : Int)) ∧ if byT s j = 60 ∨ byT s j = 61 ∨ byT s j = 126 then z = reK (byT s j) ∧ LRd w' b s (j + 1) n d 0 0 else LRd w' b s s.size n d 4 j
theorem relK_any (s : ByteArray) (b j n d : Nat) (w : World) (hs : s.size ≤ 4000) (hj : j ≤ s.size) (h : LRd w b s j n d 0 0) :
    Calls Try.prog 41 #[.pointer (some ⟨b, 0, none⟩)] w (RlK s b n d j w) := by
  have HP : Hid (Calls Try.prog 24 #[.pointer (some ⟨b, 0, none⟩)] w fun e w' => e = .returned (.int .u8 (byT s j)) ∧ w.grownBy w' none) := peekK_any s b j n d 0 0 w hs hj h
  have H : Hid (LRd w b s j n d 0 0) := h
  have HI : Hid (0 < byT s j → j < s.size) := fun h1 => byT_pos rfl h1
  clear h
  unfold RlK
  generalize byT s j = x at *
  by_cases hx : x = 60 ∨ x = 61 ∨ x = 126
  · have hjl := HI.out (by omega)
    simp only [hx, if_true]
    rcases hx with rfl | rfl | rfl
    all_goals
      go_enter Try.func41, Try.ntmps41
      go_wp2_with fail
      refine HP.out.mono ?_
      rintro e w2 ⟨rfl, hg2⟩
      have G2 : Hid (w.grownBy w2 none) := hg2
      clear hg2
      go_wp2_with fail
      refine (skipK_any s b j n d 0 0 _ hs hj (H.out.kept G2.out)).mono ?_
      rintro e w5 ⟨rfl, hg5, hr5⟩
      rw [show min (j + 1) s.size = j + 1 by omega] at hr5
      have E : Hid (w.grownBy w5 (some b) ∧ LRd w5 b s (j + 1) n d 0 0) := ⟨grown_trans (grown_some G2.out) hg5, hr5⟩
      clear hg5 hr5
      go_wp2_with fail
      go_ret
      first | exact ⟨E.out.1, 6, rfl, rfl, E.out.2⟩ | exact ⟨E.out.1, 7, rfl, rfl, E.out.2⟩ | exact ⟨E.out.1, 8, rfl, rfl, E.out.2⟩
  · simp only [hx, if_false]
    have k60 : ((x : Int) == 60) = false := by simp; omega
    have k61 : ((x : Int) == 61) = false := by simp; omega
    have k126 : ((x : Int) == 126) = false := by simp; omega
    go_enter Try.func41, Try.ntmps41
    go_wp2_with fail
    refine HP.out.mono ?_
    rintro e w2 ⟨rfl, hg2⟩
    have G2 : Hid (w.grownBy w2 none) := hg2
    clear hg2
    go_wp2_with fail
    refine (failK_first s b j n d 0 4 _ hs (H.out.kept G2.out)).mono ?_
    rintro e w4 ⟨rfl, hg4, hr4⟩
    have G4 : Hid (w.grownBy w4 (some b)) := grown_trans (grown_some G2.out) hg4
    have R4 : Hid (LRd w4 b s s.size n d 4 j) := hr4
    clear hg4 hr4
    go_wp2_with fail
    refine (skipK_any s b s.size n d 4 j _ hs (Nat.le_refl _) R4.out).mono ?_
    rintro e w5 ⟨rfl, hg5, hr5⟩
    rw [show min (s.size + 1) s.size = s.size by omega] at hr5
    have E : Hid (w.grownBy w5 (some b) ∧ LRd w5 b s s.size n d 4 j) := ⟨grown_trans G4.out hg5, hr5⟩
    clear hg5 hr5
    go_wp2_with fail
    go_ret
    exact ⟨E.out.1, 6, rfl, E.out.2⟩
theorem relK_stop (s : ByteArray) (b n d : Nat) (c : Int) (j : Nat) (w : World) (hs : s.size ≤ 4000) (hcn : c ≠ 0) (h : LRd w b s s.size n d c j) :
    Calls Try.prog 41 #[.pointer (some ⟨b, 0, none⟩)] w fun e w' => (∃ z : Nat, e = .returned (.int .i64 (z : Int))) ∧ w.grownBy w' (some b) ∧ LRd w' b s s.size n d c j := by
  have HP : Hid (Calls Try.prog 24 #[.pointer (some ⟨b, 0, none⟩)] w fun e w' => e = .returned (.int .u8 0) ∧ w.grownBy w' none) := by
    have h1 := peekK_any s b s.size n d c j w hs (Nat.le_refl _) h
    rw [byT_end] at h1
    exact h1
  have H : Hid (LRd w b s s.size n d c j) := h
  have HC : Hid (c ≠ 0) := hcn
  clear h
  go_enter Try.func41, Try.ntmps41
  go_wp2_with fail
  refine HP.out.mono ?_
  rintro e w2 ⟨rfl, hg2⟩
  have G2 : Hid (w.grownBy w2 none) := hg2
  clear hg2
  go_wp2_with fail
  refine (failK_again s b s.size n d c j 4 _ hs HC.out (H.out.kept G2.out)).mono ?_
  rintro e w4 ⟨rfl, hg4, hr4⟩
  have G4 : Hid (w.grownBy w4 (some b)) := grown_trans (grown_some G2.out) hg4
  have R4 : Hid (LRd w4 b s s.size n d c j) := hr4
  clear hg4 hr4
  go_wp2_with fail
  refine (skipK_any s b s.size n d c j _ hs (Nat.le_refl _) R4.out).mono ?_
  rintro e w5 ⟨rfl, hg5, hr5⟩
  rw [show min (s.size + 1) s.size = s.size by omega] at hr5
  have E : Hid (w.grownBy w5 (some b) ∧ LRd w5 b s s.size n d c j) := ⟨grown_trans G4.out hg5, hr5⟩
  clear hg5 hr5
  go_wp2_with fail
  go_ret
  exact ⟨⟨6, rfl⟩, E.out⟩

end Go.Proofs.Ytaommgnlnfhbfaa
