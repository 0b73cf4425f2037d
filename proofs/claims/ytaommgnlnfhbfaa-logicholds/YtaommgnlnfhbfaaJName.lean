/- The reference's known and place, in whatever state. -/
import Derived.Test.YtaommgnlnfhbfaaJBase
namespace Go.Proofs.Ytaommgnlnfhbfaa
open Go.RowKit
set_option linter.unusedVariables false
set_option linter.unusedSimpArgs false

/-- The bytes of a text are these. -/
def ScB (z : ByteArray) (sc : List Nat) : Prop := z.size = sc.length ∧ ∀ k, k < sc.length → byT z k = sc.getD k 0
/-- What known comes to. -/
def KnwJ (s : ByteArray) (b n d : Nat) (z : ByteArray) (L : Value) (o : Option Nat) (i : Nat) (c0 : Int) (a : Nat) (w : World) (e : Ending) (w' : World) : Prop :=
  w.grownBy w' (some b) ∧ match o with
  | none => e = .returned (.int .i64 0) ∧ JRd w' b s i n d z L (if c0 = 0 then 5 else c0) (if c0 = 0 then i else a)
  | some k => e = .returned (.int .i64 (k : Int)) ∧ JRd w' b s (i + 1) n d z L c0 a
set_option maxHeartbeats 1600000 in
theorem knownJ_any (s z : ByteArray) (sc : List Nat) (b i n d : Nat) (L : Value) (c0 : Int) (a : Nat) (w : World) (hs : s.size ≤ 4000) (hi : i ≤ 4900) (hl : sc.length ≤ 4) (hz : ScB z sc) (h : JRd w b s i n d z L c0 a) :
    Calls Try.prog 36 #[.pointer (some ⟨b, 0, none⟩)] w (KnwJ s b n d z L (idxF sc (byT s i)) i c0 a w) := by
  have HN : Hid (Calls Try.prog 18 #[.pointer (some ⟨b, 0, none⟩)] w fun e w' => e = .returned (.int .u8 (byT s i)) ∧ w.grownBy w' none) := nowJ_any s z b i n d L c0 a w hs (by omega) h
  have H : Hid (JRd w b s i n d z L c0 a) := h
  have HF : Hid (∀ W, JRd W b s i n d z L c0 a → Calls Try.prog 12 #[.pointer (some ⟨b, 0, none⟩), .int .i64 5, .int .i64 (i : Int)] W fun e w' => e = .returned (.tuple #[]) ∧ W.grownBy w' (some b) ∧ JRd w' b s i n d z L (if c0 = 0 then 5 else c0) (if c0 = 0 then i else a)) := fun W h => failJ_any s z b i n d L c0 a 5 i W h
  obtain ⟨P, hP⟩ : ∃ P, P = KnwJ s b n d z L (idxF sc (byT s i)) i c0 a w := ⟨_, rfl⟩
  rw [← hP]
  have EP : Hid (∀ w', w.grownBy w' (some b) → idxF sc (byT s i) = none → JRd w' b s i n d z L (if c0 = 0 then 5 else c0) (if c0 = 0 then i else a) → P (.returned (.int .i64 0)) w') := fun w' h1 h2 h3 => by rw [hP, h2]; exact ⟨h1, rfl, h3⟩
  have EQ : Hid (∀ w' k, w.grownBy w' (some b) → idxF sc (byT s i) = some k → JRd w' b s (i + 1) n d z L c0 a → P (.returned (.int .i64 (k : Int))) w') := fun w' k h1 h2 h3 => by rw [hP, h2]; exact ⟨h1, rfl, h3⟩
  clear h hP
  generalize byT s i = x at *
  generalize (if c0 = 0 then (5 : Int) else c0) = cc at *
  generalize (if c0 = 0 then i else a) = aa at *
  go_enter Try.func36, Try.ntmps36
  go_wp2_with fail
  refine HN.out.mono ?_
  rintro e w2 ⟨rfl, hg2⟩
  have G2 : Hid (w.grownBy w2 none) := hg2
  have R2 : Hid (JRd w2 b s i n d z L c0 a) := H.out.kept hg2
  have d1 := R2.out.c1
  have d4 := R2.out.c4
  have e1 := R2.out.f 1
  have e4 := R2.out.f 4
  obtain ⟨hz0, hzk⟩ := hz
  clear hg2 HN H
  go_wp2_with fail
  have HZ : Hid (∀ (k : Nat), k < sc.length → byT z k = sc.getD k 0) := hzk
  clear hzk
  go_loopw [4] (fun v wr => ∃ k : Nat, k ≤ sc.length ∧ v = .int .i64 ((k : Int) - 1) ∧ w2.grownBy wr none ∧ idxF sc x = idxB sc x k) (fun v _ => (intOf v + 1).toNat)
  case atStart => exact ⟨sc.length, Nat.le_refl _, rfl, grown_refl _ _, rfl⟩
  case round =>
    rename World => wr
    obtain ⟨k, hk, rfl, hgr, hi⟩ := hrel
    have HI : Hid (idxF sc x = idxB sc x k) := hi
    have GR : Hid (w2.grownBy wr none) := hgr
    have R3 : Hid (JRd wr b s i n d z L c0 a) := R2.out.kept hgr
    clear hi hgr d1 d4 e1 e4
    have d1 := R3.out.c1
    have d4 := R3.out.c4
    have e1 := R3.out.f 1
    have e4 := R3.out.f 4
    cases k with
    | zero =>
      have e0 : ¬ (0 : Int) ≤ ((0 : Nat) : Int) - 1 := by omega
      go_wp2_with fail
      refine (HF.out _ R3.out).mono ?_
      rintro e w4 ⟨rfl, hg4, hr4⟩
      have E : Hid (P (.returned (.int .i64 0)) w4) := EP.out w4 (grown_trans (grown_some (grown_trans G2.out GR.out)) hg4) HI.out hr4
      clear hg4 hr4
      go_wp2_with fail
      exact E.out
    | succ k =>
      have e0 : (0 : Int) ≤ ((k + 1 : Nat) : Int) - 1 := by omega
      have e1' : ((k + 1 : Nat) : Int) - 1 = (k : Int) := by omega
      rw [e1']
      have e2 : (k : Int) < (z.size : Int) := by omega
      have e3 : k < z.size := by omega
      have x0 := HZ.out k hk
      simp only [byT, e3, dif_pos] at x0
      obtain ⟨y, hy⟩ : ∃ y, sc.getD k 0 = y := ⟨_, rfl⟩
      rw [hy] at x0
      have e5 : (0 : Int) ≤ (k : Int) := by omega
      by_cases hxc : y = x
      · have f1 : ((y : Int) == (x : Int)) = true := by simp; omega
        have R4 : Hid (JRd (wr.setCell ⟨b, 1, none⟩ (.int .i64 ((i : Int) + 1))) b s (i + 1) n d z L c0 a) := R3.out.set1 (i + 1) (by omega)
        have d5 := R4.out.c1
        go_wp2
        exact EQ.out _ k (grown_trans (grown_some (grown_trans G2.out GR.out)) (grown_set _ _ _)) (by rw [HI.out, idxB, hy, if_pos hxc]) R4.out
      · have f1 : ((y : Int) == (x : Int)) = false := by simp; omega
        go_wp2
        go_roundw
        case rel => exact ⟨k, by omega, by go_num, GR.out, by rw [HI.out, idxB, hy, if_neg hxc]⟩
        case measure => (simp [intOf]; try omega)

/-- What place comes to. -/
def PlcJ (s : ByteArray) (b n d : Nat) (z : ByteArray) (L : Value) (sc : List Nat) (i : Nat) (w : World) (e : Ending) (w' : World) : Prop :=
  w.grownBy w' (some b) ∧ ∃ k : Int, e = .returned (.int .i64 k) ∧ if isPl (byT s i) = true then match idxF sc (byT s i) with
    | none => JRd w' b s i n d z L 5 i
    | some x => k = x ∧ JRd w' b s (i + 1) n d z L 0 0
    else JRd w' b s i n d z L 4 i
theorem placeJ_stop (s z : ByteArray) (b i n d : Nat) (L : Value) (c0 : Int) (a : Nat) (w : World) (hc : c0 ≠ 0) (h : JRd w b s i n d z L c0 a) :
    Calls Try.prog 35 #[.pointer (some ⟨b, 0, none⟩)] w fun e w' => e = .returned (.int .i64 0) ∧ w' = w := by
  have HK : Hid (Calls Try.prog 19 #[.pointer (some ⟨b, 0, none⟩)] w fun e w' => e = .returned (.bool false) ∧ w' = w) := by
    have h1 := okJ_any s z b i n d L c0 a w h
    have hc' : (c0 == 0) = false := by simpa using hc
    rw [hc'] at h1
    exact h1
  clear h
  go_enter Try.func35, Try.ntmps35
  go_wp2_with fail
  refine HK.out.mono ?_
  rintro e w2 ⟨rfl, rfl⟩
  go_wp2_with fail
  go_ret
  exact ⟨rfl, rfl⟩
theorem placeJ_go (s z : ByteArray) (sc : List Nat) (b i n d : Nat) (L : Value) (w : World) (hs : s.size ≤ 4000) (hi : i ≤ 4900) (hl : sc.length ≤ 4) (hz : ScB z sc) (h : JRd w b s i n d z L 0 0) :
    Calls Try.prog 35 #[.pointer (some ⟨b, 0, none⟩)] w (PlcJ s b n d z L sc i w) := by
  have HK : Hid (Calls Try.prog 19 #[.pointer (some ⟨b, 0, none⟩)] w fun e w' => e = .returned (.bool true) ∧ w' = w) := okJ_any s z b i n d L 0 0 w h
  have HN : Hid (Calls Try.prog 18 #[.pointer (some ⟨b, 0, none⟩)] w fun e w' => e = .returned (.int .u8 (byT s i)) ∧ w.grownBy w' none) := nowJ_any s z b i n d L 0 0 w hs (by omega) h
  have H : Hid (JRd w b s i n d z L 0 0) := h
  have HM : Hid (∀ W, JRd W b s i n d z L 0 0 → Calls Try.prog 36 #[.pointer (some ⟨b, 0, none⟩)] W (KnwJ s b n d z L (idxF sc (byT s i)) i 0 0 W)) := fun W h => knownJ_any s z sc b i n d L 0 0 W hs hi hl hz h
  have HX : Hid (isPl (byT s i) = (decide (120 ≤ byT s i) && decide (byT s i ≤ 122))) := rfl
  obtain ⟨P, hP⟩ : ∃ P, P = PlcJ s b n d z L sc i w := ⟨_, rfl⟩
  rw [← hP]
  have EP : Hid (∀ w', isPl (byT s i) = false → w.grownBy w' (some b) → JRd w' b s i n d z L 4 i → P (.returned (.int .i64 0)) w') := fun w' h0 h1 h2 => by rw [hP]; exact ⟨h1, 0, rfl, by simp only [h0, Bool.false_eq_true, if_false]; exact h2⟩
  have EQ : Hid (∀ W e w', isPl (byT s i) = true → w.grownBy W none → KnwJ s b n d z L (idxF sc (byT s i)) i 0 0 W e w' → ∃ k : Int, e = .returned (.int .i64 k) ∧ P (.returned (.int .i64 k)) w') := fun W e w' h0 h1 h2 => by
    obtain ⟨h3, h4⟩ := h2
    rw [hP]
    cases ho : idxF sc (byT s i) with
    | none => rw [ho] at h4; exact ⟨0, h4.1, grown_trans (grown_some h1) h3, 0, rfl, by simp only [h0, if_true, ho]; exact h4.2⟩
    | some k => rw [ho] at h4; exact ⟨k, h4.1, grown_trans (grown_some h1) h3, k, rfl, by simp only [h0, if_true, ho]; exact ⟨trivial, h4.2⟩⟩
  clear h hP
  generalize byT s i = x at *
  have F4 : Hid (∀ W, JRd W b s i n d z L 0 0 → Calls Try.prog 12 #[.pointer (some ⟨b, 0, none⟩), .int .i64 4, .int .i64 (i : Int)] W fun e w' => e = .returned (.tuple #[]) ∧ W.grownBy w' (some b) ∧ JRd w' b s i n d z L 4 i) := fun W h => failJ_any s z b i n d L 0 0 4 i W h
  by_cases hpl : isPl x = true
  · have q0 := HX.out
    rw [hpl] at q0
    simp at q0
    have q1 : ¬ (x : Int) < 120 := by omega
    have q2 : ¬ (122 : Int) < x := by omega
    have HPL : Hid (isPl x = true) := hpl
    clear q0 hpl HX
    go_enter Try.func35, Try.ntmps35
    go_wp2_with fail
    refine HK.out.mono ?_
    rintro e w2 ⟨rfl, rfl⟩
    go_wp2_with fail
    refine HN.out.mono ?_
    rintro e w3 ⟨rfl, hg3⟩
    have G3 : Hid (w2.grownBy w3 none) := hg3
    have R3 : Hid (JRd w3 b s i n d z L 0 0) := H.out.kept hg3
    clear hg3
    go_wp2_with fail
    refine (HM.out _ R3.out).mono ?_
    intro e w4 h4
    obtain ⟨k, rfl, h5⟩ := EQ.out _ _ _ HPL.out G3.out h4
    have E : Hid (P (.returned (.int .i64 k)) w4) := h5
    clear h4 h5
    go_wp2_with fail
    exact E.out
  · have hpl' : isPl x = false := by simpa using hpl
    have q0 := HX.out
    rw [hpl'] at q0
    have HPL : Hid (isPl x = false) := hpl'
    clear hpl HX hpl'
    have q1 : x < 120 ∨ 122 < x := by
      by_cases h1 : 120 ≤ x
      · have : decide (120 ≤ x) = true := by simpa using h1
        rw [this, Bool.true_and] at q0
        have := of_decide_eq_false q0.symm
        omega
      · omega
    clear q0
    by_cases q2 : x < 120
    · have q3 : (x : Int) < 120 := by omega
      clear q1
      go_enter Try.func35, Try.ntmps35
      go_wp2_with fail
      refine HK.out.mono ?_
      rintro e w2 ⟨rfl, rfl⟩
      go_wp2_with fail
      refine HN.out.mono ?_
      rintro e w3 ⟨rfl, hg3⟩
      have G3 : Hid (w2.grownBy w3 none) := hg3
      have R3 : Hid (JRd w3 b s i n d z L 0 0) := H.out.kept hg3
      have d1 := R3.out.c1
      have e1 := R3.out.f 1
      clear hg3
      go_wp2_with fail
      refine (F4.out _ R3.out).mono ?_
      rintro e w4 ⟨rfl, hg4, hr4⟩
      have E : Hid (P (.returned (.int .i64 0)) w4) := EP.out _ HPL.out (grown_trans (grown_some G3.out) hg4) hr4
      clear hg4 hr4
      go_wp2_with fail
      exact E.out
    · have q3 : ¬ (x : Int) < 120 := by omega
      have q4 : (122 : Int) < x := by omega
      clear q1
      go_enter Try.func35, Try.ntmps35
      go_wp2_with fail
      refine HK.out.mono ?_
      rintro e w2 ⟨rfl, rfl⟩
      go_wp2_with fail
      refine HN.out.mono ?_
      rintro e w3 ⟨rfl, hg3⟩
      have G3 : Hid (w2.grownBy w3 none) := hg3
      have R3 : Hid (JRd w3 b s i n d z L 0 0) := H.out.kept hg3
      have d1 := R3.out.c1
      have e1 := R3.out.f 1
      clear hg3
      go_wp2_with fail
      refine (F4.out _ R3.out).mono ?_
      rintro e w4 ⟨rfl, hg4, hr4⟩
      have E : Hid (P (.returned (.int .i64 0)) w4) := EP.out _ HPL.out (grown_trans (grown_some G3.out) hg4) hr4
      clear hg4 hr4
      go_wp2_with fail
      exact E.out

/-- How known, place, counted and fail turn the reader, in whatever state. -/
def KR (s : ByteArray) (sc : List Nat) (i : Nat) (c : Int) (a i' : Nat) (c' : Int) (a' : Nat) : Prop := match idxF sc (byT s i) with
  | none => i' = i ∧ c' = (if c = 0 then 5 else c) ∧ a' = (if c = 0 then i else a)
  | some _ => i' = i + 1 ∧ c' = c ∧ a' = a
def PR (s : ByteArray) (sc : List Nat) (i : Nat) (c : Int) (a i' : Nat) (c' : Int) (a' : Nat) : Prop := if c = 0 then (if isPl (byT s i) = true then match idxF sc (byT s i) with
    | none => i' = i ∧ c' = 5 ∧ a' = i
    | some _ => i' = i + 1 ∧ c' = 0 ∧ a' = 0
    else i' = i ∧ c' = 4 ∧ a' = i) else i' = i ∧ c' = c ∧ a' = a
def CR (n : Nat) (c : Int) (a t : Nat) (c' : Int) (a' : Nat) : Prop := c' = (if 30 < n + 1 ∧ c = 0 then 7 else c) ∧ a' = (if 30 < n + 1 ∧ c = 0 then t else a)
def SR (c : Int) (a : Nat) (e : Int) (t : Nat) (c' : Int) (a' : Nat) : Prop := c' = (if c = 0 then e else c) ∧ a' = (if c = 0 then t else a)
/-- The value that known, and place, answer. -/
def KV (s : ByteArray) (sc : List Nat) (i : Nat) (k : Int) : Prop := ∀ x, idxF sc (byT s i) = some x → k = (x : Int)
def PV (s : ByteArray) (sc : List Nat) (i : Nat) (c : Int) (k : Int) : Prop := c = 0 → isPl (byT s i) = true → KV s sc i k
theorem KR.le {s : ByteArray} {sc : List Nat} {i i' a a' : Nat} {c c' : Int} (h : KR s sc i c a i' c' a') : i ≤ i' ∧ i' ≤ i + 1 := by
  unfold KR at h
  cases ho : idxF sc (byT s i) with
  | none => rw [ho] at h; omega
  | some k => rw [ho] at h; omega
theorem knownJ_st (s z : ByteArray) (sc : List Nat) (b i n d : Nat) (L : Value) (c0 : Int) (a : Nat) (w : World) (hs : s.size ≤ 4000) (hi : i ≤ 4900) (hl : sc.length ≤ 4) (hz : ScB z sc) (h : JRd w b s i n d z L c0 a) :
    Calls Try.prog 36 #[.pointer (some ⟨b, 0, none⟩)] w fun e w' => ∃ (k : Int) (i' : Nat) (c' : Int) (a' : Nat), e = .returned (.int .i64 k) ∧ w.grownBy w' (some b) ∧ JRd w' b s i' n d z L c' a' ∧ KR s sc i c0 a i' c' a' ∧ KV s sc i k := by
  refine (knownJ_any s z sc b i n d L c0 a w hs hi hl hz h).mono ?_
  rintro e w' ⟨h1, h2⟩
  unfold KR KV
  cases ho : idxF sc (byT s i) with
  | none => rw [ho] at h2; exact ⟨_, _, _, _, h2.1, h1, h2.2, ⟨rfl, rfl, rfl⟩, fun x hx => by cases hx⟩
  | some k => rw [ho] at h2; exact ⟨_, _, _, _, h2.1, h1, h2.2, ⟨rfl, rfl, rfl⟩, fun x hx => by cases hx; rfl⟩
theorem placeJ_st (s z : ByteArray) (sc : List Nat) (b i n d : Nat) (L : Value) (c0 : Int) (a : Nat) (w : World) (hs : s.size ≤ 4000) (hi : i ≤ 4900) (hl : sc.length ≤ 4) (hz : ScB z sc) (h0 : c0 = 0 → a = 0) (h : JRd w b s i n d z L c0 a) :
    Calls Try.prog 35 #[.pointer (some ⟨b, 0, none⟩)] w fun e w' => ∃ (k : Int) (i' : Nat) (c' : Int) (a' : Nat), e = .returned (.int .i64 k) ∧ w.grownBy w' (some b) ∧ JRd w' b s i' n d z L c' a' ∧ PR s sc i c0 a i' c' a' ∧ PV s sc i c0 k := by
  by_cases hc : c0 = 0
  · have ha := h0 hc
    subst hc ha
    refine (placeJ_go s z sc b i n d L w hs hi hl hz h).mono ?_
    rintro e w' ⟨h1, k, h2, h3⟩
    unfold PR PV KV
    simp only [if_true]
    by_cases hp : isPl (byT s i) = true
    · simp only [hp, if_true] at h3 ⊢
      cases ho : idxF sc (byT s i) with
      | none => rw [ho] at h3; exact ⟨_, _, _, _, h2, h1, h3, ⟨rfl, rfl, rfl⟩, fun _ _ x hx => by cases hx⟩
      | some k => rw [ho] at h3; exact ⟨_, _, _, _, h2, h1, h3.2, ⟨rfl, rfl, rfl⟩, fun _ _ x hx => by cases hx; exact h3.1⟩
    · simp only [hp] at h3 ⊢
      exact ⟨_, _, _, _, h2, h1, h3, ⟨rfl, rfl, rfl⟩, fun _ h => by cases h⟩
  · refine (placeJ_stop s z b i n d L c0 a w hc h).mono ?_
    rintro e w' ⟨h1, rfl⟩
    unfold PR PV
    simp only [hc, if_false]
    exact ⟨_, _, _, _, h1, grown_refl _ _, h, ⟨rfl, rfl, rfl⟩, fun h => by cases h⟩
theorem countJ_st (s z : ByteArray) (b i n d : Nat) (L : Value) (c0 : Int) (a t : Nat) (w : World) (hn : n ≤ 100) (h : JRd w b s i n d z L c0 a) :
    Calls Try.prog 20 #[.pointer (some ⟨b, 0, none⟩), .int .i64 (t : Int)] w fun e w' => e = .returned (.tuple #[]) ∧ w.grownBy w' (some b) ∧ ∃ (c' : Int) (a' : Nat), JRd w' b s i (n + 1) d z L c' a' ∧ CR n c0 a t c' a' :=
  (countJ_any s z b i n d L c0 a t w hn h).mono fun e w' ⟨h1, h2, h3⟩ => ⟨h1, h2, _, _, h3, rfl, rfl⟩
theorem failJ_st (s z : ByteArray) (b i n d : Nat) (L : Value) (c0 : Int) (a : Nat) (c : Int) (t : Nat) (w : World) (h : JRd w b s i n d z L c0 a) :
    Calls Try.prog 12 #[.pointer (some ⟨b, 0, none⟩), .int .i64 c, .int .i64 (t : Int)] w fun e w' => e = .returned (.tuple #[]) ∧ w.grownBy w' (some b) ∧ ∃ (c' : Int) (a' : Nat), JRd w' b s i n d z L c' a' ∧ SR c0 a c t c' a' :=
  (failJ_any s z b i n d L c0 a c t w h).mono fun e w' ⟨h1, h2, h3⟩ => ⟨h1, h2, _, _, h3, rfl, rfl⟩

end Go.Proofs.Ytaommgnlnfhbfaa
