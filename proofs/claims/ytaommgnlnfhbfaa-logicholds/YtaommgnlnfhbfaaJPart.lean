/- A part, as the reference reads it. -/
import Derived.Test.YtaommgnlnfhbfaaJQuant
namespace Go.Proofs.Ytaommgnlnfhbfaa
open Go.RowKit
set_option linter.unusedVariables false
set_option linter.unusedSimpArgs false

theorem partJ_stop (s : ByteArray) (hs : s.size ≤ 4000) : JStop 26 s := by
  intro i n d b w L z c a hc hi h
  have HK : Hid (Calls Try.prog 19 #[.pointer (some ⟨b, 0, none⟩)] w fun e w' => e = .returned (.bool false) ∧ w' = w) := by
    have h1 := okJ_any s z b i n d L c a w h
    have hc' : (c == 0) = false := by simpa using hc
    rw [hc'] at h1
    exact h1
  clear h hc
  go_enter Try.func26, Try.ntmps26
  go_wp2_with fail
  refine HK.out.mono ?_
  rintro e w4 ⟨rfl, rfl⟩
  go_wp2_with fail
  go_ret
  exact ⟨rfl, grown_refl _ _⟩

theorem termJ_stop (s : ByteArray) (hs : s.size ≤ 4000) : JStop 17 s := by
  intro i n d b w L z c a hc hi h
  have H1 : Hid (Calls Try.prog 26 #[.pointer (some ⟨b, 0, none⟩)] w fun e w' => e = .returned (.int .i64 0) ∧ w.grownBy w' none) := partJ_stop s hs i n d b w L z c a hc hi h
  have HN : Hid (∀ W, w.grownBy W none → Calls Try.prog 18 #[.pointer (some ⟨b, 0, none⟩)] W fun e w' => e = .returned (.int .u8 (byT s i)) ∧ W.grownBy w' none) := fun W hW => nowJ_any s z b i n d L c a W hs hi (h.kept hW)
  have HK : Hid (∀ W, w.grownBy W none → Calls Try.prog 19 #[.pointer (some ⟨b, 0, none⟩)] W fun e w' => e = .returned (.bool false) ∧ w' = W) := fun W hW => by
    have h1 := okJ_any s z b i n d L c a W (h.kept hW)
    have hc' : (c == 0) = false := by simpa using hc
    rw [hc'] at h1
    exact h1
  clear h hc
  generalize byT s i = x at *
  go_enter Try.func17, Try.ntmps17
  go_wp2_with fail
  refine H1.out.mono ?_
  rintro e w2 ⟨rfl, hg2⟩
  have G2 : Hid (w.grownBy w2 none) := hg2
  clear hg2
  go_wp2_with fail
  go_loopw [3] (fun v wr => v = .int .i64 0 ∧ w.grownBy wr none) (fun _ _ => 0)
  case atStart => exact ⟨rfl, G2.out⟩
  case round =>
    clear G2
    rename World => wr
    obtain ⟨rfl, hg⟩ := hrel
    have G : Hid (w.grownBy wr none) := hg
    clear hg
    go_wp2_with fail
    refine (HN.out _ G.out).mono ?_
    rintro e w3 ⟨rfl, hg3⟩
    have G3 : Hid (w.grownBy w3 none) := grown_trans G.out hg3
    clear hg3
    go_wp2_with fail
    refine (HK.out _ G3.out).mono ?_
    rintro e w4 ⟨rfl, rfl⟩
    go_wp2_with fail
    go_ret
    exact ⟨rfl, G3.out⟩

/-- How a bracket is closed. -/
def BR (x : Nat) (c : Int) (a i : Nat) (c' : Int) (a' : Nat) : Prop := if x = 41 then c' = c ∧ a' = a else SR c a 4 i c' a'
def brK (s : ByteArray) (R : LRes) : LRes := match R with
  | .bad c j => .bad c j
  | .good f j n' => if byT s j = 41 then .good f (j + 1) n' else .bad 4 j
theorem endB {s : ByteArray} {d n1 i' a' a2 : Nat} {R : LRes} {c' c2 : Int} (hs : s.size ≤ 4000) (hd : d ≤ 40) (hR : ∀ f j n', R = .good f j n' → j ≤ s.size) (hb : ∀ c j, R = .bad c j → c ≠ 0) (h : EndD (d + 1) n1 R i' c' a') (h2 : BR (byT s i') c' a' i' c2 a2) : EndD d n1 (brK s R) (i' + 1) c2 a2 := by
  cases R with
  | bad c j =>
    have hc := hb c j rfl
    obtain ⟨h3, rfl, rfl⟩ := h
    have h4 : c2 = c' ∧ a2 = a' := by
      unfold BR at h2
      by_cases hx : byT s i' = 41
      · rw [if_pos hx] at h2; exact h2
      · rw [if_neg hx] at h2; simp only [SR, hc, if_false] at h2; exact h2
    exact ⟨by omega, h4⟩
  | good f j n' =>
    have hj := hR f j n' rfl
    obtain ⟨rfl, rfl, rfl, rfl⟩ := h
    unfold BR at h2
    by_cases hx : byT s i' = 41
    · rw [if_pos hx] at h2
      simp only [brK, hx, if_true]
      exact ⟨rfl, rfl, h2⟩
    · rw [if_neg hx] at h2
      simp only [brK, hx, if_false]
      simp only [SR, if_true] at h2
      exact ⟨by omega, h2⟩
theorem MngD.br {s : ByteArray} {R : LRes} {m m' : List NdJ} {k : Int} (h : MngD R m m' k) : MngD (brK s R) m m' k := by
  refine ⟨h.1, fun f i n e => ?_⟩
  cases R with
  | bad c j => cases e
  | good f0 i0 n0 =>
    unfold brK at e
    simp only at e
    by_cases hx : byT s i0 = 41
    · rw [if_pos hx] at e; cases e; exact h.2 _ _ _ rfl
    · rw [if_neg hx] at e; cases e
theorem part_not (s : ByteArray) (P W : PL) (i n d : Nat) (sc : List Nat) (hx : byT s i = 33) : partK s P W i n d sc = if 30 < n + 1 then .bad 7 i else mapK .not (P (i + 1) (n + 1) d sc) := by
  unfold partK; rw [if_pos hx]; rfl
theorem part_br (s : ByteArray) (P W : PL) (i n d : Nat) (sc : List Nat) (hx : byT s i = 40) : partK s P W i n d sc = if d = 40 then .bad 7 i else brK s (W (i + 1) n (d + 1) sc) := by
  unfold partK; rw [if_neg (by omega), if_pos hx]; rfl
theorem part_qu (s : ByteArray) (P W : PL) (i n d : Nat) (sc : List Nat) (hx : byT s i = 69 ∨ byT s i = 65) : partK s P W i n d sc = quK s P i n d sc := by
  unfold partK quK; rw [if_neg (by omega), if_neg (by omega), if_pos hx]; rfl
theorem part_at (s : ByteArray) (P W : PL) (i n d : Nat) (sc : List Nat) (h1 : ¬ byT s i = 33) (h2 : ¬ byT s i = 40) (h3 : ¬ (byT s i = 69 ∨ byT s i = 65)) : partK s P W i n d sc = atomK s i n d sc := by
  unfold partK; rw [if_neg h1, if_neg h2, if_neg h3]

set_option maxHeartbeats 3200000 in
theorem partJ_does (s : ByteArray) (P W : PL) (k : Nat) (hs : s.size ≤ 4000) (hW : FwdK s W) (hPd : JDoes 26 s P k) (hWd : JDoes 11 s W k) : JDoes 26 s (partK s P W) (k + 1) := by
  intro i n d b w L m z sc hi hk hn hd hl hz hm h hp
  have HK : Hid (Calls Try.prog 19 #[.pointer (some ⟨b, 0, none⟩)] w fun e w' => e = .returned (.bool true) ∧ w' = w) := okJ_any s z b i n d L 0 0 w h
  have HN : Hid (Calls Try.prog 18 #[.pointer (some ⟨b, 0, none⟩)] w fun e w' => e = .returned (.int .u8 (byT s i)) ∧ w.grownBy w' none) := nowJ_any s z b i n d L 0 0 w hs (by omega) h
  have H : Hid (JRd w b s i n d z L 0 0) := h
  have HP : Hid (NodJ w b L m) := hp
  obtain ⟨Q, hQ⟩ : ∃ Q, Q = JGives s b d n z w L m (partK s P W i n d sc) := ⟨_, rfl⟩
  rw [← hQ]
  have EP : Hid (∀ (k : Int) w' L' m' n' i' c' a', EndD d n' (partK s P W i n d sc) i' c' a' → FrJ w w' b L L' → NodJ w' b L' m' → n ≤ n' → n' ≤ 31 → m'.length + n ≤ m.length + n' → JRd w' b s i' n' d z L' c' a' → MngD (partK s P W i n d sc) m m' k → Q (.returned (.int .i64 k)) w') := fun k w' L' m' n' i' c' a' h1 h2 h3 h4 h5 h6 h7 h8 => by rw [hQ]; exact h1.gives k h2 h3 h4 h5 h6 h7 h8
  clear h hp
  by_cases h33 : byT s i = 33
  · have hil := byT_pos h33 (by omega)
    have hS := part_not s P W i n d sc h33
    have HC : Hid (∀ W, JRd W b s i n d z L 0 0 → Calls Try.prog 20 #[.pointer (some ⟨b, 0, none⟩), .int .i64 (i : Int)] W fun e w' => e = .returned (.tuple #[]) ∧ W.grownBy w' (some b) ∧ ∃ (c' : Int) (a' : Nat), JRd w' b s i (n + 1) d z L c' a' ∧ CR n 0 0 i c' a') := fun W h => countJ_st s z b i n d L 0 0 i W (by omega) h
    rw [h33] at HN
    by_cases hf : 30 < n + 1
    · rw [if_pos hf] at hS
      rw [hS] at EP
      have HT : Hid (∀ W, JRd W b s (i + 1) (n + 1) d z L 7 i → Calls Try.prog 26 #[.pointer (some ⟨b, 0, none⟩)] W fun e w' => e = .returned (.int .i64 0) ∧ W.grownBy w' none) := fun W h => partJ_stop s hs (i + 1) (n + 1) d b W L z 7 i (by omega) (by omega) h
      have HC7 : Hid (∀ c' a', CR n 0 0 i c' a' → c' = 7 ∧ a' = i) := fun c' a' h => by simp only [CR, hf, true_and, if_true] at h; exact h
      clear hS hQ hPd hWd hW hz h33
      go_enter Try.func26, Try.ntmps26
      go_wp2_with fail
      refine HK.out.mono ?_
      rintro e w1 ⟨rfl, rfl⟩
      go_wp2_with fail
      refine HN.out.mono ?_
      rintro e w2 ⟨rfl, hg2⟩
      have R2 : Hid (JRd w2 b s i n d z L 0 0) := H.out.kept hg2
      have G2 : Hid (w1.grownBy w2 (some b)) := grown_some hg2
      have d1 := R2.out.c1
      have e1 := R2.out.f 1
      clear hg2
      go_wp2_with fail
      refine (HC.out _ R2.out).mono ?_
      rintro e w3 ⟨rfl, hg3, q1, q2, hr3, hq3⟩
      obtain ⟨e7, e8⟩ := HC7.out _ _ hq3
      rw [e7, e8] at hr3
      have R3 : Hid (JRd w3 b s i (n + 1) d z L 7 i) := hr3
      have G3 : Hid (w1.grownBy w3 (some b)) := grown_trans G2.out hg3
      have R4 : Hid (JRd (w3.setCell ⟨b, 1, none⟩ (.int .i64 ((i : Int) + 1))) b s (i + 1) (n + 1) d z L 7 i) := R3.out.set1 (i + 1) (by omega)
      clear hg3 hr3 hq3 d1 e1 e7 e8
      have d1 := R3.out.c1
      have e1 := R3.out.f 1
      go_wp2_with fail
      refine (HT.out _ R4.out).mono ?_
      rintro e w5 ⟨rfl, hg5⟩
      have R5 : Hid (JRd w5 b s (i + 1) (n + 1) d z L 7 i) := R4.out.kept hg5
      have G5 : Hid (w1.grownBy w5 (some b)) := grown_trans (grown_trans G3.out (grown_set _ _ _)) (grown_some hg5)
      clear hg5
      go_wp2_with fail
      refine (putJ_any s z b _ (n + 1) d L _ _ _ m _ _ _ _ _ (by omega) R5.out (nodJ_set HP.out G5.out)).mono ?_
      rintro e w9 ⟨rfl, L9, hr9, hp9, hf9⟩
      have E : Hid (Q (.returned (.int .i64 (m.length : Int))) w9) := EP.out _ _ _ _ _ _ _ _ ⟨by omega, rfl, rfl⟩ ((FrJ.grown G5.out).trans hf9) hp9 (by omega) (by omega) (by rw [List.length_append, List.length_singleton]; omega) hr9 (MngD.bad _ _ _ _ _)
      clear hr9 hp9 hf9
      go_wp2_with fail
      exact E.out
    · rw [if_neg hf] at hS
      rw [hS] at EP
      have HT : Hid (∀ W, JRd W b s (i + 1) (n + 1) d z L 0 0 → NodJ W b L m → Calls Try.prog 26 #[.pointer (some ⟨b, 0, none⟩)] W (JGives s b d (n + 1) z W L m (P (i + 1) (n + 1) d sc))) := fun W h1 h2 => hPd (i + 1) (n + 1) d b W L m z sc (by omega) (by omega) (by omega) hd hl hz (by omega) h1 h2
      have HC7 : Hid (∀ c' a', CR n 0 0 i c' a' → c' = 0 ∧ a' = 0) := fun c' a' h => by simp only [CR, hf, false_and, if_false] at h; exact h
      generalize P (i + 1) (n + 1) d sc = R at *
      clear hS hQ hPd hWd hW hz h33
      go_enter Try.func26, Try.ntmps26
      go_wp2_with fail
      refine HK.out.mono ?_
      rintro e w1 ⟨rfl, rfl⟩
      go_wp2_with fail
      refine HN.out.mono ?_
      rintro e w2 ⟨rfl, hg2⟩
      have R2 : Hid (JRd w2 b s i n d z L 0 0) := H.out.kept hg2
      have G2 : Hid (w1.grownBy w2 (some b)) := grown_some hg2
      have d1 := R2.out.c1
      have e1 := R2.out.f 1
      clear hg2
      go_wp2_with fail
      refine (HC.out _ R2.out).mono ?_
      rintro e w3 ⟨rfl, hg3, q1, q2, hr3, hq3⟩
      obtain ⟨e7, e8⟩ := HC7.out _ _ hq3
      rw [e7, e8] at hr3
      have R3 : Hid (JRd w3 b s i (n + 1) d z L 0 0) := hr3
      have G3 : Hid (w1.grownBy w3 (some b)) := grown_trans G2.out hg3
      have R4 : Hid (JRd (w3.setCell ⟨b, 1, none⟩ (.int .i64 ((i : Int) + 1))) b s (i + 1) (n + 1) d z L 0 0) := R3.out.set1 (i + 1) (by omega)
      have G4 : Hid (w1.grownBy (w3.setCell ⟨b, 1, none⟩ (.int .i64 ((i : Int) + 1))) (some b)) := grown_trans G3.out (grown_set _ _ _)
      clear hg3 hr3 hq3 d1 e1 e7 e8
      have d1 := R3.out.c1
      have e1 := R3.out.f 1
      go_wp2_with fail
      refine (HT.out _ R4.out (nodJ_set HP.out G4.out)).mono ?_
      intro e w7 h7
      obtain ⟨k7, L7, m7, n7, i7, c7, a7, rfl, hf7, hp7, hn71, hn72, hm7, hr7, hE7, hM7⟩ := h7.out
      have R7 : Hid (JRd w7 b s i7 n7 d z L7 c7 a7) := hr7
      have P7 : Hid (NodJ w7 b L7 m7) := hp7
      have F7 : Hid (FrJ w1 w7 b L L7) := (FrJ.grown G4.out).trans hf7
      have E7 : Hid (EndD d n7 R i7 c7 a7) := hE7
      have M7 : Hid (MngD R m m7 k7) := hM7
      clear h7 hf7 hp7 hr7 hE7 hM7
      go_wp2_with fail
      refine (putJ_any s z b _ n7 d L7 _ _ _ m7 _ _ _ _ _ (by omega) R7.out P7.out).mono ?_
      rintro e w9 ⟨rfl, L9, hr9, hp9, hf9⟩
      have E : Hid (Q (.returned (.int .i64 (m7.length : Int))) w9) := EP.out _ _ _ _ _ _ _ _ (E7.out.map _) (F7.out.trans hf9) hp9 (by omega) (by omega) (by rw [List.length_append, List.length_singleton]; omega) hr9 (M7.out.map fun f j hj hM => by subst hj; exact ⟨j, get_last _ _, hM⟩)
      clear hr9 hp9 hf9
      go_wp2_with fail
      exact E.out
  · have k33 : ((byT s i : Int) == 33) = false := by simp; omega
    by_cases h40 : byT s i = 40
    · have hil := byT_pos h40 (by omega)
      have hS := part_br s P W i n d sc h40
      rw [h40] at HN k33
      by_cases hd40 : d = 40
      · subst hd40
        rw [if_pos rfl] at hS
        rw [hS] at EP
        have HF : Hid (∀ W, JRd W b s i n 40 z L 0 0 → Calls Try.prog 12 #[.pointer (some ⟨b, 0, none⟩), .int .i64 7, .int .i64 (i : Int)] W fun e w' => e = .returned (.tuple #[]) ∧ W.grownBy w' (some b) ∧ JRd w' b s i n 40 z L 7 i) := fun W h => failJ_any s z b i n 40 L 0 0 7 i W h
        clear hS hQ hPd hWd hW hz h40 h33 k33
        go_enter Try.func26, Try.ntmps26
        go_wp2_with fail
        refine HK.out.mono ?_
        rintro e w1 ⟨rfl, rfl⟩
        go_wp2_with fail
        refine HN.out.mono ?_
        rintro e w2 ⟨rfl, hg2⟩
        have R2 : Hid (JRd w2 b s i n 40 z L 0 0) := H.out.kept hg2
        have G2 : Hid (w1.grownBy w2 (some b)) := grown_some hg2
        have d1 := R2.out.c1
        have e1 := R2.out.f 1
        have d3 := R2.out.c3
        have e3 := R2.out.f 3
        clear hg2
        go_wp2_with fail
        refine (HF.out _ R2.out).mono ?_
        rintro e w3 ⟨rfl, hg3, hr3⟩
        have E : Hid (Q (.returned (.int .i64 0)) w3) := EP.out _ _ _ _ _ _ _ _ ⟨by omega, rfl, rfl⟩ (FrJ.grown (grown_trans G2.out hg3)) (nodJ_set HP.out (grown_trans G2.out hg3)) (Nat.le_refl _) (by omega) (by omega) hr3 (by have := MngD.bad 7 i m [] 0; rwa [List.append_nil] at this)
        clear hg3 hr3
        go_wp2_with fail
        exact E.out
      · have hd' : ((d : Int) == 40) = false := by simp; omega
        rw [if_neg hd40] at hS
        rw [hS] at EP
        have HT : Hid (∀ W1, JRd W1 b s (i + 1) n (d + 1) z L 0 0 → NodJ W1 b L m → Calls Try.prog 11 #[.pointer (some ⟨b, 0, none⟩)] W1 (JGives s b (d + 1) n z W1 L m (W (i + 1) n (d + 1) sc))) := fun W1 h1 h2 => hWd (i + 1) n (d + 1) b W1 L m z sc (by omega) (by omega) hn (by omega) hl hz hm h1 h2
        have hfw := hW (i + 1) n (d + 1) sc (by omega) hn
        have HB : Hid (∀ n1 i' c' a' c2 a2, EndD (d + 1) n1 (W (i + 1) n (d + 1) sc) i' c' a' → BR (byT s i') c' a' i' c2 a2 → EndD d n1 (brK s (W (i + 1) n (d + 1) sc)) (i' + 1) c2 a2) := fun n1 i' c' a' c2 a2 h1 h2 => endB hs hd (fun f j n' e => by rw [e] at hfw; exact hfw.2.1) (fun c j e => by rw [e] at hfw; have := hfw.1; omega) h1 h2
        have HI : Hid (∀ n1 i' c' a', EndD (d + 1) n1 (W (i + 1) n (d + 1) sc) i' c' a' → i' ≤ 5000) := fun n1 i' c' a' h1 => by
          cases hR : W (i + 1) n (d + 1) sc with
          | good f j n' => rw [hR] at h1 hfw; have := h1.2.1; have := hfw.2.1; omega
          | bad c j => rw [hR] at h1; have := h1.1; omega
        generalize W (i + 1) n (d + 1) sc = R at *
        clear hS hQ hPd hWd hW hz h40 h33 k33 hfw
        go_enter Try.func26, Try.ntmps26
        go_wp2_with fail
        refine HK.out.mono ?_
        rintro e w1 ⟨rfl, rfl⟩
        go_wp2_with fail
        refine HN.out.mono ?_
        rintro e w2 ⟨rfl, hg2⟩
        have R2 : Hid (JRd w2 b s i n d z L 0 0) := H.out.kept hg2
        have G2 : Hid (w1.grownBy w2 (some b)) := grown_some hg2
        have R3 : Hid (JRd (w2.setCell ⟨b, 3, none⟩ (.int .i64 ((d : Int) + 1))) b s i n (d + 1) z L 0 0) := R2.out.set3 (d + 1) (by omega)
        have R4 : Hid (JRd ((w2.setCell ⟨b, 3, none⟩ (.int .i64 ((d : Int) + 1))).setCell ⟨b, 1, none⟩ (.int .i64 ((i : Int) + 1))) b s (i + 1) n (d + 1) z L 0 0) := R3.out.set1 (i + 1) (by omega)
        have G4 : Hid (w1.grownBy ((w2.setCell ⟨b, 3, none⟩ (.int .i64 ((d : Int) + 1))).setCell ⟨b, 1, none⟩ (.int .i64 ((i : Int) + 1))) (some b)) := grown_trans G2.out (grown_trans (grown_set _ _ _) (grown_set _ _ _))
        have d3 := R2.out.c3
        have e3 := R2.out.f 3
        have d1 := R3.out.c1
        have e1 := R3.out.f 1
        clear hg2
        go_wp2_with fail
        refine (HT.out _ R4.out (nodJ_set HP.out G4.out)).mono ?_
        intro e w7 h7
        obtain ⟨k7, L7, m7, n7, i7, c7, a7, rfl, hf7, hp7, hn71, hn72, hm7, hr7, hE7, hM7⟩ := h7.out
        have R7 : Hid (JRd w7 b s i7 n7 (d + 1) z L7 c7 a7) := hr7
        have P7 : Hid (NodJ w7 b L7 m7) := hp7
        have F7 : Hid (FrJ w1 w7 b L L7) := (FrJ.grown G4.out).trans hf7
        have E7 : Hid (EndD (d + 1) n7 R i7 c7 a7) := hE7
        have hi7 : i7 ≤ 5000 := HI.out _ _ _ _ hE7
        have M7 : Hid (MngD (brK s R) m m7 k7) := hM7.br
        clear h7 hf7 hp7 hr7 hE7 hM7 d3 e3 d1 e1 HT HI
        go_wp2_with fail
        refine (nowJ_any s z b i7 n7 (d + 1) L7 c7 a7 _ hs hi7 R7.out).mono ?_
        rintro e w8 ⟨rfl, hg8⟩
        have R8 : Hid (JRd w8 b s i7 n7 (d + 1) z L7 c7 a7) := R7.out.kept hg8
        have P8 : Hid (NodJ w8 b L7 m7) := nodJ_kept P7.out hg8
        have F8 : Hid (FrJ w1 w8 b L L7) := F7.out.trans (FrJ.grown (grown_some hg8))
        have EB : Hid (∀ c2 a2, BR (byT s i7) c7 a7 i7 c2 a2 → EndD d n7 (brK s R) (i7 + 1) c2 a2) := fun c2 a2 h => HB.out _ _ _ _ _ _ E7.out h
        clear hg8 R7 P7 F7 E7 HB
        generalize byT s i7 = y at *
        by_cases hy : y = 41
        · have HBR : Hid (BR y c7 a7 i7 c7 a7) := by show BR _ _ _ _ _ _; unfold BR; rw [if_pos hy]; exact ⟨rfl, rfl⟩
          subst hy
          have R9 : Hid (JRd (w8.setCell ⟨b, 1, none⟩ (.int .i64 ((i7 : Int) + 1))) b s (i7 + 1) n7 (d + 1) z L7 c7 a7) := R8.out.set1 (i7 + 1) (by omega)
          have d1 := R8.out.c1
          have e1 := R8.out.f 1
          have d3 := R9.out.c3
          have e3 := R9.out.f 3
          have E : Hid (Q (.returned (.int .i64 k7)) ((w8.setCell ⟨b, 1, none⟩ (.int .i64 ((i7 : Int) + 1))).setCell ⟨b, 3, none⟩ (.int .i64 (((d + 1 : Nat) : Int) - 1)))) := EP.out _ _ _ _ _ _ _ _ (EB.out _ _ HBR.out) (F8.out.trans (FrJ.grown (grown_trans (grown_set _ _ _) (grown_set _ _ _)))) (nodJ_set P8.out (grown_trans (grown_set _ _ _) (grown_set _ _ _))) (by omega) (by omega) (by omega) (R9.out.set3 d (by omega)) M7.out
          rw [show ((d + 1 : Nat) : Int) - 1 = (d : Int) by omega] at E
          go_wp2_with fail
          exact E.out
        · have y1 : ((y : Int) != 41) = true := by simp; omega
          have HY : Hid (∀ c' a', SR c7 a7 4 i7 c' a' → BR y c7 a7 i7 c' a') := fun c' a' h1 => by unfold BR; rw [if_neg hy]; exact h1
          clear hy
          have d1 := R8.out.c1
          have e1 := R8.out.f 1
          go_wp2_with fail
          refine (failJ_st s z b i7 n7 (d + 1) L7 c7 a7 4 i7 _ R8.out).mono ?_
          rintro e w9 ⟨rfl, hg9, q5, q6, hr9, hq9⟩
          have RA : Hid (JRd w9 b s i7 n7 (d + 1) z L7 q5 q6) := hr9
          have PA : Hid (NodJ w9 b L7 m7) := nodJ_set P8.out hg9
          have FA : Hid (FrJ w1 w9 b L L7) := F8.out.trans (FrJ.grown hg9)
          have EA : Hid (EndD d n7 (brK s R) (i7 + 1) q5 q6) := EB.out _ _ (HY.out _ _ hq9)
          clear hg9 hr9 hq9 d1 e1 R8 P8 F8
          have R9 : Hid (JRd (w9.setCell ⟨b, 1, none⟩ (.int .i64 ((i7 : Int) + 1))) b s (i7 + 1) n7 (d + 1) z L7 q5 q6) := RA.out.set1 (i7 + 1) (by omega)
          have d1 := RA.out.c1
          have e1 := RA.out.f 1
          have d3 := R9.out.c3
          have e3 := R9.out.f 3
          have E : Hid (Q (.returned (.int .i64 k7)) ((w9.setCell ⟨b, 1, none⟩ (.int .i64 ((i7 : Int) + 1))).setCell ⟨b, 3, none⟩ (.int .i64 (((d + 1 : Nat) : Int) - 1)))) := EP.out _ _ _ _ _ _ _ _ EA.out (FA.out.trans (FrJ.grown (grown_trans (grown_set _ _ _) (grown_set _ _ _)))) (nodJ_set PA.out (grown_trans (grown_set _ _ _) (grown_set _ _ _))) (by omega) (by omega) (by omega) (R9.out.set3 d (by omega)) M7.out
          rw [show ((d + 1 : Nat) : Int) - 1 = (d : Int) by omega] at E
          go_wp2_with fail
          exact E.out
    · have k40 : ((byT s i : Int) == 40) = false := by simp; omega
      by_cases hq : byT s i = 69 ∨ byT s i = 65
      · have hS := part_qu s P W i n d sc hq
        have HT : Hid (∀ W1, JRd W1 b s i n d z L 0 0 → NodJ W1 b L m → Calls Try.prog 29 #[.pointer (some ⟨b, 0, none⟩), .int .u8 (byT s i)] W1 (JGives s b d n z W1 L m (quK s P i n d sc))) := fun W1 h1 h2 => quantJ_any s z sc P k b i n d m L W1 hs hi hk hn hd hl hz hm hq hPd h1 h2
        rw [hS] at EP
        generalize quK s P i n d sc = R at *
        clear hS hQ hPd hWd hW hz h33 h40
        generalize byT s i = x at *
        rcases hq with rfl | rfl
        all_goals
          go_enter Try.func26, Try.ntmps26
          go_wp2_with fail
          refine HK.out.mono ?_
          rintro e w1 ⟨rfl, rfl⟩
          go_wp2_with fail
          refine HN.out.mono ?_
          rintro e w2 ⟨rfl, hg2⟩
          have R2 : Hid (JRd w2 b s i n d z L 0 0) := H.out.kept hg2
          have G2 : Hid (w1.grownBy w2 (some b)) := grown_some hg2
          clear hg2
          go_wp2_with fail
          refine (HT.out _ R2.out (nodJ_set HP.out G2.out)).mono ?_
          intro e w7 h7
          obtain ⟨k7, L7, m7, n7, i7, c7, a7, rfl, hf7, hp7, hn71, hn72, hm7, hr7, hE7, hM7⟩ := h7.out
          have E : Hid (Q (.returned (.int .i64 k7)) w7) := EP.out _ _ _ _ _ _ _ _ hE7 ((FrJ.grown G2.out).trans hf7) hp7 hn71 hn72 hm7 hr7 hM7
          clear h7 hf7 hp7 hr7 hE7 hM7
          go_wp2_with fail
          exact E.out
      · have hS := part_at s P W i n d sc h33 h40 hq
        have k69 : ((byT s i : Int) == 69) = false := by simp; omega
        have k65 : ((byT s i : Int) == 65) = false := by simp; omega
        have HT : Hid (∀ W1, JRd W1 b s i n d z L 0 0 → NodJ W1 b L m → Calls Try.prog 30 #[.pointer (some ⟨b, 0, none⟩), .int .u8 (byT s i)] W1 (JGives s b d n z W1 L m (atomK s i n d sc))) := fun W1 h1 h2 => atomJ_any s z sc b i n d m L W1 hs hi hn hd hl hz hm h1 h2
        rw [hS] at EP
        generalize atomK s i n d sc = R at *
        clear hS hQ hPd hWd hW hz h33 h40 hq
        generalize byT s i = x at *
        go_enter Try.func26, Try.ntmps26
        go_wp2_with fail
        refine HK.out.mono ?_
        rintro e w1 ⟨rfl, rfl⟩
        go_wp2_with fail
        refine HN.out.mono ?_
        rintro e w2 ⟨rfl, hg2⟩
        have R2 : Hid (JRd w2 b s i n d z L 0 0) := H.out.kept hg2
        have G2 : Hid (w1.grownBy w2 (some b)) := grown_some hg2
        clear hg2
        go_wp2_with fail
        refine (HT.out _ R2.out (nodJ_set HP.out G2.out)).mono ?_
        intro e w7 h7
        obtain ⟨k7, L7, m7, n7, i7, c7, a7, rfl, hf7, hp7, hn71, hn72, hm7, hr7, hE7, hM7⟩ := h7.out
        have E : Hid (Q (.returned (.int .i64 k7)) w7) := EP.out _ _ _ _ _ _ _ _ hE7 ((FrJ.grown G2.out).trans hf7) hp7 hn71 hn72 hm7 hr7 hM7
        clear h7 hf7 hp7 hr7 hE7 hM7
        go_wp2_with fail
        exact E.out

end Go.Proofs.Ytaommgnlnfhbfaa
