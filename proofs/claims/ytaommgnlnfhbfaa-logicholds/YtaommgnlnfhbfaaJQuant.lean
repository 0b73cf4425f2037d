/- A quantifier, as the reference reads it. -/
import Derived.Test.YtaommgnlnfhbfaaJAtom
import Derived.Laws.BytesArg
namespace Go.Proofs.Ytaommgnlnfhbfaa
open Go.RowKit
set_option linter.unusedVariables false
set_option linter.unusedSimpArgs false

/-- Where the reader is in the end, within d brackets. -/
def EndD (d n1 : Nat) (R : LRes) (i' : Nat) (c' : Int) (a' : Nat) : Prop := match R with
  | .good f i n2 => n1 = n2 ∧ i' = i ∧ c' = 0 ∧ a' = 0
  | .bad c j => i' + d ≤ 5000 ∧ c' = c ∧ a' = j
theorem EndD.gives {s : ByteArray} {b d n : Nat} {z : ByteArray} {w w' : World} {L L' : Value} {m m' : List NdJ} {n' i' : Nat} {R : LRes} {c' : Int} {a' : Nat} (k : Int) (h : EndD d n' R i' c' a') (hf : FrJ w w' b L L') (hp : NodJ w' b L' m') (hn : n ≤ n') (hn2 : n' ≤ 31) (hm : m'.length + n ≤ m.length + n') (hr : JRd w' b s i' n' d z L' c' a') (hg : MngD R m m' k) : JGives s b d n z w L m R (.returned (.int .i64 k)) w' := by
  refine ⟨L', m', n', k, rfl, hf, hp, hn, hn2, hm, ?_, hg⟩
  cases R with
  | good f i n2 => obtain ⟨rfl, rfl, rfl, rfl⟩ := h; exact ⟨rfl, hr⟩
  | bad c j => obtain ⟨h1, rfl, rfl⟩ := h; exact ⟨i', h1, hr⟩
theorem JGives.out {s : ByteArray} {b d n : Nat} {z : ByteArray} {w w' : World} {L : Value} {m : List NdJ} {R : LRes} {e : Ending} (h : JGives s b d n z w L m R e w') : ∃ (k : Int) (L' : Value) (m' : List NdJ) (n' i' : Nat) (c' : Int) (a' : Nat), e = .returned (.int .i64 k) ∧ FrJ w w' b L L' ∧ NodJ w' b L' m' ∧ n ≤ n' ∧ n' ≤ 31 ∧ m'.length + n ≤ m.length + n' ∧ JRd w' b s i' n' d z L' c' a' ∧ EndD d n' R i' c' a' ∧ MngD R m m' k := by
  obtain ⟨L', m', n', k, h1, h2, h3, h4, h5, h6, h7, hg⟩ := h
  cases R with
  | good f i n2 => obtain ⟨rfl, h8⟩ := h7; exact ⟨k, L', m', n', i, 0, 0, h1, h2, h3, h4, h5, h6, h8, ⟨rfl, rfl, rfl, rfl⟩, hg⟩
  | bad c j => obtain ⟨i', h8, h9⟩ := h7; exact ⟨k, L', m', n', i', c, j, h1, h2, h3, h4, h5, h6, h9, ⟨h8, rfl, rfl⟩, hg⟩
/-- A formula made of what was read. -/
def mapK (g : Lf → Lf) (R : LRes) : LRes := match R with
  | .bad c j => .bad c j
  | .good f j n' => .good (g f) j n'
theorem EndD.map {d n1 i' a' : Nat} {R : LRes} {c' : Int} (g : Lf → Lf) (h : EndD d n1 R i' c' a') : EndD d n1 (mapK g R) i' c' a' := by
  cases R <;> exact h
theorem EndD.off {d n1 i' a' : Nat} {R : LRes} {c' : Int} (h : EndD d n1 R i' c' a') (hc : c' ≠ 0) : ∀ f i n, R ≠ .good f i n := by
  intro f i n e
  rw [e] at h
  exact hc h.2.2.1
theorem MngD.map {R : LRes} {m m' : List NdJ} {k : Int} {g : Lf → Lf} {x : NdJ} (h : MngD R m m' k) (hx : ∀ f (j : Nat), k = (j : Int) → MeansJ (m' ++ [x]) f j → MeansJ (m' ++ [x]) (g f) m'.length) : MngD (mapK g R) m (m' ++ [x]) (m'.length : Int) := by
  obtain ⟨⟨r, hr⟩, h2⟩ := h
  refine ⟨⟨r ++ [x], by rw [hr, List.append_assoc]⟩, fun f i n e => ?_⟩
  cases R with
  | bad c j => cases e
  | good f0 i0 n0 =>
    cases e
    obtain ⟨j, hj, hl, hM⟩ := h2 _ _ _ rfl
    exact ⟨m'.length, rfl, by simp, hx _ j hj (hM.ext _)⟩
theorem MngD.qu {R : LRes} {m m' : List NdJ} {k K : Int} {x : Nat} {se : Bool} (h : MngD R m m' k) (hK : K = if x = 69 then 8 else 9) : MngD (mapK (qF x se) R) m (m' ++ [⟨K, 0, k, 0, se⟩]) (m'.length : Int) := h.map fun f j hj hM => by
  subst hj
  unfold qF
  by_cases e : x = 69
  · rw [if_pos e] at hK ⊢; subst hK; exact ⟨j, get_last _ _, hM⟩
  · rw [if_neg e] at hK ⊢; subst hK; exact ⟨j, get_last _ _, hM⟩
/-- What a quantifier comes to. -/
def quK (s : ByteArray) (P : PL) : PL := fun i n d sc => if sc.length = 3 ∨ 30 < n + 1 then .bad 7 i else if isPl (byT s (i + 1)) = true ∨ isSe (byT s (i + 1)) = true then mapK (qF (byT s i) (isSe (byT s (i + 1)))) (P (i + 2) (n + 1) d (sc ++ [byT s (i + 1)])) else .bad 4 (i + 1)
theorem scB_snoc {z : ByteArray} {sc : List Nat} {x : Nat} (h : ScB z sc) (hx : x < 256) : ScB (z ++ ByteArray.mk #[UInt8.ofNat x]) (sc ++ [x]) := by
  obtain ⟨h1, h2⟩ := h
  have e : (z ++ ByteArray.mk #[UInt8.ofNat x]).size = z.size + 1 := by rw [ByteArray.size_append]; rfl
  refine ⟨by rw [e, List.length_append, h1]; rfl, fun k hk => ?_⟩
  rw [List.length_append, List.length_singleton] at hk
  by_cases hk2 : k < sc.length
  · have h3 : k < z.size := by omega
    have h4 : k < (z ++ ByteArray.mk #[UInt8.ofNat x]).size := by omega
    have h5 := h2 k hk2
    simp only [byT, h3, h4, dif_pos] at h5 ⊢
    rw [ByteArray.getElem_append_left h3, h5]
    simp [List.getD, List.getElem?_append_left hk2]
  · have hk3 : k = sc.length := by omega
    subst hk3
    have h4 : sc.length < (z ++ ByteArray.mk #[UInt8.ofNat x]).size := by omega
    simp only [byT, h4, dif_pos]
    rw [ByteArray.getElem_append_right (by omega)]
    simp [List.getD, h1]
    show (UInt8.ofNat x).toNat = x
    simp
    omega

set_option maxHeartbeats 1600000 in
theorem quantJ_go (s z : ByteArray) (sc : List Nat) (P : PL) (k b i n d : Nat) (m : List NdJ) (L : Value) (w : World) (hs : s.size ≤ 4000) (hi : i ≤ s.size) (hk : s.size - i < k + 1) (hn : n ≤ 30) (hd : d ≤ 40) (hl : sc.length ≤ 3) (hz : ScB z sc) (hm : m.length ≤ n) (hx : byT s i = 69 ∨ byT s i = 65) (hl3 : ¬ sc.length = 3) (hn3 : ¬ 30 < n + 1) (hv : isPl (byT s (i + 1)) = true ∨ isSe (byT s (i + 1)) = true) (hPd : JDoes 26 s P k) (h : JRd w b s i n d z L 0 0) (hp : NodJ w b L m) :
    Calls Try.prog 29 #[.pointer (some ⟨b, 0, none⟩), .int .u8 (byT s i)] w (JGives s b d n z w L m (quK s P i n d sc)) := by
  have hil : i + 1 < s.size := hv.elim (fun h => byT_pos rfl (isPl_pos h)) (fun h => byT_pos rfl (isSe_pos h))
  have H : Hid (JRd w b s i n d z L 0 0) := h
  have HP : Hid (NodJ w b L m) := hp
  have HC : Hid (∀ W, JRd W b s i n d z L 0 0 → Calls Try.prog 20 #[.pointer (some ⟨b, 0, none⟩), .int .i64 (i : Int)] W fun e w' => e = .returned (.tuple #[]) ∧ W.grownBy w' (some b) ∧ JRd w' b s i (n + 1) d z L 0 0) := fun W h => by
    have h1 := countJ_any s z b i n d L 0 0 i W (by omega) h
    simp only [hn3, false_and, if_false] at h1
    exact h1
  have HK : Hid (∀ W, JRd W b s i (n + 1) d z L 0 0 → Calls Try.prog 19 #[.pointer (some ⟨b, 0, none⟩)] W fun e w' => e = .returned (.bool true) ∧ w' = W) := fun W h => okJ_any s z b i (n + 1) d L 0 0 W h
  have HN : Hid (∀ W, JRd W b s (i + 1) (n + 1) d z L 0 0 → Calls Try.prog 18 #[.pointer (some ⟨b, 0, none⟩)] W fun e w' => e = .returned (.int .u8 (byT s (i + 1))) ∧ W.grownBy w' none) := fun W h2 => nowJ_any s z b (i + 1) (n + 1) d L 0 0 W hs (by omega) h2
  obtain ⟨v, hve⟩ : ∃ v, byT s (i + 1) = v := ⟨_, rfl⟩
  have hv256 : v < 256 := by rw [← hve]; exact byT_lt _ _
  rw [hve] at HN hv
  obtain ⟨z2, hz2⟩ : ∃ z2, z2 = z ++ ByteArray.mk #[UInt8.ofNat v] := ⟨_, rfl⟩
  have HZ2 : Hid (ScB z2 (sc ++ [v])) := by rw [hz2]; exact scB_snoc hz hv256
  have HQ : Hid (∀ W, JRd W b s (i + 2) (n + 1) d z2 L 0 0 → NodJ W b L m → Calls Try.prog 26 #[.pointer (some ⟨b, 0, none⟩)] W (JGives s b d (n + 1) z2 W L m (P (i + 2) (n + 1) d (sc ++ [v])))) := fun W h1 h2 => hPd (i + 2) (n + 1) d b W L m z2 (sc ++ [v]) (by omega) (by omega) (by omega) hd (by rw [List.length_append, List.length_singleton]; omega) HZ2.out (by omega) h1 h2
  have hR : quK s P i n d sc = mapK (qF (byT s i) (isSe v)) (P (i + 2) (n + 1) d (sc ++ [v])) := by unfold quK; rw [if_neg (by omega), hve, if_pos hv]
  obtain ⟨Q, hQ⟩ : ∃ Q, Q = JGives s b d n z w L m (quK s P i n d sc) := ⟨_, rfl⟩
  rw [← hQ]
  generalize P (i + 2) (n + 1) d (sc ++ [v]) = R at *
  have EP : Hid (∀ (k k7 K : Int) w' L' m' n' i' c' a', EndD d n' R i' c' a' → FrJ w w' b L L' → NodJ w' b L' (m' ++ [⟨K, 0, k7, 0, isSe v⟩]) → n ≤ n' → n' ≤ 31 → m'.length + 1 + n ≤ m.length + n' → JRd w' b s i' n' d z L' c' a' → MngD R m m' k7 → K = (if byT s i = 69 then 8 else 9) → k = m'.length → Q (.returned (.int .i64 k)) w') := fun k k7 K w' L' m' n' i' c' a' h1 h2 h3 h4 h5 h6 h7 h8 h9 h10 => by rw [hQ, hR, h10]; exact (h1.map _).gives _ h2 h3 h4 h5 (by rw [List.length_append, List.length_singleton]; omega) h7 (h8.qu h9)
  have f1 := h.f 1
  have c1 := h.c1
  have f4 := h.f 4
  have c4 := h.c4
  have hzs : z.size = sc.length := hz.1
  have l3 : ((z.size : Int) == 3) = false := by simp; omega
  have hzz : ¬ 9223372036854775807 < z.size + 1 := by omega
  have HZ : Hid (z2 = z ++ ByteArray.mk #[UInt8.ofNat v]) := hz2
  clear h hp hQ hR hPd hz2 hz HZ2 hve hzs hl3 hl
  have KC : Hid (∀ (W : World) (g : Nat), W.heap[g]? = some (.cells #[.int .u8 (v : Int)] 5 (0, 0)) → (convert 59 9 (.slice (some ⟨g, 0, none⟩) 1 1)).run Try.prog W = .ok (.string (ByteArray.mk #[UInt8.ofNat v])) W) := fun W g hb => by
    have h1 := run_convert_bytes_arg (P := Try.prog) W 59 5 Try.underlying59 Try.underlying5 g 0 1 1 [(v : Int)] rfl (fun j hj => by
      have hj0 : j = 0 := by omega
      subst hj0
      rw [cell_of_row W g 0 _ _ (0, 0) hb]; rfl) 9 Try.underlying9
    rw [h1]
    rfl
  generalize byT s i = x at *
  rcases hx with rfl | rfl
  all_goals
    go_enter Try.func29, Try.ntmps29
    go_wp2_with fail
    refine (HC.out _ H.out).mono ?_
    rintro e w2 ⟨rfl, hg2, hr2⟩
    have G2 : Hid (w.grownBy w2 (some b)) := hg2
    have R2 : Hid (JRd w2 b s i (n + 1) d z L 0 0) := hr2
    have d1 := R2.out.c1
    have e1 := R2.out.f 1
    have R3 : Hid (JRd (w2.setCell ⟨b, 1, none⟩ (.int .i64 ((i : Int) + 1))) b s (i + 1) (n + 1) d z L 0 0) := R2.out.set1 (i + 1) (by omega)
    clear hg2 hr2
    go_wp2_with fail
    refine (HK.out _ R2.out).mono ?_
    rintro e w3 ⟨rfl, rfl⟩
    go_wp2_with fail
    refine (HN.out _ R3.out).mono ?_
    rintro e w4 ⟨rfl, hg4⟩
    have G4 : Hid (w.grownBy w4 (some b)) := grown_trans (grown_trans G2.out (grown_set _ _ _)) (grown_some hg4)
    have R4 : Hid (JRd w4 b s (i + 1) (n + 1) d z L 0 0) := R3.out.kept hg4
    have R5 : Hid (JRd (w4.setCell ⟨b, 1, none⟩ (.int .i64 ((i : Int) + 1 + 1))) b s (i + 2) (n + 1) d z L 0 0) := R4.out.set1 (i + 2) (by omega)
    clear hg4 d1 e1
    have d1 := R4.out.c1
    have e1 := R4.out.f 1
    have d4 := R5.out.c4
    have e4 := R5.out.f 4
    cases hse : isSe v with
    | true =>
      rw [hse] at EP
      have hx2 := hse
      simp only [isSe, Bool.and_eq_true, decide_eq_true_eq] at hx2
      have k3 : (88 : Int) ≤ v := by omega
      have k4 : (v : Int) ≤ 90 := by omega
      clear hx2 hv hse
      have kc : (convert 59 9 (.slice (some ⟨w4.heap.size, 0, none⟩) 1 1)).run Try.prog ((w4.setCell ⟨b, 1, none⟩ (.int .i64 ((i : Int) + 1 + 1))).alloc (.cells #[.int .u8 (v : Int)] 5)).drew = .ok (.string (ByteArray.mk #[UInt8.ofNat v])) ((w4.setCell ⟨b, 1, none⟩ (.int .i64 ((i : Int) + 1 + 1))).alloc (.cells #[.int .u8 (v : Int)] 5)).drew := KC.out _ _ (by
        have h1 := heap_alloc_new (w4.setCell ⟨b, 1, none⟩ (.int .i64 ((i : Int) + 1 + 1))) (.cells #[.int .u8 (v : Int)] 5)
        rw [World.size_setCell] at h1
        exact h1)
      have al4 : ∀ o, ((w4.setCell ⟨b, 1, none⟩ (.int .i64 ((i : Int) + 1 + 1))).alloc o).cell? ⟨b, 4, none⟩ = some (.string z) := fun o => (R5.out.kept (grown_alloc _ o)).c4
      have al5 : ∀ o, ((w4.setCell ⟨b, 1, none⟩ (.int .i64 ((i : Int) + 1 + 1))).alloc o).frozen? ⟨b, 4, none⟩ = false := fun o => (R5.out.kept (grown_alloc _ o)).f 4
      obtain ⟨W6, hW6⟩ : ∃ W6, W6 = (((w4.setCell ⟨b, 1, none⟩ (.int .i64 ((i : Int) + 1 + 1))).alloc (.cells #[.int .u8 (v : Int)] 5)).setCell ⟨b, 4, none⟩ (.string (z ++ ByteArray.mk #[UInt8.ofNat v]))).drew := ⟨_, rfl⟩
      have R6 : Hid (JRd W6 b s (i + 2) (n + 1) d z2 L 0 0) := by rw [hW6, HZ.out]; exact ((R5.out.kept (grown_alloc _ _)).set4 _).kept (grown_drew (grown_refl _ _))
      have G6 : Hid (w.grownBy W6 (some b)) := by rw [hW6]; exact grown_trans (grown_trans (grown_trans G4.out (grown_set _ _ _)) (grown_some (grown_alloc _ _))) (grown_trans (grown_set _ _ _) (grown_some (grown_drew (grown_refl _ _))))
      have HW6 : Hid (W6 = (((w4.setCell ⟨b, 1, none⟩ (.int .i64 ((i : Int) + 1 + 1))).alloc (.cells #[.int .u8 (v : Int)] 5)).setCell ⟨b, 4, none⟩ (.string (z ++ ByteArray.mk #[UInt8.ofNat v]))).drew) := hW6
      clear hW6
      go_wp2_with fail
      go_region
      all_goals
        rw [← HW6.out]
        go_wp2_with fail
        refine (HQ.out _ R6.out (nodJ_set HP.out G6.out)).mono ?_
        intro e w7 h7
        obtain ⟨k7, L7, m7, n7, i7, c7, a7, rfl, hf7, hp7, hn71, hn72, hm7, hr7, hE7, hM7⟩ := h7.out
        have M7 : Hid (MngD R m m7 k7) := hM7
        clear hM7
        have d4' := hr7.c4
        have e4' := hr7.f 4
        have R8 : Hid (JRd (w7.setCell ⟨b, 4, none⟩ (.string z)) b s i7 n7 d z L7 c7 a7) := hr7.set4 z
        have P8 : Hid (NodJ (w7.setCell ⟨b, 4, none⟩ (.string z)) b L7 m7) := nodJ_set hp7 (grown_set _ _ _)
        have F8 : Hid (FrJ w (w7.setCell ⟨b, 4, none⟩ (.string z)) b L L7) := ((FrJ.grown G6.out).trans hf7).trans (FrJ.grown (grown_set _ _ _))
        have E8 : Hid (EndD d n7 R i7 c7 a7) := hE7
        clear h7 hf7 hp7 hr7 hE7
        go_wp2_with fail
        refine (putJ_any s z b _ n7 d L7 _ _ _ m7 _ _ _ _ _ (by omega) R8.out P8.out).mono ?_
        rintro e w9 ⟨rfl, L9, hr9, hp9, hf9⟩
        have E : Hid (Q (.returned (.int .i64 (m7.length : Int))) w9) := EP.out _ k7 _ _ _ m7 _ _ _ _ E8.out (F8.out.trans hf9) hp9 (by omega) (by omega) (by omega) hr9 M7.out (by decide) rfl
        clear hr9 hp9 hf9
        go_wp2_with fail
        exact E.out

    | false =>
      rw [hse] at EP
      have hx2 : isPl v = true := by rcases hv with h | h; exact h; rw [hse] at h; cases h
      simp only [isPl, Bool.and_eq_true, decide_eq_true_eq] at hx2
      have k3 : (88 : Int) ≤ v := by omega
      have k4 : ¬ (v : Int) ≤ 90 := by omega
      have k4' : decide ((v : Int) ≤ 90) = false := by simp; omega
      have k5 : ¬ (v : Int) < 120 := by omega
      have k6 : ¬ (122 : Int) < v := by omega
      clear hx2 hv hse
      have kc : (convert 59 9 (.slice (some ⟨w4.heap.size, 0, none⟩) 1 1)).run Try.prog ((w4.setCell ⟨b, 1, none⟩ (.int .i64 ((i : Int) + 1 + 1))).alloc (.cells #[.int .u8 (v : Int)] 5)).drew = .ok (.string (ByteArray.mk #[UInt8.ofNat v])) ((w4.setCell ⟨b, 1, none⟩ (.int .i64 ((i : Int) + 1 + 1))).alloc (.cells #[.int .u8 (v : Int)] 5)).drew := KC.out _ _ (by
        have h1 := heap_alloc_new (w4.setCell ⟨b, 1, none⟩ (.int .i64 ((i : Int) + 1 + 1))) (.cells #[.int .u8 (v : Int)] 5)
        rw [World.size_setCell] at h1
        exact h1)
      have al4 : ∀ o, ((w4.setCell ⟨b, 1, none⟩ (.int .i64 ((i : Int) + 1 + 1))).alloc o).cell? ⟨b, 4, none⟩ = some (.string z) := fun o => (R5.out.kept (grown_alloc _ o)).c4
      have al5 : ∀ o, ((w4.setCell ⟨b, 1, none⟩ (.int .i64 ((i : Int) + 1 + 1))).alloc o).frozen? ⟨b, 4, none⟩ = false := fun o => (R5.out.kept (grown_alloc _ o)).f 4
      obtain ⟨W6, hW6⟩ : ∃ W6, W6 = (((w4.setCell ⟨b, 1, none⟩ (.int .i64 ((i : Int) + 1 + 1))).alloc (.cells #[.int .u8 (v : Int)] 5)).setCell ⟨b, 4, none⟩ (.string (z ++ ByteArray.mk #[UInt8.ofNat v]))).drew := ⟨_, rfl⟩
      have R6 : Hid (JRd W6 b s (i + 2) (n + 1) d z2 L 0 0) := by rw [hW6, HZ.out]; exact ((R5.out.kept (grown_alloc _ _)).set4 _).kept (grown_drew (grown_refl _ _))
      have G6 : Hid (w.grownBy W6 (some b)) := by rw [hW6]; exact grown_trans (grown_trans (grown_trans G4.out (grown_set _ _ _)) (grown_some (grown_alloc _ _))) (grown_trans (grown_set _ _ _) (grown_some (grown_drew (grown_refl _ _))))
      have HW6 : Hid (W6 = (((w4.setCell ⟨b, 1, none⟩ (.int .i64 ((i : Int) + 1 + 1))).alloc (.cells #[.int .u8 (v : Int)] 5)).setCell ⟨b, 4, none⟩ (.string (z ++ ByteArray.mk #[UInt8.ofNat v]))).drew) := hW6
      clear hW6
      go_wp2_with fail
      go_region
      all_goals
        rw [← HW6.out]
        go_wp2_with fail
        refine (HQ.out _ R6.out (nodJ_set HP.out G6.out)).mono ?_
        intro e w7 h7
        obtain ⟨k7, L7, m7, n7, i7, c7, a7, rfl, hf7, hp7, hn71, hn72, hm7, hr7, hE7, hM7⟩ := h7.out
        have M7 : Hid (MngD R m m7 k7) := hM7
        clear hM7
        have d4' := hr7.c4
        have e4' := hr7.f 4
        have R8 : Hid (JRd (w7.setCell ⟨b, 4, none⟩ (.string z)) b s i7 n7 d z L7 c7 a7) := hr7.set4 z
        have P8 : Hid (NodJ (w7.setCell ⟨b, 4, none⟩ (.string z)) b L7 m7) := nodJ_set hp7 (grown_set _ _ _)
        have F8 : Hid (FrJ w (w7.setCell ⟨b, 4, none⟩ (.string z)) b L L7) := ((FrJ.grown G6.out).trans hf7).trans (FrJ.grown (grown_set _ _ _))
        have E8 : Hid (EndD d n7 R i7 c7 a7) := hE7
        clear h7 hf7 hp7 hr7 hE7
        go_wp2_with fail
        refine (putJ_any s z b _ n7 d L7 _ _ _ m7 _ _ _ _ _ (by omega) R8.out P8.out).mono ?_
        rintro e w9 ⟨rfl, L9, hr9, hp9, hf9⟩
        have E : Hid (Q (.returned (.int .i64 (m7.length : Int))) w9) := EP.out _ k7 _ _ _ m7 _ _ _ _ E8.out (F8.out.trans hf9) hp9 (by omega) (by omega) (by omega) hr9 M7.out (by decide) rfl
        clear hr9 hp9 hf9
        go_wp2_with fail
        exact E.out

/-- A quantifier that is refused. -/
theorem quantJ_bad (s z : ByteArray) (sc : List Nat) (P : PL) (b i n d : Nat) (m : List NdJ) (L : Value) (w : World) (hs : s.size ≤ 4000) (hi : i < s.size) (hn : n ≤ 30) (hd : d ≤ 40) (hl : sc.length ≤ 3) (hz : ScB z sc) (hx : byT s i = 69 ∨ byT s i = 65) (hb : sc.length = 3 ∨ 30 < n + 1 ∨ ¬ (isPl (byT s (i + 1)) = true ∨ isSe (byT s (i + 1)) = true)) (h : JRd w b s i n d z L 0 0) (hp : NodJ w b L m) :
    Calls Try.prog 29 #[.pointer (some ⟨b, 0, none⟩), .int .u8 (byT s i)] w (JGives s b d n z w L m (quK s P i n d sc)) := by
  have H : Hid (JRd w b s i n d z L 0 0) := h
  have HP : Hid (NodJ w b L m) := hp
  have HCt : Hid (∀ W, JRd W b s i n d z L 0 0 → Calls Try.prog 20 #[.pointer (some ⟨b, 0, none⟩), .int .i64 (i : Int)] W fun e w' => e = .returned (.tuple #[]) ∧ W.grownBy w' (some b) ∧ ∃ (c' : Int) (a' : Nat), JRd w' b s i (n + 1) d z L c' a' ∧ CR n 0 0 i c' a') := fun W h => countJ_st s z b i n d L 0 0 i W (by omega) h
  have HK : Hid (∀ W c a, JRd W b s i (n + 1) d z L c a → Calls Try.prog 19 #[.pointer (some ⟨b, 0, none⟩)] W fun e w' => e = .returned (.bool (c == 0)) ∧ w' = W) := fun W c a h => okJ_any s z b i (n + 1) d L c a W h
  have HN : Hid (∀ W, JRd W b s (i + 1) (n + 1) d z L 0 0 → Calls Try.prog 18 #[.pointer (some ⟨b, 0, none⟩)] W fun e w' => e = .returned (.int .u8 (byT s (i + 1))) ∧ W.grownBy w' none) := fun W h2 => nowJ_any s z b (i + 1) (n + 1) d L 0 0 W hs (by omega) h2
  have HF : Hid (∀ W i' n' (c : Int), JRd W b s i' n' d z L 0 0 → Calls Try.prog 12 #[.pointer (some ⟨b, 0, none⟩), .int .i64 c, .int .i64 (i' : Int)] W fun e w' => e = .returned (.tuple #[]) ∧ W.grownBy w' (some b) ∧ JRd w' b s i' n' d z L c i') := fun W i' n' c h => failJ_any s z b i' n' d L 0 0 c i' W h
  obtain ⟨Q, hQ⟩ : ∃ Q, Q = JGives s b d n z w L m (quK s P i n d sc) := ⟨_, rfl⟩
  rw [← hQ]
  have EP : Hid (∀ w' n' i' c' a', EndD d n' (quK s P i n d sc) i' c' a' → w.grownBy w' (some b) → n ≤ n' → n' ≤ 31 → JRd w' b s i' n' d z L c' a' → c' ≠ 0 → Q (.returned (.int .i64 0)) w') := fun w' n' i' c' a' h1 h2 h4 h5 h7 h8 => by rw [hQ]; exact h1.gives 0 (FrJ.grown h2) (nodJ_set HP.out h2) h4 h5 (by omega) h7 (by have := MngD.off (m := m) [] 0 (h1.off h8); rwa [List.append_nil] at this)
  have f1 := h.f 1
  have c1 := h.c1
  have f4 := h.f 4
  have c4 := h.c4
  have hzs : z.size = sc.length := hz.1
  clear h hp hQ
  by_cases hl3 : sc.length = 3
  · have l3 : ((z.size : Int) == 3) = true := by simp; omega
    have HE : Hid (EndD d n (quK s P i n d sc) i 7 i) := by show EndD _ _ _ _ _ _; unfold quK; rw [if_pos (.inl hl3)]; exact ⟨by omega, rfl, rfl⟩
    generalize quK s P i n d sc = R at *
    clear hb hl3 hzs hz
    generalize byT s i = x at *
    rcases hx with rfl | rfl
    all_goals
      go_enter Try.func29, Try.ntmps29
      go_wp2_with fail
      refine (HF.out _ _ _ _ H.out).mono ?_
      rintro e w2 ⟨rfl, hg2, hr2⟩
      have E : Hid (Q (.returned (.int .i64 0)) w2) := EP.out _ _ _ _ _ HE.out hg2 (Nat.le_refl _) (by omega) hr2 (by omega)
      clear hg2 hr2
      go_wp2_with fail
      exact E.out
  · have l3 : ((z.size : Int) == 3) = false := by simp; omega
    by_cases hn3 : 30 < n + 1
    · have HE : Hid (EndD d (n + 1) (quK s P i n d sc) i 7 i) := by show EndD _ _ _ _ _ _; unfold quK; rw [if_pos (.inr hn3)]; exact ⟨by omega, rfl, rfl⟩
      have HC : Hid (∀ c' a', CR n 0 0 i c' a' → c' = 7 ∧ a' = i) := fun c' a' h => by simp only [CR, hn3, true_and, if_true] at h; exact h
      generalize quK s P i n d sc = R at *
      clear hb hl3 hzs hz hn3
      generalize byT s i = x at *
      rcases hx with rfl | rfl
      all_goals
        go_enter Try.func29, Try.ntmps29
        go_wp2_with fail
        refine (HCt.out _ H.out).mono ?_
        rintro e w2 ⟨rfl, hg2, q1, q2, hr2, hq2⟩
        obtain ⟨rfl, rfl⟩ := HC.out _ _ hq2
        have R2 : Hid (JRd w2 b s q2 (n + 1) d z L 7 q2) := hr2
        have HK2 : Hid (Calls Try.prog 19 #[.pointer (some ⟨b, 0, none⟩)] w2 fun e w' => e = .returned (.bool false) ∧ w' = w2) := HK.out _ _ _ R2.out
        have E : Hid (Q (.returned (.int .i64 0)) w2) := EP.out _ _ _ _ _ HE.out hg2 (by omega) (by omega) hr2 (by omega)
        clear hg2 hr2 hq2
        go_wp2_with fail
        refine HK2.out.mono ?_
        rintro e w3 ⟨rfl, rfl⟩
        go_wp2_with fail
        exact E.out
    · have hv : ¬ (isPl (byT s (i + 1)) = true ∨ isSe (byT s (i + 1)) = true) := by rcases hb with h | h | h; exact absurd h hl3; exact absurd h hn3; exact h
      have HE : Hid (EndD d (n + 1) (quK s P i n d sc) (i + 1) 4 (i + 1)) := by show EndD _ _ _ _ _ _; unfold quK; rw [if_neg (by omega), if_neg hv]; exact ⟨by omega, rfl, rfl⟩
      have HC : Hid (∀ c' a', CR n 0 0 i c' a' → c' = 0 ∧ a' = 0) := fun c' a' h => by simp only [CR, hn3, false_and, if_false] at h; exact h
      generalize quK s P i n d sc = R at *
      have hv1 : byT s (i + 1) < 88 ∨ 90 < byT s (i + 1) := by
        by_cases h1 : byT s (i + 1) < 88
        · exact .inl h1
        · by_cases h2 : 90 < byT s (i + 1)
          · exact .inr h2
          · exact absurd (.inr (by simp [isSe]; omega)) hv
      have hv2 : byT s (i + 1) < 120 ∨ 122 < byT s (i + 1) := by
        by_cases h1 : byT s (i + 1) < 120
        · exact .inl h1
        · by_cases h2 : 122 < byT s (i + 1)
          · exact .inr h2
          · exact absurd (.inl (by simp [isPl]; omega)) hv
      clear hb hl3 hzs hz hn3 hv
      generalize byT s (i + 1) = v at *
      generalize byT s i = x at *
      rcases hx with rfl | rfl
      all_goals
        go_enter Try.func29, Try.ntmps29
        go_wp2_with fail
        refine (HCt.out _ H.out).mono ?_
        rintro e w2 ⟨rfl, hg2, q1, q2, hr2, hq2⟩
        obtain ⟨rfl, rfl⟩ := HC.out _ _ hq2
        have R2 : Hid (JRd w2 b s i (n + 1) d z L 0 0) := hr2
        have G2 : Hid (w.grownBy w2 (some b)) := hg2
        have HK2 : Hid (Calls Try.prog 19 #[.pointer (some ⟨b, 0, none⟩)] w2 fun e w' => e = .returned (.bool true) ∧ w' = w2) := HK.out _ _ _ R2.out
        have d1 := R2.out.c1
        have e1 := R2.out.f 1
        have R3 : Hid (JRd (w2.setCell ⟨b, 1, none⟩ (.int .i64 ((i : Int) + 1))) b s (i + 1) (n + 1) d z L 0 0) := R2.out.set1 (i + 1) (by omega)
        clear hg2 hr2 hq2
        go_wp2_with fail
        refine HK2.out.mono ?_
        rintro e w3 ⟨rfl, rfl⟩
        go_wp2_with fail
        refine (HN.out _ R3.out).mono ?_
        rintro e w4 ⟨rfl, hg4⟩
        have G4 : Hid (w.grownBy w4 (some b)) := grown_trans (grown_trans G2.out (grown_set _ _ _)) (grown_some hg4)
        have R4 : Hid (JRd w4 b s (i + 1) (n + 1) d z L 0 0) := R3.out.kept hg4
        clear hg4 d1 e1
        have d1 := R4.out.c1
        have e1 := R4.out.f 1
        have HF4 : Hid (∀ (j : Int), j = ((i + 1 : Nat) : Int) → Calls Try.prog 12 #[.pointer (some ⟨b, 0, none⟩), .int .i64 4, .int .i64 j] w4 fun e w' => e = .returned (.tuple #[]) ∧ w4.grownBy w' (some b) ∧ JRd w' b s (i + 1) (n + 1) d z L 4 (i + 1)) := fun j hj => by rw [hj]; exact HF.out _ _ _ _ R4.out
        by_cases y1 : v < 88
        · have k3 : decide ((88 : Int) ≤ v) = false := by simp; omega
          have k4 : decide ((v : Int) < 120) = true := by simp; omega
          clear hv1 hv2
          go_wp2_with fail
          refine (HF4.out _ (by omega)).mono ?_
          rintro e w5 ⟨rfl, hg5, hr5⟩
          have E : Hid (Q (.returned (.int .i64 0)) w5) := EP.out _ _ _ _ _ HE.out (grown_trans G4.out hg5) (by omega) (by omega) hr5 (by omega)
          clear hg5 hr5
          go_wp2_with fail
          exact E.out
        · have k3 : decide ((88 : Int) ≤ v) = true := by simp; omega
          have k3' : decide ((v : Int) ≤ 90) = false := by simp; omega
          by_cases y2 : v < 120
          · have k4 : decide ((v : Int) < 120) = true := by simp; omega
            clear hv1 hv2
            go_wp2_with fail
            refine (HF4.out _ (by omega)).mono ?_
            rintro e w5 ⟨rfl, hg5, hr5⟩
            have E : Hid (Q (.returned (.int .i64 0)) w5) := EP.out _ _ _ _ _ HE.out (grown_trans G4.out hg5) (by omega) (by omega) hr5 (by omega)
            clear hg5 hr5
            go_wp2_with fail
            exact E.out
          · have k4 : decide ((v : Int) < 120) = false := by simp; omega
            have k5 : decide ((122 : Int) < v) = true := by simp; omega
            clear hv1 hv2
            go_wp2_with fail
            refine (HF4.out _ (by omega)).mono ?_
            rintro e w5 ⟨rfl, hg5, hr5⟩
            have E : Hid (Q (.returned (.int .i64 0)) w5) := EP.out _ _ _ _ _ HE.out (grown_trans G4.out hg5) (by omega) (by omega) hr5 (by omega)
            clear hg5 hr5
            go_wp2_with fail
            exact E.out

theorem quantJ_any (s z : ByteArray) (sc : List Nat) (P : PL) (k b i n d : Nat) (m : List NdJ) (L : Value) (w : World) (hs : s.size ≤ 4000) (hi : i ≤ s.size) (hk : s.size - i < k + 1) (hn : n ≤ 30) (hd : d ≤ 40) (hl : sc.length ≤ 3) (hz : ScB z sc) (hm : m.length ≤ n) (hx : byT s i = 69 ∨ byT s i = 65) (hPd : JDoes 26 s P k) (h : JRd w b s i n d z L 0 0) (hp : NodJ w b L m) :
    Calls Try.prog 29 #[.pointer (some ⟨b, 0, none⟩), .int .u8 (byT s i)] w (JGives s b d n z w L m (quK s P i n d sc)) := by
  have hil : i < s.size := by rcases hx with h | h <;> exact byT_pos h (by omega)
  by_cases h1 : sc.length = 3
  · exact quantJ_bad s z sc P b i n d m L w hs hil hn hd hl hz hx (.inl h1) h hp
  · by_cases h2 : 30 < n + 1
    · exact quantJ_bad s z sc P b i n d m L w hs hil hn hd hl hz hx (.inr (.inl h2)) h hp
    · by_cases h3 : isPl (byT s (i + 1)) = true ∨ isSe (byT s (i + 1)) = true
      · exact quantJ_go s z sc P k b i n d m L w hs hi hk hn hd hl hz hm hx h1 h2 h3 hPd h hp
      · exact quantJ_bad s z sc P b i n d m L w hs hil hn hd hl hz hx (.inr (.inr h3)) h hp

end Go.Proofs.Ytaommgnlnfhbfaa
