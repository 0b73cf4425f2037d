/- Sets of states: the program's alone, has, unmarked, and the step of others. -/
import Derived.Test.YtofjmakmbmndoaaTrSub
import Derived.Test.YtofjmakmbmndoaaTrPlace
import Derived.Test.YtofjmakmbmndoaaTrCmp
namespace Go.Proofs.Ytofjmakmbmndoaa
open Go.RowKit
set_option linter.unusedVariables false

theorem wraps_T (n : Int) (h0 : 0 ≤ n) (h1 : n < 2 ^ 62) : IntKind.i64.wrap n = n := by rw [IntKind.wrap_i64]; omega
theorem orT {s t : Nat} (hs : s < 4096) (ht : t < 4096) : bits .or .i64 (s : Int) (t : Int) = ((s ||| t : Nat) : Int) := (bits_nat .i64 62 (by decide) wraps_T s t (by omega) (by omega)).2
theorem andT {s t : Nat} (hs : s < 4096) (ht : t < 4096) : bits .and .i64 (s : Int) (t : Int) = ((s &&& t : Nat) : Int) := (bits_nat .i64 62 (by decide) wraps_T s t (by omega) (by omega)).1
theorem pow_ltT {x : Nat} (hx : x < 12) : 2 ^ x < 4096 := by
  have : 2 ^ x < 2 ^ 12 := Nat.pow_lt_pow_right (by decide) hx
  simpa using this
theorem pow_wrapT {x : Nat} (hx : x < 12) : IntKind.i64.wrap ((2 : Int) ^ x) = ((2 ^ x : Nat) : Int) := by
  have h1 := pow_ltT hx
  have h2 : ((2 : Int) ^ x) = ((2 ^ x : Nat) : Int) := by simp
  rw [h2, IntKind.wrap_i64]
  generalize 2 ^ x = y at *
  omega
theorem alone_any (q : Int) (p y : Nat) (hp : q + 1 = p) (hs : p < 12) (hy : 2 ^ p = y) (w : World) : Calls Try.prog 34 #[.int .i64 q] w fun e w' => e = .returned (.int .i64 (y : Int)) ∧ w' = w := by
  have HP : Hid (∀ W, Calls Try.prog 28 #[.int .i64 q] W fun e w' => e = .returned (.int .i64 (p : Int)) ∧ w' = W) := place_any q p hp (by omega)
  have hw := pow_wrapT hs
  rw [hy] at hw
  have hp0 : ¬ ((p : Int) < 0) := by omega
  clear hp hy
  go_enter Try.func34, Try.ntmps34
  go_wp2_with fail
  refine (HP.out _).mono ?_
  rintro E w2 ⟨rfl, hw2⟩
  have hw2' := hw2.symm
  subst hw2'
  go_wp2_with fail
  go_ret
  exact ⟨rfl, rfl⟩
theorem has_any (s : Nat) (q : Int) (p : Nat) (hp : q + 1 = p) (hs : p < 12) (hs2 : s < 4096) (w : World) : Calls Try.prog 33 #[.int .i64 (s : Int), .int .i64 q] w fun e w' => e = .returned (.bool (s.testBit p)) ∧ w' = w := by
  obtain ⟨y, hy⟩ : ∃ y, 2 ^ p = y := ⟨_, rfl⟩
  have HA : Hid (∀ W, Calls Try.prog 34 #[.int .i64 q] W fun e w' => e = .returned (.int .i64 (y : Int)) ∧ w' = W) := alone_any q p y hp hs hy
  have hlt := pow_ltT hs
  rw [hy] at hlt
  have ha := andT hs2 hlt
  obtain ⟨z, hz⟩ : ∃ z, s &&& y = z := ⟨_, rfl⟩
  rw [hz] at ha
  have hb : ((z : Int) != 0) = s.testBit p := by
    rw [← hz, ← hy]
    cases ht : s.testBit p with
    | false =>
      have : s &&& 2 ^ p = 0 := Nat.eq_of_testBit_eq fun i => by
        rw [Nat.testBit_and, Nat.testBit_two_pow, Nat.zero_testBit]
        by_cases e : p = i
        · subst e; rw [ht]; rfl
        · simp [e]
      rw [this]; rfl
    | true =>
      have : s &&& 2 ^ p ≠ 0 := fun e => by
        have h1 : (s &&& 2 ^ p).testBit p = true := by rw [Nat.testBit_and, Nat.testBit_two_pow, ht]; simp
        rw [e, Nat.zero_testBit] at h1
        cases h1
      have h2 : ((s &&& 2 ^ p : Nat) : Int) ≠ 0 := by omega
      simpa using h2
  obtain ⟨t, ht⟩ : ∃ t, s.testBit p = t := ⟨_, rfl⟩
  rw [ht] at hb ⊢
  clear hp hy hlt hz ht
  go_enter Try.func33, Try.ntmps33
  go_wp2_with fail
  refine (HA.out _).mono ?_
  rintro E w2 ⟨rfl, hw2⟩
  have hw2' := hw2.symm
  subst hw2'
  go_wp2_with fail
  go_ret
  exact ⟨rfl, rfl⟩

set_option maxHeartbeats 1600000 in
set_option maxRecDepth 100000 in
theorem next_any (R : List RuleI) (L : Int) (N nR d b0 s t : Nat) (l : Int) (b : Option Addr) (w : World) (hR : InRu R L N) (hN : N ≤ 6) (hnR : R.length = nR) (h4 : nR ≤ 1000000) (h : RulesAt w b R) (hb : w.cell? ⟨b0, 2, none⟩ = some (.slice b nR d)) (hs : s < 4096) (ht : t < 4096) :
    Calls Try.prog 32 #[.int .i64 l, .int .i64 (s : Int), .int .i64 (t : Int), .pointer (some ⟨b0, 0, none⟩)] w (Says (.int .i64 ((nxA R l s t : Nat) : Int)) w) := by
  have HR : Hid (∀ W, w.grownBy W none → RulesAt W b R) := fun W hW => h.grown hW
  have HRu : Hid (InRu R L N) := hR
  have HnR : Hid (R.length = nR) := hnR
  have HHs : Hid (∀ (q : Int) (p : Nat), q + 1 = p → p < 12 → ∀ W, Calls Try.prog 33 #[.int .i64 (s : Int), .int .i64 q] W fun e w' => e = .returned (.bool (s.testBit p)) ∧ w' = W) := fun q p h1 h2 W => has_any s q p h1 h2 hs W
  have HHt : Hid (∀ (q : Int) (p : Nat), q + 1 = p → p < 12 → ∀ W, Calls Try.prog 33 #[.int .i64 (t : Int), .int .i64 q] W fun e w' => e = .returned (.bool (t.testBit p)) ∧ w' = W) := fun q p h1 h2 W => has_any t q p h1 h2 ht W
  have HAl : Hid (∀ (q : Int) (p : Nat), q + 1 = p → p < 12 → ∀ W, Calls Try.prog 34 #[.int .i64 q] W fun e w' => e = .returned (.int .i64 ((2 ^ p : Nat) : Int)) ∧ w' = W) := fun q p h1 h2 W => alone_any q p _ h1 h2 rfl W
  have HB : Hid (∀ k, k ≤ nR → nxS R l s t k < 4096) := fun k hk => by
    have h1 := nxS_lt hR (l := l) (s := s) (t := t) (k := k) (by omega)
    have h2 : 2 ^ (N + 1) ≤ 2 ^ 12 := Nat.pow_le_pow_right (by decide) (by omega)
    exact Nat.lt_of_lt_of_le h1 (by simpa using h2)
  obtain ⟨z, hz⟩ : ∃ z, nxA R l s t = z := ⟨_, rfl⟩
  have HZ : Hid (nxS R l s t nR = z) := by show _ = _; rw [← hz, ← hnR]; rfl
  rw [hz]
  clear h hR hz hnR
  go_enter Try.func32, Try.ntmps32
  go_wp2_with fail
  clear hb
  go_loopw [8, 14] (fun v8 v14 wr => ∃ (k x : Nat), v8 = .int .i64 (x : Int) ∧ v14 = .int .i64 (k : Int) ∧ k ≤ nR ∧ nxS R l s t k = x ∧ w.grownBy wr none) (fun _ v14 _ => nR - (intOf v14).toNat)
  case atStart => exact ⟨0, 0, rfl, rfl, by omega, rfl, grown_refl _ _⟩
  case round =>
    obtain ⟨k, x, rfl, rfl, hk, hx, hg⟩ := hrel
    have HX : Hid (nxS R l s t k = x) := hx
    have G : Hid (w.grownBy wr none) := hg
    clear hx hg
    by_cases hkn : k < nR
    · have qk : (k : Int) < (nR : Int) := by omega
      obtain ⟨bb, off, rfl, hc⟩ := (HR.out wr G.out).at (k := k) (by rw [HnR.out]; exact hkn)
      obtain ⟨y0, y1, y2, y3⟩ := hc k (by rw [HnR.out]; exact hkn)
      have hin : RuIn L N (R.getD k ru0) := HRu.out k (by rw [HnR.out]; exact hkn)
      have HNx : Hid (nxS R l s t (k + 1) = if hitS l s t (R.getD k ru0) = true then x ||| 2 ^ plc (R.getD k ru0).2.2.2 else x) := by show _ = _; rw [nxS, HX.out]
      have hx4 : x < 4096 := by rw [← HX.out]; exact HB.out k (by omega)
      unfold RuIn at hin
      clear hc
      generalize R.getD k ru0 = r at *
      obtain ⟨r0, r1, r2, r3⟩ := r
      simp only at y0 y1 y2 y3 hin HNx
      obtain ⟨p, hp⟩ : ∃ p, plc r1 = p := ⟨_, rfl⟩
      obtain ⟨q, hq⟩ : ∃ q, plc r2 = q := ⟨_, rfl⟩
      obtain ⟨u, hu⟩ : ∃ u, plc r3 = u := ⟨_, rfl⟩
      have hu12 : u < 12 := by unfold plc at hu; omega
      have HPp : Hid (∀ W, Calls Try.prog 33 #[.int .i64 (s : Int), .int .i64 r1] W fun e w' => e = .returned (.bool (s.testBit p)) ∧ w' = W) := HHs.out r1 p (by unfold plc at hp; omega) (by unfold plc at hp; omega)
      have HPq : Hid (∀ W, Calls Try.prog 33 #[.int .i64 (t : Int), .int .i64 r2] W fun e w' => e = .returned (.bool (t.testBit q)) ∧ w' = W) := HHt.out r2 q (by unfold plc at hq; omega) (by unfold plc at hq; omega)
      obtain ⟨y, hy⟩ : ∃ y, 2 ^ u = y := ⟨_, rfl⟩
      have HPu : Hid (∀ W, Calls Try.prog 34 #[.int .i64 r3] W fun e w' => e = .returned (.int .i64 (y : Int)) ∧ w' = W) := hy ▸ HAl.out r3 u (by unfold plc at hu; omega) hu12
      have hy4 : y < 4096 := by rw [← hy]; exact pow_ltT hu12
      have ho := orT hx4 hy4
      have HNy : Hid (nxS R l s t (k + 1) = if ((r0 == l) && (s.testBit p && t.testBit q)) = true then x ||| y else x) := by
        show _ = _
        rw [HNx.out]
        unfold hitS
        simp only [hp, hq, hu, hy]
      generalize s.testBit p = bp at *
      generalize t.testBit q = bq at *
      generalize x ||| y = xy at *
      have GA : Hid (∀ o, w.grownBy (wr.alloc o) none) := fun o => grown_trans G.out (grown_alloc _ o)
      clear hin hp hq hu hy HNx hx4 hy4 hu12 HHs HHt HAl
      obtain ⟨lb, hlb⟩ : ∃ b, (r0 == l) = b := ⟨_, rfl⟩
      rw [hlb] at HNy
      cases lb
      · have HN : Hid (nxS R l s t (k + 1) = x) := HNy.out
        go_wp2_with fail
        go_roundw
        case rel => exact ⟨k + 1, x, rfl, by go_num, by omega, HN.out, GA.out _⟩
        case measure => simp [intOf]; omega
      · go_wp2_with fail
        refine (HPp.out _).mono ?_
        rintro E w2 ⟨rfl, rfl⟩
        cases bp
        · have HN : Hid (nxS R l s t (k + 1) = x) := HNy.out
          go_wp2_with fail
          go_roundw
          case rel => exact ⟨k + 1, x, rfl, by go_num, by omega, HN.out, GA.out _⟩
          case measure => simp [intOf]; omega
        · go_wp2_with fail
          refine (HPq.out _).mono ?_
          rintro E w2 ⟨rfl, rfl⟩
          cases bq
          · have HN : Hid (nxS R l s t (k + 1) = x) := HNy.out
            go_wp2_with fail
            go_roundw
            case rel => exact ⟨k + 1, x, rfl, by go_num, by omega, HN.out, GA.out _⟩
            case measure => simp [intOf]; omega
          · have HN : Hid (nxS R l s t (k + 1) = xy) := HNy.out
            go_wp2_with fail
            refine (HPu.out _).mono ?_
            rintro E w2 ⟨rfl, rfl⟩
            go_wp2_with fail
            go_roundw
            case rel => exact ⟨k + 1, xy, rfl, by go_num, by omega, HN.out, GA.out _⟩
            case measure => simp [intOf]; omega
    · have qk : ¬ (k : Int) < (nR : Int) := by omega
      obtain rfl : k = nR := by omega
      have Hz : Hid (z = x) := by show _ = _; rw [← HZ.out, HX.out]
      go_wp2_with fail
      go_ret
      exact ⟨ret_int (by rw [Hz.out]), G.out⟩

set_option maxHeartbeats 1600000 in
set_option maxRecDepth 100000 in
theorem unmarked_any (L N S0 : Int) (b e : Option Addr) (nR d f s : Nat) (M : List Int) (w : World) (h : Ints w e M) (hm : M.length ≤ 6) (hs : s < 4096) :
    Calls Try.prog 36 #[trsV L N b nR d S0 e M.length f, .int .i64 (s : Int)] w (Says (.int .i64 (unmS M s)) w) := by
  have HM : Hid (∀ W, w.grownBy W none → Ints W e M) := fun W hW => h.grown hW
  have HHs : Hid (∀ (q : Int) (p : Nat), q + 1 = p → p < 12 → ∀ W, Calls Try.prog 33 #[.int .i64 (s : Int), .int .i64 q] W fun e w' => e = .returned (.bool (s.testBit p)) ∧ w' = W) := fun q p h1 h2 W => has_any s q p h1 h2 hs W
  obtain ⟨z, hz⟩ : ∃ z, unmS M s = z := ⟨_, rfl⟩
  have HZ : Hid (unmS M s = z) := hz
  rw [hz]
  obtain ⟨n, hn⟩ : ∃ n, M.length = n := ⟨_, rfl⟩
  have Hn : Hid (M.length = n) := hn
  rw [hn] at hm ⊢
  obtain ⟨W1, hW1, g1, s1, bx1⟩ := box5_new w (.int .i64 L) (.int .i64 N) (.slice b nR d) (.int .i64 S0) (.slice e n f) 25
  have HW1 : Hid (W1 = _) := hW1
  have G1 : Hid (w.grownBy W1 none) := g1
  clear h hz hn hW1 g1 s1 bx1
  go_enter Try.func36, Try.ntmps36
  go_wp2_with fail
  rw [← HW1.out]
  go_loop [10] (fun v => ∃ k : Nat, k ≤ n ∧ v = .int .i64 k ∧ mkS M s k = false) (fun v => n - (intOf v).toNat)
  case atStart => exact ⟨0, by omega, rfl, rfl⟩
  case round =>
    obtain ⟨k, hk, rfl, hmk⟩ := hrel
    have MK : Hid (mkS M s k = false) := hmk
    clear hmk
    by_cases hkn : k < n
    · have qk : (k : Int) < (n : Int) := by omega
      obtain ⟨be, oe, rfl, hc⟩ := (HM.out W1 G1.out).at (k := k) (by rw [Hn.out]; exact hkn)
      have y4 := hc k (by rw [Hn.out]; exact hkn)
      have HSu : Hid (mkS M s (k + 1) = (M.getD k 0 == 1 && s.testBit (k + 1))) := by show _ = _; rw [mkS, MK.out]; simp
      have HHi : Hid (mkS M s (k + 1) = true → z = 0) := fun hh => by
        rw [← HZ.out]
        unfold unmS
        rw [if_pos]
        have mono : ∀ j, k + 1 ≤ j → mkS M s j = true := fun j hj => by
          induction j with
          | zero => omega
          | succ j ih =>
            by_cases e1 : k + 1 = j + 1
            · rw [← e1]; exact hh
            · rw [mkS, ih (by omega)]; rfl
        exact mono _ (by rw [Hn.out]; omega)
      have HPk : Hid (∀ W, Calls Try.prog 33 #[.int .i64 (s : Int), .int .i64 (k : Int)] W fun e w' => e = .returned (.bool (s.testBit (k + 1))) ∧ w' = W) := HHs.out k (k + 1) (by omega) (by omega)
      rw [HSu.out] at HHi
      generalize M.getD k 0 = mv at *
      generalize s.testBit (k + 1) = sb at *
      clear hc HHs
      obtain ⟨mb, hmb⟩ : ∃ m, (mv == 1) = m := ⟨_, rfl⟩
      rw [hmb] at HSu HHi
      cases mb
      · have HN : Hid (mkS M s (k + 1) = false) := HSu.out
        clear HSu HHi
        go_wp2_with fail
        go_round
        case rel => exact ⟨k + 1, by omega, by go_num, HN.out⟩
        case measure => simp [intOf]; omega
      · go_wp2_with fail
        refine (HPk.out _).mono ?_
        rintro E w2 ⟨rfl, hw2⟩
        have hw2' := hw2.symm
        subst hw2'
        cases sb
        · have HN : Hid (mkS M s (k + 1) = false) := HSu.out
          clear HSu HHi
          go_wp2_with fail
          go_round
          case rel => exact ⟨k + 1, by omega, by go_num, HN.out⟩
          case measure => simp [intOf]; omega
        · have Hz : Hid (z = 0) := HHi.out rfl
          clear HSu HHi
          go_wp2_with fail
          go_ret
          exact ⟨ret_int Hz.out.symm, G1.out⟩
    · have qk : ¬ (k : Int) < (n : Int) := by omega
      obtain rfl : k = n := by omega
      have Hz : Hid (z = 1) := by
        show _ = _
        rw [← HZ.out]
        unfold unmS
        rw [Hn.out, MK.out]
        rfl
      go_wp2_with fail
      go_ret
      exact ⟨ret_int Hz.out.symm, G1.out⟩

end Go.Proofs.Ytofjmakmbmndoaa
