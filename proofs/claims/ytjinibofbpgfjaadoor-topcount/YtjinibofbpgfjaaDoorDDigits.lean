/- A tally in digits; and the program's Count. -/
import Derived.Test.YtjinibofbpgfjaaDoorDFmt
import Derived.Test.YtjinibofbpgfjaaDoorDDig
namespace Go.Proofs.YtjinibofbpgfjaaDoor
open Go.RowKit Go.Lib
set_option linter.unusedVariables false

theorem repeat48 (c : Nat) : Lib.repeatL [48] c = List.replicate c 48 := by
  induction c with
  | zero => rfl
  | succ c ih => simp only [Lib.repeatL, ih]; rfl

set_option maxHeartbeats 1600000 in
set_option maxRecDepth 100000 in
theorem digitsT_any (v : Nat) (hv : v < 10000000000000000000000000000000000000) (w : World) (hT : Pow10 w) :
    Calls Tryd.prog 24 #[.agg #[.int .u64 ((v / 1000000000000000000 : Nat) : Int), .int .u64 ((v % 1000000000000000000 : Nat) : Int)]] w fun e w' => e = .returned (.string ⟨(Lib.decDigits v).toArray⟩) ∧ w.grownBy w' none := by
  have HG : Hid (∀ o, w.grownBy (w.alloc o) none) := fun o => grown_alloc w o
  have HL : Hid (∀ W, w.grownBy W none → Calls Tryd.prog 39 #[.int .u64 ((v % 1000000000000000000 : Nat) : Int), .int .i64 10] W fun e w' => e = .returned (.string ⟨(Lib.decDigits (v % 1000000000000000000)).toArray⟩) ∧ W.grownBy w' none) := fun W hW => formatUint_any _ (by omega) W (hT.grown hW)
  have HH : Hid (∀ W, w.grownBy W none → Calls Tryd.prog 39 #[.int .u64 ((v / 1000000000000000000 : Nat) : Int), .int .i64 10] W fun e w' => e = .returned (.string ⟨(Lib.decDigits (v / 1000000000000000000)).toArray⟩) ∧ W.grownBy w' none) := fun W hW => formatUint_any _ (by omega) W (hT.grown hW)
  by_cases h0 : v < 1000000000000000000
  · have e0 : v / 1000000000000000000 = 0 := by omega
    have e1 : v % 1000000000000000000 = v := by omega
    rw [e0]
    rw [e1] at HL ⊢
    clear HH e0 e1 hT
    generalize Lib.decDigits v = dd at *
    go_enter Tryd.func24, Tryd.ntmps24
    go_wp2_with fail
    refine (HL.out _ (HG.out _)).mono ?_
    rintro e w2 ⟨rfl, hg2⟩
    obtain ⟨b0, b1, _⟩ := box2 hg2
    have G2 : Hid (w.grownBy w2 none) := grown_trans (HG.out _) hg2
    clear hg2
    go_wp2_with fail
    go_ret
    exact ⟨rfl, G2.out⟩
  · have hdec := dec_halves (v := v) (by omega)
    have hlen : (Lib.decDigits (v % 1000000000000000000)).length ≤ 18 := dec_low_len
    have e0 : v / 1000000000000000000 ≠ 0 := by omega
    have e0' : (((v / 1000000000000000000 : Nat) : Int) == 0) = false := by simp; omega
    have HR : Hid (∀ W, Calls Tryd.prog 31 #[.string ⟨#[48]⟩, .int .i64 (18 - ((Lib.decDigits (v % 1000000000000000000)).length : Int))] W fun e w' => e = .returned (.string ⟨(List.replicate (18 - (Lib.decDigits (v % 1000000000000000000)).length) 48).toArray⟩) ∧ W.grownBy w' none) := fun W => by
      have := repeat_any (18 - (Lib.decDigits (v % 1000000000000000000)).length) (by omega) W
      rw [repeat48, Int.ofNat_sub hlen] at this
      exact this
    have hdec' : Lib.decDigits v = Lib.decDigits (v / 1000000000000000000) ++ (List.replicate (18 - (Lib.decDigits (v % 1000000000000000000)).length) 48 ++ Lib.decDigits (v % 1000000000000000000)) := hdec
    have hhl : (Lib.decDigits (v / 1000000000000000000)).length ≤ 20 := by
      rw [decDigits_length]
      have := Lib.numDigits_eq (v / 1000000000000000000) (by omega) (by omega)
      split at this <;> omega
    rw [hdec']
    clear hdec hdec' hT
    generalize Lib.decDigits (v / 1000000000000000000) = hi at *
    generalize Lib.decDigits (v % 1000000000000000000) = lo at *
    generalize hmid : List.replicate (18 - lo.length) (48 : UInt8) = mid at *
    have hsz : (ByteArray.mk lo.toArray).size = lo.length := by simp [ByteArray.size]
    have hll : lo.length ≤ 9223372036854775807 := by omega
    have hml : mid.length ≤ 18 := by rw [← hmid]; simp
    clear hmid
    go_enter Tryd.func24, Tryd.ntmps24
    go_wp2_with fail
    refine (HL.out _ (HG.out _)).mono ?_
    rintro e w2 ⟨rfl, hg2⟩
    obtain ⟨b0, b1, _⟩ := box2 hg2
    have G2 : Hid (w.grownBy w2 none) := grown_trans (HG.out _) hg2
    clear hg2
    go_wp2_with fail
    refine (HH.out _ G2.out).mono ?_
    rintro e w3 ⟨rfl, hg3⟩
    have G3 : Hid (w.grownBy w3 none) := grown_trans G2.out hg3
    clear hg3 b0 b1
    go_wp2_with fail
    refine (HR.out _).mono ?_
    rintro e w4 ⟨rfl, hg4⟩
    have G4 : Hid (w.grownBy w4 none) := grown_trans G3.out hg4
    clear hg4
    go_wp2_with fail
    go_ret
    refine ⟨?_, G4.out⟩
    show Ending.returned (.string (ByteArray.mk hi.toArray ++ ByteArray.mk mid.toArray ++ ByteArray.mk lo.toArray)) = _
    congr 2
    apply ByteArray.ext
    simp [ByteArray.data_append]

theorem cnt_lt {d : Dfa} (hG : Good d) {N : Nat} (hN : N ≤ 60) (s : Nat) : d.cnt N s < 10000000000000000000000000000000000000 :=
  Nat.lt_of_le_of_lt (d.cnt_le (by have := hG.l4; omega) N s) (pow4_lt (Nat.le_refl 4) hN)

set_option maxHeartbeats 1600000 in
set_option maxRecDepth 100000 in
theorem count_bad (L S N : Int) (R : List (List Int)) (M : List Int) (a a' : Option Addr) (c c' : Nat) (w : World) (h : DetAt w ⟨L, S, R, M⟩ a a') (hc : checkF ⟨L, S, R, M⟩ ≠ 0) :
    Calls Tryd.prog 11 #[.agg #[.int .i64 L, .int .i64 S, .slice a R.length c, .slice a' M.length c'], .int .i64 N] w fun e w' => e = .returned (.tuple #[.string ⟨#[]⟩, .int .i64 (checkF ⟨L, S, R, M⟩)]) ∧ w.grownBy w' none := by
  have HG : Hid (∀ o, w.grownBy (w.alloc o) none) := fun o => grown_alloc w o
  have HC : Hid (∀ W, w.grownBy W none → Calls Tryd.prog 22 #[.agg #[.int .i64 L, .int .i64 S, .slice a R.length c, .slice a' M.length c']] W fun e w' => e = .returned (.int .i64 (checkF ⟨L, S, R, M⟩)) ∧ W.grownBy w' none) := fun W hW => check_any L S R M a a' c c' W (h.grown hW)
  generalize checkF ⟨L, S, R, M⟩ = y at *
  have hy' : (y != 0) = true := by simpa using hc
  have hy'' : (y == 0) = false := by simpa using hc
  clear h
  go_enter Tryd.func11, Tryd.ntmps11
  go_wp2_with fail
  refine (HC.out _ (HG.out _)).mono ?_
  rintro e w2 ⟨rfl, hg2⟩
  have G2 : Hid (w.grownBy w2 none) := grown_trans (HG.out _) hg2
  clear hg2
  go_wp2_with fail
  first | (go_ret2; exact ⟨rfl, G2.out⟩) | exact bodyPost_ret (v := .tuple #[.string ⟨#[]⟩, .int .i64 y]) (by simp [results, Tryd.results11, go_sem]) rfl ⟨rfl, G2.out⟩

set_option maxHeartbeats 1600000 in
set_option maxRecDepth 100000 in
theorem count_range (L S N : Int) (R : List (List Int)) (M : List Int) (a a' : Option Addr) (c c' : Nat) (w : World) (h : DetAt w ⟨L, S, R, M⟩ a a') (hc : checkF ⟨L, S, R, M⟩ = 0) (hN : N < 0 ∨ 60 < N) :
    Calls Tryd.prog 11 #[.agg #[.int .i64 L, .int .i64 S, .slice a R.length c, .slice a' M.length c'], .int .i64 N] w fun e w' => e = .returned (.tuple #[.string ⟨#[]⟩, .int .i64 2]) ∧ w.grownBy w' none := by
  have HG : Hid (∀ o, w.grownBy (w.alloc o) none) := fun o => grown_alloc w o
  have HC : Hid (∀ W, w.grownBy W none → Calls Tryd.prog 22 #[.agg #[.int .i64 L, .int .i64 S, .slice a R.length c, .slice a' M.length c']] W fun e w' => e = .returned (.int .i64 (checkF ⟨L, S, R, M⟩)) ∧ W.grownBy w' none) := fun W hW => check_any L S R M a a' c c' W (h.grown hW)
  rw [hc] at HC
  clear h hc
  by_cases h1 : N < 0
  · have h1' : decide (N < 0) = true := by simpa using h1
    go_enter Tryd.func11, Tryd.ntmps11
    go_wp2_with fail
    refine (HC.out _ (HG.out _)).mono ?_
    rintro e w2 ⟨rfl, hg2⟩
    have G2 : Hid (w.grownBy w2 none) := grown_trans (HG.out _) hg2
    clear hg2
    go_wp2_with fail
    first | (go_ret2; exact ⟨rfl, G2.out⟩) | exact bodyPost_ret (v := .tuple #[.string ⟨#[]⟩, .int .i64 2]) (by simp [results, Tryd.results11, go_sem]) rfl ⟨rfl, G2.out⟩
  · have h1' : decide (N < 0) = false := by simpa using h1
    have h2 : 60 < N := by omega
    go_enter Tryd.func11, Tryd.ntmps11
    go_wp2_with fail
    refine (HC.out _ (HG.out _)).mono ?_
    rintro e w2 ⟨rfl, hg2⟩
    have G2 : Hid (w.grownBy w2 none) := grown_trans (HG.out _) hg2
    clear hg2
    go_wp2_with fail
    first | (go_ret2; exact ⟨rfl, G2.out⟩) | exact bodyPost_ret (v := .tuple #[.string ⟨#[]⟩, .int .i64 2]) (by simp [results, Tryd.results11, go_sem]) rfl ⟨rfl, G2.out⟩

set_option maxHeartbeats 1600000 in
set_option maxRecDepth 100000 in
theorem count_any (L : Int) (S N : Nat) (R : List (List Int)) (M : List Int) (a a' : Option Addr) (c c' : Nat) (w : World) (h : DetAt w ⟨L, S, R, M⟩ a a') (hc : checkF ⟨L, S, R, M⟩ = 0) (hN : N ≤ 60) (hT : Pow10 w) :
    Calls Tryd.prog 11 #[.agg #[.int .i64 L, .int .i64 S, .slice a R.length c, .slice a' M.length c'], .int .i64 N] w fun e w' => e = .returned (.tuple #[.string ⟨(Lib.decDigits (Dfa.cnt ⟨L, S, R, M⟩ N S)).toArray⟩, .int .i64 0]) ∧ w.grownBy w' none := by
  have hG := good_of_check hc
  have hlt := cnt_lt hG hN S
  have HG : Hid (∀ o, w.grownBy (w.alloc o) none) := fun o => grown_alloc w o
  have HC : Hid (∀ W, w.grownBy W none → Calls Tryd.prog 22 #[.agg #[.int .i64 L, .int .i64 S, .slice a R.length c, .slice a' M.length c']] W fun e w' => e = .returned (.int .i64 (checkF ⟨L, S, R, M⟩)) ∧ W.grownBy w' none) := fun W hW => check_any L S R M a a' c c' W (h.grown hW)
  rw [hc] at HC
  have HA : Hid (∀ W, w.grownBy W none → Calls Tryd.prog 23 #[.agg #[.int .i64 L, .int .i64 S, .slice a R.length c, .slice a' M.length c'], .int .i64 N] W fun e w' =>
      e = .returned (.agg #[.int .u64 ((Dfa.cnt ⟨L, S, R, M⟩ N S / 1000000000000000000 : Nat) : Int), .int .u64 ((Dfa.cnt ⟨L, S, R, M⟩ N S % 1000000000000000000 : Nat) : Int)]) ∧ W.grownBy w' none) := fun W hW => accepted_any L S N R M a a' c c' W (h.grown hW) hG hN
  have HD : Hid (∀ W, w.grownBy W none → Calls Tryd.prog 24 #[.agg #[.int .u64 ((Dfa.cnt ⟨L, S, R, M⟩ N S / 1000000000000000000 : Nat) : Int), .int .u64 ((Dfa.cnt ⟨L, S, R, M⟩ N S % 1000000000000000000 : Nat) : Int)]] W fun e w' =>
      e = .returned (.string ⟨(Lib.decDigits (Dfa.cnt ⟨L, S, R, M⟩ N S)).toArray⟩) ∧ W.grownBy w' none) := fun W hW => digitsT_any _ hlt W (hT.grown hW)
  generalize Lib.decDigits (Dfa.cnt ⟨L, S, R, M⟩ N S) = dd at *
  generalize Dfa.cnt ⟨L, S, R, M⟩ N S / 1000000000000000000 = q0 at *
  generalize Dfa.cnt ⟨L, S, R, M⟩ N S % 1000000000000000000 = q1 at *
  have h1' : decide ((N : Int) < 0) = false := by simp
  have h2' : ¬ (60 : Int) < (N : Int) := by omega
  clear h hc hG hT hlt
  go_enter Tryd.func11, Tryd.ntmps11
  go_wp2_with fail
  refine (HC.out _ (HG.out _)).mono ?_
  rintro e w2 ⟨rfl, hg2⟩
  obtain ⟨b0, b1, b2, b3⟩ := box4 hg2
  have G2 : Hid (w.grownBy w2 none) := grown_trans (HG.out _) hg2
  clear hg2
  go_wp2_with fail
  refine (HA.out _ G2.out).mono ?_
  rintro e w3 ⟨rfl, hg3⟩
  have G3 : Hid (w.grownBy w3 none) := grown_trans G2.out hg3
  clear hg3 b0 b1 b2 b3
  go_wp2_with fail
  refine (HD.out _ G3.out).mono ?_
  rintro e w4 ⟨rfl, hg4⟩
  have G4 : Hid (w.grownBy w4 none) := grown_trans G3.out hg4
  clear hg4
  go_wp2_with fail
  first | (go_ret2; exact ⟨rfl, G4.out⟩) | exact bodyPost_ret (v := .tuple #[.string ⟨dd.toArray⟩, .int .i64 0]) (by simp [results, Tryd.results11, go_sem]) rfl ⟨rfl, G4.out⟩

end Go.Proofs.YtjinibofbpgfjaaDoor
