/- The law RegularHas, walked. -/
import Derived.Test.YtepldeogcoigkaaDoorHasW
namespace Go.Proofs.YtepldeogcoigkaaDoor
open Go.RowKit
set_option linter.unusedVariables false

set_option maxHeartbeats 800000 in
theorem law_bad (s : ByteArray) (a : Option Addr) (cap : Nat) (z : List Int) (w : World) (hm : s.size ≤ maxLen) {c : Int} {j : Nat} (hR : parseR s = .bad c j) :
    Calls Tryd.prog 3 #[.string s, .slice a z.length cap] w fun e w' => e = .returned (.bool true) ∧ w.grownBy w' none := by
  have hc := parseR_nz hR
  have hc' : (c == 0) = false := by simpa using hc
  have H : Hid (Calls Tryd.prog 4 #[.string s, .slice a z.length cap] w fun e w' => e = .returned (.tuple #[.bool false, .int .i64 4]) ∧ w.grownBy w' none) := has_bad s a cap z w hm hR
  have P : Hid (∀ W, Calls Tryd.prog 5 #[.string s] W (RParsed W (.bad c j))) := fun W => by
    have := rparse_any s W hm
    rw [hR] at this
    exact this
  clear hR hm
  go_enter Tryd.func3, Tryd.ntmps3
  go_wp2_with fail
  refine H.out.mono ?_
  rintro e w1 ⟨rfl, hg1⟩
  have G1 : Hid (w.grownBy w1 none) := hg1
  clear hg1 H
  go_wp2_with fail
  refine (P.out _).mono ?_
  rintro e w2 ⟨hb, rfl⟩
  have G2 : Hid (w.grownBy (w2.alloc (.cells #[.int .i64 c, .int .i64 j] 28)) none) := grown_trans (grown_trans G1.out (grown_of_below hb)) (World.grownBy_alloc _ _ _)
  clear hb P G1
  go_wp2_with fail
  go_ret
  exact ⟨rfl, G2.out⟩

set_option maxHeartbeats 800000 in
theorem law_may (s : ByteArray) (a : Option Addr) (cap : Nat) (z : List Int) (w : World) (hm : s.size ≤ maxLen) (hz : Ints w a z) (hmz : z.length ≤ maxLen) {m : Sense} {j : Nat} (hR : parseR s = .good m j) (hmay : mayF 4 z ≠ 0) :
    Calls Tryd.prog 3 #[.string s, .slice a z.length cap] w fun e w' => e = .returned (.bool true) ∧ w.grownBy w' none := by
  have hmay' : (mayF 4 z == 0) = false := by simpa using hmay
  have H : Hid (Calls Tryd.prog 4 #[.string s, .slice a z.length cap] w fun e w' => e = .returned (.tuple #[.bool false, .int .i64 (mayF 4 z)]) ∧ w.grownBy w' none) := has_may s a cap z w hm hz hmz hR hmay
  have P : Hid (∀ W, Calls Tryd.prog 5 #[.string s] W (RParsed W (.good m j))) := fun W => by
    have := rparse_any s W hm
    rw [hR] at this
    exact this
  have M : Hid (∀ W, w.grownBy W none → Calls Tryd.prog 6 #[.int .i64 4, .slice a z.length cap] W fun e w' => e = .returned (.int .i64 (mayF 4 z)) ∧ w' = W) := fun W hg => mayR_any 4 a cap z W (hz.grown hg) hmz
  clear hR hm hz
  generalize mayF 4 z = q at *
  go_enter Tryd.func3, Tryd.ntmps3
  go_wp2_with fail
  refine H.out.mono ?_
  rintro e w1 ⟨rfl, hg1⟩
  have G1 : Hid (w.grownBy w1 none) := hg1
  clear hg1 H
  go_wp2_with fail
  refine (P.out _).mono ?_
  rintro e w2 ⟨hb, L, ps, b, k, rfl, hbb, hP, hk, hM, hps⟩
  have G2 : Hid (w.grownBy (w2.alloc (.cells #[.int .i64 0, .int .i64 0] 28)) none) := grown_trans (grown_trans G1.out (grown_of_below hb)) (World.grownBy_alloc _ _ _)
  clear hb P G1 hP hM hk hbb
  go_wp2_with fail
  refine (M.out _ G2.out).mono ?_
  rintro e w3 ⟨rfl, hw3⟩
  subst hw3
  go_wp2_with fail
  go_ret
  exact ⟨rfl, G2.out⟩

set_option maxHeartbeats 800000 in
theorem law_good (s : ByteArray) (a : Option Addr) (cap : Nat) (z : List Int) (w : World) (hm : s.size ≤ maxLen) (hz : Ints w a z) (hT : TabAt w) {m : Sense} {j : Nat} (hR : parseR s = .good m j) (hmay : mayF 4 z = 0) :
    Calls Tryd.prog 3 #[.string s, .slice a z.length cap] w fun e w' => e = .returned (.bool true) ∧ w.grownBy w' none := by
  have hn := mayF_ok hmay
  have hmz : z.length ≤ maxLen := by unfold maxLen; omega
  have H : Hid (Calls Tryd.prog 4 #[.string s, .slice a z.length cap] w fun e w' => e = .returned (.tuple #[.bool (saysB z m), .int .i64 0]) ∧ w.grownBy w' none) := has_good s a cap z w hm hz hT hR hmay
  have P : Hid (∀ W, Calls Tryd.prog 5 #[.string s] W (RParsed W (.good m j))) := fun W => by
    have := rparse_any s W hm
    rw [hR] at this
    exact this
  have M : Hid (∀ W, w.grownBy W none → Calls Tryd.prog 6 #[.int .i64 4, .slice a z.length cap] W fun e w' => e = .returned (.int .i64 0) ∧ w' = W) := fun W hg => by
    have := mayR_any 4 a cap z W (hz.grown hg) hmz
    rw [hmay] at this
    exact this
  have HZ : Hid (Ints w a z) := hz
  clear hR hm hz hT hmay
  go_enter Tryd.func3, Tryd.ntmps3
  go_wp2_with fail
  refine H.out.mono ?_
  rintro e w1 ⟨rfl, hg1⟩
  have G1 : Hid (w.grownBy w1 none) := hg1
  clear hg1 H
  go_wp2_with fail
  refine (P.out _).mono ?_
  rintro e w2 ⟨hb, L, ps, b, k, rfl, hbb, hP, hk, hM, hps⟩
  have G2 : Hid (w.grownBy (w2.alloc (.cells #[.int .i64 0, .int .i64 0] 28)) none) := grown_trans (grown_trans G1.out (grown_of_below hb)) (World.grownBy_alloc _ _ _)
  have E : Hid (Calls Tryd.prog 7 #[L, .slice a z.length cap] (w2.alloc (.cells #[.int .i64 0, .int .i64 0] 28)) fun e w' => e = .returned (.bool (saysB z m)) ∧ (w2.alloc (.cells #[.int .i64 0, .int .i64 0] 28)).grownBy w' none) :=
    rhas_any hM hk L a cap z hn hps _ (hP.pl.kept (World.grownBy_alloc _ _ _)) (HZ.out.grown G2.out)
  obtain ⟨gL, cL, rfl, _, _⟩ := hP.own.form (by omega)
  clear hb P G1 hP hM hk hbb
  generalize saysB z m = r at *
  go_wp2_with fail
  refine (M.out _ G2.out).mono ?_
  rintro e w3 ⟨rfl, hw3⟩
  subst hw3
  go_wp2_with fail
  refine E.out.mono ?_
  rintro e w4 ⟨rfl, hg4⟩
  have G4 : Hid (w.grownBy w4 none) := grown_trans G2.out hg4
  clear hg4 E G2 M
  go_wp2_with fail
  go_ret
  exact ⟨by cases r <;> rfl, G4.out⟩

theorem law_walk (s : ByteArray) (a : Option Addr) (cap : Nat) (z : List Int) (w : World) (hm : s.size ≤ maxLen) (hz : Ints w a z) (hmz : z.length ≤ maxLen) (hT : TabAt w) :
    Calls Tryd.prog 3 #[.string s, .slice a z.length cap] w fun e w' => e = .returned (.bool true) ∧ Below w.heap.size w w' := by
  have h : Calls Tryd.prog 3 #[.string s, .slice a z.length cap] w fun e w' => e = .returned (.bool true) ∧ w.grownBy w' none := by
    cases hR : parseR s with
    | bad c j => exact law_bad s a cap z w hm hR
    | good m j =>
      by_cases hmay : mayF 4 z = 0
      · exact law_good s a cap z w hm hz hT hR hmay
      · exact law_may s a cap z w hm hz hmz hR hmay
  exact h.mono fun e w' ⟨h1, h2⟩ => ⟨h1, below_of_grown h2⟩

end Go.Proofs.YtepldeogcoigkaaDoor
