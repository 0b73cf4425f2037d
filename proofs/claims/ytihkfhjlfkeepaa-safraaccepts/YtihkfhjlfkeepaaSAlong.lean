/- The least mark that comes again and again: the program's along, leastAgain, isGood. -/
import Derived.Test.YtihkfhjlfkeepaaFAfter
import Derived.Test.YtihkfhjlfkeepaaSMath
import Derived.Test.YtihkfhjlfkeepaaULas1
namespace Go.Proofs.Ytihkfhjlfkeepaa
open Go.RowKit
set_option linter.unusedVariables false

theorem boxesD (w : World) (L S : Int) (a : Option Addr) (n c : Nat) (a' : Option Addr) (n' c' : Nat) (ah : Option Addr) (nh ch : Nat) (al : Option Addr) (nl cl : Nat) : ∃ W, W = (w.alloc (.cells #[.int .i64 L, .int .i64 S, .slice a n c, .slice a' n' c'] 25)).alloc (.cells #[.slice ah nh ch, .slice al nl cl] 27) ∧ w.grownBy W none ∧ (∀ W', W.grownBy W' none → W'.cell? ⟨w.heap.size, 0, none⟩ = some (.int .i64 L) ∧ W'.cell? ⟨w.heap.size, 1, none⟩ = some (.int .i64 S) ∧ W'.cell? ⟨w.heap.size, 2, none⟩ = some (.slice a n c) ∧ W'.cell? ⟨w.heap.size, 3, none⟩ = some (.slice a' n' c')) ∧ (∀ W', W.grownBy W' none → W'.cell? ⟨w.heap.size + 1, 0, none⟩ = some (.slice ah nh ch) ∧ W'.cell? ⟨w.heap.size + 1, 1, none⟩ = some (.slice al nl cl)) := by
  obtain ⟨W1, hW1, g1, s1, bx1⟩ := box_new w (.int .i64 L) (.int .i64 S) (.slice a n c) (.slice a' n' c') 25
  obtain ⟨W2, hW2, g2, s2, bx2⟩ := boxL_new W1 ah nh ch al nl cl
  rw [s1] at bx2
  exact ⟨W2, by rw [hW2, hW1], grown_trans g1 g2, fun W' h => bx1 W' (grown_trans g2 h), bx2⟩

/-- Where a word leads, and the least mark that it comes to. -/
def AlongPost (d : Dfa) (q : Nat) (z : List Int) (w : World) (e : Ending) (w' : World) : Prop :=
  ∃ y, e = .returned (.tuple #[.int .i64 ((d.go q z : Nat) : Int), .int .i64 y]) ∧ IsLow 9 (Seen d q z) y ∧ w.grownBy w' none

set_option maxHeartbeats 1600000 in
set_option maxRecDepth 100000 in
theorem along_any (N K : Nat) (hN : N ≤ 100000) (L S : Int) (q : Nat) (R : List (List Int)) (M : List Int) (a a' az : Option Addr) (c c' cz : Nat) (z : List Int) (w : World) (h : DetAt w ⟨L, S, R, M⟩ a a') (hG : GoodN N K ⟨L, S, R, M⟩) (hz : Ints w az z) (hzm : z.length ≤ maxLen)
    (hlet : ∀ k, k < z.length → 0 ≤ z.getD k 0 ∧ z.getD k 0 < L) (hq : q < R.length) :
    Calls Try.prog 18 #[.agg #[.int .i64 L, .int .i64 S, .slice a R.length c, .slice a' M.length c'], .int .i64 q, .slice az z.length cz] w (AlongPost ⟨L, S, R, M⟩ q z w) := by
  have HG : Hid (∀ o, w.grownBy (w.alloc o) none) := fun o => grown_alloc w o
  have H : Hid (DetAt w ⟨L, S, R, M⟩ a a') := h
  have HZ : Hid (Ints w az z) := hz
  have GD : Hid (GoodN N K ⟨L, S, R, M⟩) := hG
  have HL : Hid (∀ k, k < z.length → 0 ≤ z.getD k 0 ∧ z.getD k 0 < L) := hlet
  have hn3 : R.length ≤ 100000 := Nat.le_trans hG.n3 hN
  have hL4 : 1 ≤ L ∧ L ≤ 4 := ⟨hG.l1, hG.l4⟩
  have HML : Hid (M.length = R.length) := hG.ml
  unfold maxLen at hzm
  clear h hz hG hlet
  obtain ⟨P, hP⟩ : ∃ P, P = AlongPost ⟨L, S, R, M⟩ q z w := ⟨_, rfl⟩
  rw [← hP]
  have HP : Hid (P = AlongPost ⟨L, S, R, M⟩ q z w) := hP
  clear hP
  go_enter Try.func18, Try.ntmps18
  go_wp2_with fail
  generalize hO : Obj.cells #[Value.int IntKind.i64 L, Value.int IntKind.i64 S, Value.slice a R.length c, Value.slice a' M.length c'] 25 = O
  have HO : Hid (Obj.cells #[Value.int IntKind.i64 L, Value.int IntKind.i64 S, Value.slice a R.length c, Value.slice a' M.length c'] 25 = O) := hO
  clear hO
  go_loopw [1, 8, 13] (fun v u i wr => ∃ (k : Nat) (y : Int), k ≤ z.length ∧ i = .int .i64 k ∧ u = .int .i64 y ∧ v = .int .i64 ((Dfa.go ⟨L, S, R, M⟩ q (z.take k) : Nat) : Int) ∧ IsLow 9 (SeenK ⟨L, S, R, M⟩ q z k) y ∧ (w.alloc O).grownBy wr none) (fun _ _ i _ => z.length - (intOf i).toNat)
  case atStart => exact ⟨0, 9, Nat.zero_le _, rfl, rfl, by simp [Dfa.go], IsLow.start (fun m ⟨k, hk, _⟩ => by omega), grown_refl _ _⟩
  case round =>
    obtain ⟨k, y, hk, rfl, rfl, rfl, hy, hg⟩ := hrel
    have HY : Hid (IsLow 9 (SeenK ⟨L, S, R, M⟩ q z k) y) := hy
    have hgl : Dfa.go ⟨L, S, R, M⟩ q (z.take k) < R.length := goN_take_lt GD.out (by simp only; omega) HL.out k
    have G : Hid ((w.alloc O).grownBy wr none) := hg
    have G2 : Hid (w.grownBy wr none) := grown_trans (HG.out _) hg
    obtain ⟨b0, b1, b2, b3⟩ := box4 (HO.out ▸ hg)
    clear hg hy
    by_cases hlt : k < z.length
    · obtain ⟨hx0, hx1⟩ := HL.out k hlt
      have ht := go_take ⟨L, S, R, M⟩ q z hlt
      obtain ⟨bz, oz, rfl, hcz⟩ := HZ.out.at hlt
      have hcz' : wr.cell? ⟨bz, oz + k, none⟩ = some (.int .i64 (z.getD k 0)) := G2.out.cell (hcz k hlt) (by simp)
      obtain ⟨b, off, bx, ox, cx, rfl, hr1, hr2⟩ := step_readsN (l := (z.getD k 0).toNat) (H.out.grown G2.out) GD.out hgl (by omega)
      have hgl2 : Dfa.go ⟨L, S, R, M⟩ q (z.take (k + 1)) < R.length := goN_take_lt GD.out (by simp only; omega) HL.out (k + 1)
      obtain ⟨bm, om, rfl, hm⟩ := mark_readsN (H.out.grown G2.out) GD.out hgl2
      have HPut : Hid (IsLow 9 (SeenK ⟨L, S, R, M⟩ q z (k + 1)) (if M.getD (Dfa.go ⟨L, S, R, M⟩ q (z.take (k + 1))) 0 < y then M.getD (Dfa.go ⟨L, S, R, M⟩ q (z.take (k + 1))) 0 else y)) := HY.out.put (fun m => seenK_succ _ _ _ _ _)
      have hsM : (Dfa.go ⟨L, S, R, M⟩ q (z.take (k + 1)) : Int) < (M.length : Int) := by rw [HML.out]; omega
      clear hcz HY
      generalize hgt : Dfa.go ⟨L, S, R, M⟩ q (z.take (k + 1)) = t at *
      have HT : Hid (Dfa.go ⟨L, S, R, M⟩ q (z.take (k + 1)) = t) := hgt
      generalize hgk : Dfa.go ⟨L, S, R, M⟩ q (z.take k) = s at *
      have ht0 : (z.getD k 0) = ((z.getD k 0).toNat : Int) := by omega
      generalize hlk : (z.getD k 0).toNat = l at *
      rw [ht0] at hcz' hx1 hx0
      rw [← ht] at hr2
      generalize hmm : M.getD t 0 = mm at *
      have hLt : (L.toNat : Int) = L := by omega
      have hlL : (l : Int) < (L.toNat : Int) := by omega
      clear hgk ht0 hlk ht hgt hmm
      by_cases hmy : mm < y
      · rw [if_pos hmy] at HPut
        go_wp2_with fail
        go_roundw
        case rel => exact ⟨k + 1, mm, by omega, by go_num, rfl, by rw [HT.out], HPut.out, G.out⟩
        case measure => simp [intOf]; omega
      · rw [if_neg hmy] at HPut
        go_wp2_with fail
        go_roundw
        case rel => exact ⟨k + 1, y, by omega, by go_num, rfl, by rw [HT.out], HPut.out, G.out⟩
        case measure => simp [intOf]; omega
    · have hkz : k = z.length := by omega
      subst hkz
      rw [List.take_length]
      go_wp2_with fail
      rw [HP.out]
      exact ⟨y, rfl, HY.out, G2.out⟩

end Go.Proofs.Ytihkfhjlfkeepaa
