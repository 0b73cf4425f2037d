/- monoid.done, monoid.mayBoth. -/
import Derived.Test.YtofjboelplknhaaMIdle
import Derived.Test.YtofjboelplknhaaMays
import Derived.Test.YtofjboelplknhaaMSeekE
namespace Go.Proofs.Ytofjboelplknhaa
open Go.RowKit
set_option linter.unusedVariables false

/-- A row in a box. -/
def RowAt (w : World) (b c : Nat) : Prop := w.heap[b]? = some (.cells #[.int .i64 ((dg c 0 : Nat) : Int), .int .i64 ((dg c 1 : Nat) : Int), .int .i64 ((dg c 2 : Nat) : Int), .int .i64 ((dg c 3 : Nat) : Int), .int .i64 ((dg c 4 : Nat) : Int)] 83 (0, 0))

set_option maxHeartbeats 1600000 in
set_option maxRecDepth 100000 in
theorem done_any (S : Int) (l : Nat) (R : List (List Int)) (M : List Int) (a a' aw : Option Addr) (cc cc' cw : Nat) (us : List Nat) (w : World) (h : DetAt w ⟨l, S, R, M⟩ a a') (hG : Good ⟨l, S, R, M⟩) (hn : R.length ≤ 5) (hu : ∀ x, x ∈ us → x < l) (hi : Ints w aw (natInts us)) (hl : us.length ≤ 100000000) :
    Calls Try.prog 55 #[detV l S a R.length cc a' M.length cc', .slice aw us.length cw] w (Says (rowV (deed (Dfa.nx ⟨l, S, R, M⟩) R.length us)) w) := by
  have HI : Hid (∀ W, Calls Try.prog 76 #[] W (Says (rowV idle0) W)) := idle_any
  have hδ : ∀ s b, s < R.length → b < l → Dfa.nx ⟨l, S, R, M⟩ s b < R.length := fun s b hs hb => hG.nx_lt hs (by simp; exact hb)
  have HT : Hid (∀ W i, w.grownBy W none → i < us.length → Calls Try.prog 78 #[rowV (deed (Dfa.nx ⟨l, S, R, M⟩) R.length (us.take i)), detV l S a R.length cc a' M.length cc', .int .i64 ((us.getD i 0 : Nat) : Int)] W (Says (rowV (deed (Dfa.nx ⟨l, S, R, M⟩) R.length (us.take (i + 1)))) W)) := fun W i hW hi => by
    have htk : ∀ x, x ∈ us.take i → x < l := fun x hx => hu x (List.mem_of_mem_take hx)
    obtain ⟨_, f2, _⟩ := deed_facts hn hδ (us.take i) htk
    have h1 := then_any S l R M a a' cc cc' (deed (Dfa.nx ⟨l, S, R, M⟩) R.length (us.take i)) (us.getD i 0) W (h.grown hW) hG hn (hu _ (getD_mem hi)) (fun s hs => by rw [(f2 s hs).1]; exact (f2 s hs).2)
    have e1 : us.take (i + 1) = us.take i ++ [us.getD i 0] := by rw [List.take_add_one, List.getElem?_eq_getElem hi]; simp [List.getD, hi]
    rw [← deed_snoc, ← e1] at h1
    exact h1
  have HC : Hid (∀ W i, w.grownBy W none → i < us.length → ∃ bw ow, aw = some ⟨bw, ow, none⟩ ∧ W.cell? ⟨bw, ow + i, none⟩ = some (.int .i64 ((us.getD i 0 : Nat) : Int))) := fun W i hW hi' => by
    obtain ⟨bw, ow, rfl, hcw⟩ := (hi.grown hW).at (k := i) (by rw [List.length_map]; exact hi')
    have c1 := hcw i (by rw [List.length_map]; exact hi')
    have e1 : (natInts us).getD i 0 = ((us.getD i 0 : Nat) : Int) := by simp [natInts, List.getD, hi']
    rw [e1] at c1
    exact ⟨bw, ow, rfl, c1⟩
  have HF : Hid (us.take us.length = us) := by show _ = _; rw [List.take_length]
  have H0 : Hid (deed (Dfa.nx ⟨l, S, R, M⟩) R.length (us.take 0) = idle0) := by show _ = _; rfl
  generalize deed (Dfa.nx ⟨l, S, R, M⟩) R.length = κ at *
  obtain ⟨n, hn0⟩ : ∃ n, R.length = n := ⟨_, rfl⟩
  obtain ⟨mn, hmn⟩ : ∃ mn, M.length = mn := ⟨_, rfl⟩
  rw [hn0, hmn] at HT ⊢
  obtain ⟨W0, hW0, g0, s0, bx0⟩ := box_new w (.int .i64 l) (.int .i64 S) (.slice a n cc) (.slice a' mn cc') 25
  obtain ⟨W1, hW1, g1, s1, k1⟩ := zero5 W0 83
  rw [s0] at k1 s1
  have HW1 : Hid (W1 = (w.alloc (.cells #[.int .i64 l, .int .i64 S, .slice a n cc, .slice a' mn cc'] 25)).alloc (.cells #[.int .i64 0, .int .i64 0, .int .i64 0, .int .i64 0, .int .i64 0] 83)) := by show _ = _; rw [hW1, hW0]
  have G1 : Hid (w.grownBy W1 none) := grown_trans g0 g1
  have HS1 : Hid (W1.heap.size = w.heap.size + 1 + 1) := s1
  have Bx : Hid (∀ W, W1.grownBy W none → (W.cell? ⟨w.heap.size, 0, none⟩ = some (.int .i64 l) ∧ W.cell? ⟨w.heap.size, 1, none⟩ = some (.int .i64 S) ∧ W.cell? ⟨w.heap.size, 2, none⟩ = some (.slice a n cc) ∧ W.cell? ⟨w.heap.size, 3, none⟩ = some (.slice a' mn cc')) ∧ W.heap[w.heap.size + 1]? = some (.cells #[.int .i64 0, .int .i64 0, .int .i64 0, .int .i64 0, .int .i64 0] 83 (0, 0))) := fun W hW => ⟨bx0 W (grown_trans g1 hW), k1 W hW⟩
  clear h hG hn hδ hu hi hn0 hmn hW0 g0 s0 bx0 hW1 g1 s1 k1
  go_enter Try.func55, Try.ntmps55
  go_wp2_with fail
  rw [← HW1.out]
  refine (HI.out _).mono ?_
  rintro E w2 ⟨rfl, hg2⟩
  obtain ⟨br, hbr⟩ : ∃ br, w2.heap.size = br := ⟨_, rfl⟩
  have HBr : Hid (W1.heap.size ≤ br) := by rw [← hbr]; exact hg2.size
  have G3 : Hid (W1.grownBy (w2.alloc (.cells #[.int .i64 ((dg idle0 0 : Nat) : Int), .int .i64 ((dg idle0 1 : Nat) : Int), .int .i64 ((dg idle0 2 : Nat) : Int), .int .i64 ((dg idle0 3 : Nat) : Int), .int .i64 ((dg idle0 4 : Nat) : Int)] 83)) none) := grown_trans hg2 (grown_alloc _ _)
  have K3 : Hid ((w2.alloc (.cells #[.int .i64 ((dg idle0 0 : Nat) : Int), .int .i64 ((dg idle0 1 : Nat) : Int), .int .i64 ((dg idle0 2 : Nat) : Int), .int .i64 ((dg idle0 3 : Nat) : Int), .int .i64 ((dg idle0 4 : Nat) : Int)] 83)).heap[br]? = some (.cells #[.int .i64 ((dg idle0 0 : Nat) : Int), .int .i64 ((dg idle0 1 : Nat) : Int), .int .i64 ((dg idle0 2 : Nat) : Int), .int .i64 ((dg idle0 3 : Nat) : Int), .int .i64 ((dg idle0 4 : Nat) : Int)] 83 (0, 0))) := by
    show _ = _
    rw [← hbr]; exact heap_alloc_new _ _
  clear hg2
  go_wp2_with fail
  clear hbr
  go_loopw [11] (fun v wr => ∃ i : Nat, v = .int .i64 i ∧ i ≤ us.length ∧ RowAt wr br (κ (us.take i)) ∧ W1.grownBy wr none) (fun v _ => us.length - (intOf v).toNat)
  case atStart => exact ⟨0, rfl, by omega, by rw [H0.out]; exact K3.out, G3.out⟩
  case round =>
    clear K3 G3
    obtain ⟨i, rfl, hi, hk, hg⟩ := hrel
    have G : Hid (W1.grownBy wr none) := hg
    have HK : Hid (RowAt wr br (κ (us.take i))) := hk
    obtain ⟨q0, q1, q2, q3, q4, qf⟩ := block_cells5 hk
    obtain ⟨⟨x0, x1, x2, x3⟩, hz⟩ := Bx.out wr hg
    by_cases hlt : i < us.length
    · have hii : (i : Int) < (us.length : Int) := by omega
      obtain ⟨bw, ow, rfl, c1⟩ := HC.out wr i (grown_trans G1.out hg) hlt
      have HT3 : Hid (Calls Try.prog 78 #[rowV (κ (us.take i)), detV l S a n cc a' mn cc', .int .i64 ((us.getD i 0 : Nat) : Int)] wr (Says (rowV (κ (us.take (i + 1)))) wr)) := HT.out wr i (grown_trans G1.out hg) hlt
      clear hk hg hz qf
      generalize us.getD i 0 = y at *
      generalize κ (us.take i) = c1v at *
      obtain ⟨c2v, hc2⟩ : ∃ c2v, κ (us.take (i + 1)) = c2v := ⟨_, rfl⟩
      have HC2 : Hid (κ (us.take (i + 1)) = c2v) := hc2
      rw [hc2] at HT3
      clear hc2
      go_wp2_with fail
      refine HT3.out.mono ?_
      rintro E w4 ⟨rfl, hg4⟩
      have hk4 := (hg4.block br (Array.getElem?_eq_some_iff.1 HK.out).1 (by simp)).trans HK.out
      obtain ⟨r0, r1, r2, r3, r4, rf⟩ := block_cells5 hk4
      have f0 := rf 0
      have f1 := rf 1
      have f2 := rf 2
      have f3 := rf 3
      have f4 := rf 4
      obtain ⟨W9, hW9, hg9, hk9⟩ := store5 hk4 (.int .i64 ((dg c2v 0 : Nat) : Int)) (.int .i64 ((dg c2v 1 : Nat) : Int)) (.int .i64 ((dg c2v 2 : Nat) : Int)) (.int .i64 ((dg c2v 3 : Nat) : Int)) (.int .i64 ((dg c2v 4 : Nat) : Int))
      have K9 : Hid (RowAt W9 br c2v) := hk9
      have G9 : Hid (W1.grownBy W9 none) := grown_new (grown_trans G.out hg4) hg9 HBr.out
      rw [hW9] at K9 G9
      clear hg4 hk4 rf hW9 hg9 hk9 q0 q1 q2 q3 q4 x0 x1 x2 x3 c1
      go_wp2_with fail
      go_roundw
      case rel => exact ⟨i + 1, by go_num, by omega, by rw [HC2.out]; exact K9.out, G9.out⟩
      case measure => simp [intOf]; omega
    · have hii : ¬ (i : Int) < (us.length : Int) := by omega
      have hie : i = us.length := by omega
      have HE : Hid (κ (us.take i) = κ us) := by show _ = _; rw [hie, HF.out]
      rw [HE.out] at q0 q1 q2 q3 q4
      obtain ⟨z0, z1, z2, z3, z4, zf⟩ := block_cells5 hz
      have f0 := zf 0
      have f1 := zf 1
      have f2 := zf 2
      have f3 := zf 3
      have f4 := zf 4
      generalize κ us = cf at *
      obtain ⟨W9, hW9, hg9, hk9⟩ := store5 hz (.int .i64 ((dg cf 0 : Nat) : Int)) (.int .i64 ((dg cf 1 : Nat) : Int)) (.int .i64 ((dg cf 2 : Nat) : Int)) (.int .i64 ((dg cf 3 : Nat) : Int)) (.int .i64 ((dg cf 4 : Nat) : Int))
      obtain ⟨p0, p1, p2, p3, p4, _⟩ := block_cells5 hk9
      have G9 : Hid (w.grownBy W9 none) := grown_new (grown_trans G1.out hg) hg9 (by omega)
      clear hk hg hz qf zf hg9 hk9 hie x0 x1 x2 x3 HE HK
      go_wp2_with fail
      rw [← hW9]
      exact bodyPost_ret (v := rowV cf) (by simp [results, Try.results55, go_sem, p0, p1, p2, p3, p4]) rfl ⟨rfl, G9.out⟩

set_option maxHeartbeats 1600000 in
set_option maxRecDepth 100000 in
theorem mayBoth_any (n : Int) (a b : Option Addr) (c d : Nat) (zs zt : List Int) (w : World) (h : Ints w a zs) (h2 : Ints w b zt) (hm : zs.length ≤ maxLen) (hm2 : zt.length ≤ maxLen) :
    Calls Try.prog 54 #[.int .i64 n, .slice a zs.length c, .slice b zt.length d] w (Says (.int .i64 (if mayF n zs ≠ 0 then mayF n zs else mayF n zt)) w) := by
  have H1 : Hid (Calls Try.prog 79 #[.int .i64 n, .slice a zs.length c] w fun e w' => e = .returned (.int .i64 (mayF n zs)) ∧ w' = w) := may_any n a c zs w h hm
  have H2 : Hid (Calls Try.prog 79 #[.int .i64 n, .slice b zt.length d] w fun e w' => e = .returned (.int .i64 (mayF n zt)) ∧ w' = w) := may_any n b d zt w h2 hm2
  generalize mayF n zs = y at *
  generalize mayF n zt = y2 at *
  clear h h2 hm hm2
  by_cases hy : y = 0
  · subst hy
    rw [if_neg (by simp)]
    go_enter Try.func54, Try.ntmps54
    go_wp2_with fail
    refine H1.out.mono ?_
    rintro E w2 ⟨rfl, rfl⟩
    go_wp2_with fail
    refine H2.out.mono ?_
    rintro E w3 ⟨rfl, rfl⟩
    go_wp2_with fail
    go_ret
    exact ⟨rfl, grown_refl _ _⟩
  · have f1 : (y != 0) = true := by simpa using hy
    rw [if_pos hy]
    go_enter Try.func54, Try.ntmps54
    go_wp2_with fail
    refine H1.out.mono ?_
    rintro E w2 ⟨rfl, rfl⟩
    go_wp2_with fail
    go_ret
    exact ⟨rfl, grown_refl _ _⟩

end Go.Proofs.Ytofjboelplknhaa
