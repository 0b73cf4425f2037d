/- monoid.done, monoid.mayBoth. -/
/- monoid.small, the law's small. -/
/- Two rows in two boxes of their own: what stays, what comes to be; whether two rows are one. -/
/- Who looks for a state from which two words part: monoid.Alike$1. -/
/- Where two deeds part there is a word that leads to a state from which they do. -/
import Derived.Test.YtmbbkjpfmmnabaaDoorMSks
import Derived.Test.YtmbbkjpfmmnabaaDoorMays
import Derived.Test.YtmbbkjpfmmnabaaDoorHWr
import Derived.Test.YtmbbkjpfmmnabaaDoorTls
import Derived.Deep.RegionWith
import Derived.Deep.RegionHeld3
import Derived.Deep.RegionLaw
import Derived.Deep.DeepCutAuto
import Derived.Deep.CutRange
import Derived.Test.YtmbbkjpfmmnabaaDoorMLl
namespace Go.Proofs.YtmbbkjpfmmnabaaDoor
open Go.RowKit
set_option linter.unusedVariables false

/-- A row in a box. -/
def RowAt (w : World) (b c : Nat) : Prop := w.heap[b]? = some (.cells #[.int .i64 ((dg c 0 : Nat) : Int), .int .i64 ((dg c 1 : Nat) : Int), .int .i64 ((dg c 2 : Nat) : Int), .int .i64 ((dg c 3 : Nat) : Int), .int .i64 ((dg c 4 : Nat) : Int)] 86 (0, 0))

set_option maxHeartbeats 1600000 in
set_option maxRecDepth 100000 in
theorem done_any (S : Int) (l : Nat) (R : List (List Int)) (M : List Int) (a a' aw : Option Addr) (cc cc' cw : Nat) (us : List Nat) (w : World) (h : DetAt w ⟨l, S, R, M⟩ a a') (hG : Good ⟨l, S, R, M⟩) (hn : R.length ≤ 5) (hu : ∀ x, x ∈ us → x < l) (hi : Ints w aw (natInts us)) (hl : us.length ≤ 100000000) :
    Calls Tryd.prog 46 #[detV l S a R.length cc a' M.length cc', .slice aw us.length cw] w (Says (rowV (deed (Dfa.nx ⟨l, S, R, M⟩) R.length us)) w) := by
  have HI : Hid (∀ W, Calls Tryd.prog 75 #[] W (Says (rowV idle0) W)) := idle_any
  have hδ : ∀ s b, s < R.length → b < l → Dfa.nx ⟨l, S, R, M⟩ s b < R.length := fun s b hs hb => hG.nx_lt hs (by simp; exact hb)
  have HT : Hid (∀ W i, w.grownBy W none → i < us.length → Calls Tryd.prog 77 #[rowV (deed (Dfa.nx ⟨l, S, R, M⟩) R.length (us.take i)), detV l S a R.length cc a' M.length cc', .int .i64 ((us.getD i 0 : Nat) : Int)] W (Says (rowV (deed (Dfa.nx ⟨l, S, R, M⟩) R.length (us.take (i + 1)))) W)) := fun W i hW hi => by
    have htk : ∀ x, x ∈ us.take i → x < l := fun x hx => hu x (List.mem_of_mem_take hx)
    obtain ⟨_, f2, _⟩ := deed_facts hn hδ (us.take i) htk
    have h1 := then_any S l R M a a' cc cc' (deed (Dfa.nx ⟨l, S, R, M⟩) R.length (us.take i)) (us.getD i 0) W (h.grown hW) hG hn (hu _ (getD_mem hi)) (fun s hs => by rw [(f2 s hs).1]; exact (f2 s hs).2)
    have e1 : us.take (i + 1) = us.take i ++ [us.getD i 0] := by rw [List.take_add_one, List.getElem?_eq_getElem hi]; simp [List.getD, hi]
    rw [← deed_snoc, ← e1] at h1
    exact h1
  have HC : Hid (∀ W i, w.grownBy W none → i < us.length → ∃ bw ow, aw = some ⟨bw, ow, none⟩ ∧ W.cell? ⟨bw, ow + i, none⟩ = some (.int .i64 ((us.getD i 0 : Nat) : Int))) := fun W i hW hi' => by
    obtain ⟨bw, ow, rfl, hcw⟩ := (hi.grown hW).at (k := i) (by rw [List.length_map]; exact hi')
    have c1 := hcw i (by rw [List.length_map]; exact hi')
    have e1 : (natInts us).getD i 0 = ((us.getD i 0 : Nat) : Int) := by simp [natInts, List.getD, hi']
    rw [e1] at c1
    exact ⟨bw, ow, rfl, c1⟩
  have HF : Hid (us.take us.length = us) := by show _ = _; rw [List.take_length]
  have H0 : Hid (deed (Dfa.nx ⟨l, S, R, M⟩) R.length (us.take 0) = idle0) := by show _ = _; rfl
  generalize deed (Dfa.nx ⟨l, S, R, M⟩) R.length = κ at *
  obtain ⟨n, hn0⟩ : ∃ n, R.length = n := ⟨_, rfl⟩
  obtain ⟨mn, hmn⟩ : ∃ mn, M.length = mn := ⟨_, rfl⟩
  rw [hn0, hmn] at HT ⊢
  obtain ⟨W0, hW0, g0, s0, bx0⟩ := box_new w (.int .i64 l) (.int .i64 S) (.slice a n cc) (.slice a' mn cc') 25
  obtain ⟨W1, hW1, g1, s1, k1⟩ := zero5 W0 86
  rw [s0] at k1 s1
  have HW1 : Hid (W1 = (w.alloc (.cells #[.int .i64 l, .int .i64 S, .slice a n cc, .slice a' mn cc'] 25)).alloc (.cells #[.int .i64 0, .int .i64 0, .int .i64 0, .int .i64 0, .int .i64 0] 86)) := by show _ = _; rw [hW1, hW0]
  have G1 : Hid (w.grownBy W1 none) := grown_trans g0 g1
  have HS1 : Hid (W1.heap.size = w.heap.size + 1 + 1) := s1
  have Bx : Hid (∀ W, W1.grownBy W none → (W.cell? ⟨w.heap.size, 0, none⟩ = some (.int .i64 l) ∧ W.cell? ⟨w.heap.size, 1, none⟩ = some (.int .i64 S) ∧ W.cell? ⟨w.heap.size, 2, none⟩ = some (.slice a n cc) ∧ W.cell? ⟨w.heap.size, 3, none⟩ = some (.slice a' mn cc')) ∧ W.heap[w.heap.size + 1]? = some (.cells #[.int .i64 0, .int .i64 0, .int .i64 0, .int .i64 0, .int .i64 0] 86 (0, 0))) := fun W hW => ⟨bx0 W (grown_trans g1 hW), k1 W hW⟩
  clear h hG hn hδ hu hi hn0 hmn hW0 g0 s0 bx0 hW1 g1 s1 k1
  go_enter Tryd.func46, Tryd.ntmps46
  go_wp2_with fail
  rw [← HW1.out]
  refine (HI.out _).mono ?_
  rintro E w2 ⟨rfl, hg2⟩
  obtain ⟨br, hbr⟩ : ∃ br, w2.heap.size = br := ⟨_, rfl⟩
  have HBr : Hid (W1.heap.size ≤ br) := by rw [← hbr]; exact hg2.size
  have G3 : Hid (W1.grownBy (w2.alloc (.cells #[.int .i64 ((dg idle0 0 : Nat) : Int), .int .i64 ((dg idle0 1 : Nat) : Int), .int .i64 ((dg idle0 2 : Nat) : Int), .int .i64 ((dg idle0 3 : Nat) : Int), .int .i64 ((dg idle0 4 : Nat) : Int)] 86)) none) := grown_trans hg2 (grown_alloc _ _)
  have K3 : Hid ((w2.alloc (.cells #[.int .i64 ((dg idle0 0 : Nat) : Int), .int .i64 ((dg idle0 1 : Nat) : Int), .int .i64 ((dg idle0 2 : Nat) : Int), .int .i64 ((dg idle0 3 : Nat) : Int), .int .i64 ((dg idle0 4 : Nat) : Int)] 86)).heap[br]? = some (.cells #[.int .i64 ((dg idle0 0 : Nat) : Int), .int .i64 ((dg idle0 1 : Nat) : Int), .int .i64 ((dg idle0 2 : Nat) : Int), .int .i64 ((dg idle0 3 : Nat) : Int), .int .i64 ((dg idle0 4 : Nat) : Int)] 86 (0, 0))) := by
    show _ = _
    rw [← hbr]; exact heap_alloc_new _ _
  clear hg2
  go_wp2_with fail
  clear hbr
  go_loopw [11] (fun v wr => ∃ i : Nat, v = .int .i64 i ∧ i ≤ us.length ∧ RowAt wr br (κ (us.take i)) ∧ W1.grownBy wr none) (fun v _ => us.length - (intOf v).toNat)
  case atStart => exact ⟨0, rfl, by omega, by rw [H0.out]; exact K3.out, G3.out⟩
  case round =>
    clear K3 G3
    obtain ⟨i, rfl, hi, hk, hg⟩ := hrel
    have G : Hid (W1.grownBy wr none) := hg
    have HK : Hid (RowAt wr br (κ (us.take i))) := hk
    obtain ⟨q0, q1, q2, q3, q4, qf⟩ := block_cells5 hk
    obtain ⟨⟨x0, x1, x2, x3⟩, hz⟩ := Bx.out wr hg
    by_cases hlt : i < us.length
    · have hii : (i : Int) < (us.length : Int) := by omega
      obtain ⟨bw, ow, rfl, c1⟩ := HC.out wr i (grown_trans G1.out hg) hlt
      have HT3 : Hid (Calls Tryd.prog 77 #[rowV (κ (us.take i)), detV l S a n cc a' mn cc', .int .i64 ((us.getD i 0 : Nat) : Int)] wr (Says (rowV (κ (us.take (i + 1)))) wr)) := HT.out wr i (grown_trans G1.out hg) hlt
      clear hk hg hz qf
      generalize us.getD i 0 = y at *
      generalize κ (us.take i) = c1v at *
      obtain ⟨c2v, hc2⟩ : ∃ c2v, κ (us.take (i + 1)) = c2v := ⟨_, rfl⟩
      have HC2 : Hid (κ (us.take (i + 1)) = c2v) := hc2
      rw [hc2] at HT3
      clear hc2
      go_wp2_with fail
      refine HT3.out.mono ?_
      rintro E w4 ⟨rfl, hg4⟩
      have hk4 := (hg4.block br (Array.getElem?_eq_some_iff.1 HK.out).1 (by simp)).trans HK.out
      obtain ⟨r0, r1, r2, r3, r4, rf⟩ := block_cells5 hk4
      have f0 := rf 0
      have f1 := rf 1
      have f2 := rf 2
      have f3 := rf 3
      have f4 := rf 4
      obtain ⟨W9, hW9, hg9, hk9⟩ := store5 hk4 (.int .i64 ((dg c2v 0 : Nat) : Int)) (.int .i64 ((dg c2v 1 : Nat) : Int)) (.int .i64 ((dg c2v 2 : Nat) : Int)) (.int .i64 ((dg c2v 3 : Nat) : Int)) (.int .i64 ((dg c2v 4 : Nat) : Int))
      have K9 : Hid (RowAt W9 br c2v) := hk9
      have G9 : Hid (W1.grownBy W9 none) := grown_new (grown_trans G.out hg4) hg9 HBr.out
      rw [hW9] at K9 G9
      clear hg4 hk4 rf hW9 hg9 hk9 q0 q1 q2 q3 q4 x0 x1 x2 x3 c1
      go_wp2_with fail
      go_roundw
      case rel => exact ⟨i + 1, by go_num, by omega, by rw [HC2.out]; exact K9.out, G9.out⟩
      case measure => simp [intOf]; omega
    · have hii : ¬ (i : Int) < (us.length : Int) := by omega
      have hie : i = us.length := by omega
      have HE : Hid (κ (us.take i) = κ us) := by show _ = _; rw [hie, HF.out]
      rw [HE.out] at q0 q1 q2 q3 q4
      obtain ⟨z0, z1, z2, z3, z4, zf⟩ := block_cells5 hz
      have f0 := zf 0
      have f1 := zf 1
      have f2 := zf 2
      have f3 := zf 3
      have f4 := zf 4
      generalize κ us = cf at *
      obtain ⟨W9, hW9, hg9, hk9⟩ := store5 hz (.int .i64 ((dg cf 0 : Nat) : Int)) (.int .i64 ((dg cf 1 : Nat) : Int)) (.int .i64 ((dg cf 2 : Nat) : Int)) (.int .i64 ((dg cf 3 : Nat) : Int)) (.int .i64 ((dg cf 4 : Nat) : Int))
      obtain ⟨p0, p1, p2, p3, p4, _⟩ := block_cells5 hk9
      have G9 : Hid (w.grownBy W9 none) := grown_new (grown_trans G1.out hg) hg9 (by omega)
      clear hk hg hz qf zf hg9 hk9 hie x0 x1 x2 x3 HE HK
      go_wp2_with fail
      rw [← hW9]
      exact bodyPost_ret (v := rowV cf) (by simp [results, Tryd.results46, go_sem, p0, p1, p2, p3, p4]) rfl ⟨rfl, G9.out⟩

set_option maxHeartbeats 1600000 in
set_option maxRecDepth 100000 in
theorem mayBoth_any (n : Int) (a b : Option Addr) (c d : Nat) (zs zt : List Int) (w : World) (h : Ints w a zs) (h2 : Ints w b zt) (hm : zs.length ≤ maxLen) (hm2 : zt.length ≤ maxLen) :
    Calls Tryd.prog 45 #[.int .i64 n, .slice a zs.length c, .slice b zt.length d] w (Says (.int .i64 (if mayF n zs ≠ 0 then mayF n zs else mayF n zt)) w) := by
  have H1 : Hid (Calls Tryd.prog 79 #[.int .i64 n, .slice a zs.length c] w fun e w' => e = .returned (.int .i64 (mayF n zs)) ∧ w' = w) := may_any n a c zs w h hm
  have H2 : Hid (Calls Tryd.prog 79 #[.int .i64 n, .slice b zt.length d] w fun e w' => e = .returned (.int .i64 (mayF n zt)) ∧ w' = w) := may_any n b d zt w h2 hm2
  generalize mayF n zs = y at *
  generalize mayF n zt = y2 at *
  clear h h2 hm hm2
  by_cases hy : y = 0
  · subst hy
    rw [if_neg (by simp)]
    go_enter Tryd.func45, Tryd.ntmps45
    go_wp2_with fail
    refine H1.out.mono ?_
    rintro E w2 ⟨rfl, rfl⟩
    go_wp2_with fail
    refine H2.out.mono ?_
    rintro E w3 ⟨rfl, rfl⟩
    go_wp2_with fail
    go_ret
    exact ⟨rfl, grown_refl _ _⟩
  · have f1 : (y != 0) = true := by simpa using hy
    rw [if_pos hy]
    go_enter Tryd.func45, Tryd.ntmps45
    go_wp2_with fail
    refine H1.out.mono ?_
    rintro E w2 ⟨rfl, rfl⟩
    go_wp2_with fail
    go_ret
    exact ⟨rfl, grown_refl _ _⟩

end Go.Proofs.YtmbbkjpfmmnabaaDoor

namespace Go.Proofs.YtmbbkjpfmmnabaaDoor
open Go.RowKit
set_option linter.unusedVariables false

set_option maxHeartbeats 1600000 in
set_option maxRecDepth 100000 in
theorem small_bad (L S y : Int) (a a' : Option Addr) (n m c c' : Nat) (w : World) (hy : y ≠ 0)
    (HL : Hid (∀ W, w.grownBy W none → Calls Tryd.prog 16 #[detV L S a n c a' m c'] W (LeastBPost y W))) :
    Calls Tryd.prog 41 #[detV L S a n c a' m c'] w (LeastBPost y w) := by
  have f1 : (y != 0) = true := by simpa using hy
  have f2 : (y == 0) = false := by simpa using hy
  obtain ⟨W1, hW1, hs1, g1, k1⟩ := two_boxes w (.cells #[.int .i64 L, .int .i64 S, .slice a n c, .slice a' m c'] 25) #[.int .i64 0, .int .i64 0, .slice none 0 0, .slice none 0 0] 25
  have HW1 : Hid (W1 = _) := hW1
  have HS1 : Hid (W1.heap.size = w.heap.size + 2) := hs1
  have G1 : Hid (w.grownBy W1 none) := g1
  have K1 : Hid (∀ W, W1.grownBy W none → W.heap[w.heap.size + 1]? = some (.cells #[.int .i64 0, .int .i64 0, .slice none 0 0, .slice none 0 0] 25 (0, 0))) := fun W hW => (hW.block _ (by rw [hs1]; omega) (by simp)).trans k1
  have Bd : Hid (∀ W, W1.grownBy W none → W.cell? ⟨w.heap.size, 0, none⟩ = some (.int .i64 L) ∧ W.cell? ⟨w.heap.size, 1, none⟩ = some (.int .i64 S) ∧ W.cell? ⟨w.heap.size, 2, none⟩ = some (.slice a n c) ∧ W.cell? ⟨w.heap.size, 3, none⟩ = some (.slice a' m c')) := fun W hW => box4 (grown_trans (by rw [hW1]; exact grown_alloc _ _) hW)
  clear hW1 hs1 g1 k1
  go_enter Tryd.func41, Tryd.ntmps41
  go_wp2_with fail
  rw [← HW1.out]
  refine (HL.out _ G1.out).mono ?_
  rintro E w2 ⟨rfl, hg2⟩
  have GE : Hid (W1.grownBy (w2.alloc (.cells #[.int .i64 0, .int .i64 0, .slice none 0 0, .slice none 0 0] 25)) none) := grown_trans hg2 (grown_alloc _ _)
  obtain ⟨r0, r1, r2, r3, rz⟩ := block_cells (K1.out _ GE.out)
  have rz0 := rz 0
  have rz1 := rz 1
  have rz2 := rz 2
  have rz3 := rz 3
  obtain ⟨W9, hW9, hg9, q0, q1, q2, q3⟩ := det_store (K1.out _ GE.out) (.int .i64 0) (.int .i64 0) (.slice none 0 0) (.slice none 0 0)
  have G9 : Hid (w.grownBy W9 none) := grown_new (grown_trans G1.out GE.out) hg9 (by omega)
  clear hg2 rz hg9
  go_wp2_with fail
  rw [← hW9]
  exact bodyPost_ret (v := .tuple #[.agg #[.int .i64 0, .int .i64 0, .slice none 0 0, .slice none 0 0], .int .i64 y]) (by simp [results, Tryd.results41, go_sem, q0, q1, q2, q3]) rfl ⟨rfl, G9.out⟩

set_option maxHeartbeats 1600000 in
set_option maxRecDepth 100000 in
theorem small_big (L S : Int) (l : Nat) (a a' : Option Addr) (n m c c' : Nat) (w : World) (δ : Nat → Nat → Nat) (mk : Nat → Bool) (nn s0 N : Nat) (hN : ∀ R M, LeastOf δ mk nn l s0 R M → R.length = N) (h5 : 5 < N) (hn3 : nn ≤ 3000)
    (HL : Hid (∀ W, w.grownBy W none → Calls Tryd.prog 16 #[detV L S a n c a' m c'] W (LeastGPost δ mk nn l s0 W))) :
    Calls Tryd.prog 41 #[detV L S a n c a' m c'] w (LeastBPost 1 w) := by
  obtain ⟨W1, hW1, hs1, g1, k1⟩ := two_boxes w (.cells #[.int .i64 L, .int .i64 S, .slice a n c, .slice a' m c'] 25) #[.int .i64 0, .int .i64 0, .slice none 0 0, .slice none 0 0] 25
  have HW1 : Hid (W1 = _) := hW1
  have HS1 : Hid (W1.heap.size = w.heap.size + 2) := hs1
  have G1 : Hid (w.grownBy W1 none) := g1
  have K1 : Hid (∀ W, W1.grownBy W none → W.heap[w.heap.size + 1]? = some (.cells #[.int .i64 0, .int .i64 0, .slice none 0 0, .slice none 0 0] 25 (0, 0))) := fun W hW => (hW.block _ (by rw [hs1]; omega) (by simp)).trans k1
  have Bd : Hid (∀ W, W1.grownBy W none → W.cell? ⟨w.heap.size, 0, none⟩ = some (.int .i64 L) ∧ W.cell? ⟨w.heap.size, 1, none⟩ = some (.int .i64 S) ∧ W.cell? ⟨w.heap.size, 2, none⟩ = some (.slice a n c) ∧ W.cell? ⟨w.heap.size, 3, none⟩ = some (.slice a' m c')) := fun W hW => box4 (grown_trans (by rw [hW1]; exact grown_alloc _ _) hW)
  clear hW1 hs1 g1 k1
  go_enter Tryd.func41, Tryd.ntmps41
  go_wp2_with fail
  rw [← HW1.out]
  refine (HL.out _ G1.out).mono ?_
  rintro E w2 ⟨v, rfl, aR, cR, aM, cM, rs, M9, hv, hlo, hrn, hml, hrl, ho, hg2⟩
  cases hv
  have hlen := hN _ _ hlo
  rw [List.length_map] at hlen
  have hi : (5 : Int) < (rs.length : Int) := by omega
  have GE : Hid (W1.grownBy (w2.alloc (.cells #[.int .i64 l, .int .i64 0, .slice aR rs.length cR, .slice aM M9.length cM] 25)) none) := grown_trans hg2 (grown_alloc _ _)
  obtain ⟨r0, r1, r2, r3, rz⟩ := block_cells (K1.out _ GE.out)
  have rz0 := rz 0
  have rz1 := rz 1
  have rz2 := rz 2
  have rz3 := rz 3
  obtain ⟨W9, hW9, hg9, q0, q1, q2, q3⟩ := det_store (K1.out _ GE.out) (.int .i64 0) (.int .i64 0) (.slice none 0 0) (.slice none 0 0)
  have G9 : Hid (w.grownBy W9 none) := grown_new (grown_trans G1.out GE.out) hg9 (by omega)
  clear hg2 rz hg9 hlen hlo hrn hml hrl ho
  generalize rs.length = nr at *
  generalize M9.length = nm at *
  go_wp2_with fail
  rw [← hW9]
  exact bodyPost_ret (v := .tuple #[.agg #[.int .i64 0, .int .i64 0, .slice none 0 0, .slice none 0 0], .int .i64 1]) (by simp [results, Tryd.results41, go_sem, q0, q1, q2, q3]) rfl ⟨rfl, G9.out⟩

set_option maxHeartbeats 1600000 in
set_option maxRecDepth 100000 in
theorem small_ok (L S : Int) (l : Nat) (a a' : Option Addr) (n m c c' : Nat) (w : World) (δ : Nat → Nat → Nat) (mk : Nat → Bool) (nn s0 N : Nat) (hN : ∀ R M, LeastOf δ mk nn l s0 R M → R.length = N) (h5 : N ≤ 5)
    (HL : Hid (∀ W, w.grownBy W none → Calls Tryd.prog 16 #[detV L S a n c a' m c'] W (LeastGPost δ mk nn l s0 W))) :
    Calls Tryd.prog 41 #[detV L S a n c a' m c'] w (LeastGPost δ mk nn l s0 w) := by
  obtain ⟨W1, hW1, hs1, g1, k1⟩ := two_boxes w (.cells #[.int .i64 L, .int .i64 S, .slice a n c, .slice a' m c'] 25) #[.int .i64 0, .int .i64 0, .slice none 0 0, .slice none 0 0] 25
  have HW1 : Hid (W1 = _) := hW1
  have HS1 : Hid (W1.heap.size = w.heap.size + 2) := hs1
  have G1 : Hid (w.grownBy W1 none) := g1
  have K1 : Hid (∀ W, W1.grownBy W none → W.heap[w.heap.size + 1]? = some (.cells #[.int .i64 0, .int .i64 0, .slice none 0 0, .slice none 0 0] 25 (0, 0))) := fun W hW => (hW.block _ (by rw [hs1]; omega) (by simp)).trans k1
  have Bd : Hid (∀ W, W1.grownBy W none → W.cell? ⟨w.heap.size, 0, none⟩ = some (.int .i64 L) ∧ W.cell? ⟨w.heap.size, 1, none⟩ = some (.int .i64 S) ∧ W.cell? ⟨w.heap.size, 2, none⟩ = some (.slice a n c) ∧ W.cell? ⟨w.heap.size, 3, none⟩ = some (.slice a' m c')) := fun W hW => box4 (grown_trans (by rw [hW1]; exact grown_alloc _ _) hW)
  clear hW1 hs1 g1 k1
  go_enter Tryd.func41, Tryd.ntmps41
  go_wp2_with fail
  rw [← HW1.out]
  refine (HL.out _ G1.out).mono ?_
  rintro E w2 ⟨v, rfl, aR, cR, aM, cM, rs, M9, hv, hlo, hrn, hml, hrl, ho, hg2⟩
  cases hv
  have hlen := hN _ _ hlo
  rw [List.length_map] at hlen
  have hi : ¬ (5 : Int) < (rs.length : Int) := by omega
  have GE : Hid (W1.grownBy (w2.alloc (.cells #[.int .i64 l, .int .i64 0, .slice aR rs.length cR, .slice aM M9.length cM] 25)) none) := grown_trans hg2 (grown_alloc _ _)
  obtain ⟨r0, r1, r2, r3, rz⟩ := block_cells (K1.out _ GE.out)
  have rz0 := rz 0
  have rz1 := rz 1
  have rz2 := rz 2
  have rz3 := rz 3
  obtain ⟨W9, hW9, hg9, q0, q1, q2, q3⟩ := det_store (K1.out _ GE.out) (.int .i64 l) (.int .i64 0) (.slice aR rs.length cR) (.slice aM M9.length cM)
  have G9 : Hid (w.grownBy W9 none) := grown_new (grown_trans G1.out GE.out) hg9 (by omega)
  have Fin : Hid (LeastPost δ mk nn l s0 w (.returned (.agg #[.int .i64 l, .int .i64 0, .slice aR rs.length cR, .slice aM M9.length cM])) W9) :=
    ⟨aR, cR, aM, cM, rs, M9, rfl, hlo, hrn, hml, hrl, ((ho.kept (grown_alloc _ _)).below hg9 (by rw [HS1.out]; omega)).base (by rw [HS1.out]; omega), G9.out⟩
  clear hg2 rz hg9 hlen hlo hrn hml hrl ho
  generalize rs.length = nr at *
  generalize M9.length = nm at *
  go_wp2_with fail
  rw [← hW9]
  exact bodyPost_ret (v := .tuple #[.agg #[.int .i64 l, .int .i64 0, .slice aR nr cR, .slice aM nm cM], .int .i64 0]) (by simp [results, Tryd.results41, go_sem, q0, q1, q2, q3]) rfl ⟨_, rfl, Fin.out⟩

end Go.Proofs.YtmbbkjpfmmnabaaDoor

namespace Go.Proofs.YtmbbkjpfmmnabaaDoor
open Go.RowKit
set_option linter.unusedVariables false

/-- Two rows in two new boxes. -/
def BoxUV (w : World) (cu cv : Nat) (v v' : Value) (w' : World) : Prop := ∃ bu bv, v = .pointer (some ⟨bu, 0, none⟩) ∧ v' = .pointer (some ⟨bv, 0, none⟩) ∧ w.heap.size ≤ bu ∧ w.heap.size ≤ bv ∧ bu ≠ bv ∧ RowAt w' bu cu ∧ RowAt w' bv cv ∧ w.grownBy w' none
theorem cell_same {P W : World} (hg : P.grownBy W none) : ∀ b off, b < P.heap.size → W.cell? ⟨b, off, none⟩ = P.cell? ⟨b, off, none⟩ := fun b off hb => by
  have h1 := hg.block b hb (by simp)
  simp only [World.cell?, h1]
theorem frozen_same {P W : World} (hg : P.grownBy W none) : ∀ b off, b < P.heap.size → W.frozen? ⟨b, off, none⟩ = P.frozen? ⟨b, off, none⟩ := fun b off hb => by
  have h1 := hg.block b hb (by simp)
  simp only [World.frozen?, h1]


/-- What stays while both are done: nothing old turned, the automaton's box. -/
abbrev KeepA (P W : World) (b0 : Nat) (v0 v1 v2 v3 : Value) : Prop :=
  P.grownBy W none ∧ b0 < P.heap.size ∧ P.heap.size ≤ W.heap.size ∧ W.cell? ⟨b0, 0, none⟩ = some v0 ∧ W.cell? ⟨b0, 1, none⟩ = some v1 ∧ W.cell? ⟨b0, 2, none⟩ = some v2 ∧ W.cell? ⟨b0, 3, none⟩ = some v3
section
variable {P W W' : World} {b0 : Nat} {v0 v1 v2 v3 : Value}
theorem KeepA.next (h : KeepA P W b0 v0 v1 v2 v3) (hg : P.grownBy W' none) : KeepA P W' b0 v0 v1 v2 v3 := by
  obtain ⟨hp, hlt, hs, c0, c1, c2, c3⟩ := h
  have e1 := cell_same hp
  have e2 := cell_same hg
  exact ⟨hg, hlt, hg.size, by rw [e2 _ _ hlt, ← e1 _ _ hlt, c0], by rw [e2 _ _ hlt, ← e1 _ _ hlt, c1], by rw [e2 _ _ hlt, ← e1 _ _ hlt, c2], by rw [e2 _ _ hlt, ← e1 _ _ hlt, c3]⟩
theorem KeepA.gr (h : KeepA P W b0 v0 v1 v2 v3) : P.grownBy W none := h.1
theorem KeepA.drew (h : KeepA P W b0 v0 v1 v2 v3) : KeepA P W.drew b0 v0 v1 v2 v3 := h.next (grown_drew h.1)
theorem KeepA.call (h : KeepA P W b0 v0 v1 v2 v3) (hg : W.grownBy W' none) : KeepA P W' b0 v0 v1 v2 v3 := h.next (grown_trans h.1 hg)
theorem KeepA.alloc (h : KeepA P W b0 v0 v1 v2 v3) (o : Obj) : KeepA P (W.alloc o) b0 v0 v1 v2 v3 := h.call (grown_alloc _ _)
theorem KeepA.set (h : KeepA P W b0 v0 v1 v2 v3) {b o : Nat} (hb : P.heap.size ≤ b) (u : Value) : KeepA P (W.setCell ⟨b, o, none⟩ u) b0 v0 v1 v2 v3 := h.next (grown_new h.1 (grown_set W ⟨b, o, none⟩ u) hb)
end
/-- A box of five zeros. -/
def Zer (W : World) (b : Nat) : Prop := W.heap[b]? = some (.cells #[.int .i64 0, .int .i64 0, .int .i64 0, .int .i64 0, .int .i64 0] 86 (0, 0))
abbrev zeroO : Obj := .cells #[.int .i64 0, .int .i64 0, .int .i64 0, .int .i64 0, .int .i64 0] 86
section
variable {Q W : World} {b : Nat}
theorem Zer.nw (Q : World) : Zer (Q.alloc zeroO) Q.heap.size := heap_alloc_new Q _
theorem Zer.lt (h : Zer W b) : b < W.heap.size := (Array.getElem?_eq_some_iff.1 h).1
theorem Zer.thru (h : Zer Q b) (hg : Q.grownBy W none) : Zer W b := (hg.block b h.lt (by simp)).trans h
theorem Zer.al (h : Zer Q b) (o : Obj) : Zer (Q.alloc o) b := h.thru (grown_alloc _ _)
theorem Zer.nw2 (Q : World) (o : Obj) : Zer ((Q.alloc o).alloc zeroO) (Q.heap.size + 1) := by have := Zer.nw (Q.alloc o); simpa using this
theorem Zer.c1 (hg : (Q.alloc zeroO).grownBy W none) : Zer W Q.heap.size := (Zer.nw Q).thru hg
theorem Zer.c2a (hg : ((Q.alloc zeroO).alloc zeroO).grownBy W none) : Zer W Q.heap.size := ((Zer.nw Q).al _).thru hg
theorem Zer.c2b (hg : ((Q.alloc zeroO).alloc zeroO).grownBy W none) : Zer W (Q.heap.size + 1) := (Zer.nw2 Q _).thru hg
theorem Zer.dr (h : Zer Q b) : Zer Q.drew b := h
theorem Zer.d1 (hg : (Q.alloc zeroO).drew.grownBy W none) : Zer W Q.heap.size := (Zer.nw Q).dr.thru hg
theorem Zer.d2a (hg : ((Q.alloc zeroO).alloc zeroO).drew.grownBy W none) : Zer W Q.heap.size := ((Zer.nw Q).al _).dr.thru hg
theorem Zer.d2b (hg : ((Q.alloc zeroO).alloc zeroO).drew.grownBy W none) : Zer W (Q.heap.size + 1) := (Zer.nw2 Q _).dr.thru hg
theorem Zer.o0 (h : Zer Q b) (hg : Q.grownBy W none) : Zer W b := h.thru hg
theorem Zer.o1 {o : Obj} (h : Zer Q b) (hg : (Q.alloc o).grownBy W none) : Zer W b := (h.al _).thru hg
theorem Zer.cells (h : Zer W b) : W.cell? ⟨b, 0, none⟩ = some (.int .i64 0) ∧ W.cell? ⟨b, 1, none⟩ = some (.int .i64 0) ∧ W.cell? ⟨b, 2, none⟩ = some (.int .i64 0) ∧ W.cell? ⟨b, 3, none⟩ = some (.int .i64 0) ∧ W.cell? ⟨b, 4, none⟩ = some (.int .i64 0) ∧ W.frozen? ⟨b, 0, none⟩ = false ∧ W.frozen? ⟨b, 1, none⟩ = false ∧ W.frozen? ⟨b, 2, none⟩ = false ∧ W.frozen? ⟨b, 3, none⟩ = false ∧ W.frozen? ⟨b, 4, none⟩ = false := by
  obtain ⟨z0, z1, z2, z3, z4, zf⟩ := block_cells5 h
  exact ⟨z0, z1, z2, z3, z4, zf 0, zf 1, zf 2, zf 3, zf 4⟩
end
abbrev set5 (W : World) (b c : Nat) : World := ((((W.setCell ⟨b, 0, none⟩ (.int .i64 ((dg c 0 : Nat) : Int))).setCell ⟨b, 1, none⟩ (.int .i64 ((dg c 1 : Nat) : Int))).setCell ⟨b, 2, none⟩ (.int .i64 ((dg c 2 : Nat) : Int))).setCell ⟨b, 3, none⟩ (.int .i64 ((dg c 3 : Nat) : Int))).setCell ⟨b, 4, none⟩ (.int .i64 ((dg c 4 : Nat) : Int))
abbrev rowO (c : Nat) : Obj := .cells #[.int .i64 ((dg c 0 : Nat) : Int), .int .i64 ((dg c 1 : Nat) : Int), .int .i64 ((dg c 2 : Nat) : Int), .int .i64 ((dg c 3 : Nat) : Int), .int .i64 ((dg c 4 : Nat) : Int)] 86
section
variable {W : World} {b b' c c' : Nat}
theorem RowAt.nw (W : World) (c : Nat) : RowAt (W.alloc (rowO c)) W.heap.size c := heap_alloc_new W _
theorem RowAt.nw2 (W : World) (c : Nat) (o : Obj) : RowAt ((W.alloc o).alloc (rowO c)) (W.heap.size + 1) c := by have := RowAt.nw (W.alloc o) c; simpa using this
theorem RowAt.lt (h : RowAt W b c) : b < W.heap.size := (Array.getElem?_eq_some_iff.1 h).1
theorem RowAt.al (h : RowAt W b c) (o : Obj) : RowAt (W.alloc o) b c := ((grown_alloc W o).block b h.lt (by simp)).trans h
theorem set5_grown (W : World) (b c : Nat) : W.grownBy (set5 W b c) (some b) := grown_set2 (grown_set2 (grown_set2 (grown_set2 (grown_set W ⟨b, 0, none⟩ _) 1 _) 2 _) 3 _) 4 _
theorem Zer.row (h : Zer W b) (c : Nat) : RowAt (set5 W b c) b c := by
  obtain ⟨W1, e1, g1, k1⟩ := store5 h (.int .i64 ((dg c 0 : Nat) : Int)) (.int .i64 ((dg c 1 : Nat) : Int)) (.int .i64 ((dg c 2 : Nat) : Int)) (.int .i64 ((dg c 3 : Nat) : Int)) (.int .i64 ((dg c 4 : Nat) : Int))
  rw [e1] at k1
  exact k1
theorem RowAt.nwS (W : World) (c b' c' : Nat) : RowAt ((set5 W b' c').alloc (rowO c)) W.heap.size c := by have := RowAt.nw (set5 W b' c') c; simpa using this
theorem Zer.skip (h : Zer W b) (hne : b ≠ b') (c' : Nat) : Zer (set5 W b' c') b := ((set5_grown W b' c').block b h.lt (by simp; omega)).trans h
theorem RowAt.skip (h : RowAt W b c) (hne : b ≠ b') (c' : Nat) : RowAt (set5 W b' c') b c := ((set5_grown W b' c').block b h.lt (by simp; omega)).trans h
end

set_option maxRecDepth 100000 in
theorem eqRow {cu cv : Nat} (hu : cu < 3125) (hv : cv < 3125) (w : World) : (Op.equalIn 10000 86 (rowV cu) (rowV cv)).run Tryd.prog w = .ok (decide (cu = cv)) w := by
  obtain ⟨r, hr, hi⟩ := run_equal_deep w (m := 2) (by omega) (k := 86) (P := Tryd.prog) (by kernel_rfl) Tryd.wide5 (klit_key cu) (klit_key cv)
  have e : r = decide (cu = cv) := by
    rw [Bool.eq_iff_iff, hi, decide_eq_true_iff]
    exact ⟨fun h => klit_inj hu hv h, fun h => by rw [h]⟩
  rw [← e]
  exact hr
/-- Two boxes of one number each. -/
theorem two_ints (w : World) : ∃ W, W = (w.alloc (.cells #[.int .i64 0] 3)).alloc (.cells #[.int .i64 0] 3) ∧ w.grownBy W none ∧ W.heap.size = w.heap.size + 1 + 1 ∧ W.heap[w.heap.size]? = some (.cells #[.int .i64 0] 3 (0, 0)) ∧ W.heap[w.heap.size + 1]? = some (.cells #[.int .i64 0] 3 (0, 0)) := by
  refine ⟨_, rfl, grown_trans (grown_alloc _ _) (grown_alloc _ _), by simp, ?_, ?_⟩
  · exact ((grown_alloc _ _).block _ (by simp) (by simp)).trans (heap_alloc_new w _)
  · have := heap_alloc_new (w.alloc (.cells #[.int .i64 0] 3)) (.cells #[.int .i64 0] 3)
    simpa using this

end Go.Proofs.YtmbbkjpfmmnabaaDoor

namespace Go.Proofs.YtmbbkjpfmmnabaaDoor
open Go.RowKit
set_option linter.unusedVariables false

theorem row_cell {W : World} {b c s : Nat} (h : RowAt W b c) (hs : s < 5) : W.cell? ⟨b, s, none⟩ = some (.int .i64 ((dg c s : Nat) : Int)) := by
  obtain ⟨h0, h1, h2, h3, h4, _⟩ := block_cells5 h
  rcases five hs with rfl | rfl | rfl | rfl | rfl <;> assumption
theorem rowBox (w : World) (c : Nat) : ∃ W, W = w.alloc (.cells #[.int .i64 ((dg c 0 : Nat) : Int), .int .i64 ((dg c 1 : Nat) : Int), .int .i64 ((dg c 2 : Nat) : Int), .int .i64 ((dg c 3 : Nat) : Int), .int .i64 ((dg c 4 : Nat) : Int)] 86) ∧ w.grownBy W none ∧ ∀ W', W.grownBy W' none → ∀ s, s < 5 → W'.cell? ⟨w.heap.size, s, none⟩ = some (.int .i64 ((dg c s : Nat) : Int)) :=
  ⟨_, rfl, grown_alloc _ _, fun W' h s hs => row_cell ((h.block _ (by simp) (by simp)).trans (heap_alloc_new w _)) hs⟩
/-- Where a word's deed leads to from where the last row leads to from 0. -/
def lastP (cu : Nat) (seen : List Nat) : Nat := match seen.getLast? with | some c => dg cu (dg c 0) | none => 0
theorem lastP_snoc (cu : Nat) (seen : List Nat) (c : Nat) : lastP cu (seen ++ [c]) = dg cu (dg c 0) := by unfold lastP; simp
def Pq (cu cv bp bq : Nat) (seen : List Nat) (W : World) (S : Nat → Prop) : Prop :=
  W.heap[bp]? = some (.cells #[.int .i64 ((lastP cu seen : Nat) : Int)] 3 (0, 0)) ∧ W.heap[bq]? = some (.cells #[.int .i64 ((lastP cv seen : Nat) : Int)] 3 (0, 0)) ∧ S = fun x => x = bp ∨ x = bq
theorem pq_stable (cu cv bp bq : Nat) (w0 : World) (S0 : Nat → Prop) : Stable w0 S0 (Pq cu cv bp bq) := by
  rintro seen W W' S ⟨h1, h2, rfl⟩ hb _
  exact ⟨(hb bp (.inl rfl)).trans h1, (hb bq (.inr rfl)).trans h2, rfl⟩
/-- Whether they part there. -/
def parts (cu cv c : Nat) : Bool := decide (dg cu (dg c 0) ≠ dg cv (dg c 0))

set_option maxHeartbeats 1600000 in
set_option maxRecDepth 100000 in
theorem lookA_any (cu cv bl bu bv bp bq c : Nat) (seen : List Nat) (W : World) (S : Nat → Prop) (hJ : Pq cu cv bp bq seen W S) (hpq : bp ≠ bq) (hbl : W.cell? ⟨bl, 1, none⟩ = some (.int .i64 0)) (hu : RowAt W bu cu) (hv : RowAt W bv cv) :
    Calls Tryd.prog 47 #[rowV c, .pointer (some ⟨bl, 0, none⟩), .pointer (some ⟨bu, 0, none⟩), .pointer (some ⟨bv, 0, none⟩), .pointer (some ⟨bp, 0, none⟩), .pointer (some ⟨bq, 0, none⟩)] W (LookPost (Pq cu cv bp bq) seen c S (parts cu cv) W) := by
  obtain ⟨hp, hq, rfl⟩ := hJ
  obtain ⟨W1, hW1, g1, hc1⟩ := rowBox W c
  have hpl : bp < W.heap.size := (Array.getElem?_eq_some_iff.1 hp).1
  have hql : bq < W.heap.size := (Array.getElem?_eq_some_iff.1 hq).1
  have hsz1 := g1.size
  have x0 := hc1 W1 (grown_refl _ _) 0 (by omega)
  have xl := g1.cell hbl (by simp)
  have hs5 := dg_lt c 0
  have hs5i : (dg c 0 : Int) < 5 := by omega
  have ru := row_cell hu hs5
  have rv := row_cell hv hs5
  have xu := g1.cell ru (by simp)
  have xv := g1.cell rv (by simp)
  have kp := (g1.block bp hpl (by simp)).trans hp
  have kq := (g1.block bq hql (by simp)).trans hq
  have cp : W1.cell? ⟨bp, 0, none⟩ = some (.int .i64 ((lastP cu seen : Nat) : Int)) := by rw [cell_of_row _ _ _ _ _ (0, 0) kp]; rfl
  have cq : W1.cell? ⟨bq, 0, none⟩ = some (.int .i64 ((lastP cv seen : Nat) : Int)) := by rw [cell_of_row _ _ _ _ _ (0, 0) kq]; rfl
  have fp := frozen_of_row W1 bp 0 _ _ kp
  have fq := frozen_of_row W1 bq 0 _ _ kq
  have k9 : ((W1.setCell ⟨bp, 0, none⟩ (.int .i64 ((dg cu (dg c 0) : Nat) : Int))).setCell ⟨bq, 0, none⟩ (.int .i64 ((dg cv (dg c 0) : Nat) : Int))).heap[bp]? = some (.cells #[.int .i64 ((dg cu (dg c 0) : Nat) : Int)] 3 (0, 0)) ∧ ((W1.setCell ⟨bp, 0, none⟩ (.int .i64 ((dg cu (dg c 0) : Nat) : Int))).setCell ⟨bq, 0, none⟩ (.int .i64 ((dg cv (dg c 0) : Nat) : Int))).heap[bq]? = some (.cells #[.int .i64 ((dg cv (dg c 0) : Nat) : Int)] 3 (0, 0)) := by
    have h1 : (W1.setCell ⟨bp, 0, none⟩ (.int .i64 ((dg cu (dg c 0) : Nat) : Int))).heap[bp]? = some (.cells #[.int .i64 ((dg cu (dg c 0) : Nat) : Int)] 3 (0, 0)) := by rw [heap_setCell_same W1 _ 0 _ _ _ kp]; rfl
    have h2 : (W1.setCell ⟨bp, 0, none⟩ (.int .i64 ((dg cu (dg c 0) : Nat) : Int))).heap[bq]? = some (.cells #[.int .i64 ((lastP cv seen : Nat) : Int)] 3 (0, 0)) := ((grown_set W1 ⟨bp, 0, none⟩ _).block bq (by omega) (by simpa using Ne.symm hpq)).trans kq
    refine ⟨((grown_set _ ⟨bq, 0, none⟩ _).block bp (by rw [size_set]; omega) (by simpa using hpq)).trans h1, ?_⟩
    rw [heap_setCell_same _ _ 0 _ _ _ h2]; rfl
  have t9 : Turn (fun x => x = bp ∨ x = bq) W ((W1.setCell ⟨bp, 0, none⟩ (.int .i64 ((dg cu (dg c 0) : Nat) : Int))).setCell ⟨bq, 0, none⟩ (.int .i64 ((dg cv (dg c 0) : Nat) : Int))).drew := (((Turn.of g1).step (grown_set _ _ _) (.inl (.inl rfl))).step (grown_set _ _ _) (.inl (.inr rfl))).grow (grown_drew (grown_refl _ _))
  have Fin : Hid (LookPost (Pq cu cv bp bq) seen c (fun x => x = bp ∨ x = bq) (parts cu cv) W (.returned (.bool (parts cu cv c))) ((W1.setCell ⟨bp, 0, none⟩ (.int .i64 ((dg cu (dg c 0) : Nat) : Int))).setCell ⟨bq, 0, none⟩ (.int .i64 ((dg cv (dg c 0) : Nat) : Int))).drew) := by
    refine ⟨rfl, fun x => x = bp ∨ x = bq, ⟨by rw [lastP_snoc]; exact k9.1, by rw [lastP_snoc]; exact k9.2, rfl⟩, t9, fun x hx => .inl hx, fun x hx => ?_⟩
    have := t9.size
    rcases hx with rfl | rfl <;> omega
  have y1 : ((W1.setCell ⟨bp, 0, none⟩ (.int .i64 ((dg cu (dg c 0) : Nat) : Int))).setCell ⟨bq, 0, none⟩ (.int .i64 ((dg cv (dg c 0) : Nat) : Int))).cell? ⟨bp, 0, none⟩ = some (.int .i64 ((dg cu (dg c 0) : Nat) : Int)) := by rw [cell_of_row _ _ _ _ _ (0, 0) k9.1]; rfl
  have y2 : ((W1.setCell ⟨bp, 0, none⟩ (.int .i64 ((dg cu (dg c 0) : Nat) : Int))).setCell ⟨bq, 0, none⟩ (.int .i64 ((dg cv (dg c 0) : Nat) : Int))).cell? ⟨bq, 0, none⟩ = some (.int .i64 ((dg cv (dg c 0) : Nat) : Int)) := by rw [cell_of_row _ _ _ _ _ (0, 0) k9.2]; rfl
  have z2 : (W1.setCell ⟨bp, 0, none⟩ (.int .i64 ((dg cu (dg c 0) : Nat) : Int))).cell? ⟨bq, 0, none⟩ = some (.int .i64 ((lastP cv seen : Nat) : Int)) := (grown_set W1 ⟨bp, 0, none⟩ _).cell cq (by simpa using Ne.symm hpq)
  have z3 : (W1.setCell ⟨bp, 0, none⟩ (.int .i64 ((dg cu (dg c 0) : Nat) : Int))).frozen? ⟨bq, 0, none⟩ = false := by
    have h2 : (W1.setCell ⟨bp, 0, none⟩ (.int .i64 ((dg cu (dg c 0) : Nat) : Int))).heap[bq]? = some (.cells #[.int .i64 ((lastP cv seen : Nat) : Int)] 3 (0, 0)) := ((grown_set W1 ⟨bp, 0, none⟩ _).block bq (by have := g1.size; omega) (by simpa using Ne.symm hpq)).trans kq
    exact frozen_of_row _ bq 0 _ _ h2
  have nvp : bv ≠ bp := fun e => by
    have h1 : W.heap[bv]? = _ := hv
    rw [e, hp] at h1
    simp at h1
  have xv2 : (W1.setCell ⟨bp, 0, none⟩ (.int .i64 ((dg cu (dg c 0) : Nat) : Int))).cell? ⟨bv, dg c 0, none⟩ = some (.int .i64 ((dg cv (dg c 0) : Nat) : Int)) := (grown_set W1 ⟨bp, 0, none⟩ _).cell xv (by simpa using nvp)
  have HV : Hid (parts cu cv c = decide (dg cu (dg c 0) ≠ dg cv (dg c 0))) := rfl
  have HW1 : Hid (W1 = _) := hW1
  have x0' := x0
  have xl' := xl
  rw [hW1] at x0' xl'
  have hb1 := dg_lt cu (dg c 0)
  have hb2 := dg_lt cv (dg c 0)
  clear hp hq hu hv hbl hW1 hc1 g1 ru rv kp kq k9 t9
  generalize dg cu (dg c 0) = P at *
  generalize dg cv (dg c 0) = Q at *
  by_cases he : P = Q
  · have f1 : ((P : Int) != (Q : Int)) = false := by simp; omega
    rw [HV.out, decide_eq_false (by simpa using he)] at Fin
    have HVf : Hid (parts cu cv c = false) := by show _ = _; rw [HV.out]; exact decide_eq_false (by simpa using he)
    clear he
    go_enter Tryd.func47, Tryd.ntmps47
    go_wp2_with fail
    rw [← HW1.out]
    go_region
    all_goals
      go_wp2_with fail
      go_ret
      exact ⟨by rw [HVf.out]; rfl, Fin.out.2⟩
  · have f1 : ((P : Int) != (Q : Int)) = true := by simp; omega
    rw [HV.out, decide_eq_true (by simpa using he)] at Fin
    have HVf : Hid (parts cu cv c = true) := by show _ = _; rw [HV.out]; exact decide_eq_true (by simpa using he)
    clear he
    go_enter Tryd.func47, Tryd.ntmps47
    go_wp2_with fail
    rw [← HW1.out]
    go_region
    all_goals
      go_wp2_with fail
      go_ret
      exact ⟨by rw [HVf.out]; rfl, Fin.out.2⟩

end Go.Proofs.YtmbbkjpfmmnabaaDoor

namespace Go.Proofs.YtmbbkjpfmmnabaaDoor
open Go.RowKit
set_option linter.unusedVariables false

theorem alike_found {δ : Nat → Nat → Nat} {n l k : Nat} {us vs : List Nat} (hn : n ≤ 5) (hn1 : 1 ≤ n) (hδ : ∀ s a, s < n → a < l → δ s a < n) (hus : ∀ x, x ∈ us → x < l) (hvs : ∀ x, x ∈ vs → x < l) (hr : ∀ s, s < n → ∃ z : List Nat, (∀ b, b ∈ z → b < l) ∧ z.foldl δ 0 = s)
    (hend : EndW (deed δ n) l k) (hno : ∀ u, u ∈ bfsW (deed δ n) l k → parts (deed δ n us) (deed δ n vs) (deed δ n u) = false) : deed δ n us = deed δ n vs := by
  have fu := deed_facts hn hδ us hus
  have fv := deed_facts hn hδ vs hvs
  refine dg_inj fu.1 fv.1 fun s hs => ?_
  by_cases h : s < n
  · obtain ⟨z, hz, e⟩ := hr s h
    have hm := bfsW_all (κ := deed δ n) (fun u v a e => by rw [deed_snoc, deed_snoc, e]) hend z hz
    obtain ⟨u, hu, eu⟩ := List.mem_map.1 hm
    have h1 := hno u hu
    rw [eu] at h1
    unfold parts at h1
    have h2 : dg (deed δ n z) 0 = s := by rw [((deed_facts hn hδ z hz).2.1 0 (by omega)).1, e]
    rw [h2] at h1
    simpa using h1
  · rw [fu.2.2 s (by omega) hs, fv.2.2 s (by omega) hs]

end Go.Proofs.YtmbbkjpfmmnabaaDoor
