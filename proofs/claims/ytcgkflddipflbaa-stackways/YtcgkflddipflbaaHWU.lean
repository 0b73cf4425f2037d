/- What is answered of a least automaton, with an error beside it; two boxes. -/
/- det.Made: what is not right is refused; the least automaton of sets. -/
import Derived.Test.YtcgkflddipflbaaHLs
import Derived.Test.YtcgkflddipflbaaJoins
import Derived.Test.YtcgkflddipflbaaUCl
import Derived.Test.YtcgkflddipflbaaLReach
namespace Go.Proofs.Ytcgkflddipflbaa
open Go.RowKit
set_option linter.unusedVariables false

theorem LeastPost.base {δ : Nat → Nat → Nat} {m : Nat → Bool} {n l S : Nat} {w W w' : World} {E : Ending} (h : LeastPost δ m n l S W E w') (hg : w.grownBy W none) : LeastPost δ m n l S w E w' := by
  obtain ⟨aR, cR, aM, cM, rs, M, h1, h2, h3, h4, h5, h6, h7⟩ := h
  exact ⟨aR, cR, aM, cM, rs, M, h1, h2, h3, h4, h5, h6.base hg.size, grown_trans hg h7⟩

def LeastGPost (δ : Nat → Nat → Nat) (m : Nat → Bool) (n l S : Nat) (w : World) (E : Ending) (w' : World) : Prop :=
  ∃ v, E = .returned (.tuple #[v, .int .i64 0]) ∧ LeastPost δ m n l S w (.returned v) w'
def LeastBPost (y : Int) (w : World) (E : Ending) (w' : World) : Prop :=
  E = .returned (.tuple #[.agg #[.int .i64 0, .int .i64 0, .slice none 0 0, .slice none 0 0], .int .i64 y]) ∧ w.grownBy w' none

/-- The box of what came in, and that of what goes out. -/
theorem two_boxes (w : World) (o : Obj) (o' : Array Value) (t : TypeId) : ∃ W1, W1 = (w.alloc o).alloc (.cells o' t) ∧ W1.heap.size = w.heap.size + 2 ∧ w.grownBy W1 none ∧ W1.heap[w.heap.size + 1]? = some (.cells o' t (0, 0)) :=
  ⟨_, rfl, by simp, grown_trans (grown_alloc _ _) (grown_alloc _ _), by have := heap_alloc_new (w.alloc o) (.cells o' t); simpa using this⟩

end Go.Proofs.Ytcgkflddipflbaa

namespace Go.Proofs.Ytcgkflddipflbaa
open Go.RowKit
set_option linter.unusedVariables false

/-- What is wrong with an automaton that is to be made to know its way. -/
def madeF (x : Aut) : Int := if checkA x = 0 then (if 8 < x.N then 1 else 0) else checkA x

set_option maxHeartbeats 1600000 in
set_option maxRecDepth 100000 in
theorem madeE_bad (x : Aut) (a b e : Option Addr) (c d f : Nat) (w : World) (h : AutAt w x a b e) (hb : madeF x ≠ 0) :
    Calls Try.prog 34 #[autV x.L x.N a x.S.length c b x.T.length d e x.F.length f] w (Says (.tuple #[detV 0 0 none 0 0 none 0 0, .int .i64 (madeF x)]) w) := by
  have HC : Hid (∀ W, w.grownBy W none → Calls Try.prog 41 #[autV x.L x.N a x.S.length c b x.T.length d e x.F.length f] W (Says (.int .i64 (checkA x)) W)) := fun W hW => checkB_any x a b e c d f W (h.grown hW)
  obtain ⟨y, hy⟩ : ∃ y, checkA x = y := ⟨_, rfl⟩
  have hmf : madeF x = if y = 0 then (if 8 < x.N then 1 else 0) else y := by unfold madeF; rw [hy]
  rw [hy] at HC
  obtain ⟨z, hz⟩ : ∃ z, madeF x = z := ⟨_, rfl⟩
  rw [hz] at hb hmf ⊢
  obtain ⟨W1, hW1, hs1, g1, k1⟩ := two_boxes w (.cells #[.int .i64 x.L, .int .i64 x.N, .slice a x.S.length c, .slice b x.T.length d, .slice e x.F.length f] 75) #[.int .i64 0, .int .i64 0, .slice none 0 0, .slice none 0 0] 36
  have HW1 : Hid (W1 = _) := hW1
  have HS1 : Hid (W1.heap.size = w.heap.size + 2) := hs1
  have G1 : Hid (w.grownBy W1 none) := g1
  have K1 : Hid _ := k1
  have Bx : Hid (∀ W, W1.grownBy W none → W.cell? ⟨w.heap.size, 0, none⟩ = some (.int .i64 x.L) ∧ W.cell? ⟨w.heap.size, 1, none⟩ = some (.int .i64 x.N) ∧ W.cell? ⟨w.heap.size, 2, none⟩ = some (.slice a x.S.length c) ∧ W.cell? ⟨w.heap.size, 3, none⟩ = some (.slice b x.T.length d) ∧ W.cell? ⟨w.heap.size, 4, none⟩ = some (.slice e x.F.length f)) := fun W hW => box5 (w := w) (grown_trans (grown_alloc _ _) (hW1 ▸ hW))
  clear hy h hW1 hs1 g1 k1 hz
  obtain ⟨L, N, S, T, F⟩ := x
  simp only at *
  generalize S.length = nS at *
  generalize T.length = nT at *
  generalize F.length = nF at *
  by_cases hy0 : y = 0
  · subst hy0
    rw [if_pos rfl] at hmf
    have h8 : 8 < N := by
      rcases Int.lt_or_le 8 N with h | h
      · exact h
      · rw [if_neg (by omega)] at hmf; exact absurd hmf hb
    rw [if_pos h8] at hmf
    subst hmf
    clear hb
    go_enter Try.func34, Try.ntmps34
    go_wp2_with fail
    rw [← HW1.out]
    refine (HC.out _ G1.out).mono ?_
    rintro E w2 ⟨rfl, hg2⟩
    have K2 : Hid (w2.heap[w.heap.size + 1]? = some (.cells #[.int .i64 0, .int .i64 0, .slice none 0 0, .slice none 0 0] 36 (0, 0))) := (hg2.block _ (by rw [HS1.out]; omega) (by simp)).trans K1.out
    have G2 : Hid (w.grownBy w2 none) := grown_trans G1.out hg2
    obtain ⟨_, b1, _, _, _⟩ := Bx.out _ hg2
    obtain ⟨r0, r1, r2, r3, rz⟩ := block_cells K2.out
    have rz0 := rz 0
    have rz1 := rz 1
    have rz2 := rz 2
    have rz3 := rz 3
    obtain ⟨W9, hW9, hg9, q0, q1, q2, q3⟩ := det_store K2.out (.int .i64 0) (.int .i64 0) (.slice none 0 0) (.slice none 0 0)
    have G9 : Hid (w.grownBy W9 none) := grown_new G2.out hg9 (by omega)
    clear hg2 rz hg9
    go_wp2_with fail
    rw [← hW9]
    exact bodyPost_ret (v := .tuple #[.agg #[.int .i64 0, .int .i64 0, .slice none 0 0, .slice none 0 0], .int .i64 1]) (by simp [results, Try.results34, go_sem, q0, q1, q2, q3]) rfl ⟨rfl, G9.out⟩
  · rw [if_neg hy0] at hmf
    subst hmf
    have hy' : (z != 0) = true := by simpa using hb
    have hy'' : (z == 0) = false := by simpa using hb
    clear hb hy0
    go_enter Try.func34, Try.ntmps34
    go_wp2_with fail
    rw [← HW1.out]
    refine (HC.out _ G1.out).mono ?_
    rintro E w2 ⟨rfl, hg2⟩
    have K2 : Hid (w2.heap[w.heap.size + 1]? = some (.cells #[.int .i64 0, .int .i64 0, .slice none 0 0, .slice none 0 0] 36 (0, 0))) := (hg2.block _ (by rw [HS1.out]; omega) (by simp)).trans K1.out
    have G2 : Hid (w.grownBy w2 none) := grown_trans G1.out hg2
    obtain ⟨r0, r1, r2, r3, rz⟩ := block_cells K2.out
    have rz0 := rz 0
    have rz1 := rz 1
    have rz2 := rz 2
    have rz3 := rz 3
    obtain ⟨W9, hW9, hg9, q0, q1, q2, q3⟩ := det_store K2.out (.int .i64 0) (.int .i64 0) (.slice none 0 0) (.slice none 0 0)
    have G9 : Hid (w.grownBy W9 none) := grown_new G2.out hg9 (by omega)
    clear hg2 rz hg9
    go_wp2_with fail
    rw [← hW9]
    exact bodyPost_ret (v := .tuple #[.agg #[.int .i64 0, .int .i64 0, .slice none 0 0, .slice none 0 0], .int .i64 z]) (by simp [results, Try.results34, go_sem, q0, q1, q2, q3]) rfl ⟨rfl, G9.out⟩

set_option maxHeartbeats 1600000 in
set_option maxRecDepth 100000 in
theorem madeE_good (x : Aut) (l nS : Nat) (hL : x.L = l) (hN : x.N = nS) (h8 : nS ≤ 8) (hG : GoodA x) (a b e : Option Addr) (c d f : Nat) (w : World) (h : AutAt w x a b e) :
    Calls Try.prog 34 #[autV l nS a x.S.length c b x.T.length d e x.F.length f] w (LeastGPost (dset x.T) (mset x.F) 256 l (setOf x.S) w) := by
  have hl4 : l ≤ 4 := by have := hG.l4; omega
  have hl1 : 1 ≤ l := by have := hG.l1; omega
  have HC : Hid (∀ W, w.grownBy W none → Calls Try.prog 41 #[autV l nS a x.S.length c b x.T.length d e x.F.length f] W (Says (.int .i64 0) W)) := fun W hW => by
    have h1 := checkB_any x a b e c d f W (h.grown hW)
    rw [checkA_good hG, hL, hN] at h1
    exact h1
  have HB : Hid (∀ W, w.grownBy W none → Calls Try.prog 43 #[autV l nS a x.S.length c b x.T.length d e x.F.length f] W (OfPost l (setOf x.S) 256 (dset x.T) (mset x.F) W)) := fun W hW => bySets_any x l nS hL hN h8 hG a b e c d f W (h.grown hW)
  have HD : Hid (∀ s k, s < 256 → k < l → dset x.T s k < 256) := fun s k _ _ => dset_lt hG.t (by omega) s k
  have HsS : Hid (setOf x.S < 256) := setOf_lt hG.s (by omega)
  obtain ⟨W1, hW1, hs1, g1, k1⟩ := two_boxes w (.cells #[.int .i64 l, .int .i64 nS, .slice a x.S.length c, .slice b x.T.length d, .slice e x.F.length f] 75) #[.int .i64 0, .int .i64 0, .slice none 0 0, .slice none 0 0] 36
  have HW1 : Hid (W1 = _) := hW1
  have HS1 : Hid (W1.heap.size = w.heap.size + 2) := hs1
  have G1 : Hid (w.grownBy W1 none) := g1
  have K1 : Hid _ := k1
  have Bx : Hid (∀ W, W1.grownBy W none → W.cell? ⟨w.heap.size, 0, none⟩ = some (.int .i64 l) ∧ W.cell? ⟨w.heap.size, 1, none⟩ = some (.int .i64 nS) ∧ W.cell? ⟨w.heap.size, 2, none⟩ = some (.slice a x.S.length c) ∧ W.cell? ⟨w.heap.size, 3, none⟩ = some (.slice b x.T.length d) ∧ W.cell? ⟨w.heap.size, 4, none⟩ = some (.slice e x.F.length f)) := fun W hW => box5 (w := w) (grown_trans (grown_alloc _ _) (hW1 ▸ hW))
  clear h hG hW1 hs1 g1 k1 hL hN
  generalize dset x.T = δ at *
  generalize mset x.F = m at *
  generalize setOf x.S = s0 at *
  generalize x.S.length = mS at *
  generalize x.T.length = mT at *
  generalize x.F.length = mF at *
  have h8i : ¬ (8 : Int) < (nS : Int) := by omega
  go_enter Try.func34, Try.ntmps34
  go_wp2_with fail
  rw [← HW1.out]
  refine (HC.out _ G1.out).mono ?_
  rintro E w2 ⟨rfl, hg2⟩
  have K2 : Hid (w2.heap[w.heap.size + 1]? = some (.cells #[.int .i64 0, .int .i64 0, .slice none 0 0, .slice none 0 0] 36 (0, 0))) := (hg2.block _ (by rw [HS1.out]; omega) (by simp)).trans K1.out
  have G2 : Hid (w.grownBy w2 none) := grown_trans G1.out hg2
  have HS2 : Hid (w.heap.size + 2 ≤ w2.heap.size) := by show _ ≤ _; rw [← HS1.out]; exact hg2.size
  obtain ⟨b0, b1, b2, b3, b4⟩ := Bx.out _ hg2
  clear hg2 HW1 HS1 G1 K1
  go_wp2_with fail
  refine (HB.out _ G2.out).mono ?_
  rintro E w5 ⟨k0, vR, vM, rs, he0, hk0, rfl, hrs, ho5, hg5⟩
  obtain ⟨_, aR, cR, hvR⟩ := ho5.head
  obtain ⟨_, aM, cM, hvM⟩ := ho5.tail.head
  simp only [List.length_map] at hvR
  simp only [vals_len] at hvM
  subst hvR hvM
  have hrl : rs.length = k0 := by
    have h1 : (rs.map (·.2)).length = k0 := by rw [hrs]; simp [resR, he0.len]
    simpa using h1
  have hml : (resM m (bfsL id δ l s0 k0)).length = k0 := by simp [resM, he0.len]
  have GR : Hid (Good (reachD δ m l s0 k0)) := reachD_good hl1 hl4 (by omega) HD.out HsS.out he0 hk0
  have D5 : DetAt w5 (reachD δ m l s0 k0) aR aM := by
    have h3 := det_of_owns (L := (l : Int)) (S := 0) (its := []) (by rw [List.append_nil]; exact ho5) (fun x hx => by
        have h4 : x.2 ∈ rs.map (·.2) := List.mem_map.2 ⟨x, hx, rfl⟩
        rw [hrs] at h4
        obtain ⟨y, _, hy⟩ := List.mem_map.1 h4
        rw [← hy]; simp [rowR, maxLen]; omega) (by rw [hrl]; unfold maxLen; omega) (by rw [hml]; unfold maxLen; omega)
    rw [hrs] at h3
    exact h3
  have HF : Hid (Calls Try.prog 42 #[.agg #[.int .i64 l, .int .i64 0, .slice aR k0 cR, .slice aM k0 cM]] w5 (LeastPost (reachD δ m l s0 k0).nx (reachD δ m l s0 k0).mk1 k0 l 0 w5)) := by
    have h1 := leastP_any l 0 (resR id δ l (bfsL id δ l s0 k0)) (resM m (bfsL id δ l s0 k0)) aR aM cR cM w5 D5 GR.out
    have e1 : (resR id δ l (bfsL id δ l s0 k0)).length = k0 := by simp [resR, he0.len]
    rw [e1, hml] at h1
    exact h1
  have HE0 : Hid (IsEnd (bfsL id δ l s0) k0) := he0
  have hk3 : k0 ≤ 256 := hk0
  rw [hrl, hml]
  have B5 : Hid (w5.heap[w.heap.size + 1]? = some (.cells #[.int .i64 0, .int .i64 0, .slice none 0 0, .slice none 0 0] 36 (0, 0))) := (hg5.block _ (by have := HS2.out; omega) (by simp)).trans K2.out
  have G5 : Hid (w.grownBy w5 none) := grown_trans G2.out hg5
  have HS5 : Hid (w.heap.size + 2 ≤ w5.heap.size) := Nat.le_trans HS2.out hg5.size
  clear he0 hk0 hrs ho5 hg5 hrl hml D5 HB K2 GR b0 b1 b2 b3 b4
  go_wp2_with fail
  refine HF.out.mono ?_
  rintro E w6 ⟨aR6, cR6, aM6, cM6, rs6, M6, rfl, hlo, hn6, hm6, hr6, ho6, hg6⟩
  have hlo2 := least_reach HD.out HsS.out HE0.out hlo
  have K6 : w6.heap[w.heap.size + 1]? = some (.cells #[.int .i64 0, .int .i64 0, .slice none 0 0, .slice none 0 0] 36 (0, 0)) := (hg6.block _ (by have := HS5.out; omega) (by simp)).trans B5.out
  obtain ⟨r0, r1, r2, r3, rz⟩ := block_cells K6
  have rz0 := rz 0
  have rz1 := rz 1
  have rz2 := rz 2
  have rz3 := rz 3
  obtain ⟨W9, hW9, hg9, q0, q1, q2, q3⟩ := det_store K6 (.int .i64 (l : Int)) (.int .i64 0) (.slice aR6 rs6.length cR6) (.slice aM6 M6.length cM6)
  have Fin : Hid (LeastPost δ m 256 l s0 w (.returned (.agg #[.int .i64 l, .int .i64 0, .slice aR6 rs6.length cR6, .slice aM6 M6.length cM6])) W9) :=
    ⟨aR6, cR6, aM6, cM6, rs6, M6, rfl, hlo2, by omega, hm6, hr6, (ho6.below hg9 (by have := HS5.out; omega)).base (by have := HS5.out; omega), grown_new (grown_trans G5.out hg6) hg9 (by omega)⟩
  clear hlo hlo2 hn6 hm6 hr6 ho6 hg6 hg9 rz K6 B5 HF
  generalize rs6.length = nr at *
  generalize M6.length = nm at *
  go_wp2_with fail
  rw [← hW9]
  exact bodyPost_ret (v := .tuple #[.agg #[.int .i64 l, .int .i64 0, .slice aR6 nr cR6, .slice aM6 nm cM6], .int .i64 0]) (by simp [results, Try.results34, go_sem, q0, q1, q2, q3]) rfl ⟨_, rfl, Fin.out⟩

end Go.Proofs.Ytcgkflddipflbaa
