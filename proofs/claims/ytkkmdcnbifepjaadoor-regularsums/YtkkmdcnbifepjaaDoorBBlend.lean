/- det.Blend: the least automaton of two, by a table. -/
import Derived.Test.YtkkmdcnbifepjaaDoorBOf
import Derived.Test.YtkkmdcnbifepjaaDoorBClos
import Derived.Test.YtkkmdcnbifepjaaDoorHLeast
import Derived.Test.YtkkmdcnbifepjaaDoorLReach
import Derived.Test.YtkkmdcnbifepjaaDoorLMath
namespace Go.Proofs.YtkkmdcnbifepjaaDoor
open Go.RowKit
set_option linter.unusedVariables false

set_option maxHeartbeats 1600000 in
set_option maxRecDepth 100000 in
theorem blend_any (S S' t : Int) (l : Nat) (R R' : List (List Int)) (M M' : List Int) (a a' e e' : Option Addr) (c c' f f' : Nat) (w : World) (h : DetAt w ⟨l, S, R, M⟩ a a') (hG : Good ⟨l, S, R, M⟩) (h2 : DetAt w ⟨l, S', R', M'⟩ e e') (hG2 : Good ⟨l, S', R', M'⟩) (ht : 0 ≤ t ∧ t ≤ 15) (hN : R.length * R'.length ≤ 3000) :
    Calls Tryd.prog 31 #[.agg #[.int .i64 l, .int .i64 S, .slice a R.length c, .slice a' M.length c'], .agg #[.int .i64 l, .int .i64 S', .slice e R'.length f, .slice e' M'.length f'], .int .i64 t] w
      (LeastPost (nx2 ⟨l, S, R, M⟩ ⟨l, S', R', M'⟩ R'.length) (mk2 t ⟨l, S, R, M⟩ ⟨l, S', R', M'⟩ R'.length) (R.length * R'.length) l (S.toNat * R'.length + S'.toNat) w) := by
  have hmf : ∀ (fn : Fn) (first cap : Array Value) (w : World), (Instr.makeFunc fn first cap).run Tryd.prog w = .ok (.func fn first cap) w := fun _ _ _ _ => rfl
  have hl1 : 1 ≤ l := by have := hG.l1; simp only at this; omega
  have hl4 : l ≤ 4 := by have := hG.l4; simp only at this; omega
  have hS0 : 0 ≤ S ∧ S < (R.length : Int) := hG.s
  have hS0' : 0 ≤ S' ∧ S' < (R'.length : Int) := hG2.s
  obtain ⟨st, hst⟩ : ∃ st : Nat, S = st := ⟨S.toNat, by omega⟩
  obtain ⟨st', hst'⟩ : ∃ st' : Nat, S' = st' := ⟨S'.toNat, by omega⟩
  subst hst hst'
  simp only [Int.toNat_natCast]
  obtain ⟨N, hNe⟩ : ∃ N, R.length * R'.length = N := ⟨_, rfl⟩
  obtain ⟨δ, hδ⟩ : ∃ δ, nx2 ⟨l, st, R, M⟩ ⟨l, st', R', M'⟩ R'.length = δ := ⟨_, rfl⟩
  obtain ⟨mk, hmk⟩ : ∃ mk, mk2 t ⟨l, st, R, M⟩ ⟨l, st', R', M'⟩ R'.length = mk := ⟨_, rfl⟩
  have hs0N : st * R'.length + st' < N := by rw [← hNe]; exact cod_lt (by omega) (by omega)
  have hD : ∀ s b, s < N → b < l → δ s b < N := fun s b hs hb => by
    rw [← hNe] at hs ⊢
    rw [← hδ]
    exact cod_lt (hG.nx_lt (pxx_lt hs) (by simp; exact hb)) (hG2.nx_lt (pyy_lt hs) (by simp; exact hb))
  obtain ⟨W4, hW4⟩ : ∃ W4, W4 = (((w.alloc (.cells #[.int .i64 l, .int .i64 st, .slice a R.length c, .slice a' M.length c'] 25)).alloc (.cells #[.int .i64 l, .int .i64 st', .slice e R'.length f, .slice e' M'.length f'] 25)).alloc (.cells #[.int .i64 t] 3)).alloc (.cells #[.int .i64 0, .int .i64 0, .slice none 0 0, .slice none 0 0] 25) := ⟨_, rfl⟩
  have hs4 : W4.heap.size = w.heap.size + 4 := by rw [hW4]; simp
  have b1 : BoxAt W4 w.heap.size ⟨l, st, R, M⟩ a a' c c' := by
    rw [hW4]
    exact ((grown_trans (grown_trans (grown_alloc _ _) (grown_alloc _ _)) (grown_alloc _ _)).block _ (by simp) (by simp)).trans (heap_alloc_new w _)
  have b2 : BoxAt W4 (w.heap.size + 1) ⟨l, st', R', M'⟩ e e' f f' := by
    have h1 := heap_alloc_new (w.alloc (.cells #[.int .i64 l, .int .i64 st, .slice a R.length c, .slice a' M.length c'] 25)) (.cells #[.int .i64 l, .int .i64 st', .slice e R'.length f, .slice e' M'.length f'] 25)
    rw [World.size_alloc] at h1
    rw [hW4]
    exact ((grown_trans (grown_alloc _ _) (grown_alloc _ _)).block _ (by simp) (by simp)).trans h1
  have b3 : W4.cell? ⟨w.heap.size + 1 + 1, 0, none⟩ = some (.int .i64 t) := by
    have h1 := heap_alloc_new ((w.alloc (.cells #[.int .i64 l, .int .i64 st, .slice a R.length c, .slice a' M.length c'] 25)).alloc (.cells #[.int .i64 l, .int .i64 st', .slice e R'.length f, .slice e' M'.length f'] 25)) (.cells #[.int .i64 t] 3)
    rw [World.size_alloc, World.size_alloc] at h1
    have h3 : W4.heap[w.heap.size + 1 + 1]? = some (.cells #[.int .i64 t] 3 (0, 0)) := by
      rw [hW4]
      exact ((grown_alloc _ _).block _ (by simp) (by simp)).trans h1
    rw [cell_of_row _ _ _ _ _ (0, 0) h3]; rfl
  have b4 : W4.heap[w.heap.size + 3]? = some (.cells #[.int .i64 0, .int .i64 0, .slice none 0 0, .slice none 0 0] 25 (0, 0)) := by
    have h1 := heap_alloc_new (((w.alloc (.cells #[.int .i64 l, .int .i64 st, .slice a R.length c, .slice a' M.length c'] 25)).alloc (.cells #[.int .i64 l, .int .i64 st', .slice e R'.length f, .slice e' M'.length f'] 25)).alloc (.cells #[.int .i64 t] 3)) (.cells #[.int .i64 0, .int .i64 0, .slice none 0 0, .slice none 0 0] 25)
    rw [← hW4] at h1
    simpa using h1
  have g4 : w.grownBy W4 none := by rw [hW4]; exact grown_trans (grown_trans (grown_trans (grown_alloc _ _) (grown_alloc _ _)) (grown_alloc _ _)) (grown_alloc _ _)
  have HOf : Hid (Calls Tryd.prog 50 #[.int .i64 l, .agg #[.int .i64 (st : Int), .int .i64 (st' : Int)], .func (.func 48) #[] #[.pointer (some ⟨w.heap.size, 0, none⟩), .pointer (some ⟨w.heap.size + 1, 0, none⟩)], .func (.func 49) #[] #[.pointer (some ⟨w.heap.size + 1 + 1, 0, none⟩), .pointer (some ⟨w.heap.size, 0, none⟩), .pointer (some ⟨w.heap.size + 1, 0, none⟩)]] W4 (OfPost l (st * R'.length + st') N δ mk W4)) := by
    have h1 := ofB_any l (st * R'.length + st') N R'.length δ mk (.pointer (some ⟨w.heap.size, 0, none⟩)) (.pointer (some ⟨w.heap.size + 1, 0, none⟩)) (.pointer (some ⟨w.heap.size + 1 + 1, 0, none⟩)) W4 hl1 hl4 (by omega) hs0N hD (fun W hW s b hs hb => by
      have := blend1_any l st st' R R' M M' a a' e e' c c' f f' w.heap.size (w.heap.size + 1) s b W (h.grown (grown_trans g4 hW)) hG (h2.grown (grown_trans g4 hW)) hG2 (b1.kept hW) (b2.kept hW) (by rw [hNe]; exact hs) (by simp; exact hb)
      rw [hδ] at this
      exact this) (fun W hW s hs => by
      have := blend2_any l st st' t R R' M M' a a' e e' c c' f f' w.heap.size (w.heap.size + 1) (w.heap.size + 1 + 1) s W (h.grown (grown_trans g4 hW)) hG (h2.grown (grown_trans g4 hW)) hG2 (b1.kept hW) (b2.kept hW) (hW.cell b3 (by simp)) ht (by rw [hNe]; exact hs)
      rw [hmk] at this
      exact this)
    unfold pvl at h1
    rw [pxx_code (show st' < R'.length by omega), pyy_code (show st' < R'.length by omega)] at h1
    exact h1
  rw [hNe, hδ, hmk]
  have HW4 : Hid (W4 = _) := hW4
  have HS4 : Hid (W4.heap.size = w.heap.size + 4) := hs4
  have B4 : Hid _ := b4
  have G4 : Hid (w.grownBy W4 none) := g4
  have HD : Hid (∀ s b, s < N → b < l → δ s b < N) := hD
  have HN : Hid (N ≤ 3000) := by rw [← hNe]; exact hN
  clear hG hG2 h h2 hW4 hs4 b1 b2 b3 b4 g4 hD hδ hmk hNe hN hS0 hS0'
  generalize st * R'.length + st' = s0 at *
  go_enter Tryd.func31, Tryd.ntmps31
  go_wp2_with fail
  rw [← HW4.out]
  refine HOf.out.mono ?_
  rintro E w5 ⟨k0, vR, vM, rs, he0, hk0, rfl, hrs, ho5, hg5⟩
  obtain ⟨_, aR, cR, hvR⟩ := ho5.head
  obtain ⟨_, aM, cM, hvM⟩ := ho5.tail.head
  simp only [List.length_map] at hvR
  simp only [vals_len] at hvM
  subst hvR hvM
  have hrl : rs.length = k0 := by
    have h1 : (rs.map (·.2)).length = k0 := by rw [hrs]; simp [resR, he0.len]
    simpa using h1
  have hml : (resM mk (bfsL id δ l s0 k0)).length = k0 := by simp [resM, he0.len]
  have GR : Hid (Good (reachD δ mk l s0 k0)) := reachD_good hl1 hl4 HN.out HD.out hs0N he0 hk0
  have D5 : DetAt w5 (reachD δ mk l s0 k0) aR aM := by
    have h3 := det_of_owns (L := (l : Int)) (S := 0) (its := []) (by rw [List.append_nil]; exact ho5) (fun x hx => by
        have h4 : x.2 ∈ rs.map (·.2) := List.mem_map.2 ⟨x, hx, rfl⟩
        rw [hrs] at h4
        obtain ⟨y, _, hy⟩ := List.mem_map.1 h4
        rw [← hy]; simp [rowR, maxLen]; omega) (by rw [hrl]; have := HN.out; unfold maxLen; omega) (by rw [hml]; have := HN.out; unfold maxLen; omega)
    rw [hrs] at h3
    exact h3
  have HF : Hid (Calls Tryd.prog 38 #[.agg #[.int .i64 l, .int .i64 0, .slice aR k0 cR, .slice aM k0 cM]] w5 (LeastPost (reachD δ mk l s0 k0).nx (reachD δ mk l s0 k0).mk1 k0 l 0 w5)) := by
    have h1 := leastP_any l 0 (resR id δ l (bfsL id δ l s0 k0)) (resM mk (bfsL id δ l s0 k0)) aR aM cR cM w5 D5 GR.out
    have e1 : (resR id δ l (bfsL id δ l s0 k0)).length = k0 := by simp [resR, he0.len]
    rw [e1, hml] at h1
    exact h1
  have HE0 : Hid (IsEnd (bfsL id δ l s0) k0) := he0
  have hk3 : k0 ≤ N := hk0
  rw [hrl, hml]
  have B5 : Hid (w5.heap[w.heap.size + 3]? = some (.cells #[.int .i64 0, .int .i64 0, .slice none 0 0, .slice none 0 0] 25 (0, 0))) := (hg5.block _ (by rw [HS4.out]; omega) (by simp)).trans B4.out
  have G5 : Hid (w.grownBy w5 none) := grown_trans G4.out hg5
  have HS5 : Hid (w.heap.size + 4 ≤ w5.heap.size) := by show _ ≤ _; rw [← HS4.out]; exact hg5.size
  clear he0 hk0 hrs ho5 hg5 hrl hml D5 HOf B4 GR
  go_wp2_with fail
  refine HF.out.mono ?_
  rintro E w6 ⟨aR6, cR6, aM6, cM6, rs6, M6, rfl, hlo, hn6, hm6, hr6, ho6, hg6⟩
  have hlo2 := least_reach HD.out hs0N HE0.out hlo
  have K6 : w6.heap[w.heap.size + 3]? = some (.cells #[.int .i64 0, .int .i64 0, .slice none 0 0, .slice none 0 0] 25 (0, 0)) := (hg6.block _ (by have := HS5.out; omega) (by simp)).trans B5.out
  obtain ⟨r0, r1, r2, r3, rz⟩ := block_cells K6
  have rz0 := rz 0
  have rz1 := rz 1
  have rz2 := rz 2
  have rz3 := rz 3
  obtain ⟨W9, hW9, hg9, q0, q1, q2, q3⟩ := det_store K6 (.int .i64 (l : Int)) (.int .i64 0) (.slice aR6 rs6.length cR6) (.slice aM6 M6.length cM6)
  have Fin : Hid (LeastPost δ mk N l s0 w (.returned (.agg #[.int .i64 l, .int .i64 0, .slice aR6 rs6.length cR6, .slice aM6 M6.length cM6])) W9) :=
    ⟨aR6, cR6, aM6, cM6, rs6, M6, rfl, hlo2, by omega, hm6, hr6, (ho6.below hg9 (by have := HS5.out; omega)).base (by have := HS5.out; omega), grown_new (grown_trans G5.out hg6) hg9 (by omega)⟩
  clear hlo hlo2 hn6 hm6 hr6 ho6 hg6 hg9 rz K6 B5 HF
  generalize rs6.length = nr at *
  generalize M6.length = nm at *
  go_wp2_with fail
  rw [← hW9]
  exact bodyPost_ret (v := .agg #[.int .i64 l, .int .i64 0, .slice aR6 nr cR6, .slice aM6 nm cM6]) (by simp [results, Tryd.results31, go_sem, q0, q1, q2, q3]) rfl Fin.out

end Go.Proofs.YtkkmdcnbifepjaaDoor
