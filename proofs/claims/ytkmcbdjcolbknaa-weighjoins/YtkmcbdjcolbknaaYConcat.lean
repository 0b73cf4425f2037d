/- slices.Grow and slices.Concat of two words. -/
import Derived.Test.YtkmcbdjcolbknaaYApp
import Derived.Lib.AppendZeros
import Derived.Laws.OwnMore
import Derived.LoopN
namespace Go.Proofs.Ytkmcbdjcolbknaa
open Go.RowKit
set_option linter.unusedVariables false
set_option linter.unusedSimpArgs false

attribute [local go_sem ↓] appY_fold in
set_option maxHeartbeats 1600000 in
theorem grow_any (n : Nat) (h0 : 0 < n) (hn : n ≤ 1000) (w : World) :
    Calls Try.prog 35 #[.slice none 0 0, .int .i64 (n : Int)] w fun e w' => ∃ g cap, e = .returned (.slice (some ⟨g, 0, none⟩) 0 cap) ∧ w'.ownsRow w.heap.size 3 1 (.slice (some ⟨g, 0, none⟩) 0 cap) 0 [] ∧ w.grownBy w' none := by
  obtain ⟨i0, hi0, hz0, hz1, hz2⟩ := info_partsY Try.infoI64Y
  have hrun := Lib.run_append_nil_zeros (P := Try.prog) w 22 3 22 3 i0 (.int .i64 0) .i64 .i64 Try.underlying22 Try.underlying3 hi0 hz0 n h0 (by omega) (by omega) (by rw [hz2]; omega)
  rw [appY_fold] at hrun
  have hcap := grownCap_ge w n 0 3
  have hcap2 := grownCap_le_maxLen w n 0 3 (by unfold maxLen; omega)
  generalize grownCap w n 0 3 = cap at *
  have hq : (0 : Int) < (n : Int) := by omega
  obtain ⟨cur, hcur⟩ : ∃ cur, Builtin.zeroCells (Value.int .i64 0).cells n ++ Builtin.zeroCells (Value.int .i64 0).cells (cap - n) = cur := ⟨_, rfl⟩
  have hsz : cur.size = cap := by rw [← hcur]; simp [Builtin.zeroCells, Value.cells]; omega
  rw [hcur] at hrun
  have E : Hid ((w.drew.alloc (.cells cur 3)).ownsRow w.heap.size 3 1 (.slice (some ⟨w.heap.size, 0, none⟩) 0 cap) 0 [] ∧ w.grownBy (w.drew.alloc (.cells cur 3)) none) :=
    ⟨⟨rfl, .inr ⟨w.heap.size, cap, cur, rfl, Nat.le_refl _, heap_alloc_new w.drew _, Nat.zero_le _, hcap2, by rw [hsz, Nat.mul_one], by simp⟩⟩, grown_trans (grown_drew (grown_refl _ _)) (grown_alloc _ _)⟩
  clear hcur hsz hcap2
  go_enter Try.func35, Try.ntmps35
  go_wp2_with fail
  go_ret
  exact ⟨_, _, rfl, E.out⟩

/-- A word is put behind a row of one's own. -/
theorem app_more {w : World} {B : Nat} {v : Value} {xs us : List Int} {a : Option Addr} {c : Nat} (ho : w.ownsRow B 3 1 v xs.length (numsI xs)) (hv : ∃ g cap, v = .slice (some ⟨g, 0, none⟩) xs.length cap) (hB : B ≤ w.heap.size) (hu : Ints w a us) (hl : xs.length + us.length ≤ 1000) :
    ∃ g cap w', (AppY #[22, 22] 22 #[v, .slice a us.length c]).run Try.prog w = .ok (.slice (some ⟨g, 0, none⟩) (xs.length + us.length) cap) w' ∧ w'.ownsRow B 3 1 (.slice (some ⟨g, 0, none⟩) (xs.length + us.length) cap) (xs ++ us).length (numsI (xs ++ us)) ∧ w.grownBy w' v.ownBlock := by
  obtain ⟨i0, hi0, hz0, hz1, hz2⟩ := info_partsY Try.infoI64Y
  obtain ⟨g, cap, rfl⟩ := hv
  by_cases he : us = []
  · subst he
    refine ⟨g, cap, w, ?_, by simpa using ho, grown_refl _ _⟩
    have hc := ho.2
    rcases hc with ⟨h1, _⟩ | ⟨g', cap', cur, h1, _, _, h4, _⟩
    · cases h1
    · cases h1
      have h5 : ¬ cap < xs.length := by omega
      cases a with
      | none => simp [AppY, Builtin.append_, run_underlying Try.underlying22, sizeOf, typeInfo, zeroValue, hi0, hz0, Builtin.lenOf, run_firstCells_none, storeCells, h5, h4]
      | some b =>
        have hf := run_firstCells_some (P := Try.prog) w i0.size 0 b 0 c [] (by simp) (by simp)
        simp [AppY, Builtin.append_, run_underlying Try.underlying22, sizeOf, typeInfo, zeroValue, hi0, hz0, Builtin.lenOf, hf, storeCells, h5, h4]
  · have hlen : 0 < us.length := List.length_pos_iff.2 he
    obtain ⟨b, off, rfl, hc⟩ := hu.at hlen
    obtain ⟨g1, c1, w1, hr, h2, h3, _, _⟩ := run_append_lies (P := Try.prog) w 22 22 B 3 i0 (.int .i64 0) 1 8 Try.underlying22 hi0 hz0 hz1 hz2 rfl (by decide) (.slice (some ⟨g, 0, none⟩) xs.length cap) xs.length (numsI xs) ho ⟨b, off, none⟩ us.length c (numsI us) (by simp [numsI]) (fun j u hu => by
        have hj : j < us.length := by have := (List.getElem?_eq_some_iff.1 hu).1; simpa [numsI] using this
        have e : (⟨b, off, none⟩ : Addr).add j = ⟨b, off + j, none⟩ := by by_cases hj0 : j = 0 <;> simp [Addr.add, hj0]
        rw [e, hc j hj, ← hu]
        simp [numsI, hj, List.getD]) (by intro u hu; simp [numsI] at hu; obtain ⟨x, _, rfl⟩ := hu; rfl) hlen (by unfold maxLen; omega) (by omega) hB _ rfl
    refine ⟨g1, c1, w1, hr, ?_, h3⟩
    have e : numsI xs ++ numsI us = numsI (xs ++ us) := by simp [numsI]
    rw [List.length_append, ← e]
    exact h2

attribute [local go_sem ↓] appY_fold in
set_option maxHeartbeats 3200000 in
theorem concat_any (us vs : List Int) (ah al : Option Addr) (ch cl g2 : Nat) (w : World) (hu : Ints w ah us) (hv : Ints w al vs) (hlu : us.length ≤ 60) (hlv : vs.length ≤ 60) (h0 : 0 < vs.length) (c0 : w.cell? ⟨g2, 0, none⟩ = some (.slice ah us.length ch)) (c1 : w.cell? ⟨g2, 1, none⟩ = some (.slice al vs.length cl)) :
    Calls Try.prog 21 #[.slice (some ⟨g2, 0, none⟩) 2 2] w fun e w' => ∃ g cap, e = .returned (.slice (some ⟨g, 0, none⟩) (us.length + vs.length) cap) ∧ (∀ k, k < us.length + vs.length → w'.cell? ⟨g, k, none⟩ = some (.int .i64 ((us ++ vs).getD k 0))) ∧ w.grownBy w' none := by
  have q1 : ¬ ((us.length : Int) < 0) := by omega
  have q2 : ¬ ((us.length : Int) + (vs.length : Int) < 0) := by omega
  have HG : Hid (Calls Try.prog 35 #[.slice none 0 0, .int .i64 ((us.length : Int) + (vs.length : Int))] w fun e w' => ∃ g cap, e = .returned (.slice (some ⟨g, 0, none⟩) 0 cap) ∧ w'.ownsRow w.heap.size 3 1 (.slice (some ⟨g, 0, none⟩) 0 cap) 0 [] ∧ w.grownBy w' none) := by
    have := grow_any (us.length + vs.length) (by omega) (by omega) w
    rwa [Int.natCast_add] at this
  have HC : Hid (∀ W, w.grownBy W none → W.cell? ⟨g2, 0, none⟩ = some (.slice ah us.length ch) ∧ W.cell? ⟨g2, 1, none⟩ = some (.slice al vs.length cl)) := fun W h => ⟨h.cell c0 (by simp), h.cell c1 (by simp)⟩
  have HU : Hid (Ints w ah us) := hu
  have HV : Hid (Ints w al vs) := hv
  clear hu hv
  go_enter Try.func21, Try.ntmps21
  go_wp2_with fail
  refine wp_loop_rounds 3 ?_
  rw [rounds_succ]
  go_wp2_with fail
  rw [rounds_succ]
  go_wp2_with fail
  rw [rounds_succ]
  go_wp2_with fail
  refine HG.out.mono ?_
  rintro e w1 ⟨g, cap, rfl, ho, hg⟩
  obtain ⟨gA, cA, wA, hrA, hoA, hgA⟩ := app_more (xs := []) (c := ch) (by simpa [numsI] using ho) ⟨g, cap, rfl⟩ hg.size (HU.out.grown hg) (by simp; omega)
  simp only [List.length_nil, List.nil_append, Nat.zero_add] at hrA hoA
  have hgA2 : w.grownBy wA none := by
    refine grown_new hg hgA ?_
    exact (ho.lt g rfl).1
  obtain ⟨gB, cB, wB, hrB, hoB, hgB⟩ := app_more (c := cl) hoA ⟨gA, cA, rfl⟩ hgA2.size (HV.out.grown hgA2) (by omega)
  have hgB2 : w.grownBy wB none := by
    refine grown_new hgA2 hgB ?_
    exact (hoA.lt gA rfl).1
  have d0 := (HC.out w1 hg).1
  have d1 := (HC.out wA hgA2).2
  have d2 := (HC.out w1 hg).2
  have d3 := (HC.out wA hgA2).1
  have E : Hid (∀ k, k < us.length + vs.length → wB.cell? ⟨gB, k, none⟩ = some (.int .i64 ((us ++ vs).getD k 0))) := fun k hk => by
    have h1 : wB.ownsRow w.heap.size 3 1 (.slice (some ⟨gB, 0, none⟩) (us.length + vs.length) cB) (us.length + vs.length) (numsI (us ++ vs)) := by rw [List.length_append] at hoB; exact hoB
    rw [h1.cellAt k (by omega)]
    have hk2 : k < (us ++ vs).length := by simp; omega
    simp only [numsI, List.getElem?_map, List.getElem?_eq_getElem hk2, Option.map_some, List.getD, Option.getD_some]
  have GB : Hid (w.grownBy wB none) := hgB2
  clear ho hg hoA hgA hgA2 hoB hgB hgB2
  go_wp2_with fail
  refine wp_loop_rounds 3 ?_
  rw [rounds_succ]
  go_wp2_with fail
  rw [rounds_succ]
  go_wp2_with fail
  rw [rounds_succ]
  go_wp2_with fail
  go_ret
  exact ⟨_, _, rfl, E.out, GB.out⟩

end Go.Proofs.Ytkmcbdjcolbknaa
