/- slices.Concat of two words, be they empty or not; a word behind a row of one's own, be it nothing. -/
import Derived.Test.YthnbiiipfcogeaaYConcat
namespace Go.Proofs.Ythnbiiipfcogeaa
open Go.RowKit
set_option linter.unusedVariables false
set_option linter.unusedSimpArgs false

theorem app_anyY {w : World} {B : Nat} {a0 a : Option Addr} {c0 c : Nat} {xs us : List Int} (ho : w.ownsRow B 3 1 (.slice a0 xs.length c0) xs.length (numsI xs)) (hB : B ≤ w.heap.size) (hu : Ints w a us) (hl : xs.length + us.length ≤ 1000) :
    ∃ a1 c1 w', (AppY #[23, 23] 23 #[.slice a0 xs.length c0, .slice a us.length c]).run Try.prog w = .ok (.slice a1 (xs.length + us.length) c1) w' ∧ w'.ownsRow B 3 1 (.slice a1 (xs ++ us).length c1) (xs ++ us).length (numsI (xs ++ us)) ∧ w.grownBy w' (Value.slice a0 xs.length c0).ownBlock := by
  obtain ⟨i0, hi0, hz0, hz1, hz2⟩ := info_partsY Try.infoI64Y
  by_cases he : us = []
  · subst he
    refine ⟨a0, c0, w, ?_, by simpa using ho, grown_refl _ _⟩
    have hc := ho.2
    rcases hc with ⟨h1, _⟩ | ⟨g', cap', cur, h1, _, _, h4, _⟩
    · simp only [Value.slice.injEq] at h1
      obtain ⟨rfl, h2, rfl⟩ := h1
      rw [h2]
      cases a with
      | none => simp [AppY, Builtin.append_, run_underlying Try.underlying23, sizeOf, typeInfo, zeroValue, hi0, hz0, Builtin.lenOf, run_firstCells_none, storeCells]
      | some b =>
        have hf := run_firstCells_some (P := Try.prog) w i0.size 0 b 0 c [] (by simp) (by simp)
        simp [AppY, Builtin.append_, run_underlying Try.underlying23, sizeOf, typeInfo, zeroValue, hi0, hz0, Builtin.lenOf, hf, storeCells]
    · simp only [Value.slice.injEq] at h1
      obtain ⟨rfl, _, rfl⟩ := h1
      have h5 : ¬ c0 < xs.length := by omega
      cases a with
      | none => simp [AppY, Builtin.append_, run_underlying Try.underlying23, sizeOf, typeInfo, zeroValue, hi0, hz0, Builtin.lenOf, run_firstCells_none, storeCells, h5, h4]
      | some b =>
        have hf := run_firstCells_some (P := Try.prog) w i0.size 0 b 0 c [] (by simp) (by simp)
        simp [AppY, Builtin.append_, run_underlying Try.underlying23, sizeOf, typeInfo, zeroValue, hi0, hz0, Builtin.lenOf, hf, storeCells, h5, h4]
  · have hlen : 0 < us.length := List.length_pos_iff.2 he
    obtain ⟨b, off, rfl, hc⟩ := hu.at hlen
    obtain ⟨g1, c1, w1, hr, h2, h3, _, _⟩ := run_append_lies (P := Try.prog) w 23 23 B 3 i0 (.int .i64 0) 1 8 Try.underlying23 hi0 hz0 hz1 hz2 rfl (by decide) (.slice a0 xs.length c0) xs.length (numsI xs) ho ⟨b, off, none⟩ us.length c (numsI us) (by simp [numsI]) (fun j u hu => by
        have hj : j < us.length := by have := (List.getElem?_eq_some_iff.1 hu).1; simpa [numsI] using this
        have e : (⟨b, off, none⟩ : Addr).add j = ⟨b, off + j, none⟩ := by by_cases hj0 : j = 0 <;> simp [Addr.add, hj0]
        rw [e, hc j hj, ← hu]
        simp [numsI, hj, List.getD]) (by intro u hu; simp [numsI] at hu; obtain ⟨x, _, rfl⟩ := hu; rfl) hlen (by unfold maxLen; omega) (by omega) hB _ rfl
    refine ⟨some ⟨g1, 0, none⟩, c1, w1, hr, ?_, h3⟩
    have e : numsI xs ++ numsI us = numsI (xs ++ us) := by simp [numsI]
    rw [List.length_append, ← e]
    exact h2
theorem Ints.far {W W' : World} {B : Nat} {a : Option Addr} {zs : List Int} (hN : Ints W a zs) (h : ∀ y, a = some y → y.block ≠ B) (g : W.grownBy W' (some B)) : Ints W' a zs := by
  rcases hN with h1 | ⟨b, off, rfl, hc⟩
  · exact .inl h1
  · exact .inr ⟨b, off, rfl, fun i hi => g.cell (hc i hi) (by have := h _ rfl; simpa using this)⟩
theorem ints_of_row {w : World} {B n c : Nat} {a : Option Addr} {zs : List Int} (h : w.ownsRow B 3 1 (.slice a n c) zs.length (numsI zs)) : Ints w a zs := by
  by_cases h0 : zs.length = 0
  · left; exact List.length_eq_zero_iff.1 h0
  · right
    have h2 := h.2
    rcases h2 with ⟨h1, h3⟩ | ⟨g, cap, cur, h1, _⟩
    · exact absurd h3 h0
    · simp only [Value.slice.injEq] at h1
      obtain ⟨rfl, rfl, rfl⟩ := h1
      refine ⟨g, 0, rfl, fun i hi => ?_⟩
      rw [Nat.zero_add, h.cellAt i (by omega)]
      simp only [numsI, List.getElem?_map, List.getElem?_eq_getElem hi, Option.map_some, List.getD, Option.getD_some]

theorem new_of_row {w : World} {B n c : Nat} {a : Option Addr} {zs : List Int} (h : w.ownsRow B 3 1 (.slice a n c) zs.length (numsI zs)) : ∀ y, a = some y → B ≤ y.block := by
  intro y hy
  have h2 := h.2
  rcases h2 with ⟨h1, h3⟩ | ⟨g, cap, cur, h1, h4, _⟩
  · simp only [Value.slice.injEq] at h1
    rw [h1.1] at hy; cases hy
  · simp only [Value.slice.injEq] at h1
    rw [h1.1] at hy; cases hy
    exact h4

def GrowZ (w : World) (e : Ending) (w' : World) : Prop := ∃ a0 c0, e = .returned (.slice a0 0 c0) ∧ w'.ownsRow w.heap.size 3 1 (.slice a0 0 c0) 0 [] ∧ w.grownBy w' none
theorem growZ_any (n : Nat) (hn : n ≤ 1000) (w : World) : Calls Try.prog 20 #[.slice none 0 0, .int .i64 (n : Int)] w (GrowZ w) := by
  by_cases h0 : 0 < n
  · exact (grow_any n h0 hn w).mono fun e w' ⟨g, cap, h1, h2, h3⟩ => ⟨some ⟨g, 0, none⟩, cap, h1, h2, h3⟩
  · have e0 : n = 0 := by omega
    subst e0
    go_enter Try.func20, Try.ntmps20
    go_wp2_with fail
    go_ret
    exact ⟨none, 0, rfl, World.ownsRow_nil w _ _ _, grown_refl _ _⟩

def CatPost (us vs : List Int) (w : World) (e : Ending) (w' : World) : Prop := ∃ a k, e = .returned (.slice a (us ++ vs).length k) ∧ Ints w' a (us ++ vs) ∧ w.grownBy w' none ∧ ∀ y, a = some y → w.heap.size ≤ y.block

attribute [local go_sem ↓] appY_fold in
set_option maxHeartbeats 3200000 in
theorem cat_any (us vs : List Int) (ah al : Option Addr) (ch cl g2 : Nat) (w : World) (hu : Ints w ah us) (hv : Ints w al vs) (hlu : us.length ≤ 60) (hlv : vs.length ≤ 60) (c0 : w.cell? ⟨g2, 0, none⟩ = some (.slice ah us.length ch)) (c1 : w.cell? ⟨g2, 1, none⟩ = some (.slice al vs.length cl)) :
    Calls Try.prog 11 #[.slice (some ⟨g2, 0, none⟩) 2 2] w (CatPost us vs w) := by
  have q1 : ¬ ((us.length : Int) < 0) := by omega
  have q2 : ¬ ((us.length : Int) + (vs.length : Int) < 0) := by omega
  have HG : Hid (Calls Try.prog 20 #[.slice none 0 0, .int .i64 ((us.length : Int) + (vs.length : Int))] w (GrowZ w)) := by
    have := growZ_any (us.length + vs.length) (by omega) w
    rwa [Int.natCast_add] at this
  have HC : Hid (∀ W, w.grownBy W none → W.cell? ⟨g2, 0, none⟩ = some (.slice ah us.length ch) ∧ W.cell? ⟨g2, 1, none⟩ = some (.slice al vs.length cl)) := fun W h => ⟨h.cell c0 (by simp), h.cell c1 (by simp)⟩
  have HU : Hid (Ints w ah us) := hu
  have HV : Hid (Ints w al vs) := hv
  obtain ⟨Po, hPo⟩ : ∃ P, P = CatPost us vs w := ⟨_, rfl⟩
  have HP : Hid (∀ a k W, Ints W a (us ++ vs) → w.grownBy W none → (∀ y, a = some y → w.heap.size ≤ y.block) → Po (.returned (.slice a (us.length + vs.length) k)) W) := fun a k W h1 h2 h3 => by rw [hPo]; exact ⟨a, k, by rw [List.length_append], h1, h2, h3⟩
  rw [← hPo]
  clear hu hv hPo
  go_enter Try.func11, Try.ntmps11
  go_wp2_with fail
  refine wp_loop_rounds 3 ?_
  rw [rounds_succ]
  go_wp2_with fail
  rw [rounds_succ]
  go_wp2_with fail
  rw [rounds_succ]
  go_wp2_with fail
  refine HG.out.mono ?_
  rintro e w1 ⟨a0, cap, rfl, ho, hg⟩
  have ho' : w1.ownsRow w.heap.size 3 1 (.slice a0 ([] : List Int).length cap) ([] : List Int).length (numsI []) := by simpa [numsI] using ho
  obtain ⟨aA, cA, wA, hrA, hoA, hgA⟩ := app_anyY (xs := []) (c := ch) ho' hg.size (HU.out.grown hg) (by simp; omega)
  simp only [List.length_nil, List.nil_append, Nat.zero_add] at hrA hoA
  have hgA2 : w.grownBy wA none := by
    refine grown_of_below ((below_of_grown hg).grown hgA hg.size (fun k hk => ?_))
    exact (ho'.lt k hk).1
  obtain ⟨aB, cB, wB, hrB, hoB, hgB⟩ := app_anyY (c := cl) hoA hgA2.size (HV.out.grown hgA2) (by omega)
  have hgB2 : w.grownBy wB none := by
    refine grown_of_below ((below_of_grown hgA2).grown hgB hgA2.size (fun k hk => ?_))
    exact (hoA.lt k hk).1
  have d0 := (HC.out w1 hg).1
  have d1 := (HC.out wA hgA2).2
  have d2 := (HC.out w1 hg).2
  have d3 := (HC.out wA hgA2).1
  have Fin : Hid (Po (.returned (.slice aB (us.length + vs.length) cB)) wB) := HP.out aB cB wB (ints_of_row hoB) hgB2 (new_of_row hoB)
  clear ho ho' hg hoA hgA hgA2 hoB hgB hgB2 HP
  go_wp2_with fail
  refine wp_loop_rounds 3 ?_
  rw [rounds_succ]
  go_wp2_with fail
  rw [rounds_succ]
  go_wp2_with fail
  rw [rounds_succ]
  go_wp2_with fail
  first | exact Fin.out | (go_ret; exact Fin.out)

end Go.Proofs.Ythnbiiipfcogeaa
