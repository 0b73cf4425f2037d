/- With how many letters two words begin; what is left of one. (Parted from TdSmall.) -/
/- slices.Grow and slices.Concat of two words. -/
/- slices.Concat of two words, be they empty or not; a word behind a row of one's own, be it nothing. -/
/- slices.Concat of two words, with the room that it leaves; two cells of a new block. -/
/- Words that are cut, in memory; and among the arguments: their room. -/
/- What states are sure to say: the program's sureOf. -/
import Derived.Test.YtodcmlcpicabaaaBas
import Derived.Test.YtodcmlcpicabaaaTlM
import Derived.Lib.AppendZeros
import Derived.Laws.OwnMore
import Derived.LoopN
import Derived.Deep.RegionHeld3
namespace Go.Proofs.Ytodcmlcpicabaaa
open Go.RowKit
set_option linter.unusedVariables false
set_option linter.unusedSimpArgs false

set_option maxHeartbeats 3200000 in
set_option maxRecDepth 100000 in
theorem common_any (v u : List Int) (a b : Option Addr) (c d : Nat) (w : World) (hv : Ints w a v) (hu : Ints w b u) (hm : v.length ≤ maxLen) (hm' : u.length ≤ maxLen) :
    Calls Try.prog 60 #[.slice a v.length c, .slice b u.length d] w (Says (.int .i64 ((comT v u : Nat) : Int)) w) := by
  unfold maxLen at hm hm'
  have HV : Hid (Ints w a v) := hv
  have HU : Hid (Ints w b u) := hu
  obtain ⟨Po, hPo⟩ : ∃ P, P = Says (.int .i64 ((comT v u : Nat) : Int)) w := ⟨_, rfl⟩
  have HP : Hid (∀ n W, comT v u = n → w.grownBy W none → Po (.returned (.int .i64 (n : Int))) W) := fun n W h1 h2 => by rw [hPo, ← h1]; exact ⟨rfl, h2⟩
  rw [← hPo]
  clear hv hu hPo
  go_enter Try.func60, Try.ntmps60
  go_wp2_with fail
  go_loopw [5] (fun t W => ∃ k : Nat, k ≤ v.length ∧ k ≤ u.length ∧ t = .int .i64 k ∧ w.grownBy W none ∧ ∀ j, j < k → v.getD j 0 = u.getD j 0) (fun t _ => v.length - (intOf t).toNat)
  case atStart => exact ⟨0, Nat.zero_le _, Nat.zero_le _, rfl, grown_refl _ _, fun j hj => by omega⟩
  case round =>
    obtain ⟨k, hk, hk', rfl, hg, hj⟩ := hrel
    have HG : Hid (w.grownBy wr none) := hg
    have HJ : Hid (∀ j, j < k → v.getD j 0 = u.getD j 0) := hj
    clear hg hj
    by_cases h1 : k < v.length
    · have i1 : (k : Int) < (v.length : Int) := by omega
      by_cases h2 : k < u.length
      · have i2 : (k : Int) < (u.length : Int) := by omega
        obtain ⟨b1, o1, rfl, hc1⟩ := (HV.out.grown HG.out).at h1
        obtain ⟨b2, o2, rfl, hc2⟩ := (HU.out.grown HG.out).at h2
        have x1 := hc1 k h1
        have x2 := hc2 k h2
        obtain ⟨z1, hz1⟩ : ∃ z, v.getD k 0 = z := ⟨_, rfl⟩
        obtain ⟨z2, hz2⟩ : ∃ z, u.getD k 0 = z := ⟨_, rfl⟩
        rw [hz1] at x1
        rw [hz2] at x2
        by_cases e : z1 = z2
        · have d1 : (z1 == z2) = true := by simpa using e
          have HN : Hid (∀ j, j < k + 1 → v.getD j 0 = u.getD j 0) := fun j hj => by
            by_cases hjk : j = k
            · subst hjk; rw [hz1, hz2]; exact e
            · exact HJ.out j (by omega)
          clear hz1 hz2 e hc1 hc2
          go_wp2_with fail
          go_quiet (fail)
          go_wp2_with fail
          go_roundw
          case rel => exact ⟨k + 1, by omega, by omega, by go_num, grown_drewN HG.out _, HN.out⟩
          case measure => simp [intOf]; omega
        · have d1 : (z1 == z2) = false := by simpa using e
          have F : Hid (∀ q, Po (.returned (.int .i64 (k : Int))) (wr.drewN q)) := fun q => HP.out k _ (comT_is hk hk' HJ.out (fun _ _ => by rw [hz1, hz2]; exact e)) (grown_drewN HG.out q)
          clear hz1 hz2 e hc1 hc2
          go_wp2_with fail
          go_quiet (fail)
          go_wp2_with fail
          first | exact F.out _ | (go_ret; exact F.out _)
      · have i2 : ¬ (k : Int) < (u.length : Int) := by omega
        have F : Hid (∀ q, Po (.returned (.int .i64 (k : Int))) (wr.drewN q)) := fun q => HP.out k _ (comT_is hk hk' HJ.out (fun _ h => absurd h h2)) (grown_drewN HG.out q)
        go_wp2_with fail
        go_quiet (fail)
        go_wp2_with fail
        first | exact F.out _ | (go_ret; exact F.out _)
    · have i1 : ¬ (k : Int) < (v.length : Int) := by omega
      have F : Hid (∀ q, Po (.returned (.int .i64 (k : Int))) (wr.drewN q)) := fun q => HP.out k _ (comT_is hk hk' HJ.out (fun h _ => absurd h h1)) (grown_drewN HG.out q)
      go_wp2_with fail
      go_quiet (fail)
      go_wp2_with fail
      first | exact F.out _ | (go_ret; exact F.out _)

/-- What is left of a word behind its first letters. -/
def dropA (a : Option Addr) (n c : Nat) : Option Addr := if c = n then a else a.map (·.add n)
set_option maxRecDepth 100000 in
theorem drop_run (a : Option Addr) (len n c : Nat) (h1 : n ≤ len) (h2 : len ≤ c) (h3 : len ≤ maxLen) (W : World) : (Instr.slice 22 (.slice a len c) (some (.int .i64 (n : Int))) none none).run Try.prog W = .ok (.slice (dropA a n c) (len - n) (c - n)) W := by
  obtain ⟨i0, hi⟩ : ∃ i, Try.prog.info? 3 = some i ∧ i.size = 1 := by
    have h : (Try.prog.info? 3).map (fun i => i.size) = some 1 := by kernel_rfl
    cases hi : Try.prog.info? 3 with
    | none => rw [hi] at h; cases h
    | some i => rw [hi] at h; simp only [Option.map_some, Option.some.injEq] at h; exact ⟨i, rfl, h⟩
  rw [run_slice_l (w := W) (t := 22) (a := a) (len := len) (cap := c) (ht := Try.underlying22) (kl := .i64) (l := (n : Int)) (by omega) (by omega)]
  have e : Try.prog.elem 22 = 3 := by kernel_rfl
  simp [e, sizeOf, typeInfo, hi.1, hi.2, sliced, Result.andThen, dropA]
theorem drop_ints {W : World} {a : Option Addr} {zs : List Int} {n c : Nat} (h : Ints W a zs) (h1 : n ≤ zs.length) (h2 : zs.length ≤ c) : Ints W (dropA a n c) (zs.drop n) := by
  unfold dropA
  by_cases hc : c = n
  · left
    have : (zs.drop n).length = 0 := by rw [List.length_drop]; omega
    exact List.length_eq_zero_iff.1 this
  · rw [if_neg hc]
    rcases h with rfl | ⟨b, off, rfl, hcc⟩
    · left; simp
    · right
      refine ⟨b, off + n, ?_, fun i hi => ?_⟩
      · by_cases h0 : n = 0
        · subst h0; simp [Addr.add]
        · simp [Addr.add, h0]
      · have hl : (zs.drop n).length = zs.length - n := by simp
        have := hcc (n + i) (by omega)
        rw [show off + n + i = off + (n + i) by omega, this]
        congr 2
        simp [List.getD]
theorem drop_block {a : Option Addr} {n c : Nat} {y : Addr} (h : dropA a n c = some y) : ∃ z, a = some z ∧ y.block = z.block := by
  unfold dropA at h
  split at h
  · exact ⟨y, h, rfl⟩
  · cases a with
    | none => cases h
    | some z =>
      simp only [Option.map_some, Option.some.injEq] at h
      refine ⟨z, rfl, ?_⟩
      rw [← h]
      unfold Addr.add
      split <;> rfl


end Go.Proofs.Ytodcmlcpicabaaa

namespace Go.Proofs.Ytodcmlcpicabaaa
open Go.RowKit
set_option linter.unusedVariables false
set_option linter.unusedSimpArgs false

attribute [local go_sem ↓] appY_fold in
set_option maxHeartbeats 1600000 in
theorem grow_any (n : Nat) (h0 : 0 < n) (hn : n ≤ 1000) (w : World) :
    Calls Try.prog 57 #[.slice none 0 0, .int .i64 (n : Int)] w fun e w' => ∃ g cap, e = .returned (.slice (some ⟨g, 0, none⟩) 0 cap) ∧ w'.ownsRow w.heap.size 3 1 (.slice (some ⟨g, 0, none⟩) 0 cap) 0 [] ∧ w.grownBy w' none := by
  obtain ⟨i0, hi0, hz0, hz1, hz2⟩ := info_partsY Try.infoI64Y
  have hrun := Lib.run_append_nil_zeros (P := Try.prog) w 22 3 22 3 i0 (.int .i64 0) .i64 .i64 Try.underlying22 Try.underlying3 hi0 hz0 n h0 (by omega) (by omega) (by rw [hz2]; omega)
  rw [appY_fold] at hrun
  have hcap := grownCap_ge w n 0 3
  have hcap2 := grownCap_le_maxLen w n 0 3 (by unfold maxLen; omega)
  generalize grownCap w n 0 3 = cap at *
  have hq : (0 : Int) < (n : Int) := by omega
  obtain ⟨cur, hcur⟩ : ∃ cur, Builtin.zeroCells (Value.int .i64 0).cells n ++ Builtin.zeroCells (Value.int .i64 0).cells (cap - n) = cur := ⟨_, rfl⟩
  have hsz : cur.size = cap := by rw [← hcur]; simp [Builtin.zeroCells, Value.cells]; omega
  rw [hcur] at hrun
  have E : Hid ((w.drew.alloc (.cells cur 3)).ownsRow w.heap.size 3 1 (.slice (some ⟨w.heap.size, 0, none⟩) 0 cap) 0 [] ∧ w.grownBy (w.drew.alloc (.cells cur 3)) none) :=
    ⟨⟨rfl, .inr ⟨w.heap.size, cap, cur, rfl, Nat.le_refl _, heap_alloc_new w.drew _, Nat.zero_le _, hcap2, by rw [hsz, Nat.mul_one], by simp⟩⟩, grown_trans (grown_drew (grown_refl _ _)) (grown_alloc _ _)⟩
  clear hcur hsz hcap2
  go_enter Try.func57, Try.ntmps57
  go_wp2_with fail
  go_ret
  exact ⟨_, _, rfl, E.out⟩

/-- A word is put behind a row of one's own. -/
theorem app_more {w : World} {B : Nat} {v : Value} {xs us : List Int} {a : Option Addr} {c : Nat} (ho : w.ownsRow B 3 1 v xs.length (numsI xs)) (hv : ∃ g cap, v = .slice (some ⟨g, 0, none⟩) xs.length cap) (hB : B ≤ w.heap.size) (hu : Ints w a us) (hl : xs.length + us.length ≤ 1000) :
    ∃ g cap w', (AppY #[22, 22] 22 #[v, .slice a us.length c]).run Try.prog w = .ok (.slice (some ⟨g, 0, none⟩) (xs.length + us.length) cap) w' ∧ w'.ownsRow B 3 1 (.slice (some ⟨g, 0, none⟩) (xs.length + us.length) cap) (xs ++ us).length (numsI (xs ++ us)) ∧ w.grownBy w' v.ownBlock := by
  obtain ⟨i0, hi0, hz0, hz1, hz2⟩ := info_partsY Try.infoI64Y
  obtain ⟨g, cap, rfl⟩ := hv
  by_cases he : us = []
  · subst he
    refine ⟨g, cap, w, ?_, by simpa using ho, grown_refl _ _⟩
    have hc := ho.2
    rcases hc with ⟨h1, _⟩ | ⟨g', cap', cur, h1, _, _, h4, _⟩
    · cases h1
    · cases h1
      have h5 : ¬ cap < xs.length := by omega
      cases a with
      | none => simp [AppY, Builtin.append_, run_underlying Try.underlying22, sizeOf, typeInfo, zeroValue, hi0, hz0, Builtin.lenOf, run_firstCells_none, storeCells, h5, h4]
      | some b =>
        have hf := run_firstCells_some (P := Try.prog) w i0.size 0 b 0 c [] (by simp) (by simp)
        simp [AppY, Builtin.append_, run_underlying Try.underlying22, sizeOf, typeInfo, zeroValue, hi0, hz0, Builtin.lenOf, hf, storeCells, h5, h4]
  · have hlen : 0 < us.length := List.length_pos_iff.2 he
    obtain ⟨b, off, rfl, hc⟩ := hu.at hlen
    obtain ⟨g1, c1, w1, hr, h2, h3, _, _⟩ := run_append_lies (P := Try.prog) w 22 22 B 3 i0 (.int .i64 0) 1 8 Try.underlying22 hi0 hz0 hz1 hz2 rfl (by decide) (.slice (some ⟨g, 0, none⟩) xs.length cap) xs.length (numsI xs) ho ⟨b, off, none⟩ us.length c (numsI us) (by simp [numsI]) (fun j u hu => by
        have hj : j < us.length := by have := (List.getElem?_eq_some_iff.1 hu).1; simpa [numsI] using this
        have e : (⟨b, off, none⟩ : Addr).add j = ⟨b, off + j, none⟩ := by by_cases hj0 : j = 0 <;> simp [Addr.add, hj0]
        rw [e, hc j hj, ← hu]
        simp [numsI, hj, List.getD]) (by intro u hu; simp [numsI] at hu; obtain ⟨x, _, rfl⟩ := hu; rfl) hlen (by unfold maxLen; omega) (by omega) hB _ rfl
    refine ⟨g1, c1, w1, hr, ?_, h3⟩
    have e : numsI xs ++ numsI us = numsI (xs ++ us) := by simp [numsI]
    rw [List.length_append, ← e]
    exact h2

attribute [local go_sem ↓] appY_fold in
set_option maxHeartbeats 3200000 in
theorem concat_any (us vs : List Int) (ah al : Option Addr) (ch cl g2 : Nat) (w : World) (hu : Ints w ah us) (hv : Ints w al vs) (hlu : us.length ≤ 60) (hlv : vs.length ≤ 60) (h0 : 0 < vs.length) (c0 : w.cell? ⟨g2, 0, none⟩ = some (.slice ah us.length ch)) (c1 : w.cell? ⟨g2, 1, none⟩ = some (.slice al vs.length cl)) :
    Calls Try.prog 39 #[.slice (some ⟨g2, 0, none⟩) 2 2] w fun e w' => ∃ g cap, e = .returned (.slice (some ⟨g, 0, none⟩) (us.length + vs.length) cap) ∧ (∀ k, k < us.length + vs.length → w'.cell? ⟨g, k, none⟩ = some (.int .i64 ((us ++ vs).getD k 0))) ∧ w.grownBy w' none := by
  have q1 : ¬ ((us.length : Int) < 0) := by omega
  have q2 : ¬ ((us.length : Int) + (vs.length : Int) < 0) := by omega
  have HG : Hid (Calls Try.prog 57 #[.slice none 0 0, .int .i64 ((us.length : Int) + (vs.length : Int))] w fun e w' => ∃ g cap, e = .returned (.slice (some ⟨g, 0, none⟩) 0 cap) ∧ w'.ownsRow w.heap.size 3 1 (.slice (some ⟨g, 0, none⟩) 0 cap) 0 [] ∧ w.grownBy w' none) := by
    have := grow_any (us.length + vs.length) (by omega) (by omega) w
    rwa [Int.natCast_add] at this
  have HC : Hid (∀ W, w.grownBy W none → W.cell? ⟨g2, 0, none⟩ = some (.slice ah us.length ch) ∧ W.cell? ⟨g2, 1, none⟩ = some (.slice al vs.length cl)) := fun W h => ⟨h.cell c0 (by simp), h.cell c1 (by simp)⟩
  have HU : Hid (Ints w ah us) := hu
  have HV : Hid (Ints w al vs) := hv
  clear hu hv
  go_enter Try.func39, Try.ntmps39
  go_wp2_with fail
  refine wp_loop_rounds 3 ?_
  rw [rounds_succ]
  go_wp2_with fail
  rw [rounds_succ]
  go_wp2_with fail
  rw [rounds_succ]
  go_wp2_with fail
  refine HG.out.mono ?_
  rintro e w1 ⟨g, cap, rfl, ho, hg⟩
  obtain ⟨gA, cA, wA, hrA, hoA, hgA⟩ := app_more (xs := []) (c := ch) (by simpa [numsI] using ho) ⟨g, cap, rfl⟩ hg.size (HU.out.grown hg) (by simp; omega)
  simp only [List.length_nil, List.nil_append, Nat.zero_add] at hrA hoA
  have hgA2 : w.grownBy wA none := by
    refine grown_new hg hgA ?_
    exact (ho.lt g rfl).1
  obtain ⟨gB, cB, wB, hrB, hoB, hgB⟩ := app_more (c := cl) hoA ⟨gA, cA, rfl⟩ hgA2.size (HV.out.grown hgA2) (by omega)
  have hgB2 : w.grownBy wB none := by
    refine grown_new hgA2 hgB ?_
    exact (hoA.lt gA rfl).1
  have d0 := (HC.out w1 hg).1
  have d1 := (HC.out wA hgA2).2
  have d2 := (HC.out w1 hg).2
  have d3 := (HC.out wA hgA2).1
  have E : Hid (∀ k, k < us.length + vs.length → wB.cell? ⟨gB, k, none⟩ = some (.int .i64 ((us ++ vs).getD k 0))) := fun k hk => by
    have h1 : wB.ownsRow w.heap.size 3 1 (.slice (some ⟨gB, 0, none⟩) (us.length + vs.length) cB) (us.length + vs.length) (numsI (us ++ vs)) := by rw [List.length_append] at hoB; exact hoB
    rw [h1.cellAt k (by omega)]
    have hk2 : k < (us ++ vs).length := by simp; omega
    simp only [numsI, List.getElem?_map, List.getElem?_eq_getElem hk2, Option.map_some, List.getD, Option.getD_some]
  have GB : Hid (w.grownBy wB none) := hgB2
  clear ho hg hoA hgA hgA2 hoB hgB hgB2
  go_wp2_with fail
  refine wp_loop_rounds 3 ?_
  rw [rounds_succ]
  go_wp2_with fail
  rw [rounds_succ]
  go_wp2_with fail
  rw [rounds_succ]
  go_wp2_with fail
  go_ret
  exact ⟨_, _, rfl, E.out, GB.out⟩

end Go.Proofs.Ytodcmlcpicabaaa

namespace Go.Proofs.Ytodcmlcpicabaaa
open Go.RowKit
set_option linter.unusedVariables false
set_option linter.unusedSimpArgs false

def GrowZ (w : World) (e : Ending) (w' : World) : Prop := ∃ a0 c0, e = .returned (.slice a0 0 c0) ∧ w'.ownsRow w.heap.size 3 1 (.slice a0 0 c0) 0 [] ∧ w.grownBy w' none
theorem growZ_any (n : Nat) (hn : n ≤ 1000) (w : World) : Calls Try.prog 57 #[.slice none 0 0, .int .i64 (n : Int)] w (GrowZ w) := by
  by_cases h0 : 0 < n
  · exact (grow_any n h0 hn w).mono fun e w' ⟨g, cap, h1, h2, h3⟩ => ⟨some ⟨g, 0, none⟩, cap, h1, h2, h3⟩
  · have e0 : n = 0 := by omega
    subst e0
    go_enter Try.func57, Try.ntmps57
    go_wp2_with fail
    go_ret
    exact ⟨none, 0, rfl, World.ownsRow_nil w _ _ _, grown_refl _ _⟩

def CatPost (us vs : List Int) (w : World) (e : Ending) (w' : World) : Prop := ∃ a k, e = .returned (.slice a (us ++ vs).length k) ∧ Ints w' a (us ++ vs) ∧ w.grownBy w' none ∧ ∀ y, a = some y → w.heap.size ≤ y.block

attribute [local go_sem ↓] appY_fold in
set_option maxHeartbeats 3200000 in
theorem cat_any (us vs : List Int) (ah al : Option Addr) (ch cl g2 : Nat) (w : World) (hu : Ints w ah us) (hv : Ints w al vs) (hlu : us.length ≤ 60) (hlv : vs.length ≤ 60) (c0 : w.cell? ⟨g2, 0, none⟩ = some (.slice ah us.length ch)) (c1 : w.cell? ⟨g2, 1, none⟩ = some (.slice al vs.length cl)) :
    Calls Try.prog 39 #[.slice (some ⟨g2, 0, none⟩) 2 2] w (CatPost us vs w) := by
  have q1 : ¬ ((us.length : Int) < 0) := by omega
  have q2 : ¬ ((us.length : Int) + (vs.length : Int) < 0) := by omega
  have HG : Hid (Calls Try.prog 57 #[.slice none 0 0, .int .i64 ((us.length : Int) + (vs.length : Int))] w (GrowZ w)) := by
    have := growZ_any (us.length + vs.length) (by omega) w
    rwa [Int.natCast_add] at this
  have HC : Hid (∀ W, w.grownBy W none → W.cell? ⟨g2, 0, none⟩ = some (.slice ah us.length ch) ∧ W.cell? ⟨g2, 1, none⟩ = some (.slice al vs.length cl)) := fun W h => ⟨h.cell c0 (by simp), h.cell c1 (by simp)⟩
  have HU : Hid (Ints w ah us) := hu
  have HV : Hid (Ints w al vs) := hv
  obtain ⟨Po, hPo⟩ : ∃ P, P = CatPost us vs w := ⟨_, rfl⟩
  have HP : Hid (∀ a k W, Ints W a (us ++ vs) → w.grownBy W none → (∀ y, a = some y → w.heap.size ≤ y.block) → Po (.returned (.slice a (us.length + vs.length) k)) W) := fun a k W h1 h2 h3 => by rw [hPo]; exact ⟨a, k, by rw [List.length_append], h1, h2, h3⟩
  rw [← hPo]
  clear hu hv hPo
  go_enter Try.func39, Try.ntmps39
  go_wp2_with fail
  refine wp_loop_rounds 3 ?_
  rw [rounds_succ]
  go_wp2_with fail
  rw [rounds_succ]
  go_wp2_with fail
  rw [rounds_succ]
  go_wp2_with fail
  refine HG.out.mono ?_
  rintro e w1 ⟨a0, cap, rfl, ho, hg⟩
  have ho' : w1.ownsRow w.heap.size 3 1 (.slice a0 ([] : List Int).length cap) ([] : List Int).length (numsI []) := by simpa [numsI] using ho
  obtain ⟨aA, cA, wA, hrA, hoA, hgA⟩ := app_anyY (xs := []) (c := ch) ho' hg.size (HU.out.grown hg) (by simp; omega)
  simp only [List.length_nil, List.nil_append, Nat.zero_add] at hrA hoA
  have hgA2 : w.grownBy wA none := by
    refine grown_of_below ((below_of_grown hg).grown hgA hg.size (fun k hk => ?_))
    exact (ho'.lt k hk).1
  obtain ⟨aB, cB, wB, hrB, hoB, hgB⟩ := app_anyY (c := cl) hoA hgA2.size (HV.out.grown hgA2) (by omega)
  have hgB2 : w.grownBy wB none := by
    refine grown_of_below ((below_of_grown hgA2).grown hgB hgA2.size (fun k hk => ?_))
    exact (hoA.lt k hk).1
  have d0 := (HC.out w1 hg).1
  have d1 := (HC.out wA hgA2).2
  have d2 := (HC.out w1 hg).2
  have d3 := (HC.out wA hgA2).1
  have Fin : Hid (Po (.returned (.slice aB (us.length + vs.length) cB)) wB) := HP.out aB cB wB (ints_of_row hoB) hgB2 (new_of_row hoB)
  clear ho ho' hg hoA hgA hgA2 hoB hgB hgB2 HP
  go_wp2_with fail
  refine wp_loop_rounds 3 ?_
  rw [rounds_succ]
  go_wp2_with fail
  rw [rounds_succ]
  go_wp2_with fail
  rw [rounds_succ]
  go_wp2_with fail
  first | exact Fin.out | (go_ret; exact Fin.out)

end Go.Proofs.Ytodcmlcpicabaaa

namespace Go.Proofs.Ytodcmlcpicabaaa
open Go.RowKit
set_option linter.unusedVariables false
set_option linter.unusedSimpArgs false

def CatX (X : List Int) (w : World) (e : Ending) (w' : World) : Prop := ∃ a k, e = .returned (.slice a X.length k) ∧ Ints w' a X ∧ w.grownBy w' none ∧ (∀ y, a = some y → w.heap.size ≤ y.block ∧ y.block < w'.heap.size) ∧ X.length ≤ k
theorem row_lt {w : World} {B n c : Nat} {a : Option Addr} {zs : List Value} {t : TypeId} (h : w.ownsRow B t 1 (.slice a n c) n zs) : (∀ y, a = some y → B ≤ y.block ∧ y.block < w.heap.size) ∧ n ≤ c := by
  rcases h.2 with ⟨h1, h3⟩ | ⟨g, cap, cur, h1, h4, h5, h6, _⟩
  · simp only [Value.slice.injEq] at h1
    obtain ⟨rfl, rfl, rfl⟩ := h1
    exact ⟨(fun y hy => by cases hy), Nat.le_refl _⟩
  · have hlt := h.lt
    simp only [Value.slice.injEq] at h1
    obtain ⟨rfl, _, rfl⟩ := h1
    exact ⟨(fun y hy => by cases hy; exact hlt g rfl), h6⟩

attribute [local go_sem ↓] appY_fold in
set_option maxHeartbeats 3200000 in
theorem catX_any (us vs : List Int) (ah al : Option Addr) (ch cl g2 : Nat) (w : World) (hu : Ints w ah us) (hv : Ints w al vs) (hlu : us.length ≤ 300) (hlv : vs.length ≤ 300) (c0 : w.cell? ⟨g2, 0, none⟩ = some (.slice ah us.length ch)) (c1 : w.cell? ⟨g2, 1, none⟩ = some (.slice al vs.length cl)) :
    Calls Try.prog 39 #[.slice (some ⟨g2, 0, none⟩) 2 2] w (CatX (us ++ vs) w) := by
  have q1 : ¬ ((us.length : Int) < 0) := by omega
  have q2 : ¬ ((us.length : Int) + (vs.length : Int) < 0) := by omega
  have HG : Hid (Calls Try.prog 57 #[.slice none 0 0, .int .i64 ((us.length : Int) + (vs.length : Int))] w (GrowZ w)) := by
    have := growZ_any (us.length + vs.length) (by omega) w
    rwa [Int.natCast_add] at this
  have HC : Hid (∀ W, w.grownBy W none → W.cell? ⟨g2, 0, none⟩ = some (.slice ah us.length ch) ∧ W.cell? ⟨g2, 1, none⟩ = some (.slice al vs.length cl)) := fun W h => ⟨h.cell c0 (by simp), h.cell c1 (by simp)⟩
  have HU : Hid (Ints w ah us) := hu
  have HV : Hid (Ints w al vs) := hv
  obtain ⟨Po, hPo⟩ : ∃ P, P = CatX (us ++ vs) w := ⟨_, rfl⟩
  have HP : Hid (∀ a k W, Ints W a (us ++ vs) → w.grownBy W none → (∀ y, a = some y → w.heap.size ≤ y.block ∧ y.block < W.heap.size) → (us ++ vs).length ≤ k → Po (.returned (.slice a (us.length + vs.length) k)) W) := fun a k W h1 h2 h3 h4 => by rw [hPo]; exact ⟨a, k, by rw [List.length_append], h1, h2, h3, h4⟩
  rw [← hPo]
  clear hu hv hPo
  go_enter Try.func39, Try.ntmps39
  go_wp2_with fail
  refine wp_loop_rounds 3 ?_
  rw [rounds_succ]
  go_wp2_with fail
  rw [rounds_succ]
  go_wp2_with fail
  rw [rounds_succ]
  go_wp2_with fail
  refine HG.out.mono ?_
  rintro e w1 ⟨a0, cap, rfl, ho, hg⟩
  have ho' : w1.ownsRow w.heap.size 3 1 (.slice a0 ([] : List Int).length cap) ([] : List Int).length (numsI []) := by simpa [numsI] using ho
  obtain ⟨aA, cA, wA, hrA, hoA, hgA⟩ := app_anyY (xs := []) (c := ch) ho' hg.size (HU.out.grown hg) (by simp; omega)
  simp only [List.length_nil, List.nil_append, Nat.zero_add] at hrA hoA
  have hgA2 : w.grownBy wA none := by
    refine grown_of_below ((below_of_grown hg).grown hgA hg.size (fun k hk => ?_))
    exact (ho'.lt k hk).1
  obtain ⟨aB, cB, wB, hrB, hoB, hgB⟩ := app_anyY (c := cl) hoA hgA2.size (HV.out.grown hgA2) (by omega)
  have hgB2 : w.grownBy wB none := by
    refine grown_of_below ((below_of_grown hgA2).grown hgB hgA2.size (fun k hk => ?_))
    exact (hoA.lt k hk).1
  have d0 := (HC.out w1 hg).1
  have d1 := (HC.out wA hgA2).2
  have d2 := (HC.out w1 hg).2
  have d3 := (HC.out wA hgA2).1
  have Fin : Hid (Po (.returned (.slice aB (us.length + vs.length) cB)) wB) := HP.out aB cB wB (ints_of_row hoB) hgB2 (row_lt hoB).1 (row_lt hoB).2
  clear ho ho' hg hoA hgA hgA2 hoB hgB hgB2 HP
  go_wp2_with fail
  refine wp_loop_rounds 3 ?_
  rw [rounds_succ]
  go_wp2_with fail
  rw [rounds_succ]
  go_wp2_with fail
  rw [rounds_succ]
  go_wp2_with fail
  first | exact Fin.out | (go_ret; exact Fin.out)

/-- Two cells. -/
def C2 (W : World) (b : Nat) (v0 v1 : Value) : Prop := W.cell? ⟨b, 0, none⟩ = some v0 ∧ W.cell? ⟨b, 1, none⟩ = some v1
theorem C2.kept {W W' : World} {b : Nat} {v0 v1 : Value} (h : C2 W b v0 v1) (g : W.grownBy W' none) : C2 W' b v0 v1 := ⟨g.cell h.1 (by simp), g.cell h.2 (by simp)⟩
theorem c2_new (w : World) (v0 v1 : Value) (t : TypeId) : C2 (w.alloc (.cells #[v0, v1] t)) w.heap.size v0 v1 := by
  have hb := heap_alloc_new w (.cells #[v0, v1] t)
  exact ⟨by rw [cell_of_row _ _ 0 _ _ (0, 0) hb]; rfl, by rw [cell_of_row _ _ 1 _ _ (0, 0) hb]; rfl⟩
theorem c2_a (w : World) (v0 v1 : Value) (t : TypeId) : C2 ((w.alloc (.cells #[v0, v1] t)).drew) w.heap.size v0 v1 := (c2_new w v0 v1 t).kept (grown_drew (grown_refl _ _))
theorem c2_b (w : World) (v0 v1 : Value) (t : TypeId) (o : Obj) : C2 (((w.alloc (.cells #[v0, v1] t)).alloc o).drew) w.heap.size v0 v1 := (c2_new w v0 v1 t).kept (grown_drew (grown_alloc _ _))
theorem c2_c (w : World) (v0 v1 : Value) (t : TypeId) (o : Obj) : C2 (((w.alloc o).alloc (.cells #[v0, v1] t)).drew) (w.heap.size + 1) v0 v1 := by
  have := (c2_new (w.alloc o) v0 v1 t).kept (grown_drew (grown_refl _ _))
  rwa [World.size_alloc] at this
theorem gr_1 (w : World) (o : Obj) : w.grownBy ((w.alloc o).drew) none := grown_drew (grown_alloc _ _)
theorem gr_2 (w : World) (o o' : Obj) : w.grownBy (((w.alloc o).alloc o').drew) none := grown_drew (grown_trans (grown_alloc _ _) (grown_alloc _ _))

end Go.Proofs.Ytodcmlcpicabaaa

namespace Go.Proofs.Ytodcmlcpicabaaa
open Go.ChangeShapes Go.WideShapes Go.ChangeAt Go.RowKit Go.Joins
set_option linter.unusedVariables false
set_option linter.unusedSimpArgs false

/-- Each row has room for itself. -/
def CapsAt (w : World) (a : Option Addr) (R : List (List Int)) : Prop := R = [] ∨ ∃ b off, a = some ⟨b, off, none⟩ ∧ ∀ i, i < R.length → ∃ x c, w.cell? ⟨b, off + i, none⟩ = some (.slice x (R.getD i []).length c) ∧ (R.getD i []).length ≤ c
theorem CapsAt.grown {w w' : World} {a : Option Addr} {R : List (List Int)} (h : CapsAt w a R) (g : w.grownBy w' none) : CapsAt w' a R := by
  rcases h with h | ⟨b, off, h1, h2⟩
  · exact .inl h
  · refine .inr ⟨b, off, h1, fun i hi => ?_⟩
    obtain ⟨x, c, h3, h4⟩ := h2 i hi
    exact ⟨x, c, g.cell h3 (by simp), h4⟩
theorem rows_tripC {w : World} {a : Option Addr} {R : List (List Int)} (h : RowsAt w a R) (k : CapsAt w a R) : ∃ ps, wordsT ps = R ∧ TripAt w a ps ∧ LieT w ps ∧ ∀ p, p ∈ ps → p.2.2.length ≤ p.2.1 := by
  obtain ⟨ps, h1, h2, h3⟩ := rows_trip h
  refine ⟨ps, h1, h2, h3, fun p hp => ?_⟩
  obtain ⟨i, hi, rfl⟩ := List.getElem_of_mem hp
  have hl : R.length = ps.length := by rw [← h1, wordsT_len]
  rcases k with k | ⟨b, off, k1, k2⟩
  · rw [k] at hl; simp at hl; omega
  · obtain ⟨x, c, k3, k4⟩ := k2 i (by omega)
    rcases h2 with h2 | ⟨b', off', e1, e2⟩
    · rw [h2] at hi; simp at hi
    · rw [k1] at e1
      cases e1
      have e3 := e2 i hi
      have e4 : ps.getD i (none, 0, []) = ps[i] := by simp [List.getD, hi]
      rw [e4, k3] at e3
      simp only [valT, Option.some.injEq, Value.slice.injEq] at e3
      have e5 : R.getD i [] = ps[i].2.2 := by rw [← h1]; simp [wordsT, List.getD, hi]
      rw [e5] at k4
      omega

/-- Words of one's own row that lie elsewhere and are cut. -/
structure OwnS (W1 W : World) (g c : Nat) (ps : List Trip) : Prop where
  own : W.ownsRow W1.heap.size 22 1 (.slice (some ⟨g, 0, none⟩) ps.length c) ps.length (valsT ps)
  gr : W1.grownBy W none
  lie : LieT W1 ps
  cap : ∀ p, p ∈ ps → p.2.2.length ≤ p.2.1
theorem OwnS.grown {W1 W W' : World} {g c : Nat} {ps : List Trip} (h : OwnS W1 W g c ps) (hg : W.grownBy W' none) : OwnS W1 W' g c ps := ⟨h.own.kept hg (.inr (by simp [Value.ownBlock])), grown_trans h.gr hg, h.lie, h.cap⟩
theorem OwnS.blk {W1 W : World} {g c : Nat} {ps : List Trip} (h : OwnS W1 W g c ps) : ∃ cur, W.heap[g]? = some (.cells cur 22 (0, 0)) ∧ W1.heap.size ≤ g := by
  rcases h.own.2 with ⟨e0, _⟩ | ⟨g', cap, cur, e1, hb, hh, _⟩
  · cases e0
  · simp only [Value.slice.injEq, Option.some.injEq, Addr.mk.injEq] at e1
    obtain ⟨⟨rfl, _⟩, _⟩ := e1
    exact ⟨cur, hh, hb⟩
theorem OwnS.at {W1 W : World} {g c : Nat} {ps : List Trip} (h : OwnS W1 W g c ps) {i : Nat} (hi : i < ps.length) : W.cell? ⟨g, i, none⟩ = some (valT (ps.getD i (none, 0, []))) ∧ W.frozen? ⟨g, i, none⟩ = false := by
  obtain ⟨cur, hh, _⟩ := h.blk
  refine ⟨?_, frozen_of_row _ _ _ _ _ hh⟩
  rw [h.own.cellAt i (by omega)]
  simp only [valsT, List.getElem?_map, List.getElem?_eq_getElem hi, Option.map_some, List.getD, Option.getD_some]
theorem OwnS.mem {ps : List Trip} {i : Nat} (hi : i < ps.length) : ps.getD i (none, 0, []) ∈ ps := by rw [List.getD, List.getElem?_eq_getElem hi, Option.getD_some]; exact List.getElem_mem hi
theorem words_at {ps : List Trip} {i : Nat} (hi : i < ps.length) : (ps.getD i (none, 0, [])).2.2 = (wordsT ps).getD i [] := by simp [wordsT, List.getD, hi]
/-- A word is cut. -/
def cutP (ps : List Trip) (s n : Nat) : List Trip := ps.set s ((ps.getD s (none, 0, [])).1, (ps.getD s (none, 0, [])).2.1, (ps.getD s (none, 0, [])).2.2.take n)
theorem OwnS.cut {W1 W : World} {g c : Nat} {ps : List Trip} (h : OwnS W1 W g c ps) {s n : Nat} (hs : s < ps.length) (hn : n ≤ (ps.getD s (none, 0, [])).2.2.length) : OwnS W1 (W.setCell ⟨g, s, none⟩ (.slice (ps.getD s (none, 0, [])).1 n (ps.getD s (none, 0, [])).2.1)) g c (cutP ps s n) := by
  have hm := OwnS.mem hs
  obtain ⟨hl1, hl2⟩ := h.lie _ hm
  have hc := h.cap _ hm
  have hlt : ((ps.getD s (none, 0, [])).2.2.take n).length = n := by rw [List.length_take]; omega
  refine ⟨?_, ?_, fun p hp => ?_, fun p hp => ?_⟩
  · rcases h.own.2 with ⟨e0, _⟩ | ⟨g', cap', cur, e1, hB, hh, h5, h6, h7, h8⟩
    · cases e0
    · simp only [Value.slice.injEq, Option.some.injEq, Addr.mk.injEq] at e1
      obtain ⟨⟨rfl, _⟩, _, rfl⟩ := e1
      have hset := heap_setCell_same W g s cur _ (.slice (ps.getD s (none, 0, [])).1 n (ps.getD s (none, 0, [])).2.1) hh
      have e9 : valsT (cutP ps s n) = (valsT ps).set s (.slice (ps.getD s (none, 0, [])).1 n (ps.getD s (none, 0, [])).2.1) := by
        unfold valsT cutP
        rw [List.map_set]
        simp only [valT, hlt]
      have e10 : (cutP ps s n).length = ps.length := by simp [cutP]
      rw [e9, e10]
      refine ⟨by simp [valsT], .inr ⟨g, c, _, rfl, hB, hset, h5, h6, by simpa using h7, ?_⟩⟩
      simp only [Nat.mul_one] at h8 ⊢
      rw [Array.toList_setIfInBounds, List.take_set, h8]
  · exact grown_of_below ((below_of_grown h.gr).grown (grown_set W ⟨g, s, none⟩ _) h.gr.size (fun k hk => by cases hk; exact h.blk.choose_spec.2))
  · unfold cutP at hp
    rcases List.mem_or_eq_of_mem_set hp with hp | hp
    · exact h.lie p hp
    · rw [hp]
      refine ⟨?_, by rw [hlt]; exact Nat.le_trans hn hl2⟩
      rcases hl1 with e | ⟨b, off, e1, e2⟩
      · left
        show (ps.getD s (none, 0, [])).2.2.take n = []
        rw [e]; simp
      · refine .inr ⟨b, off, e1, fun i hi => ?_⟩
        rw [hlt] at hi
        rw [e2 i (by omega)]
        simp [List.getD, List.getElem?_take, hi]
  · unfold cutP at hp
    rcases List.mem_or_eq_of_mem_set hp with hp | hp
    · exact h.cap p hp
    · rw [hp]; show ((ps.getD s (none, 0, [])).2.2.take n).length ≤ _; rw [hlt]; exact Nat.le_trans hn hc
theorem cutP_words {x : TrI} {ps : List Trip} {s l : Nat} (hs : s < ps.length) : wordsT (cutP ps s (comT ((wordsT ps).getD s []) (syT x s l ++ (wordsT ps).getD (nxT x s l) []))) = cutT x (wordsT ps) s l := by
  unfold cutP cutT
  rw [words_at hs]
  unfold wordsT
  rw [List.map_set]
/-- How much is left can be read off the world. -/
theorem size_read (W1 : World) (g c n : Nat) : ∃ mu : World → Nat, ∀ W ps, List.length ps = n → OwnS W1 W g c ps → mu W = sizeW (wordsT ps) := by
  classical
  refine ⟨fun W => if h : ∃ ps, List.length ps = n ∧ OwnS W1 W g c ps then sizeW (wordsT h.choose) else 0, fun W ps hn h => ?_⟩
  have hex : ∃ ps, List.length ps = n ∧ OwnS W1 W g c ps := ⟨ps, hn, h⟩
  simp only [hex, dif_pos]
  obtain ⟨qs, hqs⟩ : ∃ qs, hex.choose = qs := ⟨_, rfl⟩
  have hk : List.length hex.choose = n ∧ OwnS W1 W g c hex.choose := hex.choose_spec
  rw [hqs] at hk ⊢
  have hlen : qs.length = ps.length ∧ ∀ i, i < ps.length → i < qs.length → valT (qs.getD i (none, 0, [])) = valT (ps.getD i (none, 0, [])) := by
    exact ⟨by rw [hk.1, hn], fun i h1 h2 => Option.some.inj ((hk.2.at h2).1.symm.trans (h.at h1).1)⟩
  unfold sizeW wordsT
  rw [List.map_map, List.map_map]
  congr 1
  refine List.ext_getElem (by simp [hlen.1]) fun i h1 h2 => ?_
  have hi1 : i < qs.length := by simpa using h1
  have hi2 : i < ps.length := by simpa using h2
  have := hlen.2 i hi2 hi1
  simp only [List.getD, List.getElem?_eq_getElem hi1, List.getElem?_eq_getElem hi2, Option.getD_some, valT, Value.slice.injEq] at this
  simpa using this.2.1

end Go.Proofs.Ytodcmlcpicabaaa

namespace Go.Proofs.Ytodcmlcpicabaaa
open Go.RowKit
set_option linter.unusedVariables false
set_option linter.unusedSimpArgs false

def CloneP (R : List (List Int)) (w : World) (e : Ending) (w' : World) : Prop := ∃ g c ps, e = .returned (.slice (some ⟨g, 0, none⟩) R.length c) ∧ wordsT ps = R ∧ OwnS w w' g c ps
attribute [local go_sem ↓] appY_fold in
set_option maxHeartbeats 1600000 in
theorem cloneRows_any (R : List (List Int)) (b off c : Nat) (w : World) (h : RowsAt w (some ⟨b, off, none⟩) R) (k : CapsAt w (some ⟨b, off, none⟩) R) (h0 : 0 < R.length) (hl : R.length ≤ 1000) :
    Calls Try.prog 63 #[.slice (some ⟨b, off, none⟩) R.length c] w (CloneP R w) := by
  obtain ⟨ps, h1, h2, h3, h4⟩ := rows_tripC h k
  have hlp : ps.length = R.length := by rw [← h1, wordsT_len]
  obtain ⟨W1, hW1⟩ : ∃ W, W = w.alloc (.cells #[] 22) := ⟨_, rfl⟩
  have g1 : w.grownBy W1 none := by rw [hW1]; exact grown_alloc _ _
  have o1 : OwnR w W1 (some ⟨w.heap.size, 0, none⟩) 0 [] := by
    refine ⟨⟨rfl, .inr ⟨w.heap.size, 0, #[], rfl, Nat.le_refl _, by rw [hW1]; exact heap_alloc_new w _, Nat.zero_le _, Nat.zero_le _, rfl, by simp [valsT]⟩⟩, g1, fun p hp => by simp at hp⟩
  have t1 : TripAt W1 (some ⟨b, off, none⟩) ps := by
    rcases h2 with e | ⟨b', off', e1, e2⟩
    · exact .inl e
    · exact .inr ⟨b', off', e1, fun i hi => g1.cell (e2 i hi) (by simp)⟩
  obtain ⟨a1, c1, W', hrun, ho⟩ := o1.put (d := c) t1 h3 (by simp; omega)
  simp only [List.nil_append, List.length_nil] at hrun ho
  rw [hlp, hW1] at hrun
  obtain ⟨g, rfl, hOS⟩ : ∃ g, a1 = some ⟨g, 0, none⟩ ∧ (W'.ownsRow w.heap.size 22 1 (.slice a1 ps.length c1) ps.length (valsT ps)) := by
    rcases ho.own.2 with ⟨e0, e1⟩ | ⟨g, cap, cur, e1, _⟩
    · omega
    · simp only [Value.slice.injEq] at e1
      exact ⟨g, e1.1, ho.own⟩
  have F : Hid (CloneP R w (.returned (.slice (some ⟨g, 0, none⟩) R.length c1)) W') := ⟨g, c1, ps, rfl, h1, hOS, ho.gr, h3, h4⟩
  obtain ⟨Po, hPo⟩ : ∃ P, P = CloneP R w := ⟨_, rfl⟩
  rw [← hPo] at F ⊢
  generalize R.length = nR at *
  clear h k h1 h2 h3 h4 hlp hW1 g1 o1 t1 ho hOS hPo
  have hnil := fun (W : World) => Lib.run_eql_slice_nil (P := Try.prog) W 23 22 (some ⟨b, off, none⟩) nR c 0 0 Try.underlying23
  go_enter Try.func63, Try.ntmps63
  go_wp2_with fail
  first | exact F.out | (go_ret; exact F.out)

def btN : Value → Nat
  | .bool true => 1
  | _ => 0
def SSu (bt g s nx l : Nat) (vt : Value) (b5 o5 : Nat) (v5 : Value) (b6 o6 : Nat) (v6 v1 v2 : Value) (W : World) : Prop :=
  W.cell? ⟨bt, 5, none⟩ = some vt ∧ W.cell? ⟨b5, o5 + s, none⟩ = some v5 ∧ W.cell? ⟨b6, o6 + l, none⟩ = some v6 ∧ W.cell? ⟨g, s, none⟩ = some v1 ∧ W.cell? ⟨g, nx, none⟩ = some v2
theorem SSu.kept {bt g s nx l : Nat} {vt : Value} {b5 o5 : Nat} {v5 : Value} {b6 o6 : Nat} {v6 v1 v2 : Value} {W W' : World} (h : SSu bt g s nx l vt b5 o5 v5 b6 o6 v6 v1 v2 W) (k : W.grownBy W' none) : SSu bt g s nx l vt b5 o5 v5 b6 o6 v6 v1 v2 W' := by
  obtain ⟨h1, h2, h3, h4, h5⟩ := h
  exact ⟨k.cell h1 (by simp), k.cell h2 (by simp), k.cell h3 (by simp), k.cell h4 (by simp), k.cell h5 (by simp)⟩
theorem cutR_flag {x : TrI} {A A0 : List (List Int)} {s l : Nat} (hs : s < A.length) {bc : Bool} (h : bc = true ↔ sizeW A < sizeW A0) (hle : sizeW A ≤ sizeW A0) : (bc = true ∨ comT (A.getD s []) (syT x s l ++ A.getD (nxT x s l) []) < (A.getD s []).length) ↔ sizeW (cutT x A s l) < sizeW A0 := by
  have h1 := cutT_size (x := x) (l := l) hs
  have h2 := (comT_le (A.getD s []) (syT x s l ++ A.getD (nxT x s l) [])).1
  constructor
  · rintro (e | e)
    · have := h.1 e; omega
    · have := h1.2 e; omega
  · intro e
    by_cases hb : bc = true
    · exact .inl hb
    · right
      rcases Nat.lt_or_ge (comT (A.getD s []) (syT x s l ++ A.getD (nxT x s l) [])) (A.getD s []).length with h3 | h3
      · exact h3
      · have h4 := cutT_same (x := x) (l := l) hs (by omega)
        rw [h4] at e
        exact absurd (h.2 e) hb
def SureP (x : TrI) (I : Nat) (w : World) (e : Ending) (w' : World) : Prop := ∃ g c ps, e = .returned (.slice (some ⟨g, 0, none⟩) x.N.length c) ∧ SureIs x I (wordsT ps) ∧ w.grownBy w' none ∧ ∃ W1, w.grownBy W1 none ∧ OwnS W1 w' g c ps

set_option maxHeartbeats 6400000 in
set_option maxRecDepth 100000 in
theorem sureOf_any (x : TrI) (I : Nat) (a3 a4 a5 a6 : Option Addr) (c3 c4 c5 c6 : Nat) (w : World) (h : TnAt w x a3 a4 a5 a6) (hk : CapsAt w a6 x.E) {mb : Nat} (hr : ReadT x I mb) (hmb : mb ≤ 100) (hI : I ≤ 4) (hN : x.N.length ≤ 1000) :
    Calls Try.prog 52 #[tnV x.I x.O x.S a3 x.F.length c3 a4 x.N.length c4 a5 x.Y.length c5 a6 x.E.length c6] w (SureP x I w) := by
  obtain ⟨W1, hW1, g1, s1, bx⟩ := box7_new w x.I x.O x.S a3 x.F.length c3 a4 x.N.length c4 a5 x.Y.length c5 a6 x.E.length c6
  have HW1 : Hid (W1 = _) := hW1
  have G1 : Hid (w.grownBy W1 none) := g1
  have HT : Hid (TnAt W1 x a3 a4 a5 a6) := h.grown g1
  have HR : Hid (ReadT x I mb) := hr
  have HEL : Hid (x.E.length = x.N.length ∧ x.Y.length = x.N.length) := ⟨hr.he, hr.hy⟩
  have n1 := hr.n1
  obtain ⟨b6', o6', rfl, _⟩ := (h.last).at (k := 0) (by rw [hr.he]; omega)
  have HX : Hid (∀ W, W1.grownBy W none → Box7 W w.heap.size x.I x.O x.S a3 x.F.length c3 a4 x.N.length c4 a5 x.Y.length c5 (some ⟨b6', o6', none⟩) x.E.length c6) := fun W hW => bx.grown hW
  have HCl : Hid (Calls Try.prog 63 #[.slice (some ⟨b6', o6', none⟩) x.E.length c6] W1 (CloneP x.E W1)) := cloneRows_any x.E b6' o6' c6 W1 (h.grown g1).last (hk.grown g1) (by rw [hr.he]; omega) (by rw [hr.he]; omega)
  obtain ⟨Po, hPo⟩ : ∃ P, P = SureP x I w := ⟨_, rfl⟩
  have HP : Hid (∀ g c ps W, SureIs x I (wordsT ps) → OwnS W1 W g c ps → Po (.returned (.slice (some ⟨g, 0, none⟩) x.N.length c)) W) := fun g c ps W h1 h2 => by
    rw [hPo]; exact ⟨g, c, ps, rfl, h1, grown_trans G1.out h2.gr, W1, G1.out, h2⟩
  have x6 := bx.b6
  rw [hW1] at x6
  rw [← hPo]
  clear hW1 g1 s1 bx h hk hr hPo
  go_enter Try.func52, Try.ntmps52
  go_wp2_with fail
  rw [← HW1.out]
  refine HCl.out.mono ?_
  rintro E w2 ⟨g, c, ps0, rfl, hw0, ho0⟩
  have HO0 : Hid (OwnS W1 w2 g c ps0) := ho0
  have HW0 : Hid (wordsT ps0 = x.E) := hw0
  obtain ⟨mu, hmu⟩ := size_read W1 g c x.N.length
  have HMU : Hid (∀ W ps, List.length ps = x.N.length → OwnS W1 W g c ps → mu W = sizeW (wordsT ps)) := hmu
  obtain ⟨nE0, hnE0⟩ : ∃ n, x.E.length = n := ⟨_, rfl⟩
  have HNE0 : Hid (x.E.length = nE0 ∧ nE0 = x.N.length) := ⟨hnE0, by rw [← hnE0]; exact HEL.out.1⟩
  simp only [hnE0]
  clear ho0 hw0 x6 hmu hnE0
  go_wp2_with fail
  go_loopw [4] (fun v W => ∃ (b : Bool) (k : Nat) (ps : List Trip), v = .bool b ∧ wordsT ps = rndT x I x.N.length k x.E ∧ OwnS W1 W g c ps ∧ (b = false → cutA x I x.N.length (wordsT ps) = wordsT ps)) (fun v W => 2 * mu W + btN v)
  case atStart => exact ⟨true, 0, ps0, rfl, HW0.out, HO0.out, fun e => by cases e⟩
  case round =>
    obtain ⟨wo, hwo⟩ : ∃ W, W = wr := ⟨_, rfl⟩
    subst hwo
    obtain ⟨b, k, psO, rfl, hwA, hoA, hst⟩ := hrel
    have HOA : Hid (OwnS W1 wo g c psO) := hoA
    have HWA : Hid (wordsT psO = rndT x I x.N.length k x.E) := hwA
    have hlA : psO.length = x.N.length := by
      have := congrArg List.length hwA
      rwa [wordsT_len, rndT_len, HEL.out.1] at this
    have HLA : Hid (psO.length = x.N.length) := hlA
    have HMo : Hid (mu wo = sizeW (wordsT psO)) := HMU.out wo psO hlA hoA
    have HST : Hid (b = false → cutA x I x.N.length (wordsT psO) = wordsT psO) := hst
    clear hwA hoA hst hlA
    cases b with
    | false =>
      have F : Hid (Po (.returned (.slice (some ⟨g, 0, none⟩) x.N.length c)) wo) := HP.out g c psO wo ⟨⟨k, HWA.out⟩, HST.out rfl⟩ HOA.out
      rw [← HNE0.out.2] at F
      go_wp2_with fail
      first | exact F.out | (go_ret; exact F.out)
    | true =>
      obtain ⟨A, hA⟩ : ∃ A, wordsT psO = A := ⟨_, rfl⟩
      have HAA : Hid (wordsT psO = A) := hA
      rw [hA] at HMo HST
      have HAl : Hid (A.length = x.N.length) := by show _ = _; rw [← hA, wordsT_len]; exact HLA.out
      have x4 := (HX.out wo HOA.out.gr).b4
      clear hA
      go_wp2_with fail
      clear x4
      go_loopw [17, 4] (fun v v4 W => ∃ (s : Nat) (ps : List Trip) (bc : Bool), s ≤ x.N.length ∧ v = .int .i64 (s : Int) ∧ v4 = .bool bc ∧ wordsT ps = cutA x I s A ∧ OwnS W1 W g c ps ∧ (bc = true ↔ sizeW (cutA x I s A) < sizeW A)) (fun v _ _ => x.N.length - (intOf v).toNat)
      case atStart => exact ⟨0, psO, false, Nat.zero_le _, rfl, rfl, HAA.out, HOA.out, ⟨(fun e => by cases e), fun e => absurd e (Nat.lt_irrefl _)⟩⟩
      case round =>
        obtain ⟨wm, hwm⟩ : ∃ W, W = wr := ⟨_, rfl⟩
        subst hwm
        obtain ⟨s, psM, bm, hs, rfl, rfl, hwM, hoM, hbM⟩ := hrel
        have HOM : Hid (OwnS W1 wm g c psM) := hoM
        have HWM : Hid (wordsT psM = cutA x I s A) := hwM
        have HBM : Hid (bm = true ↔ sizeW (cutA x I s A) < sizeW A) := hbM
        clear hwM hoM hbM
        by_cases hsl : s < x.N.length
        · have is : (s : Int) < (x.N.length : Int) := by omega
          obtain ⟨b4, o4, ha4, hc4⟩ := HT.out.next.at hsl
          obtain ⟨r4, k4, c40, hr4, hm4⟩ := hc4 s hsl
          have c4' := HOM.out.gr.cell c40 (by simp)
          obtain ⟨R, hR⟩ : ∃ R, x.N.getD s [] = R := ⟨_, rfl⟩
          rw [hR] at hr4 hm4 c4'
          have hRI : R.length = I := by rw [← hR]; exact HR.out.rn s hsl
          rw [hRI] at c4'
          have HRr : Hid (x.N.getD s [] = R ∧ R.length = I) := ⟨hR, hRI⟩
          have HIr : Hid (Ints W1 r4 R) := hr4
          subst ha4
          clear hc4 hR hr4 hm4 hRI c40
          go_wp2_with fail
          go_loopw [24, 4] (fun v v4 W => ∃ (l : Nat) (ps : List Trip) (bc : Bool), l ≤ I ∧ v = .int .i64 (l : Int) ∧ v4 = .bool bc ∧ wordsT ps = cutR x s l (cutA x I s A) ∧ OwnS W1 W g c ps ∧ (bc = true ↔ sizeW (cutR x s l (cutA x I s A)) < sizeW A)) (fun v _ _ => I - (intOf v).toNat)
          case atStart => exact ⟨0, psM, bm, Nat.zero_le _, rfl, rfl, HWM.out, HOM.out, HBM.out⟩
          case round =>
            obtain ⟨wi, hwi⟩ : ∃ W, W = wr := ⟨_, rfl⟩
            subst hwi
            obtain ⟨l, ps, bc, hl, rfl, rfl, hwI, hoI, hbI⟩ := hrel
            have HO : Hid (OwnS W1 wi g c ps) := hoI
            have hlp : ps.length = x.N.length := by
              have := congrArg List.length hwI
              rwa [wordsT_len, cutR_len, cutA_len, HAl.out] at this
            by_cases hll : l < I
            · have il : (l : Int) < (I : Int) := by omega
              have hsp : s < ps.length := by omega
              obtain ⟨b5, o5, k5, b6, o6, k6, r6, rfl, h8, hs5⟩ := read_say HT.out HR.out hsl hll
              obtain ⟨hnx, hnxe⟩ := HR.out.lt hsl hll
              obtain ⟨br, ob, rfl, hcr⟩ := (HIr.out.grown hoI.gr).at (k := l) (by rw [HRr.out.2]; exact hll)
              have crl := hcr l (by rw [HRr.out.2]; exact hll)
              rw [← HRr.out.1, ← hnxe] at crl
              obtain ⟨c5a, c5b, _⟩ := hs5 wi hoI.gr
              have hwB : BegT (wordsT ps) x.E := by
                rw [hwI, ← HAA.out, HWA.out]
                exact (cutR_beg _ _ _ _).trans ((cutA_beg _ _ _ _).trans (rndT_beg _ _ _ _ _))
              have hbl : ∀ q, q < x.N.length → ((wordsT ps).getD q []).length ≤ mb := fun q hq => by
                obtain ⟨r, hr⟩ := hwB.2 q (by rw [HEL.out.1]; exact hq)
                have h1 := HR.out.e8 q hq
                rw [hr, List.length_append] at h1
                omega
              obtain ⟨nx, hnxn⟩ : ∃ nx, nxT x s l = nx := ⟨_, rfl⟩
              have hcu := cutP_words (x := x) (l := l) hsp
              have hfl := cutR_flag (x := x) (A := wordsT ps) (A0 := A) (s := s) (l := l) (by rw [wordsT_len]; exact hsp) (bc := bc) (by rw [hwI]; exact hbI) (by
                rw [hwI]
                exact Nat.le_trans (cutR_size (by rw [cutA_len, HAl.out]; exact hsl) l) (cutA_size s (by rw [HAl.out]; omega)))
              rw [hnxn] at crl hnx hcu hfl
              have hnp : nx < ps.length := by omega
              have w1 := words_at hsp
              have w2 := words_at hnp
              obtain ⟨y10, z10⟩ := hoI.at hsp
              obtain ⟨y20, _⟩ := hoI.at hnp
              have l10 := hoI.lie _ (OwnS.mem hsp)
              have l20 := hoI.lie _ (OwnS.mem hnp)
              have cap10 := hoI.cap _ (OwnS.mem hsp)
              obtain ⟨t1, ht1⟩ : ∃ t, ps.getD s (none, 0, []) = t := ⟨_, rfl⟩
              obtain ⟨t2, ht2⟩ : ∃ t, ps.getD nx (none, 0, []) = t := ⟨_, rfl⟩
              have ht1' : Hid (ps.getD s (none, 0, []) = t1) := ht1
              rw [ht1] at w1 y10 l10 cap10
              rw [ht2] at w2 y20 l20
              rw [← w1, ← w2] at hcu hfl
              have hb1 := hbl s hsl
              have hb2 := hbl nx hnx
              rw [← w1] at hb1
              rw [← w2] at hb2
              obtain ⟨X, hX⟩ : ∃ X, syT x s l ++ t2.2.2 = X := ⟨_, rfl⟩
              have hXl : X.length ≤ 300 := by rw [← hX, List.length_append]; omega
              rw [hX] at hcu hfl
              obtain ⟨cm, hcm⟩ : ∃ cm, comT t1.2.2 X = cm := ⟨_, rfl⟩
              have hcmle : cm ≤ t1.2.2.length := by rw [← hcm]; exact (comT_le _ _).1
              rw [hcm] at hcu hfl
              have CTC0 : ∀ W ax kx, wi.grownBy W none → Ints W ax X → Calls Try.prog 60 #[.slice t1.1 t1.2.2.length t1.2.1, .slice ax X.length kx] W (Says (.int .i64 (cm : Int)) W) := fun W ax kx hW hi => by
                rw [← hcm]; exact common_any t1.2.2 X t1.1 ax t1.2.1 kx W ((l10.1.grown hoI.gr).grown hW) hi l10.2 (by unfold maxLen; omega)
              have CTA0 : ∀ (W : World) (g2 : Nat), wi.grownBy W none → C2 W g2 (.slice r6 (syT x s l).length k6) (.slice t2.1 t2.2.2.length t2.2.1) → Calls Try.prog 39 #[.slice (some ⟨g2, 0, none⟩) 2 2] W (CatX X W) := fun W g2 hW c2 => by
                rw [← hX]; exact catX_any _ _ _ _ _ _ g2 W (hs5 W (grown_trans hoI.gr hW)).2.2 ((l20.1.grown hoI.gr).grown hW) (by omega) (by omega) c2.1 c2.2
              obtain ⟨nE, hnE⟩ : ∃ n, (syT x s l).length = n := ⟨_, rfl⟩
              obtain ⟨n1', hn1'⟩ : ∃ n, t1.2.2.length = n := ⟨_, rfl⟩
              obtain ⟨n2', hn2'⟩ : ∃ n, t2.2.2.length = n := ⟨_, rfl⟩
              have hn1 : Hid (t1.2.2.length = n1') := hn1'
              rw [hn1'] at CTC0 hcmle cap10 hfl
              rw [hnE, hn2'] at CTA0
              have CTC : Hid (∀ W ax kx, wi.grownBy W none → Ints W ax X → Calls Try.prog 60 #[.slice t1.1 n1' t1.2.1, .slice ax X.length kx] W (Says (.int .i64 (cm : Int)) W)) := CTC0
              have CTA : Hid (∀ (W : World) (g2 : Nat), wi.grownBy W none → C2 W g2 (.slice r6 nE k6) (.slice t2.1 n2' t2.2.1) → Calls Try.prog 39 #[.slice (some ⟨g2, 0, none⟩) 2 2] W (CatX X W)) := CTA0
              simp only [valT] at y10 y20
              rw [hn1'] at y10
              rw [hn2'] at y20
              rw [hnE] at c5b
              have S0 : Hid (SSu w.heap.size g s nx l (.slice (some ⟨b5, o5, none⟩) x.Y.length c5) b5 o5 (.slice (some ⟨b6, o6, none⟩) I k5) b6 o6 (.slice r6 nE k6) (.slice t1.1 n1' t1.2.1) (.slice t2.1 n2' t2.2.1) wi) := ⟨(HX.out wi hoI.gr).b5, c5a, c5b, y10, y20⟩
              have HCU : Hid (wordsT (cutP ps s cm) = cutR x s (l + 1) (cutA x I s A)) := by show _ = _; rw [hcu, cutR, hwI]
              have HBC : Hid ((bc = true ∨ cm < n1') ↔ sizeW (cutR x s (l + 1) (cutA x I s A)) < sizeW A) := by show _ ↔ _; rw [hfl, cutR, hwI]
              have hcap1 : Hid (n1' ≤ t1.2.1) := cap10
              have ip5 : (s : Int) < (x.Y.length : Int) := by rw [HEL.out.2]; omega
              have isn : (s : Int) < (nE0 : Int) := by rw [HNE0.out.2]; omega
              have inn : (nx : Int) < (nE0 : Int) := by rw [HNE0.out.2]; omega
              clear hs5 hcr c5a c5b hwB hbl hcu hfl w1 w2 y10 z10 y20 l10 l20 cap10 ht1 ht2 hX hcm CTC0 CTA0 hnE hn1' hn2' hwI hbI hnxe hnxn hb1 hb2 h8
              go_wp2_with fail
              refine wp_region_held_drew (S := SSu w.heap.size g s nx l (.slice (some ⟨b5, o5, none⟩) x.Y.length c5) b5 o5 (.slice (some ⟨b6, o6, none⟩) I k5) b6 o6 (.slice r6 nE k6) (.slice t1.1 n1' t1.2.1) (.slice t2.1 n2' t2.2.1)) (by kernel_rfl) (S0.out.kept (grown_drew (grown_refl _ _))) (fun hHeld => ?_)
              refine wpAnyH_take (i := 0) (v := ?_) rfl (by kernel_rfl) (by kernel_rfl) (by kernel_rfl) (fun _ _ _ h => h) (Or.inl ⟨by rfl, ?_⟩) (by assumption) ?_
              rotate_left
              · intro W hSw
                obtain ⟨q0, q1, q2, q3, q4⟩ := hSw
                go_simp
                with_reducible rfl
              try simp only [Act.put, List.getElem_toArray, List.getElem_cons_succ, List.getElem_cons_zero, List.setIfInBounds_toArray, List.set_cons_zero, List.set_cons_succ]
              refine wpAnyH_take (i := 1) (v := ?_) rfl (by kernel_rfl) (by kernel_rfl) (by kernel_rfl) (fun _ _ _ h => h) (Or.inl ⟨by rfl, ?_⟩) (by assumption) ?_
              rotate_left
              · intro W hSw
                obtain ⟨q0, q1, q2, q3, q4⟩ := hSw
                go_simp
                with_reducible rfl
              try simp only [Act.put, List.getElem_toArray, List.getElem_cons_succ, List.getElem_cons_zero, List.setIfInBounds_toArray, List.set_cons_zero, List.set_cons_succ]
              refine wpAnyH_take (i := 2) (v := ?_) rfl (by kernel_rfl) (by kernel_rfl) (by kernel_rfl) (fun _ _ _ h => h) (Or.inl ⟨by rfl, ?_⟩) (by assumption) ?_
              rotate_left
              · intro W hSw
                obtain ⟨q0, q1, q2, q3, q4⟩ := hSw
                go_simp
                with_reducible rfl
              try simp only [Act.put, List.getElem_toArray, List.getElem_cons_succ, List.getElem_cons_zero, List.setIfInBounds_toArray, List.set_cons_zero, List.set_cons_succ]
              refine wpAnyH_take (i := 3) (v := ?_) rfl (by kernel_rfl) (by kernel_rfl) (by kernel_rfl) (fun _ _ _ h => h) (Or.inl ⟨by rfl, ?_⟩) (by assumption) ?_
              rotate_left
              · intro W hSw
                obtain ⟨q0, q1, q2, q3, q4⟩ := hSw
                go_simp
                with_reducible rfl
              try simp only [Act.put, List.getElem_toArray, List.getElem_cons_succ, List.getElem_cons_zero, List.setIfInBounds_toArray, List.set_cons_zero, List.set_cons_succ]
              refine wpAnyH_take (i := 4) (v := ?_) rfl (by kernel_rfl) (by kernel_rfl) (by kernel_rfl) (fun _ _ _ h => h) (Or.inl ⟨by rfl, ?_⟩) (by assumption) ?_
              rotate_left
              · intro W hSw
                obtain ⟨q0, q1, q2, q3, q4⟩ := hSw
                go_simp
                with_reducible rfl
              try simp only [Act.put, List.getElem_toArray, List.getElem_cons_succ, List.getElem_cons_zero, List.setIfInBounds_toArray, List.set_cons_zero, List.set_cons_succ]
              refine wpAnyH_take (i := 5) (v := ?_) rfl (by kernel_rfl) (by kernel_rfl) (by kernel_rfl) (fun _ _ _ h => h) (Or.inl ⟨by rfl, ?_⟩) (by assumption) ?_
              rotate_left
              · intro W hSw
                obtain ⟨q0, q1, q2, q3, q4⟩ := hSw
                go_simp
                with_reducible rfl
              try simp only [Act.put, List.getElem_toArray, List.getElem_cons_succ, List.getElem_cons_zero, List.setIfInBounds_toArray, List.set_cons_zero, List.set_cons_succ]
              refine wpAnyH_take (i := 6) (v := ?_) rfl (by kernel_rfl) (by kernel_rfl) (by kernel_rfl) (fun _ _ _ h => h) (Or.inl ⟨by rfl, ?_⟩) (by assumption) ?_
              rotate_left
              · intro W hSw
                obtain ⟨q0, q1, q2, q3, q4⟩ := hSw
                go_simp
                with_reducible rfl
              try simp only [Act.put, List.getElem_toArray, List.getElem_cons_succ, List.getElem_cons_zero, List.setIfInBounds_toArray, List.set_cons_zero, List.set_cons_succ]
              refine wpAnyH_take (i := 7) (v := ?_) rfl (by kernel_rfl) (by kernel_rfl) (by kernel_rfl) (fun _ _ _ h => h) (Or.inl ⟨by rfl, ?_⟩) (by assumption) ?_
              rotate_left
              · intro W hSw
                obtain ⟨q0, q1, q2, q3, q4⟩ := hSw
                go_simp
                with_reducible rfl
              try simp only [Act.put, List.getElem_toArray, List.getElem_cons_succ, List.getElem_cons_zero, List.setIfInBounds_toArray, List.set_cons_zero, List.set_cons_succ]
              refine wpAnyH_take (i := 8) (v := ?_) rfl (by kernel_rfl) (by kernel_rfl) (by kernel_rfl) (fun _ _ _ h => h) (Or.inl ⟨by rfl, ?_⟩) (by assumption) ?_
              rotate_left
              · intro W hSw
                obtain ⟨q0, q1, q2, q3, q4⟩ := hSw
                go_simp
                with_reducible rfl
              try simp only [Act.put, List.getElem_toArray, List.getElem_cons_succ, List.getElem_cons_zero, List.setIfInBounds_toArray, List.set_cons_zero, List.set_cons_succ]
              refine wpAnyH_take (i := 9) (v := ?_) rfl (by kernel_rfl) (by kernel_rfl) (by kernel_rfl) (fun _ _ _ h => h) (Or.inl ⟨by rfl, ?_⟩) (by assumption) ?_
              rotate_left
              · intro W hSw
                obtain ⟨q0, q1, q2, q3, q4⟩ := hSw
                go_simp
                with_reducible rfl
              try simp only [Act.put, List.getElem_toArray, List.getElem_cons_succ, List.getElem_cons_zero, List.setIfInBounds_toArray, List.set_cons_zero, List.set_cons_succ]
              refine wpAnyH_take (i := 10) (v := ?_) rfl (by kernel_rfl) (by kernel_rfl) (by kernel_rfl) (fun _ _ _ h => h) (Or.inl ⟨by rfl, ?_⟩) (by assumption) ?_
              rotate_left
              · intro W hSw
                obtain ⟨q0, q1, q2, q3, q4⟩ := hSw
                go_simp
                with_reducible rfl
              try simp only [Act.put, List.getElem_toArray, List.getElem_cons_succ, List.getElem_cons_zero, List.setIfInBounds_toArray, List.set_cons_zero, List.set_cons_succ]
              refine wpAnyH_take (i := 11) (v := ?_) rfl (by kernel_rfl) (by kernel_rfl) (by kernel_rfl) (fun _ _ _ h => h) (Or.inl ⟨by rfl, ?_⟩) (by assumption) ?_
              rotate_left
              · intro W hSw
                obtain ⟨q0, q1, q2, q3, q4⟩ := hSw
                go_simp
                with_reducible rfl
              try simp only [Act.put, List.getElem_toArray, List.getElem_cons_succ, List.getElem_cons_zero, List.setIfInBounds_toArray, List.set_cons_zero, List.set_cons_succ]
              refine wpAnyH_take (i := 12) (v := ?_) rfl (by kernel_rfl) (by kernel_rfl) (by kernel_rfl) (fun _ _ _ h => h) (Or.inl ⟨by rfl, ?_⟩) (by assumption) ?_
              rotate_left
              · intro W hSw
                obtain ⟨q0, q1, q2, q3, q4⟩ := hSw
                go_simp
                with_reducible rfl
              try simp only [Act.put, List.getElem_toArray, List.getElem_cons_succ, List.getElem_cons_zero, List.setIfInBounds_toArray, List.set_cons_zero, List.set_cons_succ]
              refine wpAnyH_take (i := 13) (v := ?_) rfl (by kernel_rfl) (by kernel_rfl) (by kernel_rfl) (fun _ _ _ h => h) (Or.inl ⟨by rfl, ?_⟩) (by assumption) ?_
              rotate_left
              · intro W hSw
                obtain ⟨q0, q1, q2, q3, q4⟩ := hSw
                go_simp
                with_reducible rfl
              try simp only [Act.put, List.getElem_toArray, List.getElem_cons_succ, List.getElem_cons_zero, List.setIfInBounds_toArray, List.set_cons_zero, List.set_cons_succ]
              refine wpAnyH_take (i := 14) (v := ?_) rfl (by kernel_rfl) (by kernel_rfl) (by kernel_rfl) (fun _ _ _ h => h) (Or.inl ⟨by rfl, ?_⟩) (by assumption) ?_
              rotate_left
              · intro W hSw
                obtain ⟨q0, q1, q2, q3, q4⟩ := hSw
                go_simp
                with_reducible rfl
              try simp only [Act.put, List.getElem_toArray, List.getElem_cons_succ, List.getElem_cons_zero, List.setIfInBounds_toArray, List.set_cons_zero, List.set_cons_succ]
              refine wpAnyH_take (i := 15) (v := ?_) rfl (by kernel_rfl) (by kernel_rfl) (by kernel_rfl) (fun _ _ _ h => h) (Or.inl ⟨by rfl, ?_⟩) (by assumption) ?_
              rotate_left
              · intro W hSw
                obtain ⟨q0, q1, q2, q3, q4⟩ := hSw
                go_simp
                with_reducible rfl
              try simp only [Act.put, List.getElem_toArray, List.getElem_cons_succ, List.getElem_cons_zero, List.setIfInBounds_toArray, List.set_cons_zero, List.set_cons_succ]
              refine wpAnyH_ready (rs := [16]) (by kernel_rfl) (by simp) ?_
              refine AllReadyH.cons (o := _) rfl (fun K' hK => ?_) ?_
              · go_simp
                refine hK.out _ _ (hHeld.kept (grown_alloc _ _)) (fun hHeld => ?_)
                clear hK K'
                try simp only [Act.put, List.getElem_toArray, List.getElem_cons_succ, List.getElem_cons_zero, List.setIfInBounds_toArray, List.set_cons_zero, List.set_cons_succ]
                refine wpAnyH_ready (rs := [17]) (by kernel_rfl) (by simp) ?_
                refine AllReadyH.cons (o := _) rfl (fun K' hK => ?_) ?_
                · go_simp
                  refine (CTA.out _ _ (gr_1 _ _) (c2_a _ (.slice r6 nE k6) (.slice t2.1 n2' t2.2.1) _)).mono ?_
                  rintro E w6 ⟨ax, kx, rfl, hix, hgx, hnx, hcx⟩
                  have GX : Hid (wi.grownBy w6 none) := grown_trans (gr_1 wi _) hgx
                  have HIX : Hid (Ints w6 ax X) := hix
                  clear hix hnx hcx
                  go_wp2_with fail
                  refine hK.out _ _ (hHeld.kept hgx) (fun hHeld => ?_)
                  clear hK K'
                  try simp only [Act.put, List.getElem_toArray, List.getElem_cons_succ, List.getElem_cons_zero, List.setIfInBounds_toArray, List.set_cons_zero, List.set_cons_succ]
                  refine wpAnyH_ready (rs := [18]) (by kernel_rfl) (by simp) ?_
                  refine AllReadyH.cons (o := _) rfl (fun K' hK => ?_) ?_
                  · go_simp
                    refine (CTC.out _ ax kx GX.out HIX.out).mono ?_
                    rintro E w7 ⟨rfl, hg7⟩
                    have G7 : Hid (wi.grownBy w7 none) := grown_trans GX.out hg7
                    go_wp2_with fail
                    refine hK.out _ _ (hHeld.kept hg7) (fun hHeld => ?_)
                    clear hK K'
                    try simp only [Act.put, List.getElem_toArray, List.getElem_cons_succ, List.getElem_cons_zero, List.setIfInBounds_toArray, List.set_cons_zero, List.set_cons_succ]
                    refine wpAnyH_take (i := 19) (v := ?_) rfl (by kernel_rfl) (by kernel_rfl) (by kernel_rfl) (fun _ _ _ h => h) (Or.inl ⟨by rfl, ?_⟩) (by assumption) ?_
                    rotate_left
                    · intro W hSw
                      obtain ⟨q0, q1, q2, q3, q4⟩ := hSw
                      go_simp
                      with_reducible rfl
                    try simp only [Act.put, List.getElem_toArray, List.getElem_cons_succ, List.getElem_cons_zero, List.setIfInBounds_toArray, List.set_cons_zero, List.set_cons_succ]
                    refine wpAnyH_done (by kernel_rfl) ?_ _
                    have O7 : Hid (OwnS W1 w7 g c ps) := HO.out.grown G7.out
                    obtain ⟨y1, z1⟩ := O7.out.at hsp
                    rw [ht1'.out] at y1
                    simp only [valT] at y1
                    rw [hn1.out] at y1
                    have F : Hid (OwnS W1 (w7.setCell ⟨g, s, none⟩ (.slice t1.1 cm t1.2.1)) g c (cutP ps s cm) ∧ wordsT (cutP ps s cm) = cutR x s (l + 1) (cutA x I s A)) := by
                      have h1 := O7.out.cut (s := s) (n := cm) hsp (by rw [ht1'.out, hn1.out]; exact hcmle)
                      rw [ht1'.out] at h1
                      exact ⟨h1, HCU.out⟩
                    have HB2 : Hid ((bc = true ∨ cm < n1') ↔ sizeW (cutR x s (l + 1) (cutA x I s A)) < sizeW A) := HBC.out
                    have icap : (cm : Int) ≤ (t1.2.1 : Int) := by have := hcap1.out; omega
                    cases bc with
                    | true =>
                      have HN : Hid (sizeW (cutR x s (l + 1) (cutA x I s A)) < sizeW A) := HB2.out.1 (.inl rfl)
                      go_wp2_with fail
                      go_roundw
                      case rel => exact ⟨l + 1, _, true, by omega, by go_num, rfl, F.out.2, F.out.1, ⟨fun _ => HN.out, fun _ => rfl⟩⟩
                      case measure => simp [intOf]; omega
                    | false =>
                      by_cases hlt : cm < n1'
                      · have d1 : decide ((cm : Int) < (n1' : Int)) = true := by simp; omega
                        have HN : Hid (sizeW (cutR x s (l + 1) (cutA x I s A)) < sizeW A) := HB2.out.1 (.inr hlt)
                        go_wp2_with fail
                        go_roundw
                        case rel => exact ⟨l + 1, _, true, by omega, by go_num, rfl, F.out.2, F.out.1, ⟨fun _ => HN.out, fun _ => rfl⟩⟩
                        case measure => simp [intOf]; omega
                      · have d1 : decide ((cm : Int) < (n1' : Int)) = false := by simp; omega
                        have HN : Hid (¬ sizeW (cutR x s (l + 1) (cutA x I s A)) < sizeW A) := fun e => by
                          rcases HB2.out.2 e with h | h
                          · cases h
                          · exact hlt h
                        go_wp2_with fail
                        go_roundw
                        case rel => exact ⟨l + 1, _, false, by omega, by go_num, rfl, F.out.2, F.out.1, ⟨(fun e => by cases e), fun e => absurd e HN.out⟩⟩
                        case measure => simp [intOf]; omega
                  exact AllReadyH.nil
                exact AllReadyH.nil
              exact AllReadyH.nil
            · have il : ¬ (l : Int) < (I : Int) := by omega
              have el : l = I := by omega
              subst el
              have HN : Hid (wordsT ps = cutA x l (s + 1) A ∧ OwnS W1 wi g c ps ∧ (bc = true ↔ sizeW (cutA x l (s + 1) A) < sizeW A)) := ⟨hwI, hoI, hbI⟩
              clear hwI hoI hbI
              go_wp2_with fail
              go_roundw
              case rel => exact ⟨s + 1, ps, bc, by omega, by go_num, rfl, HN.out⟩
              case measure => simp [intOf]; omega
        · have is : ¬ (s : Int) < (x.N.length : Int) := by omega
          have es : s = x.N.length := by omega
          subst es
          have HN : Hid (∃ (b : Bool) (k : Nat) (ps : List Trip), Value.bool bm = .bool b ∧ wordsT ps = rndT x I x.N.length k x.E ∧ OwnS W1 wm g c ps ∧ (b = false → cutA x I x.N.length (wordsT ps) = wordsT ps)) := by
            refine ⟨bm, k + 1, psM, rfl, by rw [HWM.out, ← HAA.out, HWA.out, rndT], HOM.out, fun e => ?_⟩
            have h1 := cutA_size (x := x) (I := I) (A := A) x.N.length (by rw [HAl.out]; exact Nat.le_refl _)
            have h2 : ¬ sizeW (cutA x I x.N.length A) < sizeW A := fun h => by rw [HBM.out.2 h] at e; cases e
            have h3 := (cutA_still (x := x) (I := I) (A := A) x.N.length (by rw [HAl.out]; exact Nat.le_refl _) (by omega)).1
            rw [HWM.out, h3, h3]
          have HM2 : Hid (2 * mu wm + btN (.bool bm) < 2 * mu wo + btN (.bool true)) := by
            have h1 := HMU.out wm psM (by have := congrArg List.length HWM.out; rwa [wordsT_len, cutA_len, HAl.out] at this) HOM.out
            have h2 := cutA_size (x := x) (I := I) (A := A) x.N.length (by rw [HAl.out]; exact Nat.le_refl _)
            show 2 * mu wm + _ < 2 * mu wo + 1
            rw [h1, HMo.out, HWM.out]
            cases bm with
            | true => have := HBM.out.1 rfl; show _ + 1 < _; omega
            | false => show _ + 0 < _; omega
          go_wp2_with fail
          go_roundw
          case rel => exact HN.out
          case measure => exact HM2.out

end Go.Proofs.Ytodcmlcpicabaaa
