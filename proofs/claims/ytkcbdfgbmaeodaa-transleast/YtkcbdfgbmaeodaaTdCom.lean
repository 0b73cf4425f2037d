/- With how many letters two words begin; what is left of one. (Parted from TdSmall.) -/
import Derived.Test.YtkcbdfgbmaeodaaTnBase
import Derived.Test.YtkcbdfgbmaeodaaTlM
import Derived.Test.YtkcbdfgbmaeodaaSkRow
import Derived.Test.YtkcbdfgbmaeodaaTnRows
namespace Go.Proofs.Ytkcbdfgbmaeodaa
open Go.RowKit
set_option linter.unusedVariables false
set_option linter.unusedSimpArgs false

set_option maxHeartbeats 3200000 in
set_option maxRecDepth 100000 in
theorem common_any (v u : List Int) (a b : Option Addr) (c d : Nat) (w : World) (hv : Ints w a v) (hu : Ints w b u) (hm : v.length ≤ maxLen) (hm' : u.length ≤ maxLen) :
    Calls Try.prog 42 #[.slice a v.length c, .slice b u.length d] w (Says (.int .i64 ((comT v u : Nat) : Int)) w) := by
  unfold maxLen at hm hm'
  have HV : Hid (Ints w a v) := hv
  have HU : Hid (Ints w b u) := hu
  obtain ⟨Po, hPo⟩ : ∃ P, P = Says (.int .i64 ((comT v u : Nat) : Int)) w := ⟨_, rfl⟩
  have HP : Hid (∀ n W, comT v u = n → w.grownBy W none → Po (.returned (.int .i64 (n : Int))) W) := fun n W h1 h2 => by rw [hPo, ← h1]; exact ⟨rfl, h2⟩
  rw [← hPo]
  clear hv hu hPo
  go_enter Try.func42, Try.ntmps42
  go_wp2_with fail
  go_loopw [5] (fun t W => ∃ k : Nat, k ≤ v.length ∧ k ≤ u.length ∧ t = .int .i64 k ∧ w.grownBy W none ∧ ∀ j, j < k → v.getD j 0 = u.getD j 0) (fun t _ => v.length - (intOf t).toNat)
  case atStart => exact ⟨0, Nat.zero_le _, Nat.zero_le _, rfl, grown_refl _ _, fun j hj => by omega⟩
  case round =>
    obtain ⟨k, hk, hk', rfl, hg, hj⟩ := hrel
    have HG : Hid (w.grownBy wr none) := hg
    have HJ : Hid (∀ j, j < k → v.getD j 0 = u.getD j 0) := hj
    clear hg hj
    by_cases h1 : k < v.length
    · have i1 : (k : Int) < (v.length : Int) := by omega
      by_cases h2 : k < u.length
      · have i2 : (k : Int) < (u.length : Int) := by omega
        obtain ⟨b1, o1, rfl, hc1⟩ := (HV.out.grown HG.out).at h1
        obtain ⟨b2, o2, rfl, hc2⟩ := (HU.out.grown HG.out).at h2
        have x1 := hc1 k h1
        have x2 := hc2 k h2
        obtain ⟨z1, hz1⟩ : ∃ z, v.getD k 0 = z := ⟨_, rfl⟩
        obtain ⟨z2, hz2⟩ : ∃ z, u.getD k 0 = z := ⟨_, rfl⟩
        rw [hz1] at x1
        rw [hz2] at x2
        by_cases e : z1 = z2
        · have d1 : (z1 == z2) = true := by simpa using e
          have HN : Hid (∀ j, j < k + 1 → v.getD j 0 = u.getD j 0) := fun j hj => by
            by_cases hjk : j = k
            · subst hjk; rw [hz1, hz2]; exact e
            · exact HJ.out j (by omega)
          clear hz1 hz2 e hc1 hc2
          go_wp2_with fail
          go_quiet (fail)
          go_wp2_with fail
          go_roundw
          case rel => exact ⟨k + 1, by omega, by omega, by go_num, grown_drewN HG.out _, HN.out⟩
          case measure => simp [intOf]; omega
        · have d1 : (z1 == z2) = false := by simpa using e
          have F : Hid (∀ q, Po (.returned (.int .i64 (k : Int))) (wr.drewN q)) := fun q => HP.out k _ (comT_is hk hk' HJ.out (fun _ _ => by rw [hz1, hz2]; exact e)) (grown_drewN HG.out q)
          clear hz1 hz2 e hc1 hc2
          go_wp2_with fail
          go_quiet (fail)
          go_wp2_with fail
          first | exact F.out _ | (go_ret; exact F.out _)
      · have i2 : ¬ (k : Int) < (u.length : Int) := by omega
        have F : Hid (∀ q, Po (.returned (.int .i64 (k : Int))) (wr.drewN q)) := fun q => HP.out k _ (comT_is hk hk' HJ.out (fun _ h => absurd h h2)) (grown_drewN HG.out q)
        go_wp2_with fail
        go_quiet (fail)
        go_wp2_with fail
        first | exact F.out _ | (go_ret; exact F.out _)
    · have i1 : ¬ (k : Int) < (v.length : Int) := by omega
      have F : Hid (∀ q, Po (.returned (.int .i64 (k : Int))) (wr.drewN q)) := fun q => HP.out k _ (comT_is hk hk' HJ.out (fun h _ => absurd h h1)) (grown_drewN HG.out q)
      go_wp2_with fail
      go_quiet (fail)
      go_wp2_with fail
      first | exact F.out _ | (go_ret; exact F.out _)

/-- What is left of a word behind its first letters. -/
def dropA (a : Option Addr) (n c : Nat) : Option Addr := if c = n then a else a.map (·.add n)
set_option maxRecDepth 100000 in
theorem drop_run (a : Option Addr) (len n c : Nat) (h1 : n ≤ len) (h2 : len ≤ c) (h3 : len ≤ maxLen) (W : World) : (Instr.slice 22 (.slice a len c) (some (.int .i64 (n : Int))) none none).run Try.prog W = .ok (.slice (dropA a n c) (len - n) (c - n)) W := by
  obtain ⟨i0, hi⟩ : ∃ i, Try.prog.info? 3 = some i ∧ i.size = 1 := by
    have h : (Try.prog.info? 3).map (fun i => i.size) = some 1 := by kernel_rfl
    cases hi : Try.prog.info? 3 with
    | none => rw [hi] at h; cases h
    | some i => rw [hi] at h; simp only [Option.map_some, Option.some.injEq] at h; exact ⟨i, rfl, h⟩
  rw [run_slice_l (w := W) (t := 22) (a := a) (len := len) (cap := c) (ht := Try.underlying22) (kl := .i64) (l := (n : Int)) (by omega) (by omega)]
  have e : Try.prog.elem 22 = 3 := by kernel_rfl
  simp [e, sizeOf, typeInfo, hi.1, hi.2, sliced, Result.andThen, dropA]
theorem drop_ints {W : World} {a : Option Addr} {zs : List Int} {n c : Nat} (h : Ints W a zs) (h1 : n ≤ zs.length) (h2 : zs.length ≤ c) : Ints W (dropA a n c) (zs.drop n) := by
  unfold dropA
  by_cases hc : c = n
  · left
    have : (zs.drop n).length = 0 := by rw [List.length_drop]; omega
    exact List.length_eq_zero_iff.1 this
  · rw [if_neg hc]
    rcases h with rfl | ⟨b, off, rfl, hcc⟩
    · left; simp
    · right
      refine ⟨b, off + n, ?_, fun i hi => ?_⟩
      · by_cases h0 : n = 0
        · subst h0; simp [Addr.add]
        · simp [Addr.add, h0]
      · have hl : (zs.drop n).length = zs.length - n := by simp
        have := hcc (n + i) (by omega)
        rw [show off + n + i = off + (n + i) by omega, this]
        congr 2
        simp [List.getD]
theorem drop_block {a : Option Addr} {n c : Nat} {y : Addr} (h : dropA a n c = some y) : ∃ z, a = some z ∧ y.block = z.block := by
  unfold dropA at h
  split at h
  · exact ⟨y, h, rfl⟩
  · cases a with
    | none => cases h
    | some z =>
      simp only [Option.map_some, Option.some.injEq] at h
      refine ⟨z, rfl, ?_⟩
      rw [← h]
      unfold Addr.add
      split <;> rfl


end Go.Proofs.Ytkcbdfgbmaeodaa
