/- With how many letters two words begin, by the reference; slices.Clone of a word. -/
import Derived.Test.YtodcmlcpicabaaaCts
import Derived.Test.YtodcmlcpicabaaaTnRefR
namespace Go.Proofs.Ytodcmlcpicabaaa
open Go.RowKit
set_option linter.unusedVariables false
set_option linter.unusedSimpArgs false

set_option maxHeartbeats 3200000 in
set_option maxRecDepth 100000 in
theorem beginR_any (v u : List Int) (a b : Option Addr) (c d : Nat) (w : World) (hv : Ints w a v) (hu : Ints w b u) (hm : v.length ≤ maxLen) (hm' : u.length ≤ maxLen) :
    Calls Try.prog 58 #[.slice a v.length c, .slice b u.length d] w (Says (.int .i64 ((comT v u : Nat) : Int)) w) := by
  unfold maxLen at hm hm'
  have HV : Hid (Ints w a v) := hv
  have HU : Hid (Ints w b u) := hu
  obtain ⟨Po, hPo⟩ : ∃ P, P = Says (.int .i64 ((comT v u : Nat) : Int)) w := ⟨_, rfl⟩
  have HP : Hid (∀ n W, comT v u = n → w.grownBy W none → Po (.returned (.int .i64 (n : Int))) W) := fun n W h1 h2 => by rw [hPo, ← h1]; exact ⟨rfl, h2⟩
  rw [← hPo]
  clear hv hu hPo
  go_enter Try.func58, Try.ntmps58
  go_wp2_with fail
  go_loopw [5] (fun t W => ∃ k : Nat, k ≤ v.length ∧ k ≤ u.length ∧ t = .int .i64 k ∧ w.grownBy W none ∧ ∀ j, j < k → v.getD j 0 = u.getD j 0) (fun t _ => v.length - (intOf t).toNat)
  case atStart => exact ⟨0, Nat.zero_le _, Nat.zero_le _, rfl, grown_refl _ _, fun j hj => by omega⟩
  case round =>
    obtain ⟨k, hk, hk', rfl, hg, hj⟩ := hrel
    have HG : Hid (w.grownBy wr none) := hg
    have HJ : Hid (∀ j, j < k → v.getD j 0 = u.getD j 0) := hj
    clear hg hj
    by_cases h1 : k < v.length
    · have i1 : (k : Int) < (v.length : Int) := by omega
      by_cases h2 : k < u.length
      · have i2 : (k : Int) < (u.length : Int) := by omega
        obtain ⟨b1, o1, rfl, hc1⟩ := (HV.out.grown HG.out).at h1
        obtain ⟨b2, o2, rfl, hc2⟩ := (HU.out.grown HG.out).at h2
        have x1 := hc1 k h1
        have x2 := hc2 k h2
        obtain ⟨z1, hz1⟩ : ∃ z, v.getD k 0 = z := ⟨_, rfl⟩
        obtain ⟨z2, hz2⟩ : ∃ z, u.getD k 0 = z := ⟨_, rfl⟩
        rw [hz1] at x1
        rw [hz2] at x2
        by_cases e : z1 = z2
        · have d1 : (z1 == z2) = true := by simpa using e
          have HN : Hid (∀ j, j < k + 1 → v.getD j 0 = u.getD j 0) := fun j hj => by
            by_cases hjk : j = k
            · subst hjk; rw [hz1, hz2]; exact e
            · exact HJ.out j (by omega)
          clear hz1 hz2 e hc1 hc2
          go_wp2_with fail
          go_quiet (fail)
          go_wp2_with fail
          go_roundw
          case rel => exact ⟨k + 1, by omega, by omega, by go_num, grown_drewN HG.out _, HN.out⟩
          case measure => simp [intOf]; omega
        · have d1 : (z1 == z2) = false := by simpa using e
          have F : Hid (∀ q, Po (.returned (.int .i64 (k : Int))) (wr.drewN q)) := fun q => HP.out k _ (comT_is hk hk' HJ.out (fun _ _ => by rw [hz1, hz2]; exact e)) (grown_drewN HG.out q)
          clear hz1 hz2 e hc1 hc2
          go_wp2_with fail
          go_quiet (fail)
          go_wp2_with fail
          first | exact F.out _ | (go_ret; exact F.out _)
      · have i2 : ¬ (k : Int) < (u.length : Int) := by omega
        have F : Hid (∀ q, Po (.returned (.int .i64 (k : Int))) (wr.drewN q)) := fun q => HP.out k _ (comT_is hk hk' HJ.out (fun _ h => absurd h h2)) (grown_drewN HG.out q)
        go_wp2_with fail
        go_quiet (fail)
        go_wp2_with fail
        first | exact F.out _ | (go_ret; exact F.out _)
    · have i1 : ¬ (k : Int) < (v.length : Int) := by omega
      have F : Hid (∀ q, Po (.returned (.int .i64 (k : Int))) (wr.drewN q)) := fun q => HP.out k _ (comT_is hk hk' HJ.out (fun h _ => absurd h h1)) (grown_drewN HG.out q)
      go_wp2_with fail
      go_quiet (fail)
      go_wp2_with fail
      first | exact F.out _ | (go_ret; exact F.out _)


def CloneW (zs : List Int) (w : World) (e : Ending) (w' : World) : Prop := ∃ a c, e = .returned (.slice a zs.length c) ∧ Ints w' a zs ∧ w.grownBy w' none ∧ (∀ y, a = some y → w.heap.size ≤ y.block) ∧ zs.length ≤ c
attribute [local go_sem ↓] appY_fold in
set_option maxHeartbeats 1600000 in
theorem cloneW_any (zs : List Int) (a : Option Addr) (c : Nat) (w : World) (h : Ints w a zs) (hl : zs.length ≤ 900) (hn : a = none → zs.length = 0) :
    Calls Try.prog 33 #[.slice a zs.length c] w (CloneW zs w) := by
  cases a with
  | none =>
    have e : zs = [] := List.length_eq_zero_iff.1 (hn rfl)
    subst e
    have hnil := fun (W : World) => Lib.run_eql_slice_nil (P := Try.prog) W 22 3 none 0 c 0 0 Try.underlying22
    have F : Hid (CloneW [] w (.returned (.slice none 0 0)) w) := ⟨none, 0, rfl, .inl rfl, grown_refl _ _, (fun y hy => by cases hy), by simp⟩
    obtain ⟨Po, hPo⟩ : ∃ P, P = CloneW [] w := ⟨_, rfl⟩
    rw [← hPo] at F ⊢
    clear hPo h hl hn
    go_enter Try.func33, Try.ntmps33
    go_wp2_with fail
    first | exact F.out | (go_ret; exact F.out)
  | some y =>
    obtain ⟨W1, hW1, g1, o1⟩ := empty_row w
    obtain ⟨a1, c1, W', hrun, ho⟩ := o1.put (d := c) (h.grown g1) (by simp; omega)
    simp only [List.nil_append, List.length_nil] at hrun ho
    rw [hW1] at hrun
    have hcap : zs.length ≤ c1 := by
      rcases ho.own.2 with ⟨e0, e1⟩ | ⟨g, cap, cur, e1, _, _, h6, _⟩
      · simp only [Value.slice.injEq] at e0; omega
      · simp only [Value.slice.injEq] at e1; omega
    have hnil := fun (W : World) => Lib.run_eql_slice_nil (P := Try.prog) W 22 3 (some y) zs.length c 0 0 Try.underlying22
    have F : Hid (CloneW zs w (.returned (.slice a1 zs.length c1)) W') := ⟨a1, c1, rfl, ho.ints, ho.gr, ho.new, hcap⟩
    obtain ⟨Po, hPo⟩ : ∃ P, P = CloneW zs w := ⟨_, rfl⟩
    rw [← hPo] at F ⊢
    generalize zs.length = nz at *
    clear hPo h hl hn hW1 g1 o1 ho hcap
    go_enter Try.func33, Try.ntmps33
    go_wp2_with fail
    first | exact F.out | (go_ret; exact F.out)

end Go.Proofs.Ytodcmlcpicabaaa
