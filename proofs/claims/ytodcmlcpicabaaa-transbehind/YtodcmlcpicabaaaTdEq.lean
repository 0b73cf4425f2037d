/- Whether two words are one: slices.Equal. (Parted from TdWord.) -/
import Derived.Test.YtodcmlcpicabaaaBas
import Derived.Test.YtodcmlcpicabaaaTlM
namespace Go.Proofs.Ytodcmlcpicabaaa
open Go.RowKit
set_option linter.unusedVariables false
set_option linter.unusedSimpArgs false

theorem ext_getD {xs ys : List Int} (hl : xs.length = ys.length) (h : ∀ i, i < xs.length → xs.getD i 0 = ys.getD i 0) : xs = ys := by
  refine List.ext_getElem hl fun i h1 h2 => ?_
  have := h i h1
  rwa [List.getD, List.getD, List.getElem?_eq_getElem h1, List.getElem?_eq_getElem h2, Option.getD_some, Option.getD_some] at this

set_option maxHeartbeats 1600000 in
set_option maxRecDepth 100000 in
theorem equalI_any (v u : List Int) (a b : Option Addr) (c d : Nat) (w : World) (hv : Ints w a v) (hu : Ints w b u) (hm : v.length ≤ 1000) (hm' : u.length ≤ 1000) :
    Calls Try.prog 56 #[.slice a v.length c, .slice b u.length d] w (TellsB (v = u) w) := by
  have HV : Hid (Ints w a v) := hv
  have HU : Hid (Ints w b u) := hu
  clear hv hu
  by_cases el : v.length = u.length
  · have HE : Hid (v.length = u.length) := el
    have d0 : ((v.length : Int) != (u.length : Int)) = false := by simp [el]
    clear el
    go_enter Try.func56, Try.ntmps56
    go_wp2_with fail
    go_loopw [13] (fun t W => ∃ k : Nat, k ≤ v.length ∧ t = .int .i64 k ∧ w.grownBy W none ∧ ∀ j, j < k → v.getD j 0 = u.getD j 0) (fun t _ => v.length - (intOf t).toNat)
    case atStart => exact ⟨0, Nat.zero_le _, rfl, grown_refl _ _, fun j hj => by omega⟩
    case round =>
      obtain ⟨k, hk, rfl, hg, hj⟩ := hrel
      have HG : Hid (w.grownBy wr none) := hg
      have HJ : Hid (∀ j, j < k → v.getD j 0 = u.getD j 0) := hj
      clear hg hj
      by_cases h1 : k < v.length
      · have h2 : k < u.length := by have := HE.out; omega
        have i1 : (k : Int) < (v.length : Int) := by omega
        have i2 : (k : Int) < (u.length : Int) := by omega
        obtain ⟨b1, o1, rfl, hc1⟩ := (HV.out.grown HG.out).at h1
        obtain ⟨b2, o2, rfl, hc2⟩ := (HU.out.grown HG.out).at h2
        have x1 := hc1 k h1
        have x2 := hc2 k h2
        obtain ⟨z1, hz1⟩ : ∃ z, v.getD k 0 = z := ⟨_, rfl⟩
        obtain ⟨z2, hz2⟩ : ∃ z, u.getD k 0 = z := ⟨_, rfl⟩
        rw [hz1] at x1
        rw [hz2] at x2
        by_cases e : z1 = z2
        · have d1 : (z1 != z2) = false := by simpa using e
          have HN : Hid (∀ j, j < k + 1 → v.getD j 0 = u.getD j 0) := fun j hj => by
            by_cases hjk : j = k
            · subst hjk; rw [hz1, hz2]; exact e
            · exact HJ.out j (by omega)
          clear hz1 hz2 e hc1 hc2
          go_wp2_with fail
          go_quiet (fail)
          go_wp2_with fail
          go_roundw
          case rel => exact ⟨k + 1, by omega, by go_num, grown_drewN HG.out _, HN.out⟩
          case measure => simp [intOf]; omega
        · have d1 : (z1 != z2) = true := by simpa using e
          have HN : Hid (¬ v = u) := fun e2 => e (by rw [← hz1, ← hz2, e2])
          clear hz1 hz2 e hc1 hc2
          go_wp2_with fail
          go_quiet (fail)
          go_wp2_with fail
          go_ret
          exact tellsB false rfl ⟨(fun e => by cases e), fun e => absurd e HN.out⟩ (grown_drewN HG.out _)
      · have i1 : ¬ (k : Int) < (v.length : Int) := by omega
        have HN : Hid (v = u) := ext_getD HE.out fun i hi => HJ.out i (by omega)
        go_wp2_with fail
        go_ret
        exact tellsB true rfl ⟨fun _ => HN.out, fun _ => rfl⟩ HG.out
  · have d0 : ((v.length : Int) != (u.length : Int)) = true := by simp; omega
    have HN : Hid (¬ v = u) := fun e => el (by rw [e])
    clear el
    go_enter Try.func56, Try.ntmps56
    go_wp2_with fail
    go_ret
    exact tellsB false rfl ⟨(fun e => by cases e), fun e => absurd e HN.out⟩ (grown_refl _ _)


end Go.Proofs.Ytodcmlcpicabaaa
