/- Whether two words are one, by the reference. -/
import Derived.Test.YtbkfcfhkjnfbmaaTell
import Derived.Test.YtbkfcfhkjnfbmaaJoin1
namespace Go.Proofs.Ytbkfcfhkjnfbmaa
open Go.RowKit
set_option linter.unusedVariables false

def SameW (zs zt : List Int) : Prop := zs = zt

set_option maxHeartbeats 1600000 in
set_option maxRecDepth 100000 in
theorem wordsR_any (a b : Option Addr) (c d : Nat) (zs zt : List Int) (w : World) (hz : Ints w a zs) (ht : Ints w b zt) (hm : zs.length ≤ maxLen) (hm' : zt.length ≤ maxLen) :
    Calls Try.prog 10 #[.slice a zs.length c, .slice b zt.length d] w (TellsB (SameW zs zt) w) := by
  unfold maxLen at hm hm'
  have HZ : Hid (Ints w a zs) := hz
  have HT : Hid (Ints w b zt) := ht
  clear hz ht
  by_cases hne : ¬ zs.length = zt.length
  · have hne' : ((zs.length : Int) != (zt.length : Int)) = true := by simp; omega
    go_enter Try.func10, Try.ntmps10
    go_wp2_with fail
    go_ret
    exact tellsB false rfl ⟨(fun e => by cases e), fun e => absurd (congrArg List.length e) hne⟩ (grown_refl _ _)
  have hne' : ((zs.length : Int) != (zt.length : Int)) = false := by simp; omega
  have HLn : Hid (zs.length = zt.length) := by show _ = _; omega
  clear hne
  go_enter Try.func10, Try.ntmps10
  go_wp2_with fail
  go_loopw [5] (fun v wr => ∃ k : Nat, v = .int .i64 k ∧ k ≤ zs.length ∧ w.grownBy wr none ∧ ∀ j, j < k → zs.getD j 0 = zt.getD j 0) (fun v _ => zs.length - (intOf v).toNat)
  case atStart => exact ⟨0, rfl, by omega, grown_refl _ _, fun j hj => by omega⟩
  case round =>
    obtain ⟨k, rfl, hk, hg, hl⟩ := hrel
    have G : Hid (w.grownBy wr none) := hg
    have HK : Hid (∀ j, j < k → zs.getD j 0 = zt.getD j 0) := hl
    clear hg hl
    by_cases hkl : k < zs.length
    · have hkl2 : k < zt.length := by rw [← HLn.out]; exact hkl
      obtain ⟨bx, ox, rfl, hcx⟩ := HZ.out.at hkl
      obtain ⟨bY, oY, rfl, hcy⟩ := HT.out.at hkl2
      have c3 : wr.cell? ⟨bx, ox + k, none⟩ = some (.int .i64 (zs.getD k 0)) := G.out.cell (hcx k hkl) (by simp)
      have c4 : wr.cell? ⟨bY, oY + k, none⟩ = some (.int .i64 (zt.getD k 0)) := G.out.cell (hcy k hkl2) (by simp)
      clear hcx hcy
      generalize hu : zs.getD k 0 = u at c3
      generalize hv : zt.getD k 0 = v at c4
      have HU : Hid (zs.getD k 0 = u) := hu
      have HV : Hid (zt.getD k 0 = v) := hv
      clear hu hv
      have hk1 : (k : Int) < (zs.length : Int) := by omega
      have hk2 : (k : Int) < (zt.length : Int) := by omega
      by_cases huv : u = v
      · have huv' : (u != v) = false := by simpa using huv
        go_wp2_with fail
        go_quiet (fail)
        go_wp2_with fail
        go_roundw
        case rel =>
          refine ⟨k + 1, by go_num, by omega, grown_drewN G.out _, fun j hj => ?_⟩
          by_cases e : j = k
          · subst e; rw [HU.out, HV.out]; exact huv
          · exact HK.out j (by omega)
        case measure => simp [intOf]; omega
      · have huv' : (u != v) = true := by simpa using huv
        go_wp2_with fail
        go_quiet (fail)
        go_wp2_with fail
        go_ret
        exact tellsB false rfl ⟨(fun e => by cases e), fun e => absurd (by rw [← HU.out, ← HV.out]; exact congrArg (fun q => List.getD q k 0) e) huv⟩ (grown_drewN G.out _)
    · have hki : ¬ (k : Int) < (zs.length : Int) := by omega
      have EZ : Hid (zs = zt) := getD_ext HLn.out (fun j hj => HK.out j (by omega))
      clear HK
      go_wp2_with fail
      go_ret
      exact tellsB true rfl ⟨fun _ => EZ.out, fun _ => rfl⟩ G.out

end Go.Proofs.Ytbkfcfhkjnfbmaa
