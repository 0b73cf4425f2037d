/- The next byte, as the program's reader tells it; which bytes begin a part. -/
import Derived.Test.YtepldeogcoigkaaDoorBase
namespace Go.Proofs.YtepldeogcoigkaaDoor
open Go.RowKit
set_option linter.unusedVariables false

theorem peek_any (s : ByteArray) (b i d : Nat) (w : World) (hs : s.size ≤ 4000) (hi : i ≤ s.size) (h : Rd w b s i d) :
    Calls Tryd.prog 26 #[.pointer (some ⟨b, 0, none⟩)] w fun e w' => e = .returned (.int .u8 (byteAt s i)) ∧ w.grownBy w' none := by
  have c0 := h.c0
  have c1 := h.c1
  have f0 := h.f 0
  have f1 := h.f 1
  clear h
  by_cases h1 : i = s.size
  · have h1' : ((i : Int) == (s.size : Int)) = true := by simp; omega
    go_enter Tryd.func26, Tryd.ntmps26
    go_wp2
    go_quiet (fail)
    go_wp2
    go_ret
    exact ⟨by simp [byteAt, h1], grown_drewN (grown_refl _ _) _⟩
  · have h2 : i < s.size := by omega
    have h1' : ((i : Int) == (s.size : Int)) = false := by simp; omega
    have h3 : (i : Int) < (s.size : Int) := by omega
    have h4 : (0 : Int) ≤ (i : Int) := by omega
    go_enter Tryd.func26, Tryd.ntmps26
    go_wp2
    go_quiet (fail)
    go_wp2
    go_quiet (fail)
    go_wp2
    go_ret
    exact ⟨by simp [byteAt, h2], grown_drewN (grown_drewN (grown_refl _ _) _) _⟩
end Go.Proofs.YtepldeogcoigkaaDoor
