/- The letter at a place: the program's function and the reference's both answer letF. -/
import Derived.Test.YthccdfjmkdcehaaLasso
namespace Go.Proofs.Ythccdfjmkdcehaa
open Go.RowKit
set_option linter.unusedVariables false

/-- The letter at the place n of the lasso's infinite word. -/
def letF (h l : List Int) (n : Nat) : Int := if n < h.length then h.getD n 0 else l.getD ((n - h.length) % l.length) 0

set_option maxHeartbeats 400000 in
theorem letter_any (n : Nat) (a a' : Option Addr) (c c' : Nat) (h l : List Int) (w : World) (hh : Ints w a h) (hl : Ints w a' l) (hm : h.length ≤ 60) (hm' : l.length ≤ 60) (hn : (n : Int) ≤ 9223372036854775807) (hl0 : 0 < l.length) :
    Calls Try.prog 26 #[.agg #[.slice a h.length c, .slice a' l.length c'], .int .i64 n] w fun e w' => e = .returned (.int .i64 (letF h l n)) ∧ Below w.heap.size w w' := by
  have hb : ∀ o, Below w.heap.size w (w.alloc o) := fun o => (Below.refl _ _).alloc (Nat.le_refl _) o
  by_cases h1 : n < h.length
  · have HF : Hid (letF h l n = h.getD n 0) := if_pos h1
    obtain ⟨b, off, rfl, hc⟩ := hh.at h1
    have hck : ∀ o, (w.alloc o).cell? ⟨b, off + n, none⟩ = some (.int .i64 (h.getD n 0)) := fun o => cell_later (hb o) (hc n h1)
    clear hc hh hl
    generalize h.getD n 0 = x at *
    go_enter Try.func26, Try.ntmps26
    go_wp2
    go_ret
    exact ⟨ret_int HF.out.symm, hb _⟩
  · have HF : Hid (letF h l n = l.getD ((n - h.length) % l.length) 0) := if_neg h1
    have hlt : (n - h.length) % l.length < l.length := Nat.mod_lt _ hl0
    obtain ⟨b, off, rfl, hc⟩ := hl.at hl0
    have hck : ∀ o, (w.alloc o).cell? ⟨b, off + (n - h.length) % l.length, none⟩ = some (.int .i64 (l.getD ((n - h.length) % l.length) 0)) := fun o => cell_later (hb o) (hc _ hlt)
    clear hc hh hl
    have h1' : ¬ ((n : Int) < (h.length : Int)) := by omega
    have e1 : IntKind.i64.wrap ((n : Int) - (h.length : Int)) = ((n - h.length : Nat) : Int) := by
      rw [show (n : Int) - (h.length : Int) = ((n - h.length : Nat) : Int) by omega]
      exact IntWalk.i64_in _ (by omega)
    have hlt' : (((n - h.length) % l.length : Nat) : Int) < (l.length : Int) := by omega
    generalize l.getD ((n - h.length) % l.length) 0 = x at *
    go_enter Try.func26, Try.ntmps26
    go_wp2
    go_quiet (fail)
    go_wp2
    go_ret
    exact ⟨ret_int HF.out.symm, below_drewN (hb _) _⟩

set_option maxHeartbeats 400000 in
theorem at_any (n : Nat) (a a' : Option Addr) (c c' : Nat) (h l : List Int) (w : World) (hh : Ints w a h) (hl : Ints w a' l) (hm : h.length ≤ 60) (hm' : l.length ≤ 60) (hn : (n : Int) ≤ 9223372036854775807) (hl0 : 0 < l.length) :
    Calls Try.prog 14 #[.agg #[.slice a h.length c, .slice a' l.length c'], .int .i64 n] w fun e w' => e = .returned (.int .i64 (letF h l n)) ∧ Below w.heap.size w w' := by
  have hb : ∀ o, Below w.heap.size w (w.alloc o) := fun o => (Below.refl _ _).alloc (Nat.le_refl _) o
  by_cases h1 : n < h.length
  · have HF : Hid (letF h l n = h.getD n 0) := if_pos h1
    obtain ⟨b, off, rfl, hc⟩ := hh.at h1
    have hck : ∀ o, (w.alloc o).cell? ⟨b, off + n, none⟩ = some (.int .i64 (h.getD n 0)) := fun o => cell_later (hb o) (hc n h1)
    clear hc hh hl
    generalize h.getD n 0 = x at *
    go_enter Try.func14, Try.ntmps14
    go_wp2
    go_ret
    exact ⟨ret_int HF.out.symm, hb _⟩
  · have HF : Hid (letF h l n = l.getD ((n - h.length) % l.length) 0) := if_neg h1
    have hlt : (n - h.length) % l.length < l.length := Nat.mod_lt _ hl0
    obtain ⟨b, off, rfl, hc⟩ := hl.at hl0
    have hck : ∀ o, (w.alloc o).cell? ⟨b, off + (n - h.length) % l.length, none⟩ = some (.int .i64 (l.getD ((n - h.length) % l.length) 0)) := fun o => cell_later (hb o) (hc _ hlt)
    clear hc hh hl
    have h1' : ¬ ((n : Int) < (h.length : Int)) := by omega
    have e1 : IntKind.i64.wrap ((n : Int) - (h.length : Int)) = ((n - h.length : Nat) : Int) := by
      rw [show (n : Int) - (h.length : Int) = ((n - h.length : Nat) : Int) by omega]
      exact IntWalk.i64_in _ (by omega)
    have hlt' : (((n - h.length) % l.length : Nat) : Int) < (l.length : Int) := by omega
    generalize l.getD ((n - h.length) % l.length) 0 = x at *
    go_enter Try.func14, Try.ntmps14
    go_wp2
    go_quiet (fail)
    go_wp2
    go_ret
    exact ⟨ret_int HF.out.symm, below_drewN (hb _) _⟩

end Go.Proofs.Ythccdfjmkdcehaa
