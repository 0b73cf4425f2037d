/- What a step of an automaton reads. -/
import Derived.Test.YtcgkflddipflbaaDBs
namespace Go.Proofs.Ytcgkflddipflbaa
open Go.RowKit
set_option linter.unusedVariables false

/-- What a step reads. -/
theorem step_reads {w : World} {L S : Int} {R : List (List Int)} {M : List Int} {a a' : Option Addr} (h : DetAt w ⟨L, S, R, M⟩ a a') (hG : Good ⟨L, S, R, M⟩) {s l : Nat} (hs : s < R.length) (hl : (l : Int) < L) :
    ∃ b off bx ox cx, a = some ⟨b, off, none⟩ ∧ w.cell? ⟨b, off + s, none⟩ = some (.slice (some ⟨bx, ox, none⟩) L.toNat cx) ∧ w.cell? ⟨bx, ox + l, none⟩ = some (.int .i64 ((Dfa.nx ⟨L, S, R, M⟩ s l : Nat) : Int)) := by
  obtain ⟨b, off, ha, hc⟩ := h.rows.at hs
  obtain ⟨x, cx, hck, hix, hlx⟩ := hc s hs
  have hrow := hG.row hs
  have hl' : l < L.toNat := by omega
  simp only at hrow hck hix
  rw [hrow] at hck
  obtain ⟨bx, ox, rfl, hcx⟩ := hix.at (k := l) (by rw [hrow]; exact hl')
  have := hcx l (by rw [hrow]; exact hl')
  have e := hG.nx_eq hs hl'
  simp only at e
  rw [e] at this
  exact ⟨b, off, bx, ox, cx, ha, hck, this⟩

theorem mark_reads {w : World} {L S : Int} {R : List (List Int)} {M : List Int} {a a' : Option Addr} (h : DetAt w ⟨L, S, R, M⟩ a a') (hG : Good ⟨L, S, R, M⟩) {s : Nat} (hs : s < R.length) :
    ∃ b off, a' = some ⟨b, off, none⟩ ∧ w.cell? ⟨b, off + s, none⟩ = some (.int .i64 (M.getD s 0)) := by
  have hl : s < M.length := by have := hG.ml; simp only at this; omega
  obtain ⟨b, off, ha, hc⟩ := h.marks.at hl
  exact ⟨b, off, ha, hc s hl⟩

end Go.Proofs.Ytcgkflddipflbaa
