/- Automata of up to six thousand states (two beside one another): what a step of them reads. -/
import Derived.Test.YtmbbkjpfmmnabaaDoorDRead
namespace Go.Proofs.YtmbbkjpfmmnabaaDoor
open Go.RowKit
set_option linter.unusedVariables false

/-- It may be one, of twice as many states, whatever it starts with. -/
structure Fit (d : Dfa) : Prop where
  l1 : 1 ≤ d.L
  l4 : d.L ≤ 4
  n1 : 1 ≤ d.R.length
  n6 : d.R.length ≤ 6000
  ml : d.M.length = d.R.length
  rl : ∀ i, i < d.R.length → ((d.R.getD i []).length : Int) = d.L
  r : ∀ i, i < d.R.length → ∀ k, k < (d.R.getD i []).length → 0 ≤ (d.R.getD i []).getD k 0 ∧ (d.R.getD i []).getD k 0 < d.R.length
  m : ∀ i, i < d.M.length → d.M.getD i 0 = 0 ∨ d.M.getD i 0 = 1
theorem Good.fit {d : Dfa} (h : Good d) : Fit d := ⟨h.l1, h.l4, h.n1, by have := h.n3; omega, h.ml, h.rl, h.r, h.m⟩
theorem Fit.row {d : Dfa} (h : Fit d) {s : Nat} (hs : s < d.R.length) : (d.R.getD s []).length = d.L.toNat := by have := h.rl s hs; have := h.l1; omega
theorem Fit.nx_lt {d : Dfa} (h : Fit d) {s a : Nat} (hs : s < d.R.length) (ha : a < d.L.toNat) : d.nx s a < d.R.length := by
  have := h.r s hs a (by rw [h.row hs]; exact ha); unfold Dfa.nx; omega
theorem Fit.nx_eq {d : Dfa} (h : Fit d) {s a : Nat} (hs : s < d.R.length) (ha : a < d.L.toNat) : (d.R.getD s []).getD a 0 = (d.nx s a : Int) := by
  have := h.r s hs a (by rw [h.row hs]; exact ha); unfold Dfa.nx; omega

/-- What a step reads. -/
theorem fit_reads {w : World} {L S : Int} {R : List (List Int)} {M : List Int} {a a' : Option Addr} (h : DetAt w ⟨L, S, R, M⟩ a a') (hG : Fit ⟨L, S, R, M⟩) {s l : Nat} (hs : s < R.length) (hl : (l : Int) < L) :
    ∃ b off bx ox cx, a = some ⟨b, off, none⟩ ∧ w.cell? ⟨b, off + s, none⟩ = some (.slice (some ⟨bx, ox, none⟩) L.toNat cx) ∧ w.cell? ⟨bx, ox + l, none⟩ = some (.int .i64 ((Dfa.nx ⟨L, S, R, M⟩ s l : Nat) : Int)) := by
  obtain ⟨b, off, ha, hc⟩ := h.rows.at hs
  obtain ⟨x, cx, hck, hix, hlx⟩ := hc s hs
  have hrow := hG.row hs
  have hl' : l < L.toNat := by omega
  simp only at hrow hck hix
  rw [hrow] at hck
  obtain ⟨bx, ox, rfl, hcx⟩ := hix.at (k := l) (by rw [hrow]; exact hl')
  have := hcx l (by rw [hrow]; exact hl')
  have e := hG.nx_eq hs hl'
  simp only at e
  rw [e] at this
  exact ⟨b, off, bx, ox, cx, ha, hck, this⟩

theorem fit_mark {w : World} {L S : Int} {R : List (List Int)} {M : List Int} {a a' : Option Addr} (h : DetAt w ⟨L, S, R, M⟩ a a') (hG : Fit ⟨L, S, R, M⟩) {s : Nat} (hs : s < R.length) :
    ∃ b off, a' = some ⟨b, off, none⟩ ∧ w.cell? ⟨b, off + s, none⟩ = some (.int .i64 (M.getD s 0)) := by
  have hl : s < M.length := by have := hG.ml; simp only at this; omega
  obtain ⟨b, off, ha, hc⟩ := h.marks.at hl
  exact ⟨b, off, ha, hc s hl⟩

end Go.Proofs.YtmbbkjpfmmnabaaDoor
