/- What holds while comes goes: its boxes, its rows, and the step of a round. -/
import Derived.Test.YtneialmpaiejcaaWRow
namespace Go.Proofs.Ytneialmpaiejcaa
open Go.RowKit Go.Shelf
set_option linter.unusedVariables false
set_option linter.unusedSimpArgs false

/-- What holds between two rounds: h is where the call's own memory begins. -/
structure InvC (w : World) (h gk gg n t c ck cg : Nat) (a : Option Addr) (kp gl : Nat → Bool) (o : Nat → Bool) (W : World) : Prop where
  b0 : W.cell? ⟨h, 0, none⟩ = some (.slice a n c)
  b1 : W.cell? ⟨h, 1, none⟩ = some (.int .i64 (t : Int))
  b2 : W.cell? ⟨h + 1, 0, none⟩ = some (.slice (some ⟨gk, 0, none⟩) n ck)
  b3 : W.cell? ⟨h + 1 + 1, 0, none⟩ = some (.slice (some ⟨gg, 0, none⟩) n cg)
  b4 : W.cell? ⟨h + 1 + 1 + 1 + 1, 0, none⟩ = some (.slice (some ⟨h + 1 + 1 + 1, 0, none⟩) n n)
  kr : BRow W gk n kp
  gr : BRow W gg n gl
  or : BRow W (h + 1 + 1 + 1) n o
  hh : h ≤ w.heap.size
  bel : Below h w W
section
variable {w W W' : World} {h gk gg n t c ck cg : Nat} {a : Option Addr} {kp gl o : Nat → Bool}
theorem InvC.turn (H : InvC w h gk gg n t c ck cg a kp gl o W) {row : Option Nat} (hg : W.grownBy W' row) (hr : ∀ r, row = some r → h ≤ r ∧ ∃ o : Obj, W.heap[r]? = some o ∧ o.isCells = false) : InvC w h gk gg n t c ck cg a kp gl o W' := by
  have hr2 : ∀ r, row = some r → ∃ o : Obj, W.heap[r]? = some o ∧ o.isCells = false := fun r e => (hr r e).2
  exact ⟨cell_kept H.b0 hg hr2, cell_kept H.b1 hg hr2, cell_kept H.b2 hg hr2, cell_kept H.b3 hg hr2, cell_kept H.b4 hg hr2, H.kr.turn hg hr2, H.gr.turn hg hr2, H.or.turn hg hr2, H.hh, H.bel.grown hg (Nat.le_trans H.hh H.bel.size) (fun k e => (hr k e).1)⟩
theorem InvC.kept (H : InvC w h gk gg n t c ck cg a kp gl o W) (hg : W.grownBy W' none) : InvC w h gk gg n t c ck cg a kp gl o W' := H.turn hg (fun r e => by cases e)
theorem InvC.put (H : InvC w h gk gg n t c ck cg a kp gl o W) (hk : gk < h) (hgg : gg < h) {i : Nat} (hi : i < n) (b : Bool) : InvC w h gk gg n t c ck cg a kp gl (fun j => if j = i then b else o j) (W.setCell ⟨h + 1 + 1 + 1, i, none⟩ (.bool b)) := by
  have hc : ∀ p v, p.block ≠ h + 1 + 1 + 1 → W.cell? p = some v → (W.setCell ⟨h + 1 + 1 + 1, i, none⟩ (.bool b)).cell? p = some v := fun p v hp hv => (grown_set W ⟨h + 1 + 1 + 1, i, none⟩ (.bool b)).cell hv (by simpa using hp)
  exact ⟨hc _ _ (by show h ≠ _; omega) H.b0, hc _ _ (by show h ≠ _; omega) H.b1, hc _ _ (by show h + 1 ≠ _; omega) H.b2, hc _ _ (by show h + 1 + 1 ≠ _; omega) H.b3, hc _ _ (by show h + 1 + 1 + 1 + 1 ≠ _; omega) H.b4, H.kr.other (by omega) _, H.gr.other (by omega) _, H.or.set hi b, H.hh, H.bel.setCell (by simp; omega) _⟩
/-- What a round leaves behind. -/
structure RoundC (w : World) (h gk gg n t c ck cg : Nat) (a : Option Addr) (kp gl : Nat → Bool) (Bs B : Nat) (o : Nat → Bool) (W W' : World) : Prop where
  kf : KeepsFrom B W W'
  keep : KpB Bs (h + 1 + 1 + 1) n (.slice (some ⟨h + 1 + 1 + 1, 0, none⟩) n n) W W'
  inv : InvC w h gk gg n t c ck cg a kp gl o W'
theorem InvC.round {nx : Nat → Nat} {W2 : World} {Bs B : Nat} (H : InvC w h gk gg n t c ck cg a kp gl o W) (hk : gk < h) (hgg : gg < h) (hBs : h + 1 + 1 + 1 < Bs) {i : Nat} (hi : i < n) (hg : W.grownBy W2 none) {b : Bool} (hb : b = (gl i || (kp i && o (nx i)))) :
    RoundC w h gk gg n t c ck cg a kp gl Bs B (pstep nx kp gl o i) W (W2.setCell ⟨h + 1 + 1 + 1, i, none⟩ (.bool b)) := by
  subst hb
  refine ⟨((KeepsOthers.of_grownBy hg (fun j o e => by cases e)).trans (KeepsOthers.setCell _ _ _)).from B, ⟨fun x => ?_, fun x j hj => ?_⟩, (H.kept hg).put hk hgg hi _⟩
  · exact (grown_set W2 ⟨h + 1 + 1 + 1, i, none⟩ _).cell (hg.cell x (by simp)) (by simp; omega)
  · exact ⟨_, ((H.kept hg).put hk hgg hi _).or.cell hj⟩
theorem RoundC.drew {Bs B : Nat} (R : RoundC w h gk gg n t c ck cg a kp gl Bs B o W W') : RoundC w h gk gg n t c ck cg a kp gl Bs B o W W'.drew :=
  ⟨R.kf.trans ((KeepsOthers.drew _).from B), R.keep, R.inv.kept (grown_drew (grown_refl _ _))⟩
end

end Go.Proofs.Ytneialmpaiejcaa
