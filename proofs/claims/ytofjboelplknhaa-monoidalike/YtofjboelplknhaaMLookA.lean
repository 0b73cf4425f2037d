/- Who looks for a state from which two words part: monoid.Alike$1. -/
import Derived.Test.YtofjboelplknhaaMDone
import Derived.Test.YtofjboelplknhaaMSeekD
namespace Go.Proofs.Ytofjboelplknhaa
open Go.RowKit
set_option linter.unusedVariables false

theorem row_cell {W : World} {b c s : Nat} (h : RowAt W b c) (hs : s < 5) : W.cell? ⟨b, s, none⟩ = some (.int .i64 ((dg c s : Nat) : Int)) := by
  obtain ⟨h0, h1, h2, h3, h4, _⟩ := block_cells5 h
  rcases five hs with rfl | rfl | rfl | rfl | rfl <;> assumption
theorem rowBox (w : World) (c : Nat) : ∃ W, W = w.alloc (.cells #[.int .i64 ((dg c 0 : Nat) : Int), .int .i64 ((dg c 1 : Nat) : Int), .int .i64 ((dg c 2 : Nat) : Int), .int .i64 ((dg c 3 : Nat) : Int), .int .i64 ((dg c 4 : Nat) : Int)] 83) ∧ w.grownBy W none ∧ ∀ W', W.grownBy W' none → ∀ s, s < 5 → W'.cell? ⟨w.heap.size, s, none⟩ = some (.int .i64 ((dg c s : Nat) : Int)) :=
  ⟨_, rfl, grown_alloc _ _, fun W' h s hs => row_cell ((h.block _ (by simp) (by simp)).trans (heap_alloc_new w _)) hs⟩
/-- Where a word's deed leads to from where the last row leads to from 0. -/
def lastP (cu : Nat) (seen : List Nat) : Nat := match seen.getLast? with | some c => dg cu (dg c 0) | none => 0
theorem lastP_snoc (cu : Nat) (seen : List Nat) (c : Nat) : lastP cu (seen ++ [c]) = dg cu (dg c 0) := by unfold lastP; simp
def Pq (cu cv bp bq : Nat) (seen : List Nat) (W : World) (S : Nat → Prop) : Prop :=
  W.heap[bp]? = some (.cells #[.int .i64 ((lastP cu seen : Nat) : Int)] 3 (0, 0)) ∧ W.heap[bq]? = some (.cells #[.int .i64 ((lastP cv seen : Nat) : Int)] 3 (0, 0)) ∧ S = fun x => x = bp ∨ x = bq
theorem pq_stable (cu cv bp bq : Nat) (w0 : World) (S0 : Nat → Prop) : Stable w0 S0 (Pq cu cv bp bq) := by
  rintro seen W W' S ⟨h1, h2, rfl⟩ hb _
  exact ⟨(hb bp (.inl rfl)).trans h1, (hb bq (.inr rfl)).trans h2, rfl⟩
/-- Whether they part there. -/
def parts (cu cv c : Nat) : Bool := decide (dg cu (dg c 0) ≠ dg cv (dg c 0))

set_option maxHeartbeats 1600000 in
set_option maxRecDepth 100000 in
theorem lookA_any (cu cv bl bu bv bp bq c : Nat) (seen : List Nat) (W : World) (S : Nat → Prop) (hJ : Pq cu cv bp bq seen W S) (hpq : bp ≠ bq) (hbl : W.cell? ⟨bl, 1, none⟩ = some (.int .i64 0)) (hu : RowAt W bu cu) (hv : RowAt W bv cv) :
    Calls Try.prog 56 #[rowV c, .pointer (some ⟨bl, 0, none⟩), .pointer (some ⟨bu, 0, none⟩), .pointer (some ⟨bv, 0, none⟩), .pointer (some ⟨bp, 0, none⟩), .pointer (some ⟨bq, 0, none⟩)] W (LookPost (Pq cu cv bp bq) seen c S (parts cu cv) W) := by
  obtain ⟨hp, hq, rfl⟩ := hJ
  obtain ⟨W1, hW1, g1, hc1⟩ := rowBox W c
  have hpl : bp < W.heap.size := (Array.getElem?_eq_some_iff.1 hp).1
  have hql : bq < W.heap.size := (Array.getElem?_eq_some_iff.1 hq).1
  have hsz1 := g1.size
  have x0 := hc1 W1 (grown_refl _ _) 0 (by omega)
  have xl := g1.cell hbl (by simp)
  have hs5 := dg_lt c 0
  have hs5i : (dg c 0 : Int) < 5 := by omega
  have ru := row_cell hu hs5
  have rv := row_cell hv hs5
  have xu := g1.cell ru (by simp)
  have xv := g1.cell rv (by simp)
  have kp := (g1.block bp hpl (by simp)).trans hp
  have kq := (g1.block bq hql (by simp)).trans hq
  have cp : W1.cell? ⟨bp, 0, none⟩ = some (.int .i64 ((lastP cu seen : Nat) : Int)) := by rw [cell_of_row _ _ _ _ _ (0, 0) kp]; rfl
  have cq : W1.cell? ⟨bq, 0, none⟩ = some (.int .i64 ((lastP cv seen : Nat) : Int)) := by rw [cell_of_row _ _ _ _ _ (0, 0) kq]; rfl
  have fp := frozen_of_row W1 bp 0 _ _ kp
  have fq := frozen_of_row W1 bq 0 _ _ kq
  have k9 : ((W1.setCell ⟨bp, 0, none⟩ (.int .i64 ((dg cu (dg c 0) : Nat) : Int))).setCell ⟨bq, 0, none⟩ (.int .i64 ((dg cv (dg c 0) : Nat) : Int))).heap[bp]? = some (.cells #[.int .i64 ((dg cu (dg c 0) : Nat) : Int)] 3 (0, 0)) ∧ ((W1.setCell ⟨bp, 0, none⟩ (.int .i64 ((dg cu (dg c 0) : Nat) : Int))).setCell ⟨bq, 0, none⟩ (.int .i64 ((dg cv (dg c 0) : Nat) : Int))).heap[bq]? = some (.cells #[.int .i64 ((dg cv (dg c 0) : Nat) : Int)] 3 (0, 0)) := by
    have h1 : (W1.setCell ⟨bp, 0, none⟩ (.int .i64 ((dg cu (dg c 0) : Nat) : Int))).heap[bp]? = some (.cells #[.int .i64 ((dg cu (dg c 0) : Nat) : Int)] 3 (0, 0)) := by rw [heap_setCell_same W1 _ 0 _ _ _ kp]; rfl
    have h2 : (W1.setCell ⟨bp, 0, none⟩ (.int .i64 ((dg cu (dg c 0) : Nat) : Int))).heap[bq]? = some (.cells #[.int .i64 ((lastP cv seen : Nat) : Int)] 3 (0, 0)) := ((grown_set W1 ⟨bp, 0, none⟩ _).block bq (by omega) (by simpa using Ne.symm hpq)).trans kq
    refine ⟨((grown_set _ ⟨bq, 0, none⟩ _).block bp (by rw [size_set]; omega) (by simpa using hpq)).trans h1, ?_⟩
    rw [heap_setCell_same _ _ 0 _ _ _ h2]; rfl
  have t9 : Turn (fun x => x = bp ∨ x = bq) W ((W1.setCell ⟨bp, 0, none⟩ (.int .i64 ((dg cu (dg c 0) : Nat) : Int))).setCell ⟨bq, 0, none⟩ (.int .i64 ((dg cv (dg c 0) : Nat) : Int))).drew := (((Turn.of g1).step (grown_set _ _ _) (.inl (.inl rfl))).step (grown_set _ _ _) (.inl (.inr rfl))).grow (grown_drew (grown_refl _ _))
  have Fin : Hid (LookPost (Pq cu cv bp bq) seen c (fun x => x = bp ∨ x = bq) (parts cu cv) W (.returned (.bool (parts cu cv c))) ((W1.setCell ⟨bp, 0, none⟩ (.int .i64 ((dg cu (dg c 0) : Nat) : Int))).setCell ⟨bq, 0, none⟩ (.int .i64 ((dg cv (dg c 0) : Nat) : Int))).drew) := by
    refine ⟨rfl, fun x => x = bp ∨ x = bq, ⟨by rw [lastP_snoc]; exact k9.1, by rw [lastP_snoc]; exact k9.2, rfl⟩, t9, fun x hx => .inl hx, fun x hx => ?_⟩
    have := t9.size
    rcases hx with rfl | rfl <;> omega
  have y1 : ((W1.setCell ⟨bp, 0, none⟩ (.int .i64 ((dg cu (dg c 0) : Nat) : Int))).setCell ⟨bq, 0, none⟩ (.int .i64 ((dg cv (dg c 0) : Nat) : Int))).cell? ⟨bp, 0, none⟩ = some (.int .i64 ((dg cu (dg c 0) : Nat) : Int)) := by rw [cell_of_row _ _ _ _ _ (0, 0) k9.1]; rfl
  have y2 : ((W1.setCell ⟨bp, 0, none⟩ (.int .i64 ((dg cu (dg c 0) : Nat) : Int))).setCell ⟨bq, 0, none⟩ (.int .i64 ((dg cv (dg c 0) : Nat) : Int))).cell? ⟨bq, 0, none⟩ = some (.int .i64 ((dg cv (dg c 0) : Nat) : Int)) := by rw [cell_of_row _ _ _ _ _ (0, 0) k9.2]; rfl
  have z2 : (W1.setCell ⟨bp, 0, none⟩ (.int .i64 ((dg cu (dg c 0) : Nat) : Int))).cell? ⟨bq, 0, none⟩ = some (.int .i64 ((lastP cv seen : Nat) : Int)) := (grown_set W1 ⟨bp, 0, none⟩ _).cell cq (by simpa using Ne.symm hpq)
  have z3 : (W1.setCell ⟨bp, 0, none⟩ (.int .i64 ((dg cu (dg c 0) : Nat) : Int))).frozen? ⟨bq, 0, none⟩ = false := by
    have h2 : (W1.setCell ⟨bp, 0, none⟩ (.int .i64 ((dg cu (dg c 0) : Nat) : Int))).heap[bq]? = some (.cells #[.int .i64 ((lastP cv seen : Nat) : Int)] 3 (0, 0)) := ((grown_set W1 ⟨bp, 0, none⟩ _).block bq (by have := g1.size; omega) (by simpa using Ne.symm hpq)).trans kq
    exact frozen_of_row _ bq 0 _ _ h2
  have nvp : bv ≠ bp := fun e => by
    have h1 : W.heap[bv]? = _ := hv
    rw [e, hp] at h1
    simp at h1
  have xv2 : (W1.setCell ⟨bp, 0, none⟩ (.int .i64 ((dg cu (dg c 0) : Nat) : Int))).cell? ⟨bv, dg c 0, none⟩ = some (.int .i64 ((dg cv (dg c 0) : Nat) : Int)) := (grown_set W1 ⟨bp, 0, none⟩ _).cell xv (by simpa using nvp)
  have HV : Hid (parts cu cv c = decide (dg cu (dg c 0) ≠ dg cv (dg c 0))) := rfl
  have HW1 : Hid (W1 = _) := hW1
  have x0' := x0
  have xl' := xl
  rw [hW1] at x0' xl'
  have hb1 := dg_lt cu (dg c 0)
  have hb2 := dg_lt cv (dg c 0)
  clear hp hq hu hv hbl hW1 hc1 g1 ru rv kp kq k9 t9
  generalize dg cu (dg c 0) = P at *
  generalize dg cv (dg c 0) = Q at *
  by_cases he : P = Q
  · have f1 : ((P : Int) != (Q : Int)) = false := by simp; omega
    rw [HV.out, decide_eq_false (by simpa using he)] at Fin
    have HVf : Hid (parts cu cv c = false) := by show _ = _; rw [HV.out]; exact decide_eq_false (by simpa using he)
    clear he
    go_enter Try.func56, Try.ntmps56
    go_wp2_with fail
    rw [← HW1.out]
    go_region
    all_goals
      go_wp2_with fail
      go_ret
      exact ⟨by rw [HVf.out]; rfl, Fin.out.2⟩
  · have f1 : ((P : Int) != (Q : Int)) = true := by simp; omega
    rw [HV.out, decide_eq_true (by simpa using he)] at Fin
    have HVf : Hid (parts cu cv c = true) := by show _ = _; rw [HV.out]; exact decide_eq_true (by simpa using he)
    clear he
    go_enter Try.func56, Try.ntmps56
    go_wp2_with fail
    rw [← HW1.out]
    go_region
    all_goals
      go_wp2_with fail
      go_ret
      exact ⟨by rw [HVf.out]; rfl, Fin.out.2⟩

end Go.Proofs.Ytofjboelplknhaa
