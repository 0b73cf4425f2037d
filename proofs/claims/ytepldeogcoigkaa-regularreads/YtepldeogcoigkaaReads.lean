/- What the program tells of a text's faults is what the reference tells. -/
import Derived.Test.YtepldeogcoigkaaRParse
namespace Go.Proofs.Ytepldeogcoigkaa
open Go.RowKit
set_option linter.unusedVariables false

def codeOf : Res → Int | .good _ _ => 0 | .bad c _ => c
def atOf : Res → Nat | .good _ _ => 0 | .bad _ j => j

theorem Parsed.flat {w w' : World} {R : Res} {e : Ending} (h : Parsed w R e w') : ∃ v, e = .returned (.tuple #[v, .agg #[.int .i64 (codeOf R), .int .i64 (atOf R)]]) ∧ Below w.heap.size w w' := by
  obtain ⟨hb, h⟩ := h
  cases R with
  | good m j => obtain ⟨v, he, _⟩ := h; exact ⟨v, he, hb⟩
  | bad c j => exact ⟨_, h, hb⟩

theorem RParsed.flat {w w' : World} {R : Res} {e : Ending} (h : RParsed w R e w') : ∃ v, e = .returned (.tuple #[v, .agg #[.int .i64 (codeOf R), .int .i64 (atOf R)]]) ∧ Below w.heap.size w w' := by
  obtain ⟨hb, h⟩ := h
  cases R with
  | good m j => obtain ⟨L, ps, b, k, he, _⟩ := h; exact ⟨L, he, hb⟩
  | bad c j => exact ⟨_, h, hb⟩

theorem check_any (s : ByteArray) (w : World) (hm : s.size ≤ maxLen) : Calls Try.prog 4 #[.string s] w fun e w' => e = .returned (.agg #[.int .i64 (codeOf (parseR s)), .int .i64 (atOf (parseR s))]) ∧ Below w.heap.size w w' := by
  have H : Hid (∀ W, Calls Try.prog 6 #[.string s] W fun e w' => ∃ v, e = .returned (.tuple #[v, .agg #[.int .i64 (codeOf (parseR s)), .int .i64 (atOf (parseR s))]]) ∧ Below W.heap.size W w') := fun W => (parse_any s W hm).mono fun e w' h => h.flat
  generalize codeOf (parseR s) = c at *
  generalize atOf (parseR s) = a at *
  go_enter Try.func4, Try.ntmps4
  go_wp2_with fail
  refine (H.out _).mono ?_
  rintro e w2 ⟨v, rfl, hb⟩
  have d0 : w2.cell? ⟨w.heap.size, 0, none⟩ = some (.int .i64 0) := by rw [hb.cell (by simp)]; simp
  have d1 : w2.cell? ⟨w.heap.size, 1, none⟩ = some (.int .i64 0) := by rw [hb.cell (by simp)]; simp
  have e0 : w2.frozen? ⟨w.heap.size, 0, none⟩ = false := by rw [hb.frozen (by simp)]; simp
  have e1 : w2.frozen? ⟨w.heap.size, 1, none⟩ = false := by rw [hb.frozen (by simp)]; simp
  have hlt : w.heap.size < w2.heap.size := by have := hb.size; simp at this; omega
  have B : Hid (Below w.heap.size w w2) := ((Below.refl _ _).alloc (Nat.le_refl _) _).trans (hb.mono (by simp))
  have F : Hid (w2.heap[w.heap.size]? = some (.cells #[.int .i64 0, .int .i64 0] 24 (0, 0))) := (hb.block _ (by simp)).trans (heap_alloc_new w _)
  clear hb
  go_wp2_with fail
  have q0 : (((w2.setCell ⟨w.heap.size, 0, none⟩ (.int .i64 c)).setCell ⟨w.heap.size, 1, none⟩ (.int .i64 (a : Nat))).alloc (.cells #[.int .i64 c, .int .i64 a] 24)).heap[w.heap.size]? = some (.cells #[.int .i64 c, .int .i64 (a : Nat)] 24 (0, 0)) := by
    rw [Below.heap_alloc _ _ _ (by simpa [World.setCell] using hlt), heap_setCell_same _ w.heap.size 1 _ 24 _ (heap_setCell_same _ w.heap.size 0 _ 24 _ F.out)]; rfl
  have kB : Below w.heap.size w (((w2.setCell ⟨w.heap.size, 0, none⟩ (.int .i64 c)).setCell ⟨w.heap.size, 1, none⟩ (.int .i64 (a : Nat))).alloc (.cells #[.int .i64 c, .int .i64 a] 24)) := ((B.out.setCell (Nat.le_refl _) _).setCell (Nat.le_refl _) _).alloc (by simp [World.setCell]; omega) _
  generalize (((w2.setCell ⟨w.heap.size, 0, none⟩ (.int .i64 c)).setCell ⟨w.heap.size, 1, none⟩ (.int .i64 (a : Nat))).alloc (.cells #[.int .i64 c, .int .i64 a] 24)) = W5 at q0 kB ⊢
  exact bodyPost_ret (v := .agg #[.int .i64 c, .int .i64 a]) (by simp [results, Try.results4, go_sem, (two_cells q0).1, (two_cells q0).2.1]) rfl ⟨rfl, kB⟩

set_option maxHeartbeats 800000 in
theorem reads_walk (s : ByteArray) (w : World) (hm : s.size ≤ maxLen) : Calls Try.prog 3 #[.string s] w fun e w' => e = .returned (.bool true) ∧ Below w.heap.size w w' := by
  have H1 : Hid (∀ W, Calls Try.prog 4 #[.string s] W fun e w' => e = .returned (.agg #[.int .i64 (codeOf (parseR s)), .int .i64 (atOf (parseR s))]) ∧ Below W.heap.size W w') := fun W => check_any s W hm
  have H2 : Hid (∀ W, Calls Try.prog 5 #[.string s] W fun e w' => ∃ v, e = .returned (.tuple #[v, .agg #[.int .i64 (codeOf (parseR s)), .int .i64 (atOf (parseR s))]]) ∧ Below W.heap.size W w') := fun W => (rparse_any s W hm).mono fun e w' h => h.flat
  generalize codeOf (parseR s) = c at *
  generalize atOf (parseR s) = a at *
  go_enter Try.func3, Try.ntmps3
  go_wp2_with fail
  refine (H1.out _).mono ?_
  rintro e w2 ⟨rfl, hb⟩
  have B2 : Hid (Below w.heap.size w (w2.alloc (.cells #[.int .i64 c, .int .i64 a] 24))) := hb.alloc hb.size _
  clear hb
  go_wp2_with fail
  refine (H2.out _).mono ?_
  rintro e w3 ⟨v, rfl, hb3⟩
  have d0 : w3.cell? ⟨w2.heap.size, 0, none⟩ = some (.int .i64 c) := by rw [hb3.cell (by simp)]; simp
  have d1 : w3.cell? ⟨w2.heap.size, 1, none⟩ = some (.int .i64 a) := by rw [hb3.cell (by simp)]; simp
  have hlt : w2.heap.size < w3.heap.size := by have := hb3.size; simp at this; omega
  have B3 : Hid (Below w.heap.size w (w3.alloc (.cells #[.int .i64 c, .int .i64 a] 24))) := by
    have h1 := B2.out.trans (hb3.mono B2.out.size)
    exact h1.alloc h1.size _
  clear hb3 B2
  go_wp2_with fail
  go_ret
  first | exact ⟨rfl, B3.out⟩ | (refine ⟨?_, B3.out⟩; trace_state; simp)

end Go.Proofs.Ytepldeogcoigkaa
