/- Sayings: none, empty, and a text in brackets where it is too loose, as the program has them. -/
import Derived.Test.YticmfgclkepgoaaGrow
import Derived.Test.YticmfgclkepgoaaTls
namespace Go.Proofs.Yticmfgclkepgoaa
open Go.RowKit
set_option linter.unusedVariables false

/-- A saying as a value. -/
abbrev syV (T : ByteArray) (k : Int) : Value := .agg #[.string T, .int .i64 k]
/-- A box of a saying. -/
def C2 (W : World) (b : Nat) (T : ByteArray) (k : Int) : Prop := W.heap[b]? = some (.cells #[.string T, .int .i64 k] 57 (0, 0))
section
variable {W W' : World} {b : Nat} {T : ByteArray} {k : Int}
theorem C2.lt (h : C2 W b T k) : b < W.heap.size := (Array.getElem?_eq_some_iff.1 h).1
theorem C2.get (h : C2 W b T k) : W.cell? ⟨b, 0, none⟩ = some (.string T) ∧ W.cell? ⟨b, 1, none⟩ = some (.int .i64 k) :=
  ⟨by rw [cell_of_row _ _ _ _ _ (0, 0) h]; rfl, by rw [cell_of_row _ _ _ _ _ (0, 0) h]; rfl⟩
theorem C2.fz (h : C2 W b T k) (i : Nat) : W.frozen? ⟨b, i, none⟩ = false := frozen_of_row _ _ i _ _ h
theorem C2.kept (h : C2 W b T k) (hg : W.grownBy W' none) : C2 W' b T k := (hg.block b h.lt (by simp)).trans h
end
theorem c2_new (w : World) (T : ByteArray) (k : Int) : ∃ W, W = w.alloc (.cells #[.string T, .int .i64 k] 57) ∧ w.grownBy W none ∧ W.heap.size = w.heap.size + 1 ∧ C2 W w.heap.size T k := ⟨_, rfl, grown_alloc _ _, by simp, heap_alloc_new w _⟩

set_option maxHeartbeats 1600000 in
theorem within_any (T : ByteArray) (k l : Nat) (w : World) (hT : T.size ≤ 100000) :
    Calls Try.prog 40 #[.agg #[.string T, .int .i64 (k : Int)], .int .i64 (l : Int)] w (Says (.string (if k ≤ l then T else ⟨#[40]⟩ ++ T ++ ⟨#[41]⟩)) w) := by
  obtain ⟨W1, hW1, g1, s1, C1⟩ := c2_new w T k
  obtain ⟨y0, y1⟩ := C1.get
  have HW1 : Hid (W1 = w.alloc (.cells #[.string T, .int .i64 (k : Int)] 57)) := hW1
  have G1 : Hid (w.grownBy W1 none) := g1
  rw [hW1] at y0 y1
  clear hW1 g1 s1 C1
  by_cases h : k ≤ l
  · rw [if_pos h]
    have i1 : decide ((k : Int) ≤ (l : Int)) = true := by simp; exact h
    go_enter Try.func40, Try.ntmps40
    go_wp2_with fail
    go_ret
    exact ⟨rfl, by rw [← HW1.out]; exact G1.out⟩
  · rw [if_neg h]
    have i1 : decide ((k : Int) ≤ (l : Int)) = false := by simp; omega
    go_enter Try.func40, Try.ntmps40
    go_wp2_with fail
    go_ret
    exact ⟨rfl, by rw [← HW1.out]; exact G1.out⟩

set_option maxHeartbeats 1600000 in
theorem noneP_any (w : World) : Calls Try.prog 38 #[] w (Says (.agg #[.string ⟨#[48]⟩, .int .i64 0]) w) := by
  obtain ⟨W1, hW1, g1, s1, C1⟩ := c2_new w ⟨#[48]⟩ 0
  obtain ⟨W0, hW0, g0, s0, C0⟩ := c2_new w ⟨#[]⟩ 0
  obtain ⟨y0, y1⟩ := C1.get
  have z0 := C0.fz 0
  have z1 := C0.fz 1
  have HW1 : Hid (W1 = w.alloc (.cells #[.string ⟨#[48]⟩, .int .i64 0] 57)) := hW1
  have G1 : Hid (w.grownBy W1 none) := g1
  rw [hW1] at y0 y1
  rw [hW0] at z0 z1
  clear hW1 g1 s1 C1 hW0 g0 s0 C0
  go_enter Try.func38, Try.ntmps38
  go_wp2_with fail
  exact bodyPost_ret (v := .agg #[.string ⟨#[48]⟩, .int .i64 0]) (by simp [results, Try.results38, go_sem, y0, y1]) rfl ⟨rfl, by rw [← HW1.out]; exact G1.out⟩

set_option maxHeartbeats 1600000 in
theorem emptyP_any (w : World) : Calls Try.prog 39 #[] w (Says (.agg #[.string ⟨#[49]⟩, .int .i64 0]) w) := by
  obtain ⟨W1, hW1, g1, s1, C1⟩ := c2_new w ⟨#[49]⟩ 0
  obtain ⟨W0, hW0, g0, s0, C0⟩ := c2_new w ⟨#[]⟩ 0
  obtain ⟨y0, y1⟩ := C1.get
  have z0 := C0.fz 0
  have z1 := C0.fz 1
  have HW1 : Hid (W1 = w.alloc (.cells #[.string ⟨#[49]⟩, .int .i64 0] 57)) := hW1
  have G1 : Hid (w.grownBy W1 none) := g1
  rw [hW1] at y0 y1
  rw [hW0] at z0 z1
  clear hW1 g1 s1 C1 hW0 g0 s0 C0
  go_enter Try.func39, Try.ntmps39
  go_wp2_with fail
  exact bodyPost_ret (v := .agg #[.string ⟨#[49]⟩, .int .i64 0]) (by simp [results, Try.results39, go_sem, y0, y1]) rfl ⟨rfl, by rw [← HW1.out]; exact G1.out⟩

end Go.Proofs.Yticmfgclkepgoaa
