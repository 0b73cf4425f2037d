/- slices.Clone of numbers. -/
import Derived.Test.YticmfgclkepgoaaHCp
namespace Go.Proofs.Yticmfgclkepgoaa
open Go.RowKit
set_option linter.unusedVariables false

def ClonePost (zs : List Int) (w : World) (E : Ending) (w' : World) : Prop :=
  ∃ g cap, E = .returned (.slice (some ⟨g, 0, none⟩) zs.length cap) ∧ Owns w.heap.size w' [(3, .slice (some ⟨g, 0, none⟩) zs.length cap, vals zs)] ∧ w.grownBy w' none

set_option maxHeartbeats 1600000 in
set_option maxRecDepth 100000 in
theorem clone_any (b off c : Nat) (zs : List Int) (w : World) (hz : ∀ i, i < zs.length → w.cell? ⟨b, off + i, none⟩ = some (.int .i64 (zs.getD i 0))) (h1 : 0 < zs.length) (hm : zs.length ≤ 17592186044416) :
    Calls Try.prog 52 #[.slice (some ⟨b, off, none⟩) zs.length c] w (ClonePost zs w) := by
  obtain ⟨i0, hio, hz0, hz1, hz2⟩ := info_parts Try.info3i
  have O0 : Hid (Owns w.heap.size (w.alloc (.cells #[] 3)) [(3, .slice (some ⟨w.heap.size, 0, none⟩) 0 0, [])]) := (Owns.no w.heap.size w).made (arr := #[]) (n := 0) (Nat.le_refl _) 3 rfl (by unfold maxLen; omega)
  have hO : Hid ((w.alloc (.cells #[] 3)).ownsRow w.heap.size 3 1 (.slice (some ⟨w.heap.size, 0, none⟩) 0 0) 0 []) := O0.out.row
  have HN : Hid (∀ j u, (vals zs)[j]? = some u → (w.alloc (.cells #[] 3)).cell? ((⟨b, off, none⟩ : Addr).add j) = some u) := fun j u hu => by
    have hj : j < zs.length := by have := (List.getElem?_eq_some_iff.1 hu).1; rwa [vals_len] at this
    rw [vals_get hj] at hu
    rw [add_off]
    exact (grown_alloc _ _).cell ((hz j hj).trans hu) (by simp)
  have hnil := fun (W : World) => Lib.run_eql_slice_nil (P := Try.prog) W 23 3 (some ⟨b, off, none⟩) zs.length c 0 0 Try.underlying23
  clear hz
  go_enter Try.func52, Try.ntmps52
  go_wp2_with (at_builtin; refine wpList_append_lies _ rfl _ _ 23 rfl w.heap.size 3 i0 (.int .i64 0) 1 8 Try.underlying23 hio hz0 hz1 hz2 rfl (by decide) (.slice (some ⟨w.heap.size, 0, none⟩) 0 0) 0 [] rfl hO.out ⟨b, off, none⟩ zs.length c (vals zs) rfl (by rw [vals_len]; omega) HN.out (by intro u hu; simp at hu; obtain ⟨x, _, rfl⟩ := hu; rfl) (by omega) (by unfold maxLen; omega) (by omega) (by simp) (w.heap.size + 1) (by simp) ?_; intro g cap w3 ho3 hg3 hat3 _)
  have O3 : Hid (Owns w.heap.size w3 [(3, .slice (some ⟨g, 0, none⟩) zs.length cap, vals zs)]) := by
    have h2 := O0.out.append (news := vals zs) (n := zs.length) (by simpa using ho3) (by simp) hg3 hat3 (by simp)
    show Owns _ _ _
    simpa using h2
  have G3 : Hid (w.grownBy w3 none) := O0.out.frame (Nat.le_refl _) (grown_alloc _ _) hg3
  clear ho3 hg3 hat3
  go_ret
  exact ⟨g, cap, by simp, O3.out, G3.out⟩

end Go.Proofs.Yticmfgclkepgoaa
