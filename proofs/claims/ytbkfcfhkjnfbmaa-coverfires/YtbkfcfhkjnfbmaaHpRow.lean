/- A row of the numbers: slices.Clone of some, and the walker's row. -/
import Derived.Test.YtbkfcfhkjnfbmaaHpArr
import Derived.Lib.SliceRun
namespace Go.Proofs.Ytbkfcfhkjnfbmaa
open Go.RowKit
set_option linter.unusedVariables false
set_option linter.unusedSimpArgs false
attribute [local go_sem ↓] appY_fold

/-- A row of numbers is answered. -/
def RowN (zs : List Int) (w : World) (e : Ending) (w' : World) : Prop := ∃ a c, e = .returned (.slice a zs.length c) ∧ Ints w' a zs ∧ w.grownBy w' none

set_option maxHeartbeats 1600000 in
set_option maxRecDepth 100000 in
theorem cloneN_any (y : Addr) (c : Nat) (zs : List Int) (w : World) (hz : Ints w (some y) zs) (hm : zs.length ≤ 100) :
    Calls Try.prog 21 #[.slice (some y) zs.length c] w (RowN zs w) := by
  have hg := heap_alloc_new w (.cells #[] 3)
  have hown : (w.alloc (.cells #[] 3)).ownsRow w.heap.size 3 1 (.slice (some ⟨w.heap.size, 0, none⟩) ([] : List Int).length 0) ([] : List Int).length (numsI []) := ⟨by simp [numsI], .inr ⟨w.heap.size, 0, #[], rfl, Nat.le_refl _, hg, Nat.le_refl _, Nat.zero_le _, by simp, by simp [numsI]⟩⟩
  obtain ⟨a1, c1, w', hr, ho, hgr⟩ := app_anyY (a := some y) (c := c) (us := zs) hown (by rw [World.size_alloc]; omega) (hz.grown (grown_alloc w _)) (by simp; omega)
  rw [List.nil_append] at ho
  have GF : Hid (w.grownBy w' none) := grown_new (grown_alloc w (.cells #[] 3)) (g := w.heap.size) (by simpa [Value.ownBlock] using hgr) (Nat.le_refl _)
  have HI : Hid (Ints w' a1 zs) := ints_of_row ho
  have hr' : (AppY #[25, 25] 25 #[.slice (some ⟨w.heap.size, 0, none⟩) 0 0, .slice (some y) zs.length c]).run Try.prog (w.alloc (.cells #[] 3)) = .ok (.slice a1 zs.length c1) w' := by simpa using hr
  clear hr ho hgr hown hg hz
  have HL : Hid (zs.length ≤ 100) := hm
  clear hm
  have hnil := fun (W : World) => Lib.run_eql_slice_nil (P := Try.prog) W 25 3 (some y) zs.length c 0 0 Try.underlying25
  have Fin : Hid (RowN zs w (.returned (.slice a1 zs.length c1)) w') := ⟨a1, c1, rfl, HI.out, GF.out⟩
  generalize zs.length = n at *
  go_enter Try.func21, Try.ntmps21
  go_wp2_with fail
  go_ret
  exact Fin.out

/-- So many of the four. -/
def firstF (f : Nat → Int) (n : Nat) : List Int := (List.range n).map f
theorem firstF_len (f : Nat → Int) (n : Nat) : (firstF f n).length = n := by simp [firstF]
theorem firstF_get (f : Nat → Int) {n i : Nat} (h : i < n) : (firstF f n).getD i 0 = f i := by simp [firstF, List.getD, h]
theorem firstF_ints {b : Nat} {f : Nat → Int} {W : World} {n : Nat} (h : Arr4 b f W) (hn : n ≤ 4) : Ints W (some ⟨b, 0, none⟩) (firstF f n) := by
  refine .inr ⟨b, 0, rfl, fun i hi => ?_⟩
  rw [firstF_len] at hi
  rw [firstF_get f hi, Nat.zero_add]
  obtain ⟨h0, h1, h2, h3, _⟩ := h.cells
  have : i = 0 ∨ i = 1 ∨ i = 2 ∨ i = 3 := by omega
  rcases this with rfl | rfl | rfl | rfl <;> assumption

set_option maxHeartbeats 1600000 in
set_option maxRecDepth 100000 in
theorem rowW_any (f : Nat → Int) (P : Int) (a b : Option Addr) (nT c nG d bw n : Nat) (w : World) (hb : BoxH bw P a nT c b nG d w) (hP : P = n) (hn : n ≤ 4) :
    Calls Try.prog 17 #[.pointer (some ⟨bw, 0, none⟩), pilV f] w (RowN (firstF f n) w) := by
  obtain ⟨W1, hW1⟩ : ∃ W1, W1 = w.alloc (.cells #[.int .i64 (f 0), .int .i64 (f 1), .int .i64 (f 2), .int .i64 (f 3)] 48) := ⟨_, rfl⟩
  have A1 : Arr4 w.heap.size f W1 := by rw [hW1]; exact arr4_new w f
  have G1 : Hid (w.grownBy W1 none) := by rw [hW1]; exact grown_alloc _ _
  have HC : Hid (Calls Try.prog 21 #[.slice (some ⟨w.heap.size, 0, none⟩) n 4] W1 (RowN (firstF f n) W1)) := by
    have h1 := cloneN_any ⟨w.heap.size, 0, none⟩ 4 (firstF f n) W1 (firstF_ints A1 hn) (by rw [firstF_len]; omega)
    rw [firstF_len] at h1
    exact h1
  obtain ⟨x0, x1, x2⟩ := hb.kept G1.out
  rw [hW1] at x0 x1 x2
  rw [hP] at x0
  have hn4 : (n : Int) ≤ 4 := by omega
  obtain ⟨zs, hzs⟩ : ∃ zs, firstF f n = zs := ⟨_, rfl⟩
  rw [hzs] at HC ⊢
  clear A1 hb hP hzs
  go_enter Try.func17, Try.ntmps17
  go_wp2_with fail
  rw [← hW1]
  clear hW1 x0 x1 x2
  refine HC.out.mono ?_
  rintro E w2 ⟨a2, c2, rfl, hi, hg2⟩
  have Fin : Hid (RowN zs w (.returned (.slice a2 zs.length c2)) w2) := ⟨a2, c2, rfl, hi, grown_trans G1.out hg2⟩
  clear hi hg2
  generalize zs.length = nz at *
  go_wp2_with fail
  go_ret
  exact Fin.out

end Go.Proofs.Ytbkfcfhkjnfbmaa
