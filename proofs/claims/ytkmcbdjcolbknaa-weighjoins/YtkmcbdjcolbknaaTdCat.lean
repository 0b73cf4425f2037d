/- slices.Concat of two words, with the room that it leaves; two cells of a new block. -/
import Derived.Test.YtkmcbdjcolbknaaSkCat
namespace Go.Proofs.Ytkmcbdjcolbknaa
open Go.RowKit
set_option linter.unusedVariables false
set_option linter.unusedSimpArgs false

def CatX (X : List Int) (w : World) (e : Ending) (w' : World) : Prop := ∃ a k, e = .returned (.slice a X.length k) ∧ Ints w' a X ∧ w.grownBy w' none ∧ (∀ y, a = some y → w.heap.size ≤ y.block ∧ y.block < w'.heap.size) ∧ X.length ≤ k
theorem row_lt {w : World} {B n c : Nat} {a : Option Addr} {zs : List Value} {t : TypeId} (h : w.ownsRow B t 1 (.slice a n c) n zs) : (∀ y, a = some y → B ≤ y.block ∧ y.block < w.heap.size) ∧ n ≤ c := by
  rcases h.2 with ⟨h1, h3⟩ | ⟨g, cap, cur, h1, h4, h5, h6, _⟩
  · simp only [Value.slice.injEq] at h1
    obtain ⟨rfl, rfl, rfl⟩ := h1
    exact ⟨(fun y hy => by cases hy), Nat.le_refl _⟩
  · have hlt := h.lt
    simp only [Value.slice.injEq] at h1
    obtain ⟨rfl, _, rfl⟩ := h1
    exact ⟨(fun y hy => by cases hy; exact hlt g rfl), h6⟩

attribute [local go_sem ↓] appY_fold in
set_option maxHeartbeats 3200000 in
theorem catX_any (us vs : List Int) (ah al : Option Addr) (ch cl g2 : Nat) (w : World) (hu : Ints w ah us) (hv : Ints w al vs) (hlu : us.length ≤ 300) (hlv : vs.length ≤ 300) (c0 : w.cell? ⟨g2, 0, none⟩ = some (.slice ah us.length ch)) (c1 : w.cell? ⟨g2, 1, none⟩ = some (.slice al vs.length cl)) :
    Calls Try.prog 21 #[.slice (some ⟨g2, 0, none⟩) 2 2] w (CatX (us ++ vs) w) := by
  have q1 : ¬ ((us.length : Int) < 0) := by omega
  have q2 : ¬ ((us.length : Int) + (vs.length : Int) < 0) := by omega
  have HG : Hid (Calls Try.prog 35 #[.slice none 0 0, .int .i64 ((us.length : Int) + (vs.length : Int))] w (GrowZ w)) := by
    have := growZ_any (us.length + vs.length) (by omega) w
    rwa [Int.natCast_add] at this
  have HC : Hid (∀ W, w.grownBy W none → W.cell? ⟨g2, 0, none⟩ = some (.slice ah us.length ch) ∧ W.cell? ⟨g2, 1, none⟩ = some (.slice al vs.length cl)) := fun W h => ⟨h.cell c0 (by simp), h.cell c1 (by simp)⟩
  have HU : Hid (Ints w ah us) := hu
  have HV : Hid (Ints w al vs) := hv
  obtain ⟨Po, hPo⟩ : ∃ P, P = CatX (us ++ vs) w := ⟨_, rfl⟩
  have HP : Hid (∀ a k W, Ints W a (us ++ vs) → w.grownBy W none → (∀ y, a = some y → w.heap.size ≤ y.block ∧ y.block < W.heap.size) → (us ++ vs).length ≤ k → Po (.returned (.slice a (us.length + vs.length) k)) W) := fun a k W h1 h2 h3 h4 => by rw [hPo]; exact ⟨a, k, by rw [List.length_append], h1, h2, h3, h4⟩
  rw [← hPo]
  clear hu hv hPo
  go_enter Try.func21, Try.ntmps21
  go_wp2_with fail
  refine wp_loop_rounds 3 ?_
  rw [rounds_succ]
  go_wp2_with fail
  rw [rounds_succ]
  go_wp2_with fail
  rw [rounds_succ]
  go_wp2_with fail
  refine HG.out.mono ?_
  rintro e w1 ⟨a0, cap, rfl, ho, hg⟩
  have ho' : w1.ownsRow w.heap.size 3 1 (.slice a0 ([] : List Int).length cap) ([] : List Int).length (numsI []) := by simpa [numsI] using ho
  obtain ⟨aA, cA, wA, hrA, hoA, hgA⟩ := app_anyY (xs := []) (c := ch) ho' hg.size (HU.out.grown hg) (by simp; omega)
  simp only [List.length_nil, List.nil_append, Nat.zero_add] at hrA hoA
  have hgA2 : w.grownBy wA none := by
    refine grown_of_below ((below_of_grown hg).grown hgA hg.size (fun k hk => ?_))
    exact (ho'.lt k hk).1
  obtain ⟨aB, cB, wB, hrB, hoB, hgB⟩ := app_anyY (c := cl) hoA hgA2.size (HV.out.grown hgA2) (by omega)
  have hgB2 : w.grownBy wB none := by
    refine grown_of_below ((below_of_grown hgA2).grown hgB hgA2.size (fun k hk => ?_))
    exact (hoA.lt k hk).1
  have d0 := (HC.out w1 hg).1
  have d1 := (HC.out wA hgA2).2
  have d2 := (HC.out w1 hg).2
  have d3 := (HC.out wA hgA2).1
  have Fin : Hid (Po (.returned (.slice aB (us.length + vs.length) cB)) wB) := HP.out aB cB wB (ints_of_row hoB) hgB2 (row_lt hoB).1 (row_lt hoB).2
  clear ho ho' hg hoA hgA hgA2 hoB hgB hgB2 HP
  go_wp2_with fail
  refine wp_loop_rounds 3 ?_
  rw [rounds_succ]
  go_wp2_with fail
  rw [rounds_succ]
  go_wp2_with fail
  rw [rounds_succ]
  go_wp2_with fail
  first | exact Fin.out | (go_ret; exact Fin.out)

/-- Two cells. -/
def C2 (W : World) (b : Nat) (v0 v1 : Value) : Prop := W.cell? ⟨b, 0, none⟩ = some v0 ∧ W.cell? ⟨b, 1, none⟩ = some v1
theorem C2.kept {W W' : World} {b : Nat} {v0 v1 : Value} (h : C2 W b v0 v1) (g : W.grownBy W' none) : C2 W' b v0 v1 := ⟨g.cell h.1 (by simp), g.cell h.2 (by simp)⟩
theorem c2_new (w : World) (v0 v1 : Value) (t : TypeId) : C2 (w.alloc (.cells #[v0, v1] t)) w.heap.size v0 v1 := by
  have hb := heap_alloc_new w (.cells #[v0, v1] t)
  exact ⟨by rw [cell_of_row _ _ 0 _ _ (0, 0) hb]; rfl, by rw [cell_of_row _ _ 1 _ _ (0, 0) hb]; rfl⟩
theorem c2_a (w : World) (v0 v1 : Value) (t : TypeId) : C2 ((w.alloc (.cells #[v0, v1] t)).drew) w.heap.size v0 v1 := (c2_new w v0 v1 t).kept (grown_drew (grown_refl _ _))
theorem c2_b (w : World) (v0 v1 : Value) (t : TypeId) (o : Obj) : C2 (((w.alloc (.cells #[v0, v1] t)).alloc o).drew) w.heap.size v0 v1 := (c2_new w v0 v1 t).kept (grown_drew (grown_alloc _ _))
theorem c2_c (w : World) (v0 v1 : Value) (t : TypeId) (o : Obj) : C2 (((w.alloc o).alloc (.cells #[v0, v1] t)).drew) (w.heap.size + 1) v0 v1 := by
  have := (c2_new (w.alloc o) v0 v1 t).kept (grown_drew (grown_refl _ _))
  rwa [World.size_alloc] at this
theorem gr_1 (w : World) (o : Obj) : w.grownBy ((w.alloc o).drew) none := grown_drew (grown_alloc _ _)
theorem gr_2 (w : World) (o o' : Obj) : w.grownBy (((w.alloc o).alloc o').drew) none := grown_drew (grown_trans (grown_alloc _ _) (grown_alloc _ _))

end Go.Proofs.Ytkmcbdjcolbknaa
