/- slices.Concat of two words, be they empty or not; a word behind a row of one's own, be it nothing. -/
import Derived.Test.YtkmcbdjcolbknaaYConcat
import Derived.Test.YtkmcbdjcolbknaaSkRow
namespace Go.Proofs.Ytkmcbdjcolbknaa
open Go.RowKit
set_option linter.unusedVariables false
set_option linter.unusedSimpArgs false

def GrowZ (w : World) (e : Ending) (w' : World) : Prop := ∃ a0 c0, e = .returned (.slice a0 0 c0) ∧ w'.ownsRow w.heap.size 3 1 (.slice a0 0 c0) 0 [] ∧ w.grownBy w' none
theorem growZ_any (n : Nat) (hn : n ≤ 1000) (w : World) : Calls Try.prog 35 #[.slice none 0 0, .int .i64 (n : Int)] w (GrowZ w) := by
  by_cases h0 : 0 < n
  · exact (grow_any n h0 hn w).mono fun e w' ⟨g, cap, h1, h2, h3⟩ => ⟨some ⟨g, 0, none⟩, cap, h1, h2, h3⟩
  · have e0 : n = 0 := by omega
    subst e0
    go_enter Try.func35, Try.ntmps35
    go_wp2_with fail
    go_ret
    exact ⟨none, 0, rfl, World.ownsRow_nil w _ _ _, grown_refl _ _⟩

def CatPost (us vs : List Int) (w : World) (e : Ending) (w' : World) : Prop := ∃ a k, e = .returned (.slice a (us ++ vs).length k) ∧ Ints w' a (us ++ vs) ∧ w.grownBy w' none ∧ ∀ y, a = some y → w.heap.size ≤ y.block

attribute [local go_sem ↓] appY_fold in
set_option maxHeartbeats 3200000 in
theorem cat_any (us vs : List Int) (ah al : Option Addr) (ch cl g2 : Nat) (w : World) (hu : Ints w ah us) (hv : Ints w al vs) (hlu : us.length ≤ 60) (hlv : vs.length ≤ 60) (c0 : w.cell? ⟨g2, 0, none⟩ = some (.slice ah us.length ch)) (c1 : w.cell? ⟨g2, 1, none⟩ = some (.slice al vs.length cl)) :
    Calls Try.prog 21 #[.slice (some ⟨g2, 0, none⟩) 2 2] w (CatPost us vs w) := by
  have q1 : ¬ ((us.length : Int) < 0) := by omega
  have q2 : ¬ ((us.length : Int) + (vs.length : Int) < 0) := by omega
  have HG : Hid (Calls Try.prog 35 #[.slice none 0 0, .int .i64 ((us.length : Int) + (vs.length : Int))] w (GrowZ w)) := by
    have := growZ_any (us.length + vs.length) (by omega) w
    rwa [Int.natCast_add] at this
  have HC : Hid (∀ W, w.grownBy W none → W.cell? ⟨g2, 0, none⟩ = some (.slice ah us.length ch) ∧ W.cell? ⟨g2, 1, none⟩ = some (.slice al vs.length cl)) := fun W h => ⟨h.cell c0 (by simp), h.cell c1 (by simp)⟩
  have HU : Hid (Ints w ah us) := hu
  have HV : Hid (Ints w al vs) := hv
  obtain ⟨Po, hPo⟩ : ∃ P, P = CatPost us vs w := ⟨_, rfl⟩
  have HP : Hid (∀ a k W, Ints W a (us ++ vs) → w.grownBy W none → (∀ y, a = some y → w.heap.size ≤ y.block) → Po (.returned (.slice a (us.length + vs.length) k)) W) := fun a k W h1 h2 h3 => by rw [hPo]; exact ⟨a, k, by rw [List.length_append], h1, h2, h3⟩
  rw [← hPo]
  clear hu hv hPo
  go_enter Try.func21, Try.ntmps21
  go_wp2_with fail
  refine wp_loop_rounds 3 ?_
  rw [rounds_succ]
  go_wp2_with fail
  rw [rounds_succ]
  go_wp2_with fail
  rw [rounds_succ]
  go_wp2_with fail
  refine HG.out.mono ?_
  rintro e w1 ⟨a0, cap, rfl, ho, hg⟩
  have ho' : w1.ownsRow w.heap.size 3 1 (.slice a0 ([] : List Int).length cap) ([] : List Int).length (numsI []) := by simpa [numsI] using ho
  obtain ⟨aA, cA, wA, hrA, hoA, hgA⟩ := app_anyY (xs := []) (c := ch) ho' hg.size (HU.out.grown hg) (by simp; omega)
  simp only [List.length_nil, List.nil_append, Nat.zero_add] at hrA hoA
  have hgA2 : w.grownBy wA none := by
    refine grown_of_below ((below_of_grown hg).grown hgA hg.size (fun k hk => ?_))
    exact (ho'.lt k hk).1
  obtain ⟨aB, cB, wB, hrB, hoB, hgB⟩ := app_anyY (c := cl) hoA hgA2.size (HV.out.grown hgA2) (by omega)
  have hgB2 : w.grownBy wB none := by
    refine grown_of_below ((below_of_grown hgA2).grown hgB hgA2.size (fun k hk => ?_))
    exact (hoA.lt k hk).1
  have d0 := (HC.out w1 hg).1
  have d1 := (HC.out wA hgA2).2
  have d2 := (HC.out w1 hg).2
  have d3 := (HC.out wA hgA2).1
  have Fin : Hid (Po (.returned (.slice aB (us.length + vs.length) cB)) wB) := HP.out aB cB wB (ints_of_row hoB) hgB2 (new_of_row hoB)
  clear ho ho' hg hoA hgA hgA2 hoB hgB hgB2 HP
  go_wp2_with fail
  refine wp_loop_rounds 3 ?_
  rw [rounds_succ]
  go_wp2_with fail
  rw [rounds_succ]
  go_wp2_with fail
  rw [rounds_succ]
  go_wp2_with fail
  first | exact Fin.out | (go_ret; exact Fin.out)

end Go.Proofs.Ytkmcbdjcolbknaa
